/- ScaleLoads of the model and of the program. -/
import Derived.Test.YthkabimaebglhaaLoadM
import Derived.Test.YthkabimaebglhaaLoadB
import Derived.Deep.AppendLies
namespace Go.Proofs.Ythkabimaebglhaa
set_option maxRecDepth 100000
open Go.ChangeShapes Go.WideShapes Go.ChangeAt Go.RowKit

/-- What ScaleLoads handed back: the scaled loads, or none. -/
def ScAns (n : Int) (ls : List Ld) (w : World) (e : Ending) (w' : World) : Prop :=
  ∃ v, e = .returned (.tuple #[v, .bool (sclV n ls)]) ∧ LRow w' w.heap.size v (sclRow n ls) ∧ Below w.heap.size w w'

theorem sclV_n {n : Int} (ls : List Ld) (h : ¬ (0 ≤ n ∧ n ≤ 1000)) : sclV n ls = false := by unfold sclV; rw [decide_eq_false h]; rfl
theorem sclV_m {n : Int} {ls : List Ld} (h : 6 < ls.length) : sclV n ls = false := by unfold sclV; rw [decide_eq_false (show ¬ ls.length ≤ 6 by omega)]; simp
theorem sclV_all {n : Int} {ls : List Ld} (h : allV ls.length (sclAt n ls) = false) : sclV n ls = false := by unfold sclV; rw [h]; simp
theorem sclV_yes {n : Int} {ls : List Ld} (hn : 0 ≤ n ∧ n ≤ 1000) (hm : ls.length ≤ 6) (h : allV ls.length (sclAt n ls) = true) : sclV n ls = true := by unfold sclV; rw [h, decide_eq_true hn, decide_eq_true hm]; rfl
theorem sclRow_no {n : Int} {ls : List Ld} (h : sclV n ls = false) : sclRow n ls = [] := by unfold sclRow; rw [h]; rfl
theorem sclRow_yes {n : Int} {ls : List Ld} (h : sclV n ls = true) : sclRow n ls = ls.map (scl n) := by unfold sclRow; rw [h]; rfl
theorem map_take_next (n : Int) (ls : List Ld) (k : Nat) (h : k < ls.length) : (ls.take (k + 1)).map (scl n) = (ls.take k).map (scl n) ++ [scl n (ld ls k)] := by
  rw [List.take_succ_eq_append_getElem h, List.map_append, ld_get h]; rfl
theorem ld_map (n : Int) (ls : List Ld) (k : Nat) (h : k < ls.length) : ld (ls.map (scl n)) k = scl n (ld ls k) := by
  rw [ld_get (by simpa using h), ld_get h, List.getElem_map]
theorem lds_empty (w : World) (B : Nat) (hB : B ≤ w.heap.size) : LRow (w.alloc (.cells #[] 37)) B (.slice (some ⟨w.heap.size, 0, none⟩) 0 0) [] :=
  World.ownsRow_lit (base := B) (e := 37) (size := 3) w #[] 0 hB (Nat.zero_le _) rfl
theorem alloc_belowL {w0 w : World} (h : Below w0.heap.size w0 w) (o : Obj) : Below w0.heap.size w0 (w.alloc o) := h.alloc h.size o

set_option maxHeartbeats 4000000 in
theorem specScaleLoads (w : World) (B2 : Nat) (la : Option Addr) (m lc : Nat) (ls : List Ld) (n : Int) (hl : Lds w B2 la m lc ls) (hm : m ≤ 1048576) :
    Calls Try.prog 29 #[.slice la m lc, .int .i64 n] w (ScAns n ls w) := by
  obtain ⟨i0, hi0, hz0, hz1, hz2⟩ := info_parts Try.infoLn
  obtain ⟨hmc, hcm⟩ := hl.cap
  unfold maxLen at hcm
  have HL := Lib.hid hl
  have HLEN := Lib.hid hl.2
  have HZ := Lib.hid (allFrom_zero m (sclAt n ls))
  have hrow0 := lds_empty w w.heap.size (Nat.le_refl _)
  have R0 := Lib.hid hrow0
  have HB0 := Lib.hid ((Below.refl w.heap.size w).alloc (Nat.le_refl _) (.cells #[] 37))
  clear hl hrow0
  go_enter Try.func29, Try.ntmps29
  go_wp2_with fail
  go_loopw [6, 7] (fun v t wr => ∃ k : Nat, k ≤ m ∧ t = .int .i64 k ∧ LRow wr w.heap.size v ((ls.take k).map (scl n)) ∧ allFrom m k (sclAt n ls) = allFrom m 0 (sclAt n ls) ∧ Below w.heap.size w wr)
    (fun _ t _ => m - (intOf t).toNat)
  case atStart => exact ⟨0, Nat.zero_le _, rfl, by simpa using R0.out, rfl, HB0.out⟩
  case round =>
    clear R0 HB0
    obtain ⟨k, hk, rfl, hrow, hall, hbw⟩ := hrel
    have hlen : ((ls.take k).map (scl n)).length = k := by have := HLEN.out; simp; omega
    obtain ⟨va, vc, hv, hvc, hvm⟩ := lrow_slice hrow
    rw [hlen] at hv hvc
    subst hv
    unfold maxLen at hvm
    have HR := Lib.hid hrow
    have HB := Lib.hid hbw
    have HA := Lib.hid hall
    have HK := Lib.hid hlen
    have hwz := hbw.size
    clear hrow hall hlen
    by_cases hlt : k < m
    · obtain ⟨g, rfl, -, a0, a1, a2⟩ := (HL.out.below hbw).at k hlt
      have HP := Lib.hid (show sclAt n ls k = (decide (0 ≤ n ∧ n ≤ 1000) && (ldW (ld ls k).2.1 && decide ((ld ls k).2.1 * n ≤ 10000))) from rfl)
      have HS := Lib.hid (show scl n (ld ls k) = ((ld ls k).1, (ld ls k).2.1 * n, (ld ls k).2.2) from rfl)
      have HNX := Lib.hid (map_take_next n ls k (by have := HLEN.out; omega))
      have HF := Lib.hid (show sclAt n ls k = false → sclV n ls = false from fun h => sclV_all (by rw [HLEN.out, ← HZ.out, ← HA.out]; exact allFrom_no hlt h))
      rw [HS.out] at HNX
      generalize (ld ls k).1 = x at *
      generalize (ld ls k).2.1 = y at *
      generalize (ld ls k).2.2 = z at *
      clear hbw HS
      cases hd : decide (0 ≤ n ∧ n ≤ 1000)
      · have HV := Lib.hid (HF.out (by rw [HP.out, hd]; rfl))
        have HD := Lib.hid hd
        clear hd
        go_wp2_with fail
        refine (l01InG n 0 1000 _).mono ?_
        rintro e w1 ⟨rfl, rfl⟩
        rw [HD.out]
        go_wp2_with fail
        refine bodyPost_ret (v := .tuple #[.slice (some ⟨wr.heap.size + 1, 0, none⟩) 0 0, .bool false]) (by simp [results, Try.results29, go_sem]) rfl ⟨.slice (some ⟨wr.heap.size + 1, 0, none⟩) 0 0, by rw [HV.out], ?_, ?_⟩
        · rw [sclRow_no HV.out]
          have := lds_empty (wr.alloc (.cells #[.int .i64 x, .int .i64 y, .int .i64 z] 37)) w.heap.size (by simp <;> omega)
          simpa only [World.size_alloc] using this
        · repeat (first | exact HB.out | refine alloc_belowL ?_ _ | refine Below.setCell ?_ (by first | exact hwz | (simp <;> omega)) _)
      have hnr := of_decide_eq_true hd
      have HD := Lib.hid hd
      clear hd
      cases hy : ldW y
      · have HV := Lib.hid (HF.out (by rw [HP.out, hy]; simp))
        have HY := Lib.hid hy
        clear hy
        go_wp2_with fail
        refine (l01InG n 0 1000 _).mono ?_
        rintro e w1 ⟨rfl, rfl⟩
        rw [HD.out]
        go_wp2_with fail
        refine (l01InW _ _).mono ?_
        rintro e w1 ⟨rfl, rfl⟩
        rw [HY.out]
        go_wp2_with fail
        refine bodyPost_ret (v := .tuple #[.slice (some ⟨wr.heap.size + 1, 0, none⟩) 0 0, .bool false]) (by simp [results, Try.results29, go_sem]) rfl ⟨.slice (some ⟨wr.heap.size + 1, 0, none⟩) 0 0, by rw [HV.out], ?_, ?_⟩
        · rw [sclRow_no HV.out]
          have := lds_empty (wr.alloc (.cells #[.int .i64 x, .int .i64 y, .int .i64 z] 37)) w.heap.size (by simp <;> omega)
          simpa only [World.size_alloc] using this
        · repeat (first | exact HB.out | refine alloc_belowL ?_ _ | refine Below.setCell ?_ (by first | exact hwz | (simp <;> omega)) _)
      have hyr := ldW_iff.1 hy
      have hmul := mul_bd (x := y) (y := n) 10000 1000 ⟨by omega, by omega⟩ ⟨by omega, by omega⟩
      obtain ⟨P, hP⟩ : ∃ P, P = y * n := ⟨_, rfl⟩
      have hwr : IntKind.i64.wrap (y * n) = P := by rw [hP]; exact IntWalk.i64_in _ (by omega)
      rw [← hP] at HP HNX
      have HY := Lib.hid hy
      clear hP hmul hy
      by_cases hq : 10000 < P
      · have HV := Lib.hid (HF.out (by rw [HP.out, decide_eq_false (show ¬ P ≤ 10000 by omega)]; simp))
        have hq' : decide (10000 < P) = true := decide_eq_true hq
        go_wp2_with fail
        refine (l01InG n 0 1000 _).mono ?_
        rintro e w1 ⟨rfl, rfl⟩
        rw [HD.out]
        go_wp2_with fail
        refine (l01InW _ _).mono ?_
        rintro e w1 ⟨rfl, rfl⟩
        rw [HY.out]
        go_wp2_with fail
        refine bodyPost_ret (v := .tuple #[.slice (some ⟨wr.heap.size + 1, 0, none⟩) 0 0, .bool false]) (by simp [results, Try.results29, go_sem]) rfl ⟨.slice (some ⟨wr.heap.size + 1, 0, none⟩) 0 0, by rw [HV.out], ?_, ?_⟩
        · rw [sclRow_no HV.out]
          have := lds_empty (wr.alloc (.cells #[.int .i64 x, .int .i64 y, .int .i64 z] 37)) w.heap.size (by simp <;> omega)
          simpa only [World.size_alloc] using this
        · repeat (first | exact HB.out | refine alloc_belowL ?_ _ | refine Below.setCell ?_ (by first | exact hwz | (simp <;> omega)) _)
      · have HT := Lib.hid (show sclAt n ls k = true by rw [HP.out, HD.out, HY.out, decide_eq_true (show P ≤ 10000 by omega)]; rfl)
        have hq' : decide (10000 < P) = false := decide_eq_false hq
        have hrow1 : (wr.alloc (.cells #[.int .i64 x, .int .i64 P, .int .i64 z] 37)).ownsRow w.heap.size 37 3 (.slice va k vc) k (flatL ((ls.take k).map (scl n))) := by
          have h := HR.out
          unfold LRow at h
          rw [HK.out] at h
          exact World.ownsRow.alloc h _
        have hb1 : Below w.heap.size w (wr.alloc (.cells #[.int .i64 x, .int .i64 P, .int .i64 z] 37)) := alloc_belowL HB.out _
        have b0 : (wr.alloc (.cells #[.int .i64 x, .int .i64 P, .int .i64 z] 37)).cell? ⟨wr.heap.size, 0, none⟩ = some (.int .i64 x) := by go_simp
        have b1 : (wr.alloc (.cells #[.int .i64 x, .int .i64 P, .int .i64 z] 37)).cell? ⟨wr.heap.size, 1, none⟩ = some (.int .i64 P) := by go_simp
        have b2 : (wr.alloc (.cells #[.int .i64 x, .int .i64 P, .int .i64 z] 37)).cell? ⟨wr.heap.size, 2, none⟩ = some (.int .i64 z) := by go_simp
        have HR1 := Lib.hid hrow1
        have HB1 := Lib.hid hb1
        have B0 := Lib.hid b0
        have B1 := Lib.hid b1
        have B2 := Lib.hid b2
        clear hrow1 hb1 b0 b1 b2
        go_wp2_with fail
        refine (l01InG n 0 1000 _).mono ?_
        rintro e w1 ⟨rfl, rfl⟩
        rw [HD.out]
        go_wp2_with fail
        refine (l01InW _ _).mono ?_
        rintro e w1 ⟨rfl, rfl⟩
        rw [HY.out]
        go_upto_region 9 with (fail)
        generalize hW : wr.alloc (.cells #[.int .i64 x, .int .i64 P, .int .i64 z] 37) = W at *
        have b0 := B0.out
        have b1 := B1.out
        have b2 := B2.out
        have hwz1 := HB1.out.size
        clear hW a0 a1 a2
        go_wp2_with (at_builtin; refine wpList_append_lies _ rfl _ _ _ rfl w.heap.size 37 i0 _ 3 24 Try.underlying27 hi0 hz0 hz1 hz2 rfl (by omega) (.slice va k vc) k (flatL ((ls.take k).map (scl n))) (by rfl) (World.ownsRow.alloc HR1.out _) ⟨W.heap.size, 0, none⟩ 1 1 [.int .i64 x, .int .i64 P, .int .i64 z] (by rfl) (by rfl) (World.news_of_block (cs := #[.int .i64 x, .int .i64 P, .int .i64 z]) (t := 37) (fr := (0, 0)) (heap_alloc_new W _)) (by simp [Value.oneCell']) (by omega) (by unfold maxLen; omega) (by omega) (by simp; omega) (W.heap.size + 1) (by simp) ?_; intro gg cp w2 hown2 hgrow2 hat2 hgl2; have HO2 := Lib.hid hown2; have HG2 := Lib.hid hgrow2; clear hown2 hgrow2)
        have hrow2 : LRow w2 w.heap.size (.slice (some ⟨gg, 0, none⟩) (k + 1) cp) ((ls.take (k + 1)).map (scl n)) := by
          unfold LRow
          rw [HNX.out, List.length_append, flatL_append, HK.out]
          exact HO2.out
        have hb2 : Below w.heap.size w w2 := (alloc_belowL HB1.out _).grown HG2.out (by simp; omega) (fun i hi => (World.ownsRow.lt HR1.out i hi).1)
        have HR2 := Lib.hid hrow2
        have HB2 := Lib.hid hb2
        clear hrow2 hb2 HO2 HG2 hat2 hgl2 b0 b1 b2
        go_roundw
        case rel => exact ⟨k + 1, by omega, by go_num, HR2.out, by rw [← HA.out]; exact allFrom_yes hlt HT.out, HB2.out⟩
        case measure => simp [intOf]; omega
    · obtain rfl : k = m := by omega
      have HALL := Lib.hid (show allV ls.length (sclAt n ls) = true by rw [HLEN.out, ← HZ.out, ← HA.out, allFrom_end])
      clear hbw
      cases hd : decide (0 ≤ n ∧ n ≤ 1000)
      · have HV := Lib.hid (sclV_n ls (of_decide_eq_false hd))
        have HD := Lib.hid hd
        clear hd
        go_wp2_with fail
        refine (l01InG n 0 1000 _).mono ?_
        rintro e w1 ⟨rfl, rfl⟩
        rw [HD.out]
        go_wp2_with fail
        refine bodyPost_ret (v := .tuple #[.slice (some ⟨wr.heap.size, 0, none⟩) 0 0, .bool false]) (by simp [results, Try.results29, go_sem]) rfl ⟨.slice (some ⟨wr.heap.size, 0, none⟩) 0 0, by rw [HV.out], ?_, ?_⟩
        · rw [sclRow_no HV.out]
          exact lds_empty _ _ hwz
        · exact alloc_belowL HB.out _
      have hnr := of_decide_eq_true hd
      have HD := Lib.hid hd
      clear hd
      by_cases h6 : 6 < k
      · have HV := Lib.hid (sclV_m (n := n) (show 6 < ls.length by have := HLEN.out; omega))
        go_wp2_with fail
        refine (l01InG n 0 1000 _).mono ?_
        rintro e w1 ⟨rfl, rfl⟩
        rw [HD.out]
        go_wp2_with fail
        refine bodyPost_ret (v := .tuple #[.slice (some ⟨wr.heap.size, 0, none⟩) 0 0, .bool false]) (by simp [results, Try.results29, go_sem]) rfl ⟨.slice (some ⟨wr.heap.size, 0, none⟩) 0 0, by rw [HV.out], ?_, ?_⟩
        · rw [sclRow_no HV.out]
          exact lds_empty _ _ hwz
        · exact alloc_belowL HB.out _
      · have HV := Lib.hid (sclV_yes (n := n) hnr (show ls.length ≤ 6 by have := HLEN.out; omega) HALL.out)
        go_wp2_with fail
        refine (l01InG n 0 1000 _).mono ?_
        rintro e w1 ⟨rfl, rfl⟩
        rw [HD.out]
        go_wp2_with fail
        refine bodyPost_ret (v := .tuple #[.slice va k vc, .bool true]) (by simp [results, Try.results29, go_sem]) rfl ⟨.slice va k vc, by rw [HV.out], ?_, HB.out⟩
        have := HR.out
        rw [List.take_of_length_le (by have := HLEN.out; omega)] at this
        rw [sclRow_yes HV.out]
        exact this

theorem set_again (F : List Value) (a : Nat) (x y z P : Value) : ((((F.set a x).set (a + 1) y).set (a + 2) z).set (a + 1) P) = ((F.set a x).set (a + 1) P).set (a + 2) z := by
  rw [List.set_comm _ _ (show a + 2 ≠ a + 1 by omega), List.set_set]

set_option maxHeartbeats 4000000 in
theorem implScaleLoads (w : World) (B2 : Nat) (la : Option Addr) (m lc : Nat) (ls : List Ld) (n : Int) (hl : Lds w B2 la m lc ls) :
    Calls Try.prog 16 #[.slice la m lc, .int .i64 n] w (ScAns n ls w) := by
  obtain ⟨i0, hi, hz0, hz1, hz2⟩ := info_parts Try.infoLn
  obtain ⟨hmc, hcm⟩ := hl.cap
  unfold maxLen at hcm
  have HL := Lib.hid hl
  have HLEN := Lib.hid hl.2
  have HZ := Lib.hid (allFrom_zero m (sclAt n ls))
  clear hl
  by_cases hn0 : n < 0
  · have HV := Lib.hid (sclV_n (n := n) ls (by omega))
    go_enter Try.func16, Try.ntmps16
    go_wp2_with fail
    refine bodyPost_ret (v := .tuple #[.slice none 0 0, .bool false]) (by simp [results, Try.results16, go_sem]) rfl ⟨.slice none 0 0, by rw [HV.out], by rw [sclRow_no HV.out]; exact LRow.nil _ _, Below.refl _ _⟩
  by_cases hn1 : 1000 < n
  · have HV := Lib.hid (sclV_n (n := n) ls (by omega))
    go_enter Try.func16, Try.ntmps16
    go_wp2_with fail
    refine bodyPost_ret (v := .tuple #[.slice none 0 0, .bool false]) (by simp [results, Try.results16, go_sem]) rfl ⟨.slice none 0 0, by rw [HV.out], by rw [sclRow_no HV.out]; exact LRow.nil _ _, Below.refl _ _⟩
  by_cases h6 : 6 < m
  · have HV := Lib.hid (sclV_m (n := n) (show 6 < ls.length by have := HLEN.out; omega))
    go_enter Try.func16, Try.ntmps16
    go_wp2_with fail
    refine bodyPost_ret (v := .tuple #[.slice none 0 0, .bool false]) (by simp [results, Try.results16, go_sem]) rfl ⟨.slice none 0 0, by rw [HV.out], by rw [sclRow_no HV.out]; exact LRow.nil _ _, Below.refl _ _⟩
  have hnr : 0 ≤ n ∧ n ≤ 1000 := ⟨by omega, by omega⟩
  have HD := Lib.hid (decide_eq_true hnr)
  go_enter Try.func16, Try.ntmps16
  go_wp2_with (at_make; refine wpList_make_full _ rfl _ _ 27 rfl w.heap.size 37 i0 (.agg #[.int .i64 0, .int .i64 0, .int .i64 0]) 3 Try.underlying27 hi hz0 hz1 .i64 .i64 _ _ m rfl rfl rfl rfl (by rw [hz2]; omega) (by unfold maxLen; omega) (Nat.le_refl _) ?_; intro w0 hown0 hgrow0)
  rw [made_zeroL] at hown0
  have hl0 : (ls.map (scl n)).length = m := by rw [List.length_map]; exact HLEN.out
  have hown0' : w0.ownsRow w.heap.size 37 3 (.slice (some ⟨w.heap.size, 0, none⟩) m m) m (flatLTo (ls.map (scl n)) 0) := by
    rw [flatLTo_zero, hl0]
    exact hown0
  have hb0 : Below w.heap.size w w0 := (Below.refl _ _).grown hgrow0 (Nat.le_refl _) (fun k hk => by cases hk)
  have HL0 := Lib.hid hl0
  clear hgrow0 hown0 hl0
  go_loopw [25] (fun t wr => ∃ k : Nat, k ≤ m ∧ t = .int .i64 k ∧ wr.ownsRow w.heap.size 37 3 (.slice (some ⟨w.heap.size, 0, none⟩) m m) m (flatLTo (ls.map (scl n)) k) ∧ allFrom m k (sclAt n ls) = allFrom m 0 (sclAt n ls) ∧ Below w.heap.size w wr)
    (fun t _ => m - (intOf t).toNat)
  case atStart => exact ⟨0, Nat.zero_le _, rfl, hown0', rfl, hb0⟩
  case round =>
    clear hown0' hb0
    obtain ⟨k, hk, rfl, hrow, hall, hbw⟩ := hrel
    have HR := Lib.hid hrow
    have HB := Lib.hid hbw
    have HA := Lib.hid hall
    have hwz := hbw.size
    have hwl : w.heap.size < wr.heap.size := (World.ownsRow.lt hrow w.heap.size rfl).2
    have hwn := Nat.ne_of_lt hwl
    clear hrow hall
    by_cases hlt : k < m
    · obtain ⟨g, rfl, -, a0, a1, a2⟩ := (HL.out.below hbw).at k hlt
      have HP := Lib.hid (show sclAt n ls k = (decide (0 ≤ n ∧ n ≤ 1000) && (ldW (ld ls k).2.1 && decide ((ld ls k).2.1 * n ≤ 10000))) from rfl)
      have HNX := Lib.hid (flatLTo_next (ls.map (scl n)) k (by have := HL0.out; omega))
      have HS := Lib.hid (ld_map n ls k (by have := HLEN.out; omega))
      rw [HS.out, show scl n (ld ls k) = ((ld ls k).1, (ld ls k).2.1 * n, (ld ls k).2.2) from rfl] at HNX
      have HF := Lib.hid (show sclAt n ls k = false → sclV n ls = false from fun h => sclV_all (by rw [HLEN.out, ← HZ.out, ← HA.out]; exact allFrom_no hlt h))
      generalize (ld ls k).1 = x at *
      generalize (ld ls k).2.1 = y at *
      generalize (ld ls k).2.2 = z at *
      clear hbw HS
      cases hy : ldW y
      · have HV := Lib.hid (HF.out (by rw [HP.out, hy]; simp))
        have HY := Lib.hid hy
        clear hy
        go_wp2_with fail
        refine (isLoadWeight _ _).mono ?_
        rintro e w1 ⟨rfl, rfl⟩
        rw [HY.out]
        go_wp2_with fail
        refine bodyPost_ret (v := .tuple #[.slice none 0 0, .bool false]) (by simp [results, Try.results16, go_sem]) rfl ⟨.slice none 0 0, by rw [HV.out], ?_, ?_⟩
        · rw [sclRow_no HV.out]
          exact LRow.nil _ _
        · repeat (first | exact HB.out | refine alloc_belowL ?_ _ | refine Below.setCell ?_ (by first | exact hwz | (simp <;> omega)) _)
      have hyr := ldW_iff.1 hy
      have hmul := mul_bd (x := y) (y := n) 10000 1000 ⟨by omega, by omega⟩ ⟨by omega, by omega⟩
      have hpos : 0 ≤ y * n := Int.mul_nonneg hyr.1 hnr.1
      obtain ⟨P, hP⟩ : ∃ P, P = y * n := ⟨_, rfl⟩
      have hwr : IntKind.i64.wrap (y * n) = P := by rw [hP]; exact IntWalk.i64_in _ (by omega)
      have hwr2 : IntKind.i64.wrap (n * y) = P := by rw [Int.mul_comm]; exact hwr
      rw [← hP] at HP HNX hpos hmul
      have HY := Lib.hid hy
      clear hP hy
      cases hq : ldW P
      · have HV := Lib.hid (HF.out (by rw [HP.out, decide_eq_false (show ¬ P ≤ 10000 by have := ldW_no.1 hq; omega)]; simp))
        have HQ := Lib.hid hq
        clear hq
        go_wp2_with fail
        refine (isLoadWeight _ _).mono ?_
        rintro e w1 ⟨rfl, rfl⟩
        rw [HY.out]
        go_wp2_with fail
        refine (isLoadWeight _ _).mono ?_
        rintro e w1 ⟨rfl, rfl⟩
        rw [HQ.out]
        go_wp2_with fail
        refine bodyPost_ret (v := .tuple #[.slice none 0 0, .bool false]) (by simp [results, Try.results16, go_sem]) rfl ⟨.slice none 0 0, by rw [HV.out], ?_, ?_⟩
        · rw [sclRow_no HV.out]
          exact LRow.nil _ _
        · repeat (first | exact HB.out | refine alloc_belowL ?_ _ | refine Below.setCell ?_ (by first | exact hwz | (simp <;> omega)) _)
      · have HT := Lib.hid (show sclAt n ls k = true by rw [HP.out, HD.out, HY.out, decide_eq_true (show P ≤ 10000 by have := ldW_iff.1 hq; omega)]; rfl)
        have HQ := Lib.hid hq
        clear hq
        have hrow1 := World.ownsRow.alloc HR.out (.cells #[.int .i64 x, .int .i64 y, .int .i64 z] 37)
        have HR1 := Lib.hid hrow1
        have HB1 := Lib.hid (alloc_belowL HB.out (.cells #[.int .i64 x, .int .i64 y, .int .i64 z] 37))
        have b0 : (wr.alloc (.cells #[.int .i64 x, .int .i64 y, .int .i64 z] 37)).cell? ⟨wr.heap.size, 0, none⟩ = some (.int .i64 x) := by go_simp
        have b1 : (wr.alloc (.cells #[.int .i64 x, .int .i64 y, .int .i64 z] 37)).cell? ⟨wr.heap.size, 1, none⟩ = some (.int .i64 y) := by go_simp
        have b2 : (wr.alloc (.cells #[.int .i64 x, .int .i64 y, .int .i64 z] 37)).cell? ⟨wr.heap.size, 2, none⟩ = some (.int .i64 z) := by go_simp
        have B0 := Lib.hid b0
        have B1 := Lib.hid b1
        have B2 := Lib.hid b2
        clear hrow1 b0 b1 b2
        go_wp2_with fail
        refine (isLoadWeight _ _).mono ?_
        rintro e w1 ⟨rfl, rfl⟩
        rw [HY.out]
        go_wp2_with fail
        refine (isLoadWeight _ _).mono ?_
        rintro e w1 ⟨rfl, rfl⟩
        rw [HQ.out]
        generalize hW : wr.alloc (.cells #[.int .i64 x, .int .i64 y, .int .i64 z] 37) = W at *
        have b0 := B0.out
        have b1 := B1.out
        have b2 := B2.out
        have ho1 := HR1.out
        have hl0 := HL0.out
        have c0 : W.cell? ⟨w.heap.size, k * 3, none⟩ = some (.int .i64 0) := (World.ownsRow.cellAt ho1 (k * 3) (by omega)).trans (flatLTo_at _ k 0 (by omega) (by omega))
        have c1 : W.cell? ⟨w.heap.size, k * 3 + 1, none⟩ = some (.int .i64 0) := (World.ownsRow.cellAt ho1 (k * 3 + 1) (by omega)).trans (flatLTo_at _ k 1 (by omega) (by omega))
        have c2 : W.cell? ⟨w.heap.size, k * 3 + 2, none⟩ = some (.int .i64 0) := (World.ownsRow.cellAt ho1 (k * 3 + 2) (by omega)).trans (flatLTo_at _ k 2 (by omega) (by omega))
        have f0 : W.frozen? ⟨w.heap.size, k * 3, none⟩ = false := World.ownsRow.frozenAt ho1 (k * 3)
        have f1 : W.frozen? ⟨w.heap.size, k * 3 + 1, none⟩ = false := World.ownsRow.frozenAt ho1 (k * 3 + 1)
        have f2 : W.frozen? ⟨w.heap.size, k * 3 + 2, none⟩ = false := World.ownsRow.frozenAt ho1 (k * 3 + 2)
        have ho2 := (World.ownsRow.stored (World.ownsRow.stored (World.ownsRow.stored (World.ownsRow.stored ho1 (k * 3) (.int .i64 x)).1 (k * 3 + 1) (.int .i64 y)).1 (k * 3 + 2) (.int .i64 z)).1 (k * 3 + 1) (.int .i64 P)).1
        rw [set_again, HNX.out] at ho2
        have HO2 := Lib.hid ho2
        have HB2 := Lib.hid ((((HB1.out.setCell (p := ⟨w.heap.size, k * 3, none⟩) (Nat.le_refl _) (.int .i64 x)).setCell (p := ⟨w.heap.size, k * 3 + 1, none⟩) (Nat.le_refl _) (.int .i64 y)).setCell (p := ⟨w.heap.size, k * 3 + 2, none⟩) (Nat.le_refl _) (.int .i64 z)).setCell (p := ⟨w.heap.size, k * 3 + 1, none⟩) (Nat.le_refl _) (.int .i64 P))
        clear hW a0 a1 a2 ho1 ho2 hl0
        go_wp2_with fail
        go_roundw
        case rel => exact ⟨k + 1, by omega, by go_num, HO2.out, by rw [← HA.out]; exact allFrom_yes hlt HT.out, HB2.out⟩
        case measure => simp [intOf]; omega
    · obtain rfl : k = m := by omega
      have HALL := Lib.hid (show allV ls.length (sclAt n ls) = true by rw [HLEN.out, ← HZ.out, ← HA.out, allFrom_end])
      have HV := Lib.hid (sclV_yes (n := n) hnr (show ls.length ≤ 6 by have := HLEN.out; omega) HALL.out)
      clear hbw
      go_wp2_with fail
      refine bodyPost_ret (v := .tuple #[.slice (some ⟨w.heap.size, 0, none⟩) k k, .bool true]) (by simp [results, Try.results16, go_sem]) rfl ⟨.slice (some ⟨w.heap.size, 0, none⟩) k k, by rw [HV.out], ?_, HB.out⟩
      have := HR.out
      have hl0 := HL0.out
      rw [show flatLTo (ls.map (scl n)) k = flatL (ls.map (scl n)) by rw [← flatLTo_end, hl0]] at this
      rw [sclRow_yes HV.out]
      unfold LRow
      rw [hl0]
      exact this
end Go.Proofs.Ythkabimaebglhaa
