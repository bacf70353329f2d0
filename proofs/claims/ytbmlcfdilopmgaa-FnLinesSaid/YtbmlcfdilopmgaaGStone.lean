/- The contracts of the program's tests on stones: everyCorner with each of its closures, StoneOk, IsInStone; The contracts of the model's tests on stones: StoneOk, IsInStone; Stones in the laws: a stone as it comes in, its size, its copy, the comparison of stones. -/
import Derived.Test.YtbmlcfdilopmgaaGPlain
import Derived.Test.YtbmlcfdilopmgaaGPt
import Derived.Shelf.Abstract
import Derived.Test.YtbmlcfdilopmgaaStoneC

/- The contracts of the program's tests on stones: everyCorner with each of its closures, StoneOk, IsInStone. -/
namespace Go.Proofs.Ytbmlcfdilopmgaa
set_option maxRecDepth 100000
open Go.ChangeShapes Go.WideShapes Go.ChangeAt Go.RowKit

set_option maxHeartbeats 400000 in
theorem everyCorner (w : World) (g cap n fk : Nat) (caps : Array Value) (f : Nat → Bool) (h6 : n ≤ 6) (he : ∀ args w, (callFunc fk args).run Try.prog w = .ok (.enter fk args) w)
    (hf : ∀ (w' : World) (i : Nat), Below w.heap.size w w' → i < n → Calls Try.prog fk (#[.int .i64 i] ++ caps) w' fun e w'' => e = .returned (.bool (f i)) ∧ Below w'.heap.size w' w'') :
    Calls Try.prog 126 #[.agg #[.slice (some ⟨g, 0, none⟩) n cap], .func (.func fk) #[] caps] w
      fun e w' => e = .returned (.bool (allV n f)) ∧ Below w.heap.size w w' := by
  have HF := Lib.hid hf
  clear hf
  go_enter Try.func126, Try.ntmps126
  go_wp2_with fail
  have hb0 := Lib.hid ((Below.refl w.heap.size w).alloc (by simp <;> omega) (.cells #[.slice (some ⟨g, 0, none⟩) n cap] 129))
  go_loopw [9, 5] (fun t _ wr => ∃ k : Nat, k ≤ n ∧ t = .int .i64 k ∧ Below w.heap.size w wr ∧ allFrom n k f = allV n f)
    (fun t _ _ => n - (intOf t).toNat)
  case atStart => exact ⟨0, Nat.zero_le _, rfl, hb0.out, rfl⟩
  case round =>
    obtain ⟨k, hk, rfl, hbw, hall⟩ := hrel
    have HB := Lib.hid hbw
    have HA := Lib.hid hall
    clear hbw hall
    by_cases hlt : k < n
    · cases hfk : f k
      · go_wp2_with fail
        refine (HF.out wr k HB.out hlt).mono ?_
        rintro e w1 ⟨rfl, hb1⟩
        rw [hfk]
        go_wp2_with fail
        go_ret
        exact ⟨ret_bool (by rw [← HA.out, allFrom_no hlt hfk]), HB.out.trans (hb1.mono HB.out.size)⟩
      · go_wp2_with fail
        refine (HF.out wr k HB.out hlt).mono ?_
        rintro e w1 ⟨rfl, hb1⟩
        rw [hfk]
        have HB1 := Lib.hid (HB.out.trans (hb1.mono HB.out.size))
        have HF1 := Lib.hid hfk
        clear hb1 hfk
        go_wp2_with fail
        go_roundw
        case rel => exact ⟨k + 1, by omega, by go_num, HB1.out, by rw [← HA.out, allFrom_yes hlt HF1.out]⟩
        case measure => simp [intOf]; omega
    · obtain rfl : k = n := by omega
      go_wp2_with fail
      go_ret
      exact ⟨ret_bool (by rw [← HA.out, allFrom_end]), HB.out⟩

/-- The contract of corner, at a counted index. -/
theorem cornerAt (w : World) (B g cap n : Nat) (cs : List (Int × Int)) (i : Nat) (z : Int) (hr : RowAt w B g cap cs) (hn : cs.length = n) (h0 : 0 < n) (h6 : n ≤ 6) (hi : i ≤ 20) (hz : z = i) :
    Calls Try.prog 122 #[.agg #[.slice (some ⟨g, 0, none⟩) n cap], .int .i64 z] w
      fun e w' => e = .returned (.agg #[.int .i64 (cn cs i).1, .int .i64 (cn cs i).2]) ∧ Below w.heap.size w w' := by
  subst hn hz
  exact corner w B g cap cs i hr h0 h6 hi

set_option maxHeartbeats 400000 in
theorem closeOk (w : World) (B g cap n bs : Nat) (cs : List (Int × Int)) (i : Nat) (hr : RowAt w B g cap cs) (hn : cs.length = n) (h0 : 0 < n) (h6 : n ≤ 6) (hi : i ≤ 10) (hs : w.cell? ⟨bs, 0, none⟩ = some (.slice (some ⟨g, 0, none⟩) n cap)) :
    Calls Try.prog 124 #[.int .i64 i, .pointer (some ⟨bs, 0, none⟩)] w fun e w' => e = .returned (.bool (okC cs i)) ∧ Below w.heap.size w w' := by
  have HR := Lib.hid hr
  have hbs := cell_block_lt hs
  clear hr
  go_enter Try.func124, Try.ntmps124
  go_wp2_with fail
  refine (cornerAt _ _ _ _ _ cs i _ HR.out hn h0 h6 (by omega) rfl).mono ?_
  rintro e w1 ⟨rfl, hb1⟩
  go_wp2_with fail
  refine (implPointOk _ _ _).mono ?_
  rintro e w2 ⟨rfl, hb2⟩
  go_wp2_with fail
  go_ret
  exact ⟨rfl, hb1.trans (hb2.mono hb1.size)⟩

set_option maxHeartbeats 400000 in
theorem closeTurns (w : World) (B g cap n bs : Nat) (cs : List (Int × Int)) (i : Nat) (hr : RowAt w B g cap cs) (hn : cs.length = n) (h0 : 0 < n) (h6 : n ≤ 6) (hi : i ≤ 10) (hs : w.cell? ⟨bs, 0, none⟩ = some (.slice (some ⟨g, 0, none⟩) n cap)) :
    Calls Try.prog 130 #[.int .i64 i, .pointer (some ⟨bs, 0, none⟩)] w fun e w' => e = .returned (.bool (turnC cs i)) ∧ Below w.heap.size w w' := by
  have HR := Lib.hid hr
  have hbs := cell_block_lt hs
  clear hr
  go_enter Try.func130, Try.ntmps130
  go_wp2_with fail
  have hn1 := Since.nonempty w
  have s0 := fun (x : Since w) => (x.cell bs 0 hbs).trans hs
  refine wp_region_since (by kernel_rfl) (by kernel_rfl) ?_
  repeat (go_big_quiet_step (first
    | (go_at_call 122; first | exact Since.call (cornerAt _ _ _ _ _ cs i _ (HR.out.below (Since.below _)) hn h0 h6 (by omega) (by omega)) | exact Since.call (cornerAt _ _ _ _ _ cs (i + 1) _ (HR.out.below (Since.below _)) hn h0 h6 (by omega) (by omega)) | exact Since.call (cornerAt _ _ _ _ _ cs (i + 2) _ (HR.out.below (Since.below _)) hn h0 h6 (by omega) (by omega)))
    | (go_at_call 131; exact Since.call (implSideOf _ _ _ _ _ _ _))))
  refine wpQuiet_nil ?_
  rintro w2 ⟨⟨_, hb2⟩, rfl⟩
  go_wp2_with fail
  go_ret
  exact ⟨rfl, hb2⟩
set_option maxHeartbeats 400000 in
theorem closeOpens (w : World) (B g cap n bs : Nat) (cs : List (Int × Int)) (i : Nat) (hr : RowAt w B g cap cs) (hn : cs.length = n) (h0 : 0 < n) (h6 : n ≤ 6) (hi : i ≤ 10) (hs : w.cell? ⟨bs, 0, none⟩ = some (.slice (some ⟨g, 0, none⟩) n cap)) :
    Calls Try.prog 132 #[.int .i64 i, .pointer (some ⟨bs, 0, none⟩)] w fun e w' => e = .returned (.bool (openC cs i)) ∧ Below w.heap.size w w' := by
  have HR := Lib.hid hr
  have hbs := cell_block_lt hs
  clear hr
  go_enter Try.func132, Try.ntmps132
  go_wp2_with fail
  have hn1 := Since.nonempty w
  have s0 := fun (x : Since w) => (x.cell bs 0 hbs).trans hs
  refine wp_region_since (by kernel_rfl) (by kernel_rfl) ?_
  repeat (go_big_quiet_step (first
    | (go_at_call_of 122 (Value.int .i64 0); exact Since.call (cornerAt _ _ _ _ _ cs 0 _ (HR.out.below (Since.below _)) hn h0 h6 (by omega) (by omega)))
    | (go_at_call 122; first | exact Since.call (cornerAt _ _ _ _ _ cs i _ (HR.out.below (Since.below _)) hn h0 h6 (by omega) (by omega)) | exact Since.call (cornerAt _ _ _ _ _ cs (i + 1) _ (HR.out.below (Since.below _)) hn h0 h6 (by omega) (by omega)))
    | (go_at_call 131; exact Since.call (implSideOf _ _ _ _ _ _ _))))
  refine wpQuiet_nil ?_
  rintro w2 ⟨⟨_, hb2⟩, rfl⟩
  go_wp2_with fail
  go_ret
  exact ⟨rfl, hb2⟩

set_option maxHeartbeats 400000 in
theorem turnsLeft (w : World) (B g cap n : Nat) (cs : List (Int × Int)) (hr : RowAt w B g cap cs) (hn : cs.length = n) (h0 : 0 < n) (h6 : n ≤ 6) :
    Calls Try.prog 127 #[.agg #[.slice (some ⟨g, 0, none⟩) n cap]] w fun e w' => e = .returned (.bool (turnsC cs)) ∧ Below w.heap.size w w' := by
  have he : ∀ args w, (callFunc 130 args).run Try.prog w = .ok (.enter 130 args) w := enters_of Try.func130 (by kernel_rfl) rfl
  have HE := Lib.hid he
  have HR := Lib.hid hr
  clear hr he
  go_enter Try.func127, Try.ntmps127
  go_wp2_with fail
  have hb0 := (Below.refl w.heap.size w).alloc (Nat.le_refl _) (.cells #[.slice (some ⟨g, 0, none⟩) n cap] 129)
  have hs : (w.alloc (.cells #[.slice (some ⟨g, 0, none⟩) n cap] 129)).cell? ⟨w.heap.size, 0, none⟩ = some (.slice (some ⟨g, 0, none⟩) n cap) := by go_simp
  refine (everyCorner _ _ _ _ _ _ (turnC cs) h6 HE.out (fun w' i hb hi => ?_)).mono ?_
  · exact closeTurns _ B _ _ _ _ cs i ((HR.out.below hb0).below hb) hn h0 h6 (by omega) ((hb.cell (p := ⟨w.heap.size, 0, none⟩) (by simp)).trans hs)
  rintro e w1 ⟨rfl, hb1⟩
  go_wp2_with fail
  go_ret
  exact ⟨ret_bool (by unfold turnsC; rw [hn]), hb0.trans (hb1.mono (by simp))⟩

set_option maxHeartbeats 400000 in
theorem opensLeft (w : World) (B g cap n : Nat) (cs : List (Int × Int)) (hr : RowAt w B g cap cs) (hn : cs.length = n) (h0 : 0 < n) (h6 : n ≤ 6) :
    Calls Try.prog 128 #[.agg #[.slice (some ⟨g, 0, none⟩) n cap]] w fun e w' => e = .returned (.bool (opensC cs)) ∧ Below w.heap.size w w' := by
  have he : ∀ args w, (callFunc 132 args).run Try.prog w = .ok (.enter 132 args) w := enters_of Try.func132 (by kernel_rfl) rfl
  have HE := Lib.hid he
  have HR := Lib.hid hr
  clear hr he
  go_enter Try.func128, Try.ntmps128
  go_wp2_with fail
  have hb0 := (Below.refl w.heap.size w).alloc (Nat.le_refl _) (.cells #[.slice (some ⟨g, 0, none⟩) n cap] 129)
  have hs : (w.alloc (.cells #[.slice (some ⟨g, 0, none⟩) n cap] 129)).cell? ⟨w.heap.size, 0, none⟩ = some (.slice (some ⟨g, 0, none⟩) n cap) := by go_simp
  refine (everyCorner _ _ _ _ _ _ (openC cs) h6 HE.out (fun w' i hb hi => ?_)).mono ?_
  · exact closeOpens _ B _ _ _ _ cs i ((HR.out.below hb0).below hb) hn h0 h6 (by omega) ((hb.cell (p := ⟨w.heap.size, 0, none⟩) (by simp)).trans hs)
  rintro e w1 ⟨rfl, hb1⟩
  go_wp2_with fail
  go_ret
  exact ⟨ret_bool (by unfold opensC; rw [hn]), hb0.trans (hb1.mono (by simp))⟩

theorem row_slice {w : World} {B : Nat} {v : Value} {cs : List (Int × Int)} (h : Row w B v cs) : ∃ a cap, v = .slice a cs.length cap := by
  rcases h.cases with ⟨rfl, rfl⟩ | ⟨g, cap, rfl, -⟩ <;> exact ⟨_, _, rfl⟩

theorem stoneOk_small (w : World) (a : Option Addr) (n cap : Nat) (h : n < 3) :
    Calls Try.prog 120 #[.agg #[.slice a n cap]] w fun e w' => e = .returned (.bool false) ∧ Below w.heap.size w w' := by
  go_enter Try.func120, Try.ntmps120
  go_wp2_with fail
  go_ret
  exact ⟨rfl, by repeat (first | exact Below.refl _ _ | refine Below.alloc ?_ (by simp <;> omega) _)⟩

theorem stoneOk_large (w : World) (a : Option Addr) (n cap : Nat) (h : 6 < n) (hm : n ≤ maxLen) :
    Calls Try.prog 120 #[.agg #[.slice a n cap]] w fun e w' => e = .returned (.bool false) ∧ Below w.heap.size w w' := by
  unfold maxLen at hm
  go_enter Try.func120, Try.ntmps120
  go_wp2_with fail
  go_ret
  exact ⟨rfl, by repeat (first | exact Below.refl _ _ | refine Below.alloc ?_ (by simp <;> omega) _)⟩

set_option maxHeartbeats 400000 in
theorem stoneOk_size (w : World) (B g cap n : Nat) (cs : List (Int × Int)) (hr : RowAt w B g cap cs) (hn : cs.length = n) (h3 : 3 ≤ n) (h6 : n ≤ 6) :
    Calls Try.prog 120 #[.agg #[.slice (some ⟨g, 0, none⟩) n cap]] w fun e w' => e = .returned (.bool (validC cs && turnsC cs && opensC cs)) ∧ Below w.heap.size w w' := by
  have he : ∀ args w, (callFunc 124 args).run Try.prog w = .ok (.enter 124 args) w := enters_of Try.func124 (by kernel_rfl) rfl
  have HE := Lib.hid he
  have HR := Lib.hid hr
  clear hr he
  have hb0 := (Below.refl w.heap.size w).alloc (Nat.le_refl _) (.cells #[.slice (some ⟨g, 0, none⟩) n cap] 129)
  have hs : (w.alloc (.cells #[.slice (some ⟨g, 0, none⟩) n cap] 129)).cell? ⟨w.heap.size, 0, none⟩ = some (.slice (some ⟨g, 0, none⟩) n cap) := by go_simp
  have HS := Lib.hid hs
  have HB0 := Lib.hid hb0
  clear hb0 hs
  have hW : ∀ w0, w0 = w.alloc (.cells #[.slice (some ⟨g, 0, none⟩) n cap] 129) → Calls Try.prog 126 #[.agg #[.slice (some ⟨g, 0, none⟩) n cap], .func (.func 124) #[] #[.pointer (some ⟨w.heap.size, 0, none⟩)]] w0 fun e w' => e = .returned (.bool (validC cs)) ∧ Below w0.heap.size w0 w' := by
    rintro w0 rfl
    have := everyCorner _ g cap n _ #[.pointer (some ⟨w.heap.size, 0, none⟩)] (okC cs) h6 HE.out (fun w' i hb hi => closeOk w' B g cap n w.heap.size cs i ((HR.out.below HB0.out).below hb) hn (by omega) h6 (by omega) ((hb.cell (p := ⟨w.heap.size, 0, none⟩) (by simp)).trans HS.out))
    unfold validC
    rwa [hn]
  have HW := Lib.hid (hW _ rfl)
  clear hW
  cases hv : validC cs
  · go_enter Try.func120, Try.ntmps120
    go_wp2_with fail
    refine HW.out.mono ?_
    rintro e w1 ⟨rfl, hb1⟩
    rw [hv]
    go_wp2_with fail
    go_ret
    exact ⟨rfl, HB0.out.trans (hb1.mono (by simp))⟩
  cases ht : turnsC cs
  · go_enter Try.func120, Try.ntmps120
    go_wp2_with fail
    refine HW.out.mono ?_
    rintro e w1 ⟨rfl, hb1⟩
    rw [hv]
    have hb01 := HB0.out.trans (hb1.mono (by simp))
    have s1 := (hb1.cell (p := ⟨w.heap.size, 0, none⟩) (by simp)).trans HS.out
    go_wp2_with fail
    refine (turnsLeft _ B _ _ _ cs (HR.out.below hb01) hn (by omega) h6).mono ?_
    rintro e w2 ⟨rfl, hb2⟩
    rw [ht]
    go_wp2_with fail
    go_ret
    exact ⟨rfl, hb01.trans (hb2.mono hb01.size)⟩
  · go_enter Try.func120, Try.ntmps120
    go_wp2_with fail
    refine HW.out.mono ?_
    rintro e w1 ⟨rfl, hb1⟩
    rw [hv]
    have hb01 := HB0.out.trans (hb1.mono (by simp))
    have hz := hb1.size
    simp only [World.size_alloc] at hz
    have s1 := (hb1.cell (p := ⟨w.heap.size, 0, none⟩) (by simp)).trans HS.out
    go_wp2_with fail
    refine (turnsLeft _ B _ _ _ cs (HR.out.below hb01) hn (by omega) h6).mono ?_
    rintro e w2 ⟨rfl, hb2⟩
    rw [ht]
    have hb02 := hb01.trans (hb2.mono hb01.size)
    have s2 := (hb2.cell (p := ⟨w.heap.size, 0, none⟩) (by simp; omega)).trans s1
    clear s1
    go_wp2_with fail
    refine (opensLeft _ B _ _ _ cs (HR.out.below hb02) hn (by omega) h6).mono ?_
    rintro e w3 ⟨rfl, hb3⟩
    go_wp2_with fail
    go_ret
    exact ⟨rfl, hb02.trans (hb3.mono hb02.size)⟩

/-- The contract of the program's StoneOk. -/
theorem implStoneOk (w : World) (B : Nat) (v : Value) (cs : List (Int × Int)) (hr : Row w B v cs) :
    Calls Try.prog 120 #[.agg #[v]] w fun e w' => e = .returned (.bool (stoneV cs)) ∧ Below w.heap.size w w' := by
  obtain ⟨a, cap, hv⟩ := row_slice hr
  by_cases h3 : cs.length < 3
  · rw [stoneV_no (sizeC_no.2 (by omega)), hv]
    exact stoneOk_small _ _ _ _ h3
  rcases hr.cases with ⟨-, rfl⟩ | ⟨g, cap', rfl, r, -, -, hc, hm⟩
  · simp at h3
  by_cases h6 : cs.length ≤ 6
  · have : stoneV cs = (validC cs && turnsC cs && opensC cs) := by unfold stoneV; rw [sizeC_iff.2 ⟨by omega, h6⟩, Bool.true_and]
    rw [this]
    exact stoneOk_size _ _ _ _ _ cs r rfl (by omega) h6
  · rw [stoneV_no (sizeC_no.2 (by omega))]
    exact stoneOk_large _ _ _ _ (by omega) (by omega)

end Go.Proofs.Ytbmlcfdilopmgaa

/- The contracts of the model's tests on stones: StoneOk, IsInStone. -/
namespace Go.Proofs.Ytbmlcfdilopmgaa
set_option maxRecDepth 100000
open Go.ChangeShapes Go.WideShapes Go.ChangeAt Go.RowKit

theorem l01In36 (n : Nat) (w : World) (hn : n ≤ maxLen) :
    Calls Try.prog 73 #[.int .i64 n, .int .i64 3, .int .i64 6] w fun e w' => e = .returned (.bool (decide (3 ≤ n ∧ n ≤ 6))) ∧ w = w' := by
  unfold maxLen at hn
  by_cases h : n < 3
  · go_enter Try.func73, Try.ntmps73
    go_wp2
    go_ret
    exact ⟨ret_bool (by simp; omega), rfl⟩
  · go_enter Try.func73, Try.ntmps73
    go_wp2
    go_ret
    exact ⟨ret_bool (by rw [Bool.eq_iff_iff, decide_eq_true_iff, decide_eq_true_iff]; omega), rfl⟩

theorem l02SideAt (a b c : Int × Int) (ax ay bx by_ cx cy : Int) (w : World) (ea : a = (ax, ay)) (eb : b = (bx, by_)) (ec : c = (cx, cy)) (ha : okP a.1 a.2 = true) (hb : okP b.1 b.2 = true) (hc : okP c.1 c.2 = true) :
    Calls Try.prog 98 #[.agg #[.int .i64 ax, .int .i64 ay], .agg #[.int .i64 bx, .int .i64 by_], .agg #[.int .i64 cx, .int .i64 cy]] w fun e w' => e = .returned (.int .i64 (sid a b c)) ∧ Below w.heap.size w w' := by
  subst ea eb ec
  refine (l02Side ax ay bx by_ cx cy w ha hb hc).mono ?_
  rintro e w1 ⟨rfl, hb1⟩
  exact ⟨ret_i64 (sideV_yes ha hb hc).symm, hb1⟩

/-- The cells of the corner at an index, going around. -/
theorem RowAt.corner {w : World} {B g cap : Nat} {cs : List (Int × Int)} (h : RowAt w B g cap cs) (h0 : 0 < cs.length) (i : Nat) :
    w.cell? ⟨g, (i % cs.length) * 2, none⟩ = some (.int .i64 (cn cs i).1) ∧ w.cell? ⟨g, (i % cs.length) * 2 + 1, none⟩ = some (.int .i64 (cn cs i).2) := h.cells _ (Nat.mod_lt _ h0)
theorem tmod_at (n k : Nat) (z : Int) (hz : z = k) : z.tmod (n : Int) = ((k % n : Nat) : Int) := by
  subst hz; rw [Int.tmod_eq_emod_of_nonneg (by omega)]; simp

theorem Since.cell2 {w w2 : World} (hb : Below w.heap.size w w2) (x : Since w2) (b o : Nat) (h : b < w.heap.size) : x.1.cell? ⟨b, o, none⟩ = w.cell? ⟨b, o, none⟩ :=
  (x.cell b o (Nat.lt_of_lt_of_le h hb.size)).trans (hb.cell (p := ⟨b, o, none⟩) h)

set_option maxHeartbeats 2000000 in
theorem specStoneOk_size (w : World) (B g cap n : Nat) (cs : List (Int × Int)) (hr : RowAt w B g cap cs) (hn : cs.length = n) (h3 : 3 ≤ n) (h6 : n ≤ 6) :
    Calls Try.prog 90 #[.agg #[.slice (some ⟨g, 0, none⟩) n cap]] w fun e w' => e = .returned (.bool (validC cs && allV n (stepC cs))) ∧ Below w.heap.size w w' := by
  obtain ⟨-, hg, -, -⟩ := hr.lt
  have HR := Lib.hid hr
  have HN := Lib.hid hn
  clear hr hn
  go_enter Try.func90, Try.ntmps90
  go_wp2_with fail
  refine (l01In36 _ _ (by unfold maxLen; omega)).mono ?_
  rintro e w' ⟨rfl, rfl⟩
  rw [decide_eq_true (show 3 ≤ n ∧ n ≤ 6 from ⟨h3, h6⟩)]
  have hb0 := (Below.refl w.heap.size w).alloc (Nat.le_refl _) (.cells #[.slice (some ⟨g, 0, none⟩) n cap] 129)
  have HB0 := Lib.hid hb0
  have hs : (w.alloc (.cells #[.slice (some ⟨g, 0, none⟩) n cap] 129)).cell? ⟨w.heap.size, 0, none⟩ = some (.slice (some ⟨g, 0, none⟩) n cap) := by go_simp
  have HS := Lib.hid hs
  clear hb0 hs
  go_wp2_with fail
  go_loopw [4] (fun t wr => ∃ k : Nat, k ≤ n ∧ t = .int .i64 k ∧ Below w.heap.size w wr ∧ wr.cell? ⟨w.heap.size, 0, none⟩ = some (.slice (some ⟨g, 0, none⟩) n cap) ∧ allFrom n k (okC cs) = allV n (okC cs))
    (fun t _ => n - (intOf t).toNat)
  case atStart => exact ⟨0, Nat.zero_le _, rfl, HB0.out, HS.out, rfl⟩
  case round =>
    obtain ⟨k, hk, rfl, hbw, hsw, hall⟩ := hrel
    have HB := Lib.hid hbw
    have HA := Lib.hid hall
    have hlN := HN.out
    by_cases hlt : k < n
    · obtain ⟨a0, a1⟩ := (HR.out.below hbw).cells k (by omega)
      have hok : okC cs k = okP (pt cs k).1 (pt cs k).2 := by unfold okC; rw [cn_lt (by omega)]
      have HO := Lib.hid hok
      generalize (pt cs k).1 = px at *
      generalize (pt cs k).2 = py at *
      have hbs := cell_block_lt hsw
      clear hbw hlN hall hok
      cases hp : okP px py
      · go_wp2_with fail
        refine (specPointOk _ _ _).mono ?_
        rintro e w1 ⟨rfl, hb1⟩
        rw [hp]
        go_wp2_with fail
        go_ret
        refine ⟨ret_bool ?_, HB.out.trans (hb1.mono HB.out.size)⟩
        have : validC cs = false := by unfold validC; rw [HN.out, ← HA.out, allFrom_no hlt (by rw [HO.out, hp])]
        rw [this]
        rfl
      · go_wp2_with fail
        refine (specPointOk _ _ _).mono ?_
        rintro e w1 ⟨rfl, hb1⟩
        rw [hp]
        have HB1 := Lib.hid (HB.out.trans (hb1.mono HB.out.size))
        have HS1 := Lib.hid ((hb1.cell (p := ⟨w.heap.size, 0, none⟩) hbs).trans hsw)
        have HP := Lib.hid hp
        clear hb1 hp a0 a1 hsw
        go_wp2_with fail
        go_roundw
        case rel => exact ⟨k + 1, by omega, by go_num, HB1.out, HS1.out, by rw [← HA.out, allFrom_yes hlt (by rw [HO.out, HP.out])]⟩
        case measure => simp [intOf]; omega
    · have hkn : k = n := by omega
      rw [hkn] at hall ⊢
      have hval : validC cs = true := by unfold validC; rw [hlN, ← hall, allFrom_end]
      have HV := Lib.hid (fun i => valid_all hval (by omega) i)
      have HQ := Lib.hid hval
      have HW := Lib.hid hsw
      clear hval hall hsw hbw hlN hkn hlt hk HA k
      go_wp2_with fail
      go_loopw [5] (fun t wr => ∃ k : Nat, k ≤ n ∧ t = .int .i64 k ∧ Below w.heap.size w wr ∧ wr.cell? ⟨w.heap.size, 0, none⟩ = some (.slice (some ⟨g, 0, none⟩) n cap) ∧ allFrom n k (stepC cs) = allV n (stepC cs))
        (fun t _ => n - (intOf t).toNat)
      case atStart => exact ⟨0, Nat.zero_le _, rfl, HB.out, HW.out, rfl⟩
      case round =>
        clear HB HW
        obtain ⟨k, hk, rfl, hbw, hsw, hall⟩ := hrel
        have HB := Lib.hid hbw
        have HA := Lib.hid hall
        have hlN := HN.out
        have hbs := cell_block_lt hsw
        have hgl : g < wr.heap.size := by have := hbw.size; omega
        by_cases hlt : k < n
        · have hr := HR.out.below hbw
          have h0 : 0 < cs.length := by omega
          obtain ⟨a0, a1⟩ := hr.cells k (by omega)
          obtain ⟨b0, b1⟩ := hr.corner h0 (k + 1)
          obtain ⟨c0, c1⟩ := hr.corner h0 (k + 2)
          obtain ⟨z0, z1⟩ := hr.cells 0 h0
          rw [← cn_lt h0] at z0 z1
          rw [← cn_lt (show k < cs.length by omega)] at a0 a1
          rw [Nat.zero_mul] at z0 z1
          rw [hlN] at b0 b1 c0 c1
          have t1 := tmod_at n (k + 1) ((k : Int) + 1) (by omega)
          have t2 := tmod_at n (k + 2) ((k : Int) + 2) (by omega)
          have l1 : (k + 1) % n < n := Nat.mod_lt _ (by omega)
          have l2 : (k + 2) % n < n := Nat.mod_lt _ (by omega)
          obtain ⟨⟨ax, ay⟩, ea⟩ : ∃ p, cn cs k = p := ⟨_, rfl⟩
          obtain ⟨⟨bx, by_⟩, eb⟩ : ∃ p, cn cs (k + 1) = p := ⟨_, rfl⟩
          obtain ⟨⟨cx, cy⟩, ec⟩ : ∃ p, cn cs (k + 2) = p := ⟨_, rfl⟩
          obtain ⟨⟨zx, zy⟩, ez⟩ : ∃ p, cn cs 0 = p := ⟨_, rfl⟩
          have hC1 := fun w => l02SideAt _ _ _ ax ay bx by_ cx cy w ea eb ec (HV.out k) (HV.out (k + 1)) (HV.out (k + 2))
          have hC2 := fun w => l02SideAt _ _ _ zx zy ax ay bx by_ w ez ea eb (HV.out 0) (HV.out k) (HV.out (k + 1))
          have hT : turnC cs k = decide (0 < sid (cn cs k) (cn cs (k + 1)) (cn cs (k + 2))) := rfl
          have hO : openC cs k = decide (0 ≤ sid (cn cs 0) (cn cs k) (cn cs (k + 1))) := rfl
          generalize sid (cn cs k) (cn cs (k + 1)) (cn cs (k + 2)) = V1 at hC1 hT
          generalize sid (cn cs 0) (cn cs k) (cn cs (k + 1)) = V2 at hC2 hO
          rw [ea] at a0 a1
          rw [eb] at b0 b1
          rw [ec] at c0 c1
          rw [ez] at z0 z1
          have HC1 := Lib.hid hC1
          have HC2 := Lib.hid hC2
          have HT := Lib.hid hT
          have HO := Lib.hid hO
          have hmod : k + 1 < n → (k + 1) % n = k + 1 := fun h => Nat.mod_eq_of_lt h
          have HM := Lib.hid hmod
          clear hC1 hC2 hT hO hmod ea eb ec ez hr h0 hbw hlN hall
          have hn1 := Since.nonempty wr
          have sS := fun (x : Since wr) => (x.cell w.heap.size 0 hbs).trans hsw
          have sz0 := fun (x : Since wr) => (x.cell g 0 hgl).trans z0
          have sz1 := fun (x : Since wr) => (x.cell g 1 hgl).trans z1
          have sa0 := fun (x : Since wr) => (x.cell g (k * 2) hgl).trans a0
          have sa1 := fun (x : Since wr) => (x.cell g (k * 2 + 1) hgl).trans a1
          have sb0 := fun (x : Since wr) => (x.cell g ((k + 1) % n * 2) hgl).trans b0
          have sb1 := fun (x : Since wr) => (x.cell g ((k + 1) % n * 2 + 1) hgl).trans b1
          have sc0 := fun (x : Since wr) => (x.cell g ((k + 2) % n * 2) hgl).trans c0
          have sc1 := fun (x : Since wr) => (x.cell g ((k + 2) % n * 2 + 1) hgl).trans c1
          by_cases hv1 : V1 ≤ 0
          · generalize (k + 1) % n = j1 at *
            generalize (k + 2) % n = j2 at *
            go_wp2_with fail
            refine wp_region_since (by kernel_rfl) (by kernel_rfl) ?_
            repeat (go_big_quiet_step (first
              | (go_at_call 98; exact Since.call (HC1.out _))))
            refine wpQuiet_nil ?_
            rintro w2 ⟨⟨_, hb2⟩, rfl⟩
            clear sS sz0 sz1 sa0 sa1 sb0 sb1 sc0 sc1
            go_wp2_with fail
            go_ret
            refine ⟨ret_bool ?_, HB.out.trans (hb2.mono HB.out.size)⟩
            rw [← HA.out, allFrom_no hlt (by unfold stepC; rw [HT.out, decide_eq_false (by omega)]; rfl), Bool.and_false]
          by_cases hlast : k + 1 = n
          · generalize (k + 1) % n = j1 at *
            generalize (k + 2) % n = j2 at *
            go_wp2_with fail
            refine wp_region_since (by kernel_rfl) (by kernel_rfl) ?_
            repeat (go_big_quiet_step (first
              | (go_at_call 98; exact Since.call (HC1.out _))))
            refine wpQuiet_nil ?_
            rintro w2 ⟨⟨w2, hb2⟩, rfl⟩
            have HB2 := Lib.hid hb2
            have HBB := Lib.hid (HB.out.trans (hb2.mono HB.out.size))
            clear sS sz0 sz1 sa0 sa1 sb0 sb1 sc0 sc1 c0 c1
            have hn2 := Since.nonempty w2
            clear a0 a1 b0 b1 z0 z1
            have cb : decide ((k : Int) + 1 < (n : Int)) = false := decide_eq_false (by omega)
            have sS := fun (x : Since w2) => (Since.cell2 HB2.out x w.heap.size 0 hbs).trans hsw
            go_wp2_with fail
            refine wp_region_since (by kernel_rfl) (by kernel_rfl) ?_
            repeat (go_big_quiet_step (first
              | (go_at_call 98; exact Since.call (HC2.out _))))
            refine wpQuiet_nil ?_
            rintro w3 ⟨⟨w3, hb3⟩, rfl⟩
            have HB3 := Lib.hid (HBB.out.trans (hb3.mono HBB.out.size))
            have hs3 : w3.cell? ⟨w.heap.size, 0, none⟩ = some (.slice (some ⟨g, 0, none⟩) n cap) := (Since.cell2 HB2.out ⟨_, hb3⟩ w.heap.size 0 hbs).trans hsw
            have HS3 := Lib.hid hs3
            clear hs3
            clear sS hb2 hb3 hsw
            go_wp2_with fail
            go_roundw
            case rel => exact ⟨k + 1, by omega, by go_num, HB3.out, HS3.out, by rw [← HA.out, allFrom_yes hlt (by unfold stepC; rw [HT.out, decide_eq_true (by omega), openC_last (by have := HN.out; omega)]; rfl)]⟩
            case measure => simp [intOf]; omega
          have hlt1 : k + 1 < n := by omega
          have cb : decide ((k : Int) + 1 < (n : Int)) = true := decide_eq_true (by omega)
          rw [HM.out hlt1] at b0 b1 sb0 sb1 t1
          clear l1 hlast
          generalize (k + 2) % n = j2 at *
          by_cases hv2 : V2 < 0
          · skip
            go_wp2_with fail
            refine wp_region_since (by kernel_rfl) (by kernel_rfl) ?_
            repeat (go_big_quiet_step (first
              | (go_at_call 98; exact Since.call (HC1.out _))))
            refine wpQuiet_nil ?_
            rintro w2 ⟨⟨w2, hb2⟩, rfl⟩
            have HB2 := Lib.hid hb2
            have HBB := Lib.hid (HB.out.trans (hb2.mono HB.out.size))
            clear sS sz0 sz1 sa0 sa1 sb0 sb1 sc0 sc1 c0 c1
            have hn2 := Since.nonempty w2
            have sS := fun (x : Since w2) => (Since.cell2 HB2.out x w.heap.size 0 hbs).trans hsw
            have sz0 := fun (x : Since w2) => (Since.cell2 HB2.out x g 0 hgl).trans z0
            have sz1 := fun (x : Since w2) => (Since.cell2 HB2.out x g 1 hgl).trans z1
            have sa0 := fun (x : Since w2) => (Since.cell2 HB2.out x g (k * 2) hgl).trans a0
            have sa1 := fun (x : Since w2) => (Since.cell2 HB2.out x g (k * 2 + 1) hgl).trans a1
            have sb0 := fun (x : Since w2) => (Since.cell2 HB2.out x g ((k + 1) * 2) hgl).trans b0
            have sb1 := fun (x : Since w2) => (Since.cell2 HB2.out x g ((k + 1) * 2 + 1) hgl).trans b1
            go_wp2_with fail
            refine wp_region_since (by kernel_rfl) (by kernel_rfl) ?_
            repeat (go_big_quiet_step (first
              | (go_at_call 98; exact Since.call (HC2.out _))))
            refine wpQuiet_nil ?_
            rintro w3 ⟨⟨w3, hb3⟩, rfl⟩
            have HB3 := Lib.hid (HBB.out.trans (hb3.mono HBB.out.size))
            clear sS sz0 sz1 sa0 sa1 sb0 sb1
            go_wp2_with fail
            go_ret
            refine ⟨ret_bool ?_, HB3.out⟩
            rw [← HA.out, allFrom_no hlt (by unfold stepC; rw [HO.out, decide_eq_false (by omega), Bool.and_false]), Bool.and_false]
          · skip
            go_wp2_with fail
            refine wp_region_since (by kernel_rfl) (by kernel_rfl) ?_
            repeat (go_big_quiet_step (first
              | (go_at_call 98; exact Since.call (HC1.out _))))
            refine wpQuiet_nil ?_
            rintro w2 ⟨⟨w2, hb2⟩, rfl⟩
            have HB2 := Lib.hid hb2
            have HBB := Lib.hid (HB.out.trans (hb2.mono HB.out.size))
            clear sS sz0 sz1 sa0 sa1 sb0 sb1 sc0 sc1 c0 c1
            have hn2 := Since.nonempty w2
            have sS := fun (x : Since w2) => (Since.cell2 HB2.out x w.heap.size 0 hbs).trans hsw
            have sz0 := fun (x : Since w2) => (Since.cell2 HB2.out x g 0 hgl).trans z0
            have sz1 := fun (x : Since w2) => (Since.cell2 HB2.out x g 1 hgl).trans z1
            have sa0 := fun (x : Since w2) => (Since.cell2 HB2.out x g (k * 2) hgl).trans a0
            have sa1 := fun (x : Since w2) => (Since.cell2 HB2.out x g (k * 2 + 1) hgl).trans a1
            have sb0 := fun (x : Since w2) => (Since.cell2 HB2.out x g ((k + 1) * 2) hgl).trans b0
            have sb1 := fun (x : Since w2) => (Since.cell2 HB2.out x g ((k + 1) * 2 + 1) hgl).trans b1
            go_wp2_with fail
            refine wp_region_since (by kernel_rfl) (by kernel_rfl) ?_
            repeat (go_big_quiet_step (first
              | (go_at_call 98; exact Since.call (HC2.out _))))
            refine wpQuiet_nil ?_
            rintro w3 ⟨⟨w3, hb3⟩, rfl⟩
            have HB3 := Lib.hid (HBB.out.trans (hb3.mono HBB.out.size))
            have hs3 : w3.cell? ⟨w.heap.size, 0, none⟩ = some (.slice (some ⟨g, 0, none⟩) n cap) := (Since.cell2 HB2.out ⟨_, hb3⟩ w.heap.size 0 hbs).trans hsw
            have HS3 := Lib.hid hs3
            clear hs3
            clear sS sz0 sz1 sa0 sa1 sb0 sb1 hb2 hb3 hsw
            go_wp2_with fail
            go_roundw
            case rel => exact ⟨k + 1, by omega, by go_num, HB3.out, HS3.out, by rw [← HA.out, allFrom_yes hlt (by unfold stepC; rw [HT.out, HO.out, decide_eq_true (by omega), decide_eq_true (by omega)]; rfl)]⟩
            case measure => simp [intOf]; omega
        · have hkn : k = n := by omega
          rw [hkn] at hall ⊢
          clear hbw hlN hkn hlt hk HA k
          have HA := Lib.hid hall
          clear hall
          go_wp2_with fail
          go_ret
          exact ⟨ret_bool (by rw [HQ.out, ← HA.out, allFrom_end]; rfl), HB.out⟩

theorem stoneV_steps {cs : List (Int × Int)} (h : 3 ≤ cs.length ∧ cs.length ≤ 6) : (validC cs && allV cs.length (stepC cs)) = stoneV cs := by
  unfold stoneV
  rw [sizeC_iff.2 h, Bool.true_and, show allV cs.length (stepC cs) = (turnsC cs && opensC cs) from allV_and _ _ _, Bool.and_assoc]

theorem specStoneOk_no (w : World) (a : Option Addr) (n cap : Nat) (hm : n ≤ maxLen) (h : ¬ (3 ≤ n ∧ n ≤ 6)) :
    Calls Try.prog 90 #[.agg #[.slice a n cap]] w fun e w' => e = .returned (.bool false) ∧ Below w.heap.size w w' := by
  go_enter Try.func90, Try.ntmps90
  go_wp2_with fail
  refine (l01In36 _ _ hm).mono ?_
  rintro e w' ⟨rfl, rfl⟩
  rw [decide_eq_false h]
  go_wp2_with fail
  go_ret
  exact ⟨rfl, by repeat (first | exact Below.refl _ _ | refine Below.alloc ?_ (by simp <;> omega) _)⟩

theorem row_sliceS {w : World} {B : Nat} {v : Value} {cs : List (Int × Int)} (h : Row w B v cs) : ∃ a cap, v = .slice a cs.length cap ∧ cs.length ≤ maxLen := by
  rcases h.cases with ⟨rfl, rfl⟩ | ⟨g, cap, rfl, -, -, -, h1, h2⟩
  · exact ⟨_, _, rfl, Nat.zero_le _⟩
  · exact ⟨_, _, rfl, Nat.le_trans h1 h2⟩

/-- The contract of the model's StoneOk. -/
theorem specStoneOk (w : World) (B : Nat) (v : Value) (cs : List (Int × Int)) (hr : Row w B v cs) :
    Calls Try.prog 90 #[.agg #[v]] w fun e w' => e = .returned (.bool (stoneV cs)) ∧ Below w.heap.size w w' := by
  obtain ⟨a, cap, hv, hm⟩ := row_sliceS hr
  by_cases h : 3 ≤ cs.length ∧ cs.length ≤ 6
  · rcases hr.cases with ⟨-, rfl⟩ | ⟨g, cap', rfl, r, -⟩
    · simp at h
    · rw [← stoneV_steps h]
      exact specStoneOk_size _ _ _ _ _ cs r rfl h.1 h.2
  · rw [stoneV_no (sizeC_no.2 h), hv]
    exact specStoneOk_no _ _ _ _ hm h

end Go.Proofs.Ytbmlcfdilopmgaa

/- Stones in the laws: a stone as it comes in, its size, its copy, the comparison of stones. -/
namespace Go.Proofs.Ytbmlcfdilopmgaa
set_option maxRecDepth 100000
open Go.ChangeShapes Go.WideShapes Go.ChangeAt Go.RowKit Go.Joins Go.Deep


theorem ad1 (a : Addr) : (⟨a.block, a.off + 1, none⟩ : Addr) = a.add 1 := rfl
theorem adb (a : Addr) (i : Nat) : (a.add i).block = a.block := by unfold Addr.add; split <;> rfl

/-- Points as far as they have been copied. -/
def flatTo (cs : List (Int × Int)) (k : Nat) : List Value := flat (cs.take k) ++ List.replicate ((cs.length - k) * 2) (.int .i64 0)
theorem flatTo_zero (cs : List (Int × Int)) : flatTo cs 0 = List.replicate (cs.length * 2) (.int .i64 0) := by simp [flatTo, flat_nil]
theorem flatTo_end (cs : List (Int × Int)) : flatTo cs cs.length = flat cs := by simp [flatTo]
theorem flatTo_next (cs : List (Int × Int)) (k : Nat) (h : k < cs.length) : ((flatTo cs k).set (k * 2) (.int .i64 (pt cs k).1)).set (k * 2 + 1) (.int .i64 (pt cs k).2) = flatTo cs (k + 1) := by
  have hl : (flat (cs.take k)).length = k * 2 := by rw [flat_length, List.length_take]; omega
  unfold flatTo
  rw [show (cs.length - k) * 2 = (cs.length - (k + 1)) * 2 + 1 + 1 by omega, List.replicate_succ, List.replicate_succ]
  rw [List.set_append_right _ _ (by omega), hl, Nat.sub_self, List.set_cons_zero, List.set_append_right _ _ (by omega), hl, show k * 2 + 1 - k * 2 = 1 by omega, List.set_cons_succ, List.set_cons_zero]
  rw [List.take_succ_eq_append_getElem h, flat_append, List.append_assoc]
  have : pt cs k = cs[k] := by unfold pt; rw [List.getD_eq_getElem?_getD, List.getElem?_eq_getElem h]; rfl
  rw [this]
  rfl

theorem flatTo_at (cs : List (Int × Int)) (k : Nat) (h : k < cs.length) : (flatTo cs k)[k * 2]? = some (.int .i64 0) ∧ (flatTo cs k)[k * 2 + 1]? = some (.int .i64 0) := by
  have hl : (flat (cs.take k)).length = k * 2 := by rw [flat_length, List.length_take]; omega
  unfold flatTo
  rw [List.getElem?_append_right (by omega), List.getElem?_append_right (by omega), hl, List.getElem?_replicate, List.getElem?_replicate, if_pos (by omega), if_pos (by omega)]
  exact ⟨rfl, rfl⟩

theorem made_zero (n : Nat) : (madeCells (Value.agg #[.int .i64 0, .int .i64 0]).cells n).toList = List.replicate n (Value.int .i64 0) := by
  unfold madeCells
  rw [Array.toList_map]
  refine List.ext_getElem (by simp) fun i h1 h2 => ?_
  rw [List.getElem_map, List.getElem_replicate]
  have : i % 2 = 0 ∨ i % 2 = 1 := by omega
  simp [Value.cells]
  rcases this with h | h <;> simp [h]

theorem Try.infoPt : (Try.prog.info? 100).map (fun i => (i.zero, i.size, i.bytes)) = some (some (.agg #[.int .i64 0, .int .i64 0]), 2, 16) := by kernel_rfl


end Go.Proofs.Ytbmlcfdilopmgaa
