/- Corners, plainly: one step of their list, and which rows a solution fulfills; Lists of thrusts: whether one is in a list, of the program's library and of the model; Corners by their first row, plainly: the solutions with one first row that fulfill all rows; those of a list that are not there yet; both make the corners; Corners: the contract of the program's appendCorner; Corners: the contract of the program's appendNew; Corners: the contract of the program's cornersFrom. By program (gen_from.py); Corners: the contract of the program's CornersOf. -/
import Derived.Test.YtbmlcfdilopmgaaGThree
import Derived.Test.YtbmlcfdilopmgaaGCond
import Derived.Test.YtbmlcfdilopmgaaGFour
import Derived.Laws.StructEq
import Derived.Test.YtbmlcfdilopmgaaThreeK
import Derived.Test.YtbmlcfdilopmgaaThrustX
import Derived.Deep.CutRange
import Derived.StillTailTactics

/- Corners, plainly: one step of their list, and which rows a solution fulfills. -/
namespace Go.Proofs.Ytbmlcfdilopmgaa
set_option maxRecDepth 100000

/-- The corners, with the solution of three rows if it is one and not there yet. -/
def coAdd (rs l : List Cd) (p q r : Cd) : List Cd := if soB p q r && (!decide (soT p q r ∈ l) && coH rs (soT p q r)) then l ++ [soT p q r] else l
theorem coAdd_step (rs l : List Cd) (i k m : Nat) : coAdd rs l (cd rs i) (cd rs k) (cd rs m) = coStep rs l i k m := rfl
theorem coAdd_no {rs l : List Cd} {p q r : Cd} (h : soB p q r = false) : coAdd rs l p q r = l := by unfold coAdd; rw [h]; rfl
theorem coAdd_ful {rs l : List Cd} {p q r : Cd} (h : coH rs (soT p q r) = false) : coAdd rs l p q r = l := by unfold coAdd; rw [h]; simp
theorem coAdd_in {rs l : List Cd} {p q r : Cd} (h : decide (soT p q r ∈ l) = true) : coAdd rs l p q r = l := by unfold coAdd; rw [h]; simp
theorem coAdd_yes {rs l : List Cd} {p q r : Cd} (h : soB p q r = true) (hn : decide (soT p q r ∈ l) = false) (hf : coH rs (soT p q r) = true) : coAdd rs l p q r = l ++ [soT p q r] := by unfold coAdd; rw [h, hn, hf]; rfl
/-- Of valid rows, as many as may be, FulfillsAll says what the products say. -/
theorem coOk_ful {rs : List Cd} (hok : coOk rs = true) {p q r : Cd} (h : soB p q r = true) : fulAll (soT p q r).1 (soT p q r).2.1 (soT p q r).2.2.1 (soT p q r).2.2.2 rs = coH rs (soT p q r) := by
  unfold coOk at hok
  rw [Bool.and_eq_true] at hok
  have hn := inR_iff.1 hok.2
  rw [fulAll_yes (inR_iff.2 (by omega)) (soB_okT h), Bool.eq_iff_iff]
  unfold coH
  rw [allV_iff, allV_iff]
  refine ⟨fun hh x hx => ?_, fun hh x hx => ?_⟩
  · have := hh x hx
    unfold cdFAt cdF at this
    rw [Bool.and_eq_true] at this
    exact this.2
  · unfold cdFAt cdF
    rw [Bool.and_eq_true]
    exact ⟨allV_iff.1 hok.1 x hx, hh x hx⟩
end Go.Proofs.Ytbmlcfdilopmgaa

/- Lists of thrusts: whether one is in a list, of the program's library and of the model. -/
namespace Go.Proofs.Ytbmlcfdilopmgaa
set_option maxRecDepth 100000
open Go.ChangeShapes Go.WideShapes Go.ChangeAt Go.RowKit

/-- A thrust is none of the first k. -/
def NotTo (ts : List Cd) (t : Cd) (k : Nat) : Prop := ∀ j, j < k → cd ts j ≠ t
theorem notTo_zero (ts : List Cd) (t : Cd) : NotTo ts t 0 := fun j hj => absurd hj (Nat.not_lt_zero j)
theorem notTo_next {ts : List Cd} {t : Cd} {k : Nat} (h : NotTo ts t k) (hn : cd ts k ≠ t) : NotTo ts t (k + 1) := fun j hj => if e : j = k then by rw [e]; exact hn else h j (by omega)
theorem notTo_end {ts : List Cd} {t : Cd} (h : NotTo ts t ts.length) : decide (t ∈ ts) = false := by
  rw [decide_eq_false_iff_not]
  intro hm
  obtain ⟨j, hj, e⟩ := List.mem_iff_getElem.1 hm
  exact h j hj ((cd_get hj).trans e)
theorem at_in {ts : List Cd} {t : Cd} {k : Nat} (hk : k < ts.length) (h : cd ts k = t) : decide (t ∈ ts) = true := by
  rw [decide_eq_true_iff, ← h, cd_get hk]
  exact List.getElem_mem hk
theorem cd_ne {ts : List Cd} {k : Nat} {h v m d x y z u : Int} (e : cd ts k = (x, y, z, u)) (hn : ¬ (x = h ∧ y = v ∧ z = m ∧ u = d)) : cd ts k ≠ (h, v, m, d) := by
  rw [e]; intro he; simp only [Prod.mk.injEq] at he; exact hn he


set_option maxHeartbeats 2000000 in
theorem specHas (w : World) (B : Nat) (a : Option Addr) (n cap : Nat) (h v m d : Int) (ts : List Cd) (hr : Ths w B a n cap ts) :
    Calls Try.prog 75 #[.slice a n cap, .agg #[.int .i64 h, .int .i64 v, .int .i64 m, .int .i64 d]] w fun e w' => e = .returned (.bool (decide ((h, v, m, d) ∈ ts))) ∧ Below w.heap.size w w' := by
  obtain ⟨hnc, hcm⟩ := hr.cap
  unfold maxLen at hcm
  have hln := hr.2
  have HB0 := Lib.hid (cd_al w (.cells #[.int .i64 h, .int .i64 v, .int .i64 m, .int .i64 d] 31))
  have HT0 := Lib.hid (tbox_alloc w h v m d)
  have HR := Lib.hid hr
  have HN := Lib.hid hln
  clear hr hln
  go_enter Try.func75, Try.ntmps75
  go_wp2_with fail
  go_loopw [5] (fun t wr => ∃ k : Nat, k ≤ n ∧ t = .int .i64 k ∧ NotTo ts (h, v, m, d) k ∧ Below w.heap.size w wr ∧ TBox wr w.heap.size h v m d)
    (fun t _ => n - (intOf t).toNat)
  case atStart => exact ⟨0, Nat.zero_le _, rfl, notTo_zero _ _, HB0.out, HT0.out⟩
  case round =>
    clear HB0 HT0
    obtain ⟨k, hk, rfl, hall, hbw, htb⟩ := hrel
    have HB := Lib.hid hbw
    have HA := Lib.hid hall
    have HT := Lib.hid htb
    clear hall
    by_cases hlt : k < n
    · have hlN := HN.out
      obtain ⟨g, rfl, -, a0, a1, a2, a3⟩ := (HR.out.below hbw).at k hlt
      obtain ⟨⟨x, y, z, u⟩, hq⟩ : ∃ q, cd ts k = q := ⟨_, rfl⟩
      rw [hq] at a0 a1 a2 a3
      dsimp only at a0 a1 a2 a3
      have HQ := Lib.hid hq
      have HNX := Lib.hid (fun hn => notTo_next (ts := ts) (t := (h, v, m, d)) (k := k) HA.out (cd_ne hq hn))
      have HYS := Lib.hid (fun (e : (x, y, z, u) = (h, v, m, d)) => at_in (ts := ts) (t := (h, v, m, d)) (k := k) (by omega) (hq.trans e))
      obtain ⟨t0, t1, t2, t3⟩ := htb
      clear hbw hq hlN
      by_cases e0 : x = h
      · by_cases e1 : y = v
        · by_cases e2 : z = m
          · by_cases e3 : u = d
            · have HY := Lib.hid (HYS.out (by rw [e0, e1, e2, e3]))
              subst e0 e1 e2 e3
              go_wp2_with fail
              go_quiet (fail)
              go_wp2_with fail
              go_ret
              exact ⟨ret_bool HY.out.symm, below_drewN HB.out _⟩
            · have HX := Lib.hid (HNX.out (by omega))
              have f3 : (u == d) = false := by simpa using e3
              go_wp2_with fail
              go_quiet (fail)
              go_wp2_with fail
              go_roundw
              case rel => exact ⟨k + 1, by omega, by go_num, HX.out, below_drewN HB.out _, HT.out⟩
              case measure => simp [intOf]; omega
          · have HX := Lib.hid (HNX.out (by omega))
            have f2 : (z == m) = false := by simpa using e2
            go_wp2_with fail
            go_quiet (fail)
            go_wp2_with fail
            go_roundw
            case rel => exact ⟨k + 1, by omega, by go_num, HX.out, below_drewN HB.out _, HT.out⟩
            case measure => simp [intOf]; omega
        · have HX := Lib.hid (HNX.out (by omega))
          have f1 : (y == v) = false := by simpa using e1
          go_wp2_with fail
          go_quiet (fail)
          go_wp2_with fail
          go_roundw
          case rel => exact ⟨k + 1, by omega, by go_num, HX.out, below_drewN HB.out _, HT.out⟩
          case measure => simp [intOf]; omega
      · have HX := Lib.hid (HNX.out (by omega))
        have f0 : (x == h) = false := by simpa using e0
        go_wp2_with fail
        go_quiet (fail)
        go_wp2_with fail
        go_roundw
        case rel => exact ⟨k + 1, by omega, by go_num, HX.out, below_drewN HB.out _, HT.out⟩
        case measure => simp [intOf]; omega
    · obtain rfl : k = n := by omega
      have HE := Lib.hid (notTo_end (ts := ts) (t := (h, v, m, d)) (by rw [HN.out]; exact HA.out))
      clear hbw htb
      go_wp2_with fail
      go_ret
      exact ⟨ret_bool HE.out.symm, HB.out⟩
end Go.Proofs.Ytbmlcfdilopmgaa

/- Corners by their first row, plainly: the solutions with one first row that fulfill all rows; those of a list that are not there yet; both make the corners. -/
namespace Go.Proofs.Ytbmlcfdilopmgaa
set_option maxRecDepth 100000

/-- The solution of three rows, behind a list, if there is one and it fulfills all rows. -/
def cfAdd (rs l : List Cd) (p q r : Cd) : List Cd := if soB p q r && fulAll (soT p q r).1 (soT p q r).2.1 (soT p q r).2.2.1 (soT p q r).2.2.2 rs then l ++ [soT p q r] else l
theorem cfAdd_no {rs l : List Cd} {p q r : Cd} (h : soB p q r = false) : cfAdd rs l p q r = l := by unfold cfAdd; rw [h]; rfl
theorem cfAdd_ful {rs l : List Cd} {p q r : Cd} (h : fulAll (soT p q r).1 (soT p q r).2.1 (soT p q r).2.2.1 (soT p q r).2.2.2 rs = false) : cfAdd rs l p q r = l := by unfold cfAdd; rw [h, Bool.and_false]; rfl
theorem cfAdd_yes {rs l : List Cd} {p q r : Cd} (h : soB p q r = true) (hf : fulAll (soT p q r).1 (soT p q r).2.1 (soT p q r).2.2.1 (soT p q r).2.2.2 rs = true) : cfAdd rs l p q r = l ++ [soT p q r] := by unfold cfAdd; rw [h, hf]; rfl
theorem cfAdd_len (rs l : List Cd) (p q r : Cd) : (cfAdd rs l p q r).length ≤ l.length + 1 := by
  unfold cfAdd
  split
  · rw [List.length_append]; simp
  · omega
def cfM (rs : List Cd) (i k : Nat) (l : List Cd) : Nat → List Cd
  | 0 => l
  | m + 1 => if k < m then cfAdd rs (cfM rs i k l m) (cd rs i) (cd rs k) (cd rs m) else cfM rs i k l m
def cfK (rs : List Cd) (i : Nat) : Nat → List Cd
  | 0 => []
  | k + 1 => if i < k then cfM rs i k (cfK rs i k) rs.length else cfK rs i k
/-- What cornersFrom answers. -/
def cfV (rs : List Cd) (i : Nat) : List Cd := cfK rs i rs.length
theorem cfM_low (rs : List Cd) (i k : Nat) (l : List Cd) (n : Nat) (h : n ≤ k + 1) : cfM rs i k l n = l := by
  induction n with
  | zero => rfl
  | succ n ih => show (if _ then _ else _) = _; rw [if_neg (by omega)]; exact ih (by omega)
theorem cfM_next (rs : List Cd) (i k : Nat) (l : List Cd) (m : Nat) (h : k < m) : cfM rs i k l (m + 1) = cfAdd rs (cfM rs i k l m) (cd rs i) (cd rs k) (cd rs m) := by show (if _ then _ else _) = _; rw [if_pos h]
theorem cfK_low (rs : List Cd) (i : Nat) (n : Nat) (h : n ≤ i + 1) : cfK rs i n = [] := by
  induction n with
  | zero => rfl
  | succ n ih => show (if _ then _ else _) = _; rw [if_neg (by omega)]; exact ih (by omega)
theorem cfK_next (rs : List Cd) (i : Nat) (k : Nat) (h : i < k) : cfK rs i (k + 1) = cfM rs i k (cfK rs i k) rs.length := by show (if _ then _ else _) = _; rw [if_pos h]
theorem cfM_len (rs l : List Cd) (i k n : Nat) : (cfM rs i k l n).length ≤ l.length + n := by
  induction n with
  | zero => exact Nat.le_refl _
  | succ n ih =>
    show (if k < n then _ else _ : List Cd).length ≤ _
    split
    · have := cfAdd_len rs (cfM rs i k l n) (cd rs i) (cd rs k) (cd rs n); omega
    · omega
theorem cfK_len (rs : List Cd) (i n : Nat) : (cfK rs i n).length ≤ n * rs.length := by
  induction n with
  | zero => simp [cfK]
  | succ n ih =>
    rw [Nat.succ_mul]
    show (if i < n then _ else _ : List Cd).length ≤ _
    split
    · have := cfM_len rs (cfK rs i n) i n rs.length; omega
    · omega
theorem cfV_len (rs : List Cd) (i : Nat) : (cfV rs i).length ≤ rs.length * rs.length := cfK_len rs i _

/-- A thrust behind a list, if it is not there yet; all of a list. -/
def anAdd (l : List Cd) (t : Cd) : List Cd := if decide (t ∈ l) then l else l ++ [t]
theorem anAdd_in {l : List Cd} {t : Cd} (h : decide (t ∈ l) = true) : anAdd l t = l := by unfold anAdd; rw [h]; rfl
theorem anAdd_new {l : List Cd} {t : Cd} (h : decide (t ∈ l) = false) : anAdd l t = l ++ [t] := by unfold anAdd; rw [h]; rfl
def anTo (l os : List Cd) : Nat → List Cd
  | 0 => l
  | k + 1 => anAdd (anTo l os k) (cd os k)
/-- What appendNew answers. -/
def anV (l os : List Cd) : List Cd := anTo l os os.length
theorem anAdd_len (l : List Cd) (t : Cd) : (anAdd l t).length ≤ l.length + 1 := by
  unfold anAdd
  split
  · omega
  · rw [List.length_append]; simp
theorem anTo_len (l os : List Cd) (n : Nat) : (anTo l os n).length ≤ l.length + n := by
  induction n with
  | zero => exact Nat.le_refl _
  | succ n ih => have := anAdd_len (anTo l os n) (cd os n); show (anAdd _ _).length ≤ _; omega
theorem anTo_append (l os : List Cd) (t : Cd) (n : Nat) (hn : n ≤ os.length) : anTo l (os ++ [t]) n = anTo l os n := by
  induction n with
  | zero => rfl
  | succ n ih =>
    show anAdd _ _ = anAdd _ _
    rw [ih (by omega)]
    congr 1
    unfold cd
    rw [List.getD_eq_getElem?_getD, List.getD_eq_getElem?_getD, List.getElem?_append_left (by omega)]
theorem anV_append (l os : List Cd) (t : Cd) : anV l (os ++ [t]) = anAdd (anV l os) t := by
  unfold anV
  rw [List.length_append]
  show anAdd (anTo l (os ++ [t]) os.length) (cd (os ++ [t]) os.length) = _
  rw [anTo_append l os t _ (Nat.le_refl _)]
  congr 1
  unfold cd
  rw [List.getD_eq_getElem?_getD, List.getElem?_append_right (Nat.le_refl _)]
  simp

theorem cf_step {rs : List Cd} (hok : coOk rs = true) (l o : List Cd) (i k m : Nat) : coStep rs (anV l o) i k m = anV l (cfAdd rs o (cd rs i) (cd rs k) (cd rs m)) := by
  rw [← coAdd_step]
  cases h : soB (cd rs i) (cd rs k) (cd rs m)
  · rw [coAdd_no h, cfAdd_no h]
  · have hf := coOk_ful hok h
    cases hc : coH rs (soT (cd rs i) (cd rs k) (cd rs m))
    · rw [coAdd_ful hc, cfAdd_ful (hf.trans hc)]
    · rw [cfAdd_yes h (hf.trans hc), anV_append]
      cases hd : decide (soT (cd rs i) (cd rs k) (cd rs m) ∈ anV l o)
      · rw [coAdd_yes h hd hc, anAdd_new hd]
      · rw [coAdd_in hd, anAdd_in hd]
theorem cf_M {rs : List Cd} (hok : coOk rs = true) (l o : List Cd) (i k n : Nat) : coM rs i k (anV l o) n = anV l (cfM rs i k o n) := by
  induction n with
  | zero => rfl
  | succ n ih =>
    by_cases h : k < n
    · rw [coM_next _ _ _ _ _ h, cfM_next _ _ _ _ _ h, ih, cf_step hok]
    · rw [coM_low _ _ _ _ _ (by omega), cfM_low _ _ _ _ _ (by omega)]
theorem cf_K {rs : List Cd} (hok : coOk rs = true) (l : List Cd) (i n : Nat) : coK rs i l n = anV l (cfK rs i n) := by
  induction n with
  | zero => rfl
  | succ n ih =>
    by_cases h : i < n
    · rw [coK_next _ _ _ _ h, cfK_next _ _ _ h, ih, cf_M hok]
    · rw [coK_low _ _ _ _ (by omega), cfK_low _ _ _ (by omega)]; rfl
/-- One first row more. -/
theorem cf_I {rs : List Cd} (hok : coOk rs = true) (i : Nat) : coI rs (i + 1) = anV (coI rs i) (cfV rs i) := by rw [coI_next, cf_K hok]; rfl
end Go.Proofs.Ytbmlcfdilopmgaa

/- Corners: the contract of the program's appendCorner. -/
namespace Go.Proofs.Ytbmlcfdilopmgaa
set_option maxRecDepth 100000
open Go.ChangeShapes Go.WideShapes Go.ChangeAt Go.RowKit

theorem g_of_below {w w' : World} (h : Below w.heap.size w w') (r : Option Nat) : w.grownBy w' r := ⟨h.os, h.tape, h.output, h.size, fun k hk _ => h.block k hk⟩
theorem g_trans {a b c : World} {r : Option Nat} (h : a.grownBy b r) (k : b.grownBy c r) : a.grownBy c r :=
  ⟨k.os.trans h.os, k.tape.trans h.tape, k.output.trans h.output, Nat.le_trans h.size k.size, fun j hj hne => (k.block j (Nat.lt_of_lt_of_le hj h.size) hne).trans (h.block j hj hne)⟩
theorem Try.infoTr : (Try.prog.info? 31).map (fun i => (i.zero, i.size, i.bytes)) = some (some (.agg #[.int .i64 0, .int .i64 0, .int .i64 0, .int .i64 0]), 4, 32) := by kernel_rfl
/-- A value's own block is another one, or one that was made since. -/
def OwnNew (w : World) (v v' : Value) : Prop := v'.ownBlock = v.ownBlock ∨ ∃ g, v'.ownBlock = some g ∧ w.heap.size ≤ g
/-- The list of corners as it is handed back. -/
def CoAns (w : World) (B : Nat) (v : Value) (l : List Cd) (e : Ending) (w' : World) : Prop := ∃ v', e = .returned v' ∧ ThRow w' B v' l ∧ w.grownBy w' v.ownBlock ∧ OwnNew w v v'

end Go.Proofs.Ytbmlcfdilopmgaa

/- Corners: the contract of the program's appendNew. -/
namespace Go.Proofs.Ytbmlcfdilopmgaa
set_option maxRecDepth 100000
open Go.ChangeShapes Go.WideShapes Go.ChangeAt Go.RowKit

theorem own_lt {w : World} {B n cap : Nat} {a : Option Addr} {l : List Cd} (h : Ths w B a n cap l) {g : Nat} (e : (Value.slice a n cap).ownBlock = some g) : B ≤ g ∧ g < w.heap.size := World.ownsRow.lt h.1 g e
theorem ownNew_trans {w x : World} {v v' v'' : Value} (h : OwnNew w v v') (k : OwnNew x v' v'') (hs : w.heap.size ≤ x.heap.size) : OwnNew w v v'' := by
  rcases k with e | ⟨g, e, hg⟩
  · rcases h with e' | ⟨g', e', hg'⟩
    · exact .inl (e.trans e')
    · exact .inr ⟨g', e.trans e', hg'⟩
  · exact .inr ⟨g, e, Nat.le_trans hs hg⟩
/-- What grew by a value's own block and by what is newer has grown by the elder block alone. -/
theorem g_own {w x y : World} {v v' : Value} (h : w.grownBy x v.ownBlock) (k : x.grownBy y v'.ownBlock) (hn : OwnNew w v v') : w.grownBy y v.ownBlock :=
  ⟨k.os.trans h.os, k.tape.trans h.tape, k.output.trans h.output, Nat.le_trans h.size k.size, fun j hj hne => (k.block j (Nat.lt_of_lt_of_le hj h.size) (fun e => by
    rcases hn with e' | ⟨g, e', hg⟩
    · exact hne (e.trans e')
    · rw [e'] at e; simp only [Option.some.injEq] at e; omega)).trans (h.block j hj hne)⟩

theorem coOk_of {rs : List Cd} {n : Nat} (h : rs.length = n) (hn : inR (n : Int) 3 20 = true) (hc : cdsOk rs = true) : coOk rs = true := by
  unfold coOk; rw [h, hn, Bool.and_true, ← h]; exact hc
theorem coOk_n {rs : List Cd} {n : Nat} (h : rs.length = n) (hn : inR (n : Int) 3 20 = false) : coOk rs = false := by
  unfold coOk; rw [h, hn, Bool.and_false]
theorem coOk_c {rs : List Cd} (hc : cdsOk rs = false) : coOk rs = false := by
  unfold coOk; rw [show allV rs.length (fun x => okR (cd rs x)) = false from hc]; rfl
theorem thsOf {w : World} {B : Nat} {v : Value} {l : List Cd} (h : ThRow w B v l) : ∃ a n cap, v = .slice a n cap ∧ Ths w B a n cap l := by
  obtain ⟨a, cap, rfl, -, -⟩ := throw_slice h
  exact ⟨a, l.length, cap, rfl, h, rfl⟩
theorem ths_ne {w : World} {B n cap : Nat} {a : Option Addr} {l : List Cd} (h : Ths w B a n cap l) : some w.heap.size ≠ (Value.slice a n cap).ownBlock := fun he => by
  have := (World.ownsRow.lt h.1 _ he.symm).2
  omega
theorem rbox_alloc (w : World) (h v m d : Int) : TBox (w.alloc (.cells #[.int .i64 h, .int .i64 v, .int .i64 m, .int .i64 d] 104)) w.heap.size h v m d := by
  refine ⟨?_, ?_, ?_, ?_⟩ <;> go_simp
/-- What is kept behind a step: below the base all, and a box that is not the list's. -/
theorem below_rowed {w x y : World} {B : Nat} {row : Option Nat} (h : Below B w x) (hg : x.grownBy y row) (hB : B ≤ x.heap.size) (hr : ∀ j, row = some j → B ≤ j) : Below B w y :=
  h.grown hg hB (fun j hj => hr j hj)

end Go.Proofs.Ytbmlcfdilopmgaa

/- Corners: the contract of the program's cornersFrom. By program (gen_from.py). -/
namespace Go.Proofs.Ytbmlcfdilopmgaa
set_option maxRecDepth 100000
open Go.ChangeShapes Go.WideShapes Go.ChangeAt Go.RowKit

end Go.Proofs.Ytbmlcfdilopmgaa

/- Corners: the contract of the program's CornersOf. -/
namespace Go.Proofs.Ytbmlcfdilopmgaa
set_option maxRecDepth 100000
open Go.ChangeShapes Go.WideShapes Go.ChangeAt Go.RowKit

end Go.Proofs.Ytbmlcfdilopmgaa
