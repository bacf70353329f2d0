/- The contracts of the program's tests on stones: everyCorner with each of its closures, StoneOk, IsInStone. -/
import Derived.Test.YtoholdpobkgffaaStoneP
import Derived.Test.YtoholdpobkgffaaPtI
import Derived.Shelf.Abstract
namespace Go.Proofs.Ytoholdpobkgffaa
set_option maxRecDepth 100000
open Go.ChangeShapes Go.WideShapes Go.ChangeAt Go.RowKit

set_option maxHeartbeats 400000 in
theorem everyCorner (w : World) (g cap n fk : Nat) (caps : Array Value) (f : Nat → Bool) (h6 : n ≤ 6) (he : ∀ args w, (callFunc fk args).run Try.prog w = .ok (.enter fk args) w)
    (hf : ∀ (w' : World) (i : Nat), Below w.heap.size w w' → i < n → Calls Try.prog fk (#[.int .i64 i] ++ caps) w' fun e w'' => e = .returned (.bool (f i)) ∧ Below w'.heap.size w' w'') :
    Calls Try.prog 37 #[.agg #[.slice (some ⟨g, 0, none⟩) n cap], .func (.func fk) #[] caps] w
      fun e w' => e = .returned (.bool (allV n f)) ∧ Below w.heap.size w w' := by
  have HF := Lib.hid hf
  clear hf
  go_enter Try.func37, Try.ntmps37
  go_wp2_with fail
  have hb0 := Lib.hid ((Below.refl w.heap.size w).alloc (by simp <;> omega) (.cells #[.slice (some ⟨g, 0, none⟩) n cap] 51))
  go_loopw [9, 5] (fun t _ wr => ∃ k : Nat, k ≤ n ∧ t = .int .i64 k ∧ Below w.heap.size w wr ∧ allFrom n k f = allV n f)
    (fun t _ _ => n - (intOf t).toNat)
  case atStart => exact ⟨0, Nat.zero_le _, rfl, hb0.out, rfl⟩
  case round =>
    obtain ⟨k, hk, rfl, hbw, hall⟩ := hrel
    have HB := Lib.hid hbw
    have HA := Lib.hid hall
    clear hbw hall
    by_cases hlt : k < n
    · cases hfk : f k
      · go_wp2_with fail
        refine (HF.out wr k HB.out hlt).mono ?_
        rintro e w1 ⟨rfl, hb1⟩
        rw [hfk]
        go_wp2_with fail
        go_ret
        exact ⟨ret_bool (by rw [← HA.out, allFrom_no hlt hfk]), HB.out.trans (hb1.mono HB.out.size)⟩
      · go_wp2_with fail
        refine (HF.out wr k HB.out hlt).mono ?_
        rintro e w1 ⟨rfl, hb1⟩
        rw [hfk]
        have HB1 := Lib.hid (HB.out.trans (hb1.mono HB.out.size))
        have HF1 := Lib.hid hfk
        clear hb1 hfk
        go_wp2_with fail
        go_roundw
        case rel => exact ⟨k + 1, by omega, by go_num, HB1.out, by rw [← HA.out, allFrom_yes hlt HF1.out]⟩
        case measure => simp [intOf]; omega
    · obtain rfl : k = n := by omega
      go_wp2_with fail
      go_ret
      exact ⟨ret_bool (by rw [← HA.out, allFrom_end]), HB.out⟩

/-- The contract of corner, at a counted index. -/
theorem cornerAt (w : World) (B g cap n : Nat) (cs : List (Int × Int)) (i : Nat) (z : Int) (hr : RowAt w B g cap cs) (hn : cs.length = n) (h0 : 0 < n) (h6 : n ≤ 6) (hi : i ≤ 20) (hz : z = i) :
    Calls Try.prog 36 #[.agg #[.slice (some ⟨g, 0, none⟩) n cap], .int .i64 z] w
      fun e w' => e = .returned (.agg #[.int .i64 (cn cs i).1, .int .i64 (cn cs i).2]) ∧ Below w.heap.size w w' := by
  subst hn hz
  exact corner w B g cap cs i hr h0 h6 hi

set_option maxHeartbeats 400000 in
theorem closeOk (w : World) (B g cap n bs : Nat) (cs : List (Int × Int)) (i : Nat) (hr : RowAt w B g cap cs) (hn : cs.length = n) (h0 : 0 < n) (h6 : n ≤ 6) (hi : i ≤ 10) (hs : w.cell? ⟨bs, 0, none⟩ = some (.slice (some ⟨g, 0, none⟩) n cap)) :
    Calls Try.prog 34 #[.int .i64 i, .pointer (some ⟨bs, 0, none⟩)] w fun e w' => e = .returned (.bool (okC cs i)) ∧ Below w.heap.size w w' := by
  have HR := Lib.hid hr
  have hbs := cell_block_lt hs
  clear hr
  go_enter Try.func34, Try.ntmps34
  go_wp2_with fail
  refine (cornerAt _ _ _ _ _ cs i _ HR.out hn h0 h6 (by omega) rfl).mono ?_
  rintro e w1 ⟨rfl, hb1⟩
  go_wp2_with fail
  refine (implPointOk _ _ _).mono ?_
  rintro e w2 ⟨rfl, hb2⟩
  go_wp2_with fail
  go_ret
  exact ⟨rfl, hb1.trans (hb2.mono hb1.size)⟩

set_option maxHeartbeats 400000 in
theorem closeTurns (w : World) (B g cap n bs : Nat) (cs : List (Int × Int)) (i : Nat) (hr : RowAt w B g cap cs) (hn : cs.length = n) (h0 : 0 < n) (h6 : n ≤ 6) (hi : i ≤ 10) (hs : w.cell? ⟨bs, 0, none⟩ = some (.slice (some ⟨g, 0, none⟩) n cap)) :
    Calls Try.prog 40 #[.int .i64 i, .pointer (some ⟨bs, 0, none⟩)] w fun e w' => e = .returned (.bool (turnC cs i)) ∧ Below w.heap.size w w' := by
  have HR := Lib.hid hr
  have hbs := cell_block_lt hs
  clear hr
  go_enter Try.func40, Try.ntmps40
  go_wp2_with fail
  have hn1 := Since.nonempty w
  have s0 := fun (x : Since w) => (x.cell bs 0 hbs).trans hs
  refine wp_region_since (by kernel_rfl) (by kernel_rfl) ?_
  repeat (go_big_quiet_step (first
    | (go_at_call 36; first | exact Since.call (cornerAt _ _ _ _ _ cs i _ (HR.out.below (Since.below _)) hn h0 h6 (by omega) (by omega)) | exact Since.call (cornerAt _ _ _ _ _ cs (i + 1) _ (HR.out.below (Since.below _)) hn h0 h6 (by omega) (by omega)) | exact Since.call (cornerAt _ _ _ _ _ cs (i + 2) _ (HR.out.below (Since.below _)) hn h0 h6 (by omega) (by omega)))
    | (go_at_call 22; exact Since.call (implSideOf _ _ _ _ _ _ _))))
  refine wpQuiet_nil ?_
  rintro w2 ⟨⟨_, hb2⟩, rfl⟩
  go_wp2_with fail
  go_ret
  exact ⟨rfl, hb2⟩
set_option maxHeartbeats 400000 in
theorem closeOpens (w : World) (B g cap n bs : Nat) (cs : List (Int × Int)) (i : Nat) (hr : RowAt w B g cap cs) (hn : cs.length = n) (h0 : 0 < n) (h6 : n ≤ 6) (hi : i ≤ 10) (hs : w.cell? ⟨bs, 0, none⟩ = some (.slice (some ⟨g, 0, none⟩) n cap)) :
    Calls Try.prog 41 #[.int .i64 i, .pointer (some ⟨bs, 0, none⟩)] w fun e w' => e = .returned (.bool (openC cs i)) ∧ Below w.heap.size w w' := by
  have HR := Lib.hid hr
  have hbs := cell_block_lt hs
  clear hr
  go_enter Try.func41, Try.ntmps41
  go_wp2_with fail
  have hn1 := Since.nonempty w
  have s0 := fun (x : Since w) => (x.cell bs 0 hbs).trans hs
  refine wp_region_since (by kernel_rfl) (by kernel_rfl) ?_
  repeat (go_big_quiet_step (first
    | (go_at_call_of 36 (Value.int .i64 0); exact Since.call (cornerAt _ _ _ _ _ cs 0 _ (HR.out.below (Since.below _)) hn h0 h6 (by omega) (by omega)))
    | (go_at_call 36; first | exact Since.call (cornerAt _ _ _ _ _ cs i _ (HR.out.below (Since.below _)) hn h0 h6 (by omega) (by omega)) | exact Since.call (cornerAt _ _ _ _ _ cs (i + 1) _ (HR.out.below (Since.below _)) hn h0 h6 (by omega) (by omega)))
    | (go_at_call 22; exact Since.call (implSideOf _ _ _ _ _ _ _))))
  refine wpQuiet_nil ?_
  rintro w2 ⟨⟨_, hb2⟩, rfl⟩
  go_wp2_with fail
  go_ret
  exact ⟨rfl, hb2⟩

set_option maxHeartbeats 400000 in
theorem turnsLeft (w : World) (B g cap n : Nat) (cs : List (Int × Int)) (hr : RowAt w B g cap cs) (hn : cs.length = n) (h0 : 0 < n) (h6 : n ≤ 6) :
    Calls Try.prog 38 #[.agg #[.slice (some ⟨g, 0, none⟩) n cap]] w fun e w' => e = .returned (.bool (turnsC cs)) ∧ Below w.heap.size w w' := by
  have he : ∀ args w, (callFunc 40 args).run Try.prog w = .ok (.enter 40 args) w := enters_of Try.func40 (by kernel_rfl) rfl
  have HE := Lib.hid he
  have HR := Lib.hid hr
  clear hr he
  go_enter Try.func38, Try.ntmps38
  go_wp2_with fail
  have hb0 := (Below.refl w.heap.size w).alloc (Nat.le_refl _) (.cells #[.slice (some ⟨g, 0, none⟩) n cap] 51)
  have hs : (w.alloc (.cells #[.slice (some ⟨g, 0, none⟩) n cap] 51)).cell? ⟨w.heap.size, 0, none⟩ = some (.slice (some ⟨g, 0, none⟩) n cap) := by go_simp
  refine (everyCorner _ _ _ _ _ _ (turnC cs) h6 HE.out (fun w' i hb hi => ?_)).mono ?_
  · exact closeTurns _ B _ _ _ _ cs i ((HR.out.below hb0).below hb) hn h0 h6 (by omega) ((hb.cell (p := ⟨w.heap.size, 0, none⟩) (by simp)).trans hs)
  rintro e w1 ⟨rfl, hb1⟩
  go_wp2_with fail
  go_ret
  exact ⟨ret_bool (by unfold turnsC; rw [hn]), hb0.trans (hb1.mono (by simp))⟩

set_option maxHeartbeats 400000 in
theorem opensLeft (w : World) (B g cap n : Nat) (cs : List (Int × Int)) (hr : RowAt w B g cap cs) (hn : cs.length = n) (h0 : 0 < n) (h6 : n ≤ 6) :
    Calls Try.prog 39 #[.agg #[.slice (some ⟨g, 0, none⟩) n cap]] w fun e w' => e = .returned (.bool (opensC cs)) ∧ Below w.heap.size w w' := by
  have he : ∀ args w, (callFunc 41 args).run Try.prog w = .ok (.enter 41 args) w := enters_of Try.func41 (by kernel_rfl) rfl
  have HE := Lib.hid he
  have HR := Lib.hid hr
  clear hr he
  go_enter Try.func39, Try.ntmps39
  go_wp2_with fail
  have hb0 := (Below.refl w.heap.size w).alloc (Nat.le_refl _) (.cells #[.slice (some ⟨g, 0, none⟩) n cap] 51)
  have hs : (w.alloc (.cells #[.slice (some ⟨g, 0, none⟩) n cap] 51)).cell? ⟨w.heap.size, 0, none⟩ = some (.slice (some ⟨g, 0, none⟩) n cap) := by go_simp
  refine (everyCorner _ _ _ _ _ _ (openC cs) h6 HE.out (fun w' i hb hi => ?_)).mono ?_
  · exact closeOpens _ B _ _ _ _ cs i ((HR.out.below hb0).below hb) hn h0 h6 (by omega) ((hb.cell (p := ⟨w.heap.size, 0, none⟩) (by simp)).trans hs)
  rintro e w1 ⟨rfl, hb1⟩
  go_wp2_with fail
  go_ret
  exact ⟨ret_bool (by unfold opensC; rw [hn]), hb0.trans (hb1.mono (by simp))⟩

theorem row_slice {w : World} {B : Nat} {v : Value} {cs : List (Int × Int)} (h : Row w B v cs) : ∃ a cap, v = .slice a cs.length cap := by
  rcases h.cases with ⟨rfl, rfl⟩ | ⟨g, cap, rfl, -⟩ <;> exact ⟨_, _, rfl⟩

theorem stoneOk_small (w : World) (a : Option Addr) (n cap : Nat) (h : n < 3) :
    Calls Try.prog 32 #[.agg #[.slice a n cap]] w fun e w' => e = .returned (.bool false) ∧ Below w.heap.size w w' := by
  go_enter Try.func32, Try.ntmps32
  go_wp2_with fail
  go_ret
  exact ⟨rfl, by repeat (first | exact Below.refl _ _ | refine Below.alloc ?_ (by simp <;> omega) _)⟩

theorem stoneOk_large (w : World) (a : Option Addr) (n cap : Nat) (h : 6 < n) (hm : n ≤ maxLen) :
    Calls Try.prog 32 #[.agg #[.slice a n cap]] w fun e w' => e = .returned (.bool false) ∧ Below w.heap.size w w' := by
  unfold maxLen at hm
  go_enter Try.func32, Try.ntmps32
  go_wp2_with fail
  go_ret
  exact ⟨rfl, by repeat (first | exact Below.refl _ _ | refine Below.alloc ?_ (by simp <;> omega) _)⟩

set_option maxHeartbeats 400000 in
theorem stoneOk_size (w : World) (B g cap n : Nat) (cs : List (Int × Int)) (hr : RowAt w B g cap cs) (hn : cs.length = n) (h3 : 3 ≤ n) (h6 : n ≤ 6) :
    Calls Try.prog 32 #[.agg #[.slice (some ⟨g, 0, none⟩) n cap]] w fun e w' => e = .returned (.bool (validC cs && turnsC cs && opensC cs)) ∧ Below w.heap.size w w' := by
  have he : ∀ args w, (callFunc 34 args).run Try.prog w = .ok (.enter 34 args) w := enters_of Try.func34 (by kernel_rfl) rfl
  have HE := Lib.hid he
  have HR := Lib.hid hr
  clear hr he
  have hb0 := (Below.refl w.heap.size w).alloc (Nat.le_refl _) (.cells #[.slice (some ⟨g, 0, none⟩) n cap] 51)
  have hs : (w.alloc (.cells #[.slice (some ⟨g, 0, none⟩) n cap] 51)).cell? ⟨w.heap.size, 0, none⟩ = some (.slice (some ⟨g, 0, none⟩) n cap) := by go_simp
  have HS := Lib.hid hs
  have HB0 := Lib.hid hb0
  clear hb0 hs
  have hW : ∀ w0, w0 = w.alloc (.cells #[.slice (some ⟨g, 0, none⟩) n cap] 51) → Calls Try.prog 37 #[.agg #[.slice (some ⟨g, 0, none⟩) n cap], .func (.func 34) #[] #[.pointer (some ⟨w.heap.size, 0, none⟩)]] w0 fun e w' => e = .returned (.bool (validC cs)) ∧ Below w0.heap.size w0 w' := by
    rintro w0 rfl
    have := everyCorner _ g cap n _ #[.pointer (some ⟨w.heap.size, 0, none⟩)] (okC cs) h6 HE.out (fun w' i hb hi => closeOk w' B g cap n w.heap.size cs i ((HR.out.below HB0.out).below hb) hn (by omega) h6 (by omega) ((hb.cell (p := ⟨w.heap.size, 0, none⟩) (by simp)).trans HS.out))
    unfold validC
    rwa [hn]
  have HW := Lib.hid (hW _ rfl)
  clear hW
  cases hv : validC cs
  · go_enter Try.func32, Try.ntmps32
    go_wp2_with fail
    refine HW.out.mono ?_
    rintro e w1 ⟨rfl, hb1⟩
    rw [hv]
    go_wp2_with fail
    go_ret
    exact ⟨rfl, HB0.out.trans (hb1.mono (by simp))⟩
  cases ht : turnsC cs
  · go_enter Try.func32, Try.ntmps32
    go_wp2_with fail
    refine HW.out.mono ?_
    rintro e w1 ⟨rfl, hb1⟩
    rw [hv]
    have hb01 := HB0.out.trans (hb1.mono (by simp))
    have s1 := (hb1.cell (p := ⟨w.heap.size, 0, none⟩) (by simp)).trans HS.out
    go_wp2_with fail
    refine (turnsLeft _ B _ _ _ cs (HR.out.below hb01) hn (by omega) h6).mono ?_
    rintro e w2 ⟨rfl, hb2⟩
    rw [ht]
    go_wp2_with fail
    go_ret
    exact ⟨rfl, hb01.trans (hb2.mono hb01.size)⟩
  · go_enter Try.func32, Try.ntmps32
    go_wp2_with fail
    refine HW.out.mono ?_
    rintro e w1 ⟨rfl, hb1⟩
    rw [hv]
    have hb01 := HB0.out.trans (hb1.mono (by simp))
    have hz := hb1.size
    simp only [World.size_alloc] at hz
    have s1 := (hb1.cell (p := ⟨w.heap.size, 0, none⟩) (by simp)).trans HS.out
    go_wp2_with fail
    refine (turnsLeft _ B _ _ _ cs (HR.out.below hb01) hn (by omega) h6).mono ?_
    rintro e w2 ⟨rfl, hb2⟩
    rw [ht]
    have hb02 := hb01.trans (hb2.mono hb01.size)
    have s2 := (hb2.cell (p := ⟨w.heap.size, 0, none⟩) (by simp; omega)).trans s1
    clear s1
    go_wp2_with fail
    refine (opensLeft _ B _ _ _ cs (HR.out.below hb02) hn (by omega) h6).mono ?_
    rintro e w3 ⟨rfl, hb3⟩
    go_wp2_with fail
    go_ret
    exact ⟨rfl, hb02.trans (hb3.mono hb02.size)⟩

/-- The contract of the program's StoneOk. -/
theorem implStoneOk (w : World) (B : Nat) (v : Value) (cs : List (Int × Int)) (hr : Row w B v cs) :
    Calls Try.prog 32 #[.agg #[v]] w fun e w' => e = .returned (.bool (stoneV cs)) ∧ Below w.heap.size w w' := by
  obtain ⟨a, cap, hv⟩ := row_slice hr
  by_cases h3 : cs.length < 3
  · rw [stoneV_no (sizeC_no.2 (by omega)), hv]
    exact stoneOk_small _ _ _ _ h3
  rcases hr.cases with ⟨-, rfl⟩ | ⟨g, cap', rfl, r, -, -, hc, hm⟩
  · simp at h3
  by_cases h6 : cs.length ≤ 6
  · have : stoneV cs = (validC cs && turnsC cs && opensC cs) := by unfold stoneV; rw [sizeC_iff.2 ⟨by omega, h6⟩, Bool.true_and]
    rw [this]
    exact stoneOk_size _ _ _ _ _ cs r rfl (by omega) h6
  · rw [stoneV_no (sizeC_no.2 (by omega))]
    exact stoneOk_large _ _ _ _ (by omega) (by omega)

end Go.Proofs.Ytoholdpobkgffaa
