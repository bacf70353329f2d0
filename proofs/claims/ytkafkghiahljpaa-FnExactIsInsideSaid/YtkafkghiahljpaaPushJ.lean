/- The program's PushAt, MomentsAt, IsInside, PlaceAt. -/
import Derived.Test.YtkafkghiahljpaaPushF
namespace Go.Proofs.Ytkafkghiahljpaa
set_option maxRecDepth 100000
open Go.ChangeShapes Go.WideShapes Go.ChangeAt Go.RowKit

theorem phV_any (js : List Jt) (ls : List Ld) (h v m d k : Int) : ∃ (x y z u r q t : Int) (ok : Bool), phV js ls h v m d k = .tuple #[.agg #[.int .i64 x, .int .i64 y, .int .i64 z, .int .i64 u, .int .i64 r, .int .i64 q, .int .i64 t], .bool ok] ∧
    phA js ls h v m d k = abtV t q r x y ∧ phB js ls h v m d k = abtV t q r z u ∧ phH js ls h v m d k = r ∧ phU js ls h v m d k = q ∧ phOk js ls h v m d k = ok ∧ AbtBd t q r x y ∧ AbtBd t q r z u :=
  let b := ph_in js ls h v m d k
  ⟨_, _, _, _, _, _, _, _, rfl, rfl, rfl, rfl, rfl, rfl, abt_bd b.t b.u b.r b.ax b.ay, abt_bd b.t b.u b.r b.bx b.ly⟩

set_option maxHeartbeats 1000000 in
theorem implPushAt (w : World) (B B2 g cap n : Nat) (la : Option Addr) (m lc : Nat) (js : List Jt) (ls : List Ld) (th tv tm td k : Int) (hr : JRowAt w B g cap js) (hn : js.length = n) (hl : Lds w B2 la m lc ls) :
    Calls Try.prog 13 #[.agg #[.slice (some ⟨g, 0, none⟩) n cap], .slice la m lc, .agg #[.int .i64 th, .int .i64 tv, .int .i64 tm, .int .i64 td], .int .i64 k] w fun e w' => e = .returned (.tuple #[.int .i64 (phH js ls th tv tm td k), .int .i64 (phU js ls th tv tm td k)]) ∧ Below w.heap.size w w' := by
  have hb0 := ((Below.refl w.heap.size w).alloc (Nat.le_refl _) (.cells #[.slice (some ⟨g, 0, none⟩) n cap] 34)).alloc (by simp) (.cells #[.int .i64 th, .int .i64 tv, .int .i64 tm, .int .i64 td] 38)
  have HR := Lib.hid (hr.below hb0)
  have HL := Lib.hid (hl.below hb0)
  have HB0 := Lib.hid hb0
  have HN := Lib.hid hn
  clear hr hn hl hb0
  obtain ⟨x, y, z, u, r, q, t, ok, hv, hA, hB, hH, hU, hO, ba, bb⟩ := phV_any js ls th tv tm td k
  have HF := Lib.hid (fun w B B2 la hr hn hl => findPush w B B2 g cap n la m lc js ls th tv tm td k hr hn hl)
  rw [hv] at HF
  clear hv
  rw [hH, hU]
  clear hA hB hH hU hO ba bb
  go_enter Try.func13, Try.ntmps13
  go_wp2_with fail
  refine (HF.out _ _ _ _ HR.out HN.out HL.out).mono ?_
  rintro e w1 ⟨rfl, hb1⟩
  have hal := al_below w1 (.cells #[.int .i64 x, .int .i64 y, .int .i64 z, .int .i64 u, .int .i64 r, .int .i64 q, .int .i64 t] 60)
  have hb1' := HB0.out.trans (hb1.mono HB0.out.size)
  have HB1 := Lib.hid (hb1'.trans (hal.mono hb1'.size))
  have q0 : (w1.alloc (.cells #[.int .i64 x, .int .i64 y, .int .i64 z, .int .i64 u, .int .i64 r, .int .i64 q, .int .i64 t] 60)).cell? ⟨w1.heap.size, 0, none⟩ = some (.int .i64 x) := by go_simp
  have q1 : (w1.alloc (.cells #[.int .i64 x, .int .i64 y, .int .i64 z, .int .i64 u, .int .i64 r, .int .i64 q, .int .i64 t] 60)).cell? ⟨w1.heap.size, 1, none⟩ = some (.int .i64 y) := by go_simp
  have q2 : (w1.alloc (.cells #[.int .i64 x, .int .i64 y, .int .i64 z, .int .i64 u, .int .i64 r, .int .i64 q, .int .i64 t] 60)).cell? ⟨w1.heap.size, 2, none⟩ = some (.int .i64 z) := by go_simp
  have q3 : (w1.alloc (.cells #[.int .i64 x, .int .i64 y, .int .i64 z, .int .i64 u, .int .i64 r, .int .i64 q, .int .i64 t] 60)).cell? ⟨w1.heap.size, 3, none⟩ = some (.int .i64 u) := by go_simp
  have q4 : (w1.alloc (.cells #[.int .i64 x, .int .i64 y, .int .i64 z, .int .i64 u, .int .i64 r, .int .i64 q, .int .i64 t] 60)).cell? ⟨w1.heap.size, 4, none⟩ = some (.int .i64 r) := by go_simp
  have q5 : (w1.alloc (.cells #[.int .i64 x, .int .i64 y, .int .i64 z, .int .i64 u, .int .i64 r, .int .i64 q, .int .i64 t] 60)).cell? ⟨w1.heap.size, 5, none⟩ = some (.int .i64 q) := by go_simp
  have q6 : (w1.alloc (.cells #[.int .i64 x, .int .i64 y, .int .i64 z, .int .i64 u, .int .i64 r, .int .i64 q, .int .i64 t] 60)).cell? ⟨w1.heap.size, 6, none⟩ = some (.int .i64 t) := by go_simp
  clear hb1 hb1' hal HR HL HB0 HF
  go_wp2_with fail
  go_quiet (fail)
  go_wp2_with fail
  refine bodyPost_ret (v := .tuple #[.int .i64 r, .int .i64 q]) (by simp [results, Try.results13, go_sem]) rfl ⟨rfl, ?_⟩
  exact below_drewN HB1.out _

set_option maxHeartbeats 1000000 in
theorem implMomentsAt (w : World) (B B2 g cap n : Nat) (la : Option Addr) (m lc : Nat) (js : List Jt) (ls : List Ld) (th tv tm td k : Int) (hr : JRowAt w B g cap js) (hn : js.length = n) (hl : Lds w B2 la m lc ls) :
    Calls Try.prog 17 #[.agg #[.slice (some ⟨g, 0, none⟩) n cap], .slice la m lc, .agg #[.int .i64 th, .int .i64 tv, .int .i64 tm, .int .i64 td], .int .i64 k] w fun e w' => e = .returned (.tuple #[.int .i64 (phA js ls th tv tm td k), .int .i64 (phB js ls th tv tm td k)]) ∧ Below w.heap.size w w' := by
  have hb0 := ((Below.refl w.heap.size w).alloc (Nat.le_refl _) (.cells #[.slice (some ⟨g, 0, none⟩) n cap] 34)).alloc (by simp) (.cells #[.int .i64 th, .int .i64 tv, .int .i64 tm, .int .i64 td] 38)
  have HR := Lib.hid (hr.below hb0)
  have HL := Lib.hid (hl.below hb0)
  have HB0 := Lib.hid hb0
  have HN := Lib.hid hn
  clear hr hn hl hb0
  obtain ⟨x, y, z, u, r, q, t, ok, hv, hA, hB, hH, hU, hO, ba, bb⟩ := phV_any js ls th tv tm td k
  have HF := Lib.hid (fun w B B2 la hr hn hl => findPush w B B2 g cap n la m lc js ls th tv tm td k hr hn hl)
  rw [hv] at HF
  clear hv
  have HE := Lib.hid (fun W => atEnds x y z u r q t x y z u W ba bb)
  rw [hA, hB]
  generalize abtV t q r x y = a at *
  generalize abtV t q r z u = b at *
  clear hA hB hH hU hO ba bb
  go_enter Try.func17, Try.ntmps17
  go_wp2_with fail
  refine (HF.out _ _ _ _ HR.out HN.out HL.out).mono ?_
  rintro e w1 ⟨rfl, hb1⟩
  have hal := al_below w1 (.cells #[.int .i64 x, .int .i64 y, .int .i64 z, .int .i64 u, .int .i64 r, .int .i64 q, .int .i64 t] 60)
  have hb1' := HB0.out.trans (hb1.mono HB0.out.size)
  have HB1 := Lib.hid (hb1'.trans (hal.mono hb1'.size))
  have q0 : (w1.alloc (.cells #[.int .i64 x, .int .i64 y, .int .i64 z, .int .i64 u, .int .i64 r, .int .i64 q, .int .i64 t] 60)).cell? ⟨w1.heap.size, 0, none⟩ = some (.int .i64 x) := by go_simp
  have q1 : (w1.alloc (.cells #[.int .i64 x, .int .i64 y, .int .i64 z, .int .i64 u, .int .i64 r, .int .i64 q, .int .i64 t] 60)).cell? ⟨w1.heap.size, 1, none⟩ = some (.int .i64 y) := by go_simp
  have q2 : (w1.alloc (.cells #[.int .i64 x, .int .i64 y, .int .i64 z, .int .i64 u, .int .i64 r, .int .i64 q, .int .i64 t] 60)).cell? ⟨w1.heap.size, 2, none⟩ = some (.int .i64 z) := by go_simp
  have q3 : (w1.alloc (.cells #[.int .i64 x, .int .i64 y, .int .i64 z, .int .i64 u, .int .i64 r, .int .i64 q, .int .i64 t] 60)).cell? ⟨w1.heap.size, 3, none⟩ = some (.int .i64 u) := by go_simp
  have q4 : (w1.alloc (.cells #[.int .i64 x, .int .i64 y, .int .i64 z, .int .i64 u, .int .i64 r, .int .i64 q, .int .i64 t] 60)).cell? ⟨w1.heap.size, 4, none⟩ = some (.int .i64 r) := by go_simp
  have q5 : (w1.alloc (.cells #[.int .i64 x, .int .i64 y, .int .i64 z, .int .i64 u, .int .i64 r, .int .i64 q, .int .i64 t] 60)).cell? ⟨w1.heap.size, 5, none⟩ = some (.int .i64 q) := by go_simp
  have q6 : (w1.alloc (.cells #[.int .i64 x, .int .i64 y, .int .i64 z, .int .i64 u, .int .i64 r, .int .i64 q, .int .i64 t] 60)).cell? ⟨w1.heap.size, 6, none⟩ = some (.int .i64 t) := by go_simp
  clear hb1 hb1' hal HR HL HB0 HF
  go_wp2_with fail
  refine (HE.out _).mono ?_
  rintro e w2 ⟨rfl, hb2⟩
  have HB2 := Lib.hid (HB1.out.trans (hb2.mono HB1.out.size))
  clear hb2 HE
  go_wp2_with fail
  refine bodyPost_ret (v := .tuple #[.int .i64 a, .int .i64 b]) (by simp [results, Try.results17, go_sem]) rfl ⟨rfl, HB2.out⟩

set_option maxHeartbeats 1000000 in
theorem implIsInside (w : World) (B B2 g cap n : Nat) (la : Option Addr) (m lc : Nat) (js : List Jt) (ls : List Ld) (th tv tm td k : Int) (hr : JRowAt w B g cap js) (hn : js.length = n) (hl : Lds w B2 la m lc ls) :
    Calls Try.prog 19 #[.agg #[.slice (some ⟨g, 0, none⟩) n cap], .slice la m lc, .agg #[.int .i64 th, .int .i64 tv, .int .i64 tm, .int .i64 td], .int .i64 k] w fun e w' => e = .returned (.bool (phIn js ls th tv tm td k)) ∧ Below w.heap.size w w' := by
  have hb0 := ((Below.refl w.heap.size w).alloc (Nat.le_refl _) (.cells #[.slice (some ⟨g, 0, none⟩) n cap] 34)).alloc (by simp) (.cells #[.int .i64 th, .int .i64 tv, .int .i64 tm, .int .i64 td] 38)
  have HR := Lib.hid (hr.below hb0)
  have HL := Lib.hid (hl.below hb0)
  have HB0 := Lib.hid hb0
  have HN := Lib.hid hn
  clear hr hn hl hb0
  obtain ⟨x, y, z, u, r, q, t, ok, hv, hA, hB, hH, hU, hO, ba, bb⟩ := phV_any js ls th tv tm td k
  have HF := Lib.hid (fun w B B2 la hr hn hl => findPush w B B2 g cap n la m lc js ls th tv tm td k hr hn hl)
  rw [hv] at HF
  clear hv
  have HE := Lib.hid (fun W => atEnds x y z u r q t x y z u W ba bb)
  have hv : phIn js ls th tv tm td k = (ok && passV (abtV t q r x y) (abtV t q r z u)) := by unfold phIn; rw [hA, hB, hO]
  rw [hv]
  generalize abtV t q r x y = a at *
  generalize abtV t q r z u = b at *
  clear hA hB hH hU hO ba bb hv
  cases ok
  · go_enter Try.func19, Try.ntmps19
    go_wp2_with fail
    refine (HF.out _ _ _ _ HR.out HN.out HL.out).mono ?_
    rintro e w1 ⟨rfl, hb1⟩
    have hal := al_below w1 (.cells #[.int .i64 x, .int .i64 y, .int .i64 z, .int .i64 u, .int .i64 r, .int .i64 q, .int .i64 t] 60)
    have hb1' := HB0.out.trans (hb1.mono HB0.out.size)
    have HB1 := Lib.hid (hb1'.trans (hal.mono hb1'.size))
    have q0 : (w1.alloc (.cells #[.int .i64 x, .int .i64 y, .int .i64 z, .int .i64 u, .int .i64 r, .int .i64 q, .int .i64 t] 60)).cell? ⟨w1.heap.size, 0, none⟩ = some (.int .i64 x) := by go_simp
    have q1 : (w1.alloc (.cells #[.int .i64 x, .int .i64 y, .int .i64 z, .int .i64 u, .int .i64 r, .int .i64 q, .int .i64 t] 60)).cell? ⟨w1.heap.size, 1, none⟩ = some (.int .i64 y) := by go_simp
    have q2 : (w1.alloc (.cells #[.int .i64 x, .int .i64 y, .int .i64 z, .int .i64 u, .int .i64 r, .int .i64 q, .int .i64 t] 60)).cell? ⟨w1.heap.size, 2, none⟩ = some (.int .i64 z) := by go_simp
    have q3 : (w1.alloc (.cells #[.int .i64 x, .int .i64 y, .int .i64 z, .int .i64 u, .int .i64 r, .int .i64 q, .int .i64 t] 60)).cell? ⟨w1.heap.size, 3, none⟩ = some (.int .i64 u) := by go_simp
    have q4 : (w1.alloc (.cells #[.int .i64 x, .int .i64 y, .int .i64 z, .int .i64 u, .int .i64 r, .int .i64 q, .int .i64 t] 60)).cell? ⟨w1.heap.size, 4, none⟩ = some (.int .i64 r) := by go_simp
    have q5 : (w1.alloc (.cells #[.int .i64 x, .int .i64 y, .int .i64 z, .int .i64 u, .int .i64 r, .int .i64 q, .int .i64 t] 60)).cell? ⟨w1.heap.size, 5, none⟩ = some (.int .i64 q) := by go_simp
    have q6 : (w1.alloc (.cells #[.int .i64 x, .int .i64 y, .int .i64 z, .int .i64 u, .int .i64 r, .int .i64 q, .int .i64 t] 60)).cell? ⟨w1.heap.size, 6, none⟩ = some (.int .i64 t) := by go_simp
    clear hb1 hb1' hal HR HL HB0 HF
    go_wp2_with fail
    go_ret
    exact ⟨rfl, HB1.out⟩
  · go_enter Try.func19, Try.ntmps19
    go_wp2_with fail
    refine (HF.out _ _ _ _ HR.out HN.out HL.out).mono ?_
    rintro e w1 ⟨rfl, hb1⟩
    have hal := al_below w1 (.cells #[.int .i64 x, .int .i64 y, .int .i64 z, .int .i64 u, .int .i64 r, .int .i64 q, .int .i64 t] 60)
    have hb1' := HB0.out.trans (hb1.mono HB0.out.size)
    have HB1 := Lib.hid (hb1'.trans (hal.mono hb1'.size))
    have q0 : (w1.alloc (.cells #[.int .i64 x, .int .i64 y, .int .i64 z, .int .i64 u, .int .i64 r, .int .i64 q, .int .i64 t] 60)).cell? ⟨w1.heap.size, 0, none⟩ = some (.int .i64 x) := by go_simp
    have q1 : (w1.alloc (.cells #[.int .i64 x, .int .i64 y, .int .i64 z, .int .i64 u, .int .i64 r, .int .i64 q, .int .i64 t] 60)).cell? ⟨w1.heap.size, 1, none⟩ = some (.int .i64 y) := by go_simp
    have q2 : (w1.alloc (.cells #[.int .i64 x, .int .i64 y, .int .i64 z, .int .i64 u, .int .i64 r, .int .i64 q, .int .i64 t] 60)).cell? ⟨w1.heap.size, 2, none⟩ = some (.int .i64 z) := by go_simp
    have q3 : (w1.alloc (.cells #[.int .i64 x, .int .i64 y, .int .i64 z, .int .i64 u, .int .i64 r, .int .i64 q, .int .i64 t] 60)).cell? ⟨w1.heap.size, 3, none⟩ = some (.int .i64 u) := by go_simp
    have q4 : (w1.alloc (.cells #[.int .i64 x, .int .i64 y, .int .i64 z, .int .i64 u, .int .i64 r, .int .i64 q, .int .i64 t] 60)).cell? ⟨w1.heap.size, 4, none⟩ = some (.int .i64 r) := by go_simp
    have q5 : (w1.alloc (.cells #[.int .i64 x, .int .i64 y, .int .i64 z, .int .i64 u, .int .i64 r, .int .i64 q, .int .i64 t] 60)).cell? ⟨w1.heap.size, 5, none⟩ = some (.int .i64 q) := by go_simp
    have q6 : (w1.alloc (.cells #[.int .i64 x, .int .i64 y, .int .i64 z, .int .i64 u, .int .i64 r, .int .i64 q, .int .i64 t] 60)).cell? ⟨w1.heap.size, 6, none⟩ = some (.int .i64 t) := by go_simp
    clear hb1 hb1' hal HR HL HB0 HF
    go_wp2_with fail
    refine (HE.out _).mono ?_
    rintro e w2 ⟨rfl, hb2⟩
    have HB2 := Lib.hid (HB1.out.trans (hb2.mono HB1.out.size))
    clear hb2 HE
    go_wp2_with fail
    refine (passesBetween _ _ _).mono ?_
    rintro e w3 ⟨rfl, rfl⟩
    go_wp2_with fail
    go_ret
    exact ⟨rfl, HB2.out⟩

theorem gTo_two (a b : Int) : gTo [a, b] 2 = Nat.gcd a.natAbs b.natAbs := by
  show Nat.gcd (Nat.gcd 0 a.natAbs) b.natAbs = _
  rw [Nat.gcd_zero_left]

set_option maxHeartbeats 1000000 in
theorem implPlaceAt (w : World) (B B2 g cap n : Nat) (la : Option Addr) (m lc : Nat) (js : List Jt) (ls : List Ld) (th tv tm td k : Int) (hr : JRowAt w B g cap js) (hn : js.length = n) (hl : Lds w B2 la m lc ls) :
    Calls Try.prog 21 #[.agg #[.slice (some ⟨g, 0, none⟩) n cap], .slice la m lc, .agg #[.int .i64 th, .int .i64 tv, .int .i64 tm, .int .i64 td], .int .i64 k] w fun e w' => e = .returned (plV (phA js ls th tv tm td k) (phB js ls th tv tm td k)) ∧ Below w.heap.size w w' := by
  have hb0 := ((Below.refl w.heap.size w).alloc (Nat.le_refl _) (.cells #[.slice (some ⟨g, 0, none⟩) n cap] 34)).alloc (by simp) (.cells #[.int .i64 th, .int .i64 tv, .int .i64 tm, .int .i64 td] 38)
  have HR := Lib.hid (hr.below hb0)
  have HL := Lib.hid (hl.below hb0)
  have HB0 := Lib.hid hb0
  have HN := Lib.hid hn
  clear hr hn hl hb0
  have HM := Lib.hid (fun w B B2 la hr hn hl => implMomentsAt w B B2 g cap n la m lc js ls th tv tm td k hr hn hl)
  have ba := phA_bd js ls th tv tm td k
  have bb := phB_bd js ls th tv tm td k
  generalize phA js ls th tv tm td k = a at *
  generalize phB js ls th tv tm td k = b at *
  have wa : IntKind.i64.wrap (-a) = -a := IntWalk.i64_in _ (by omega)
  have wb : IntKind.i64.wrap (b - a) = b - a := IntWalk.i64_in _ (by omega)
  cases hp : passV a b
  · have HV := Lib.hid (plV_no (a := a) (b := b) (by unfold plOk; rw [hp]; rfl))
    go_enter Try.func21, Try.ntmps21
    go_wp2_with fail
    refine (HM.out _ _ _ _ HR.out HN.out HL.out).mono ?_
    rintro e w1 ⟨rfl, hb1⟩
    have HB1 := Lib.hid (HB0.out.trans (hb1.mono HB0.out.size))
    clear hb1 HR HL HB0 HM
    go_wp2_with fail
    refine (passesBetween _ _ _).mono ?_
    rintro e w3 ⟨rfl, rfl⟩
    rw [hp]
    go_wp2_with fail
    refine bodyPost_ret (v := .tuple #[.int .i64 0, .int .i64 0, .bool false]) (by simp [results, Try.results21, go_sem]) rfl ⟨by rw [HV.out], HB1.out⟩
  by_cases he : a = b
  · have HV := Lib.hid (plV_no (a := a) (b := b) (plOk_no.2 (by omega)))
    have he' : (a == b) = true := by simpa using he
    clear he
    go_enter Try.func21, Try.ntmps21
    go_wp2_with fail
    refine (HM.out _ _ _ _ HR.out HN.out HL.out).mono ?_
    rintro e w1 ⟨rfl, hb1⟩
    have HB1 := Lib.hid (HB0.out.trans (hb1.mono HB0.out.size))
    clear hb1 HR HL HB0 HM
    go_wp2_with fail
    refine (passesBetween _ _ _).mono ?_
    rintro e w3 ⟨rfl, rfl⟩
    rw [hp]
    go_wp2_with fail
    refine bodyPost_ret (v := .tuple #[.int .i64 0, .int .i64 0, .bool false]) (by simp [results, Try.results21, go_sem]) rfl ⟨by rw [HV.out], HB1.out⟩
  · have hok : plOk a b = true := plOk_iff.2 (by have := passV_iff.1 hp; omega)
    have hg0 : ¬ plG a b = 0 := by have := plG_pos hok; omega
    have bN := plN_bd (x := -a) (a := a) (b := b)
    have bD := plN_bd (x := b - a) (a := a) (b := b)
    have hV := plV_yes hok
    have HG : RowKit.Hid (((gTo [-a, b - a] 2 : Nat) : Int) = plG a b) := Lib.hid (by rw [gTo_two]; rfl)
    obtain ⟨G, hG⟩ : ∃ G, plG a b = G := ⟨_, rfl⟩
    rw [hG] at hg0 bN bD hV HG
    obtain ⟨p, hP⟩ : ∃ p, (-a).tdiv G = p := ⟨_, rfl⟩
    obtain ⟨q, hQ⟩ : ∃ q, (b - a).tdiv G = q := ⟨_, rfl⟩
    rw [hP] at bN hV
    rw [hQ] at bD hV
    have wp_ : IntKind.i64.wrap p = p := IntWalk.i64_in _ (by omega)
    have wq : IntKind.i64.wrap q = q := IntWalk.i64_in _ (by omega)
    have HV := Lib.hid hV
    have he' : (a == b) = false := by simpa using he
    have HQ2 := Lib.hid (show (-a).natAbs ≤ 9223372036854775807 ∧ (b - a).natAbs ≤ 9223372036854775807 by omega)
    clear hok bN bD hG he ba bb hV
    go_enter Try.func21, Try.ntmps21
    go_wp2_with fail
    refine (HM.out _ _ _ _ HR.out HN.out HL.out).mono ?_
    rintro e w1 ⟨rfl, hb1⟩
    have HB1 := Lib.hid (HB0.out.trans (hb1.mono HB0.out.size))
    clear hb1 HR HL HB0 HM
    go_wp2_with fail
    refine (passesBetween _ _ _).mono ?_
    rintro e w3 ⟨rfl, rfl⟩
    rw [hp]
    go_wp2_with fail
    refine (implGcd [-a, b - a] _ 2 _ _ rfl (by omega) ?_).mono ?_
    · obtain ⟨ha, hb⟩ := HQ2.out
      intro k hk
      match k, hk with
      | 0, _ => exact ⟨by go_simp, by show (-a).natAbs ≤ _; omega⟩
      | 1, _ => exact ⟨by go_simp, by show (b - a).natAbs ≤ _; omega⟩
    · rintro e w2 ⟨rfl, hb2⟩
      rw [HG.out]
      have HB2 := Lib.hid ((HB1.out.alloc HB1.out.size (.cells #[.int .i64 (-a), .int .i64 (b - a)] 3)).trans (hb2.mono (by have := HB1.out.size; simp <;> omega)))
      clear hb2
      go_wp2_with fail
      go_quiet (fail)
      go_wp2_with fail
      refine bodyPost_ret (v := .tuple #[.int .i64 p, .int .i64 q, .bool true]) (by simp [results, Try.results21, go_sem]) rfl ⟨by rw [HV.out], ?_⟩
      exact below_drewN HB2.out _
end Go.Proofs.Ytkafkghiahljpaa
