/- The conditions of an arch under loads: the program's RowsOf and the methods that it calls. -/
import Derived.Test.YtiallkkleilgiaaCondQ
import Derived.Test.YtiallkkleilgiaaLoadI
import Derived.Deep.AppendLies
namespace Go.Proofs.Ytiallkkleilgiaa
set_option maxRecDepth 100000
open Go.ChangeShapes Go.WideShapes Go.ChangeAt Go.RowKit

/-- The conditions were handed back, in new memory. -/
def RwAns (js : List Jt) (ls : List Ld) (w : World) (e : Ending) (w' : World) : Prop :=
  ∃ v, e = .returned v ∧ CdRow w' w.heap.size v (rowsV js ls) ∧ Below w.heap.size w w'

theorem far_low {X w' : World} {B n size b o : Nat} {e : TypeId} {v u : Value} {xs : List Value} (hr : X.ownsRow B e size v n xs) (hg : X.grownBy w' v.ownBlock) (hb : b < B) (hc : X.cell? ⟨b, o, none⟩ = some u) : w'.cell? ⟨b, o, none⟩ = some u :=
  (World.grownBy.cell_far hg ⟨b, o, none⟩ (cell_block_lt hc) (fun he => by have := (World.ownsRow.lt hr b he.symm).1; omega)).trans hc
theorem far_high {w0 X w' : World} {B n size b o : Nat} {e : TypeId} {v u : Value} {xs : List Value} (hr : w0.ownsRow B e size v n xs) (hg : X.grownBy w' v.ownBlock) (hb : w0.heap.size ≤ b) (hc : X.cell? ⟨b, o, none⟩ = some u) : w'.cell? ⟨b, o, none⟩ = some u :=
  (World.grownBy.cell_far hg ⟨b, o, none⟩ (cell_block_lt hc) (fun he => by have := (World.ownsRow.lt hr b he.symm).2; omega)).trans hc
theorem own_cap {w : World} {B s n cap N : Nat} {e : TypeId} {a : Option Addr} {xs : List Value} (h : w.ownsRow B e s (.slice a n cap) N xs) : N ≤ cap ∧ cap ≤ maxLen := by
  rcases h.2 with ⟨h1, h2⟩ | ⟨g, c, cur, h1, -, -, h2, h3, -⟩
  · simp at h1; omega
  · simp at h1; obtain ⟨-, -, rfl⟩ := h1; exact ⟨h2, h3⟩
theorem cstep {Z a b : World} (h : RowKit.Hid (Below Z.heap.size Z a)) (k : Below a.heap.size a b) : Below Z.heap.size Z b := h.out.trans (k.mono h.out.size)
theorem cstepD {Z a b : World} {n : Nat} (h : RowKit.Hid (Below Z.heap.size Z a)) (k : Below (a.drewN n).heap.size (a.drewN n) b) : Below Z.heap.size Z b := (below_drewN h.out n).trans (k.mono h.out.size)
theorem cal {Z a : World} (h : Below Z.heap.size Z a) (o : Obj) : Below Z.heap.size Z (a.alloc o) := h.alloc h.size o
theorem flat4_two (rs : List Cd) (a b c d a' b' c' d' : Int) : flat4 (rs ++ [(a, b, c, d), (a', b', c', d')]) = flat4 rs ++ [.int .i64 a, .int .i64 b, .int .i64 c, .int .i64 d, .int .i64 a', .int .i64 b', .int .i64 c', .int .i64 d'] := by rw [flat4_append]; rfl
theorem flat4_one (rs : List Cd) (a b c d : Int) : flat4 (rs ++ [(a, b, c, d)]) = flat4 rs ++ [.int .i64 a, .int .i64 b, .int .i64 c, .int .i64 d] := by rw [flat4_append]; rfl

set_option maxHeartbeats 1000000 in
theorem rowAbout (s m x y : Int) (w : World) (hx : -60 ≤ x ∧ x ≤ 60) (hs : -32000000 ≤ s ∧ s ≤ 32000000) (hm : -75000000 ≤ m ∧ m ≤ 75000000) :
    Calls Try.prog 64 #[.agg #[.int .i64 s, .int .i64 m], .agg #[.int .i64 x, .int .i64 y]] w fun e w' => e = .returned (.agg #[.int .i64 y, .int .i64 (-x), .int .i64 1, .int .i64 (m - x * s)]) ∧ Below w.heap.size w w' := by
  have hp := xw_bd hx hs
  have w1 : IntKind.i64.wrap (x * s) = x * s := IntWalk.i64_in _ (by omega)
  have w2 : IntKind.i64.wrap (m - x * s) = m - x * s := IntWalk.i64_in _ (by omega)
  have w3 : IntKind.i64.wrap (-x) = -x := IntWalk.i64_in _ (by omega)
  clear hp
  go_enter Try.func64, Try.ntmps64
  go_wp2_with fail
  refine bodyPost_ret (v := .agg #[.int .i64 y, .int .i64 (-x), .int .i64 1, .int .i64 (m - x * s)]) (by simp [results, Try.results64, go_sem]) rfl ⟨rfl, ?_⟩
  repeat (first | refine Below.setCell ?_ (by simp <;> omega) _ | refine Below.alloc ?_ (by simp <;> omega) _ | exact Below.refl _ _)

set_option maxHeartbeats 1000000 in
theorem rowNegated (a b c d a' b' c' d' : Int) (w : World) (ha : IntKind.i64.wrap (-a) = a') (hb : IntKind.i64.wrap (-b) = b') (hc : IntKind.i64.wrap (-c) = c') (hd : IntKind.i64.wrap (-d) = d') :
    Calls Try.prog 65 #[.agg #[.int .i64 a, .int .i64 b, .int .i64 c, .int .i64 d]] w fun e w' => e = .returned (.agg #[.int .i64 a', .int .i64 b', .int .i64 c', .int .i64 d']) ∧ Below w.heap.size w w' := by
  go_enter Try.func65, Try.ntmps65
  go_wp2_with fail
  refine bodyPost_ret (v := .agg #[.int .i64 a', .int .i64 b', .int .i64 c', .int .i64 d']) (by simp [results, Try.results65, go_sem]) rfl ⟨rfl, ?_⟩
  repeat (first | refine Below.setCell ?_ (by simp <;> omega) _ | refine Below.alloc ?_ (by simp <;> omega) _ | exact Below.refl _ _)

set_option maxRecDepth 100000 in
set_option maxHeartbeats 4000000 in
/-- The two rows of each joint, and the last one. -/
theorem archRows (w W : World) (B B2 g n cap sg sc : Nat) (la : Option Addr) (m lc : Nat) (js : List Jt) (ls : List Ld) (hbu : Built w W js n sg sc) (hr : JRowAt W B g cap js) (hl : Lds W B2 la m lc ls) (h : loadsV js ls = true) (hn : js.length = n) :
    Calls Try.prog 45 #[.agg #[.slice (some ⟨g, 0, none⟩) n cap, .slice (some ⟨sg, 0, none⟩) (n - 1) sc, .slice la m lc]] W
      fun e w' => ∃ gg cc, e = .returned (.slice (some ⟨gg, 0, none⟩) (2 * n + 1) cc) ∧ CdRow w' W.heap.size (.slice (some ⟨gg, 0, none⟩) (2 * n + 1) cc) (cdsV js ls) ∧ Below W.heap.size W w' := by
  obtain ⟨i0, hi0, hz0, hz1, hz2⟩ := info_parts Try.infoCd
  have h38 := arch_size (loadsV_iff.1 h).1
  rw [hn] at h38
  obtain ⟨-, hgw, hcap, hcm⟩ := hr.lt
  rw [hn] at hcap
  unfold maxLen at hcm
  have hal := cd_al W (.cells #[.slice (some ⟨g, 0, none⟩) n cap, .slice (some ⟨sg, 0, none⟩) (n - 1) sc, .slice la m lc] 83)
  have HB0 := Lib.hid hal
  have C00 : RowKit.Hid ((W.alloc (.cells #[.slice (some ⟨g, 0, none⟩) n cap, .slice (some ⟨sg, 0, none⟩) (n - 1) sc, .slice la m lc] 83)).cell? ⟨W.heap.size, 0, none⟩ = some (.slice (some ⟨g, 0, none⟩) n cap)) := Lib.hid (by go_simp)
  have C10 : RowKit.Hid ((W.alloc (.cells #[.slice (some ⟨g, 0, none⟩) n cap, .slice (some ⟨sg, 0, none⟩) (n - 1) sc, .slice la m lc] 83)).cell? ⟨W.heap.size, 1, none⟩ = some (.slice (some ⟨sg, 0, none⟩) (n - 1) sc)) := Lib.hid (by go_simp)
  have C20 : RowKit.Hid ((W.alloc (.cells #[.slice (some ⟨g, 0, none⟩) n cap, .slice (some ⟨sg, 0, none⟩) (n - 1) sc, .slice la m lc] 83)).cell? ⟨W.heap.size, 2, none⟩ = some (.slice la m lc)) := Lib.hid (by go_simp)
  have HBU := Lib.hid hbu
  have HR := Lib.hid hr
  have HL := Lib.hid hl
  have H := Lib.hid h
  have HN := Lib.hid hn
  clear hbu hr hl h hn hal
  go_enter Try.func45, Try.ntmps45
  go_wp2_with fail
  go_loopw [3, 4, 11] (fun q _ t wr => ∃ (k N : Nat) (sa : Option Addr) (cc : Nat), k ≤ n ∧ N = 2 * k ∧ t = .int .i64 k ∧ q = .slice sa N cc ∧ wr.ownsRow (W.heap.size + 1) 25 4 (.slice sa N cc) N (flat4 (cdsTo js ls k)) ∧ Below W.heap.size W wr ∧
      wr.cell? ⟨W.heap.size, 0, none⟩ = some (.slice (some ⟨g, 0, none⟩) n cap) ∧ wr.cell? ⟨W.heap.size, 1, none⟩ = some (.slice (some ⟨sg, 0, none⟩) (n - 1) sc) ∧ wr.cell? ⟨W.heap.size, 2, none⟩ = some (.slice la m lc))
    (fun _ _ t _ => n - (intOf t).toNat)
  case atStart => exact ⟨0, 0, none, 0, Nat.zero_le _, rfl, rfl, rfl, World.ownsRow_nil _ _ _ _, HB0.out, C00.out, C10.out, C20.out⟩
  case round =>
    clear HB0 C00 C10 C20
    obtain ⟨k, N, sa, cc, hk, hNk, rfl, rfl, hown, hbw, c0, c1, c2⟩ := hrel
    have HB := Lib.hid hbw
    have HO := Lib.hid hown
    obtain ⟨hcc, hcm2⟩ := own_cap hown
    unfold maxLen at hcm2
    have hN16 : N ≤ 16 := by omega
    have HNK := Lib.hid hNk
    clear hNk
    clear hown
    by_cases hlt : k < n
    · have hlN := HN.out
      obtain ⟨a0, a1, a2, a3⟩ := (JRowAt.below HR.out hbw).cells k (by omega)
      obtain ⟨hw, hm, hax, hay, hbx, hby⟩ := cd_in H.out (k := k) (by omega)
      have HNX := Lib.hid (cdsTo_next js ls k)
      have hI : cdI js ls k = ((jt js k).1.2, -(jt js k).1.1, 1, sumTo (mL js ls) k - (jt js k).1.1 * sumTo (wL js ls) k) := rfl
      have hO : cdO js ls k = (-(jt js k).2.2, (jt js k).2.1, -1, (jt js k).2.1 * sumTo (wL js ls) k - sumTo (mL js ls) k) := rfl
      have HI := Lib.hid hI
      have HOO := Lib.hid hO
      have hal := cd_al wr (.cells #[.int .i64 (jt js k).1.1, .int .i64 (jt js k).1.2, .int .i64 (jt js k).2.1, .int .i64 (jt js k).2.2] 72)
      have HBL := Lib.hid (fun X (hX : Below wr.heap.size wr X) => burdenLeft w X B2 g n cap sg sc la m lc js ls (k : Int) ((HBU.out.below hbw).below hX) ((HL.out.below hbw).below hX) H.out HN.out)
      have hwl : leftF wL js ls (k : Int) = sumTo (wL js ls) k := leftF_yes H.out (by omega)
      have hml : leftF mL js ls (k : Int) = sumTo (mL js ls) k := leftF_yes H.out (by omega)
      rw [hwl, hml] at HBL
      generalize (jt js k).1.1 = px at *
      generalize (jt js k).1.2 = py at *
      generalize (jt js k).2.1 = qx at *
      generalize (jt js k).2.2 = qy at *
      generalize sumTo (wL js ls) k = S at *
      generalize sumTo (mL js ls) k = M at *
      have hA1 := fun X => rowAbout S M px py X hax hw hm
      have hA2 := fun X => rowAbout S M qx qy X hbx hw hm
      have hp2 := xw_bd hbx hw
      obtain ⟨npx, hnpx⟩ : ∃ q, q = -px := ⟨_, rfl⟩
      obtain ⟨d1, hd1⟩ : ∃ q, q = M - px * S := ⟨_, rfl⟩
      obtain ⟨nqx, hnqx⟩ : ∃ q, q = -qx := ⟨_, rfl⟩
      obtain ⟨d2, hd2⟩ : ∃ q, q = M - qx * S := ⟨_, rfl⟩
      obtain ⟨nqy, hnqy⟩ : ∃ q, q = -qy := ⟨_, rfl⟩
      obtain ⟨nd2, hnd2⟩ : ∃ q, q = qx * S - M := ⟨_, rfl⟩
      have hNG := fun X => rowNegated qy nqx 1 d2 nqy qx (-1) nd2 X (by rw [hnqy]; exact IntWalk.i64_in _ (by omega)) (by rw [IntWalk.i64_in _ (by omega)]; omega) (by decide) (by rw [IntWalk.i64_in _ (by omega)]; omega)
      rw [← hnpx, ← hd1] at hA1
      rw [← hnqx, ← hd2] at hA2
      rw [← hnpx, ← hd1] at HI
      rw [← hnqy, ← hnd2] at HOO
      rw [HI.out, HOO.out] at HNX
      have HA1 := Lib.hid hA1
      have HA2 := Lib.hid hA2
      have HNG := Lib.hid hNG
      have HBW := Lib.hid (HB.out.trans (hal.mono HB.out.size))
      have HOW := Lib.hid (owns_below HO.out hal)
      have c0' := cell_kept c0 hal
      have c1' := cell_kept c1 hal
      have c2' := cell_kept c2 hal
      have b0 : (wr.alloc (.cells #[.int .i64 px, .int .i64 py, .int .i64 qx, .int .i64 qy] 72)).cell? ⟨wr.heap.size, 0, none⟩ = some (.int .i64 px) := by go_simp
      have b1 : (wr.alloc (.cells #[.int .i64 px, .int .i64 py, .int .i64 qx, .int .i64 qy] 72)).cell? ⟨wr.heap.size, 1, none⟩ = some (.int .i64 py) := by go_simp
      have b2 : (wr.alloc (.cells #[.int .i64 px, .int .i64 py, .int .i64 qx, .int .i64 qy] 72)).cell? ⟨wr.heap.size, 2, none⟩ = some (.int .i64 qx) := by go_simp
      have b3 : (wr.alloc (.cells #[.int .i64 px, .int .i64 py, .int .i64 qx, .int .i64 qy] 72)).cell? ⟨wr.heap.size, 3, none⟩ = some (.int .i64 qy) := by go_simp
      have hk0 : (0 : Int) ≤ (k : Int) := Int.natCast_nonneg _
      have hkn : (k : Int) < (n : Int) := by omega
      have mg := Nat.ne_of_lt (cell_block_lt a0)
      have mw := Nat.ne_of_lt (cell_block_lt c0)
      have HLT := Lib.hid (cell_block_lt c0)
      dsimp only at mg mw
      have ng := Ne.symm mg
      have nw := Ne.symm mw
      clear hI hO hwl hml hax hay hbx hby hw hm hp2 hA1 hA2 hNG hnpx hd1 hnqx hd2 hnqy hnd2 hbw hlN HI HOO
      have HALW := Lib.hid hal
      clear hal
      go_wp2_with fail
      refine (HBL.out _ HALW.out).mono ?_
      rintro e w2 ⟨rfl, hb2⟩
      have c02 := cell_kept c0' hb2
      have c12 := cell_kept c1' hb2
      have c22 := cell_kept c2' hb2
      have b02 := cell_kept b0 hb2
      have b12 := cell_kept b1 hb2
      have b22 := cell_kept b2 hb2
      have b32 := cell_kept b3 hb2
      have HB2 := Lib.hid (HBW.out.trans (hb2.mono HBW.out.size))
      have HO2 := Lib.hid (owns_below HOW.out hb2)
      have HSZ := Lib.hid hb2.size
      have hjb : wr.heap.size < w2.heap.size := cell_block_lt b02
      have hjn := Nat.ne_of_lt hjb
      have hjw := Ne.symm hjn
      clear hb2 c0' c1' c2' b0 b1 b2 b3 HBW HOW HALW a0 a1 a2 a3 mg ng mw nw c0 c1 c2
      go_upto_region 6 with (fail)
      have hal2 := cd_al w2 (.cells #[.int .i64 S, .int .i64 M] 111)
      have c03 := cell_kept c02 hal2
      have c13 := cell_kept c12 hal2
      have c23 := cell_kept c22 hal2
      have b03 := cell_kept b02 hal2
      have b13 := cell_kept b12 hal2
      have b23 := cell_kept b22 hal2
      have b33 := cell_kept b32 hal2
      have u0 : (w2.alloc (.cells #[.int .i64 S, .int .i64 M] 111)).cell? ⟨w2.heap.size, 0, none⟩ = some (.int .i64 S) := by go_simp
      have u1 : (w2.alloc (.cells #[.int .i64 S, .int .i64 M] 111)).cell? ⟨w2.heap.size, 1, none⟩ = some (.int .i64 M) := by go_simp
      have HB3 := Lib.hid (HB2.out.trans (hal2.mono HB2.out.size))
      have HO3 := Lib.hid (owns_below HO2.out hal2)
      generalize hZ : w2.alloc (.cells #[.int .i64 S, .int .i64 M] 111) = Z at *
      clear hZ hal2 c02 c12 c22 b02 b12 b22 b32 HB2 HO2
      have F0 := Lib.hid (fun (X : World) (hX : Below Z.heap.size Z X) => (⟨cell_kept u0 hX, cell_kept u1 hX, cell_kept b03 hX, cell_kept b13 hX, cell_kept b23 hX, cell_kept b33 hX⟩ :
        X.cell? ⟨w2.heap.size, 0, none⟩ = some (.int .i64 S) ∧ X.cell? ⟨w2.heap.size, 1, none⟩ = some (.int .i64 M) ∧ X.cell? ⟨wr.heap.size, 0, none⟩ = some (.int .i64 px) ∧ X.cell? ⟨wr.heap.size, 1, none⟩ = some (.int .i64 py) ∧ X.cell? ⟨wr.heap.size, 2, none⟩ = some (.int .i64 qx) ∧ X.cell? ⟨wr.heap.size, 3, none⟩ = some (.int .i64 qy)))
      have D0 := Lib.hid c03
      have D1 := Lib.hid c13
      have D2 := Lib.hid c23
      have ZZ := Lib.hid (Below.refl Z.heap.size Z)
      have hzy := HB3.out.size
      have hzz := HLT.out
      clear c03 c13 c23
      have HJB := Lib.hid (Nat.le_of_lt hjb)
      go_region_held3 (fun w' => w'.cell? ⟨w2.heap.size, 0, none⟩ = some (.int .i64 S) ∧ w'.cell? ⟨w2.heap.size, 1, none⟩ = some (.int .i64 M) ∧ w'.cell? ⟨wr.heap.size, 0, none⟩ = some (.int .i64 px) ∧ w'.cell? ⟨wr.heap.size, 1, none⟩ = some (.int .i64 py) ∧ w'.cell? ⟨wr.heap.size, 2, none⟩ = some (.int .i64 qx) ∧ w'.cell? ⟨wr.heap.size, 3, none⟩ = some (.int .i64 qy))
        (first | (exact K6.out) | (exact F0.out _ ZZ.out) | (exact F0.out _ (cal ZZ.out _)) | (exact F0.out _ (cal (below_drewN ZZ.out _) _)) | go_keep | trivial)
        (first
          | (go_at_call_of 64 (Value.int .i64 px); refine (HA1.out _).mono ?_; rintro e y ⟨rfl, hy⟩; have ZZ : RowKit.Hid (Below Z.heap.size Z y) := Lib.hid (by first | exact cstep ZZ hy | exact cstepD ZZ hy); clear hy)
          | (go_at_call_of 64 (Value.int .i64 qx); refine (HA2.out _).mono ?_; rintro e y ⟨rfl, hy⟩; have ZZ : RowKit.Hid (Below Z.heap.size Z y) := Lib.hid (by first | exact cstep ZZ hy | exact cstepD ZZ hy); clear hy)
          | (go_at_call 65; refine (HNG.out _).mono ?_; rintro e y ⟨rfl, hy⟩; have ZZ : RowKit.Hid (Below Z.heap.size Z y) := Lib.hid (by first | exact cstep ZZ hy | exact cstepD ZZ hy); clear hy)
          | (have hzy2 := ZZ.out.size; refine step_append_lies _ (by rfl) _ _ _ (by rfl) (W.heap.size + 1) 25 i0 _ 4 32 Try.underlying40 hi0 hz0 hz1 hz2 rfl (by omega) (.slice sa N cc) _ _ (by rfl) (World.ownsRow.alloc (owns_below HO3.out ZZ.out) _)
              ⟨y.heap.size, 0, none⟩ 2 2 [.int .i64 py, .int .i64 npx, .int .i64 1, .int .i64 d1, .int .i64 nqy, .int .i64 qx, .int .i64 (-1), .int .i64 nd2] (by rfl) (by rfl) (World.news_of_block (cs := #[.int .i64 py, .int .i64 npx, .int .i64 1, .int .i64 d1, .int .i64 nqy, .int .i64 qx, .int .i64 (-1), .int .i64 nd2]) (t := 25) (fr := (0, 0)) (heap_alloc_new y _)) (by simp [Value.oneCell'])
              (by omega) (by unfold maxLen; omega) (by omega) (by simp; omega) (y.heap.size + 1) (by simp) ?_; intro gg cp w6 hown6 hgrow6 hat hgl; have K6 := Lib.hid (And.intro (far_high HO.out hgrow6 HJB.out (cell_kept (F0.out _ ZZ.out).1 (cd_al y _))) (And.intro (far_high HO.out hgrow6 HJB.out (cell_kept (F0.out _ ZZ.out).2.1 (cd_al y _))) (And.intro (far_high HO.out hgrow6 (Nat.le_refl _) (cell_kept (F0.out _ ZZ.out).2.2.1 (cd_al y _))) (And.intro (far_high HO.out hgrow6 (Nat.le_refl _) (cell_kept (F0.out _ ZZ.out).2.2.2.1 (cd_al y _))) (And.intro (far_high HO.out hgrow6 (Nat.le_refl _) (cell_kept (F0.out _ ZZ.out).2.2.2.2.1 (cd_al y _))) (far_high HO.out hgrow6 (Nat.le_refl _) (cell_kept (F0.out _ ZZ.out).2.2.2.2.2 (cd_al y _))))))))))
      all_goals
        have HO6 : RowKit.Hid (w6.ownsRow (W.heap.size + 1) 25 4 (.slice (some ⟨gg, 0, none⟩) (N + 2) cp) (N + 2) (flat4 (cdsTo js ls (k + 1)))) := Lib.hid (by rw [HNX.out, flat4_two]; exact hown6)
        have hoy := World.ownsRow.alloc (owns_below HO3.out ZZ.out) (.cells #[.int .i64 py, .int .i64 npx, .int .i64 1, .int .i64 d1, .int .i64 nqy, .int .i64 qx, .int .i64 (-1), .int .i64 nd2] 25)
        have hby := HB3.out.trans (ZZ.out.mono HB3.out.size)
        have HB6 : RowKit.Hid (Below W.heap.size W w6) := Lib.hid ((hby.alloc hby.size _).grown hgrow6 (by have := hby.size; simp; omega) (fun j hj => by have := (World.ownsRow.lt hoy j hj).1; omega))
        have C0 := Lib.hid (far_low hoy hgrow6 (Nat.lt_succ_self _) (cell_kept (cell_kept D0.out ZZ.out) (cd_al y _)))
        have C1 := Lib.hid (far_low hoy hgrow6 (Nat.lt_succ_self _) (cell_kept (cell_kept D1.out ZZ.out) (cd_al y _)))
        have C2 := Lib.hid (far_low hoy hgrow6 (Nat.lt_succ_self _) (cell_kept (cell_kept D2.out ZZ.out) (cd_al y _)))
        clear hoy hby hown6 hgrow6 hat hgl F0 K6 u0 u1 b03 b13 b23 b33
        go_wp2_with fail
        go_roundw
      all_goals first
        | exact ⟨k + 1, N + 2, _, _, by omega, by have := HNK.out; omega, by go_num, rfl, HO6.out, HB6.out, C0.out, C1.out, C2.out⟩
        | (simp [intOf]; omega)
    · obtain rfl : k = n := by omega
      have hwz := HB.out.size
      clear hbw c0 c1 c2
      have HV := Lib.hid (show cdsV js ls = cdsTo js ls k ++ [(-1, 0, 0, 0)] by unfold cdsV; rw [HN.out])
      go_wp2_with (at_builtin; refine wpList_append_lies _ rfl _ _ _ rfl (W.heap.size + 1) 25 i0 _ 4 32 Try.underlying40 hi0 hz0 hz1 hz2 rfl (by omega) (.slice sa N cc) N (flat4 (cdsTo js ls k)) (by rfl) (World.ownsRow.alloc HO.out _) ⟨wr.heap.size, 0, none⟩ 1 1 [.int .i64 (-1), .int .i64 0, .int .i64 0, .int .i64 0] (by rfl) (by rfl) (World.news_of_block (cs := #[.int .i64 (-1), .int .i64 0, .int .i64 0, .int .i64 0]) (t := 25) (fr := (0, 0)) (heap_alloc_new wr _)) (by simp [Value.oneCell']) (by omega) (by unfold maxLen; omega) (by omega) (by simp; omega) (wr.heap.size + 1) (by simp) ?_; intro gg cp w2 hown2 hgrow2 hat2 hgl2; have HO2 := Lib.hid hown2; have HG2 := Lib.hid hgrow2; clear hown2 hgrow2)
      have hb2 : Below W.heap.size W w2 := (HB.out.alloc HB.out.size _).grown HG2.out (by simp; omega) (fun j hj => by have := (World.ownsRow.lt HO.out j hj).1; omega)
      go_ret
      refine ⟨gg, cp, by rw [← HNK.out]; rfl, ?_, hb2⟩
      unfold CdRow
      rw [cdsV_length, HN.out, ← HNK.out, HV.out, flat4_one]
      exact owns_base HO2.out (Nat.le_succ _)
end Go.Proofs.Ytiallkkleilgiaa
