/- Corners: the contract of the program's appendNew. -/
import Derived.Test.YtibcalpkmjjilaaThreeF
import Derived.Test.YtibcalpkmjjilaaThreeL
namespace Go.Proofs.Ytibcalpkmjjilaa
set_option maxRecDepth 100000
open Go.ChangeShapes Go.WideShapes Go.ChangeAt Go.RowKit

theorem own_lt {w : World} {B n cap : Nat} {a : Option Addr} {l : List Cd} (h : Ths w B a n cap l) {g : Nat} (e : (Value.slice a n cap).ownBlock = some g) : B ≤ g ∧ g < w.heap.size := World.ownsRow.lt h.1 g e
theorem ownNew_trans {w x : World} {v v' v'' : Value} (h : OwnNew w v v') (k : OwnNew x v' v'') (hs : w.heap.size ≤ x.heap.size) : OwnNew w v v'' := by
  rcases k with e | ⟨g, e, hg⟩
  · rcases h with e' | ⟨g', e', hg'⟩
    · exact .inl (e.trans e')
    · exact .inr ⟨g', e.trans e', hg'⟩
  · exact .inr ⟨g, e, Nat.le_trans hs hg⟩
/-- What grew by a value's own block and by what is newer has grown by the elder block alone. -/
theorem g_own {w x y : World} {v v' : Value} (h : w.grownBy x v.ownBlock) (k : x.grownBy y v'.ownBlock) (hn : OwnNew w v v') : w.grownBy y v.ownBlock :=
  ⟨k.os.trans h.os, k.tape.trans h.tape, k.output.trans h.output, Nat.le_trans h.size k.size, fun j hj hne => (k.block j (Nat.lt_of_lt_of_le hj h.size) (fun e => by
    rcases hn with e' | ⟨g, e', hg⟩
    · exact hne (e.trans e')
    · rw [e'] at e; simp only [Option.some.injEq] at e; omega)).trans (h.block j hj hne)⟩

theorem coOk_of {rs : List Cd} {n : Nat} (h : rs.length = n) (hn : inR (n : Int) 3 20 = true) (hc : cdsOk rs = true) : coOk rs = true := by
  unfold coOk; rw [h, hn, Bool.and_true, ← h]; exact hc
theorem coOk_n {rs : List Cd} {n : Nat} (h : rs.length = n) (hn : inR (n : Int) 3 20 = false) : coOk rs = false := by
  unfold coOk; rw [h, hn, Bool.and_false]
theorem coOk_c {rs : List Cd} (hc : cdsOk rs = false) : coOk rs = false := by
  unfold coOk; rw [show allV rs.length (fun x => okR (cd rs x)) = false from hc]; rfl
theorem thsOf {w : World} {B : Nat} {v : Value} {l : List Cd} (h : ThRow w B v l) : ∃ a n cap, v = .slice a n cap ∧ Ths w B a n cap l := by
  obtain ⟨a, cap, rfl, -, -⟩ := throw_slice h
  exact ⟨a, l.length, cap, rfl, h, rfl⟩
theorem ths_ne {w : World} {B n cap : Nat} {a : Option Addr} {l : List Cd} (h : Ths w B a n cap l) : some w.heap.size ≠ (Value.slice a n cap).ownBlock := fun he => by
  have := (World.ownsRow.lt h.1 _ he.symm).2
  omega
theorem rbox_alloc (w : World) (h v m d : Int) : TBox (w.alloc (.cells #[.int .i64 h, .int .i64 v, .int .i64 m, .int .i64 d] 25)) w.heap.size h v m d := by
  refine ⟨?_, ?_, ?_, ?_⟩ <;> go_simp
/-- What is kept behind a step: below the base all, and a box that is not the list's. -/
theorem below_rowed {w x y : World} {B : Nat} {row : Option Nat} (h : Below B w x) (hg : x.grownBy y row) (hB : B ≤ x.heap.size) (hr : ∀ j, row = some j → B ≤ j) : Below B w y :=
  h.grown hg hB (fun j hj => hr j hj)

set_option maxRecDepth 100000 in
set_option maxHeartbeats 4000000 in
theorem appendNew (w : World) (B B2 n cap m oc : Nat) (a oa : Option Addr) (l os : List Cd) (hl : Ths w B a n cap l) (hB : B ≤ w.heap.size) (hn : n + m ≤ 1000000) (ho : Ths w B2 oa m oc os) (hne : ∀ g, oa = some ⟨g, 0, none⟩ → (Value.slice a n cap).ownBlock ≠ some g) :
    Calls Try.prog 50 #[.slice a n cap, .slice oa m oc] w (CoAns w B (.slice a n cap) (anV l os)) := by
  obtain ⟨i0, hi0, hz0, hz1, hz2⟩ := info_parts Try.infoTr
  obtain ⟨hcc, hcm⟩ := ho.cap
  unfold maxLen at hcm
  have HL := Lib.hid hl
  have HO := Lib.hid ho
  have HBB := Lib.hid hB
  have HLN := Lib.hid hl.2
  have HON := Lib.hid ho.2
  have HNE := Lib.hid hne
  have hmn : n + m ≤ 1000000 := hn
  have HNL := Lib.hid (anTo_len l os)
  clear hl ho hne
  go_enter Try.func50, Try.ntmps50
  go_wp2_with fail
  go_loopw [0, 9] (fun q t wr => ∃ (k : Nat) (a' : Option Addr) (n' cap' : Nat), k ≤ m ∧ t = .int .i64 k ∧ q = .slice a' n' cap' ∧ Ths wr B a' n' cap' (anTo l os k) ∧ w.grownBy wr (Value.slice a n cap).ownBlock ∧ OwnNew w (.slice a n cap) (.slice a' n' cap'))
    (fun _ t _ => m - (intOf t).toNat)
  case atStart => exact ⟨0, a, n, cap, Nat.zero_le _, rfl, rfl, HL.out, World.grownBy.refl _ _, .inl rfl⟩
  case round =>
    obtain ⟨k, a', n', cap', hk, rfl, rfl, hth, hg, hown⟩ := hrel
    have HT := Lib.hid hth
    have HG := Lib.hid hg
    have HW := Lib.hid hown
    by_cases hlt : k < m
    · obtain ⟨g, hga, -, b0, b1, b2, b3⟩ := HO.out.at k hlt
      have hng := HNE.out g hga
      subst hga
      have hgl : g < w.heap.size := cell_block_lt b0
      have c0 := (hg.cell_far ⟨g, k * 4, none⟩ hgl (fun e => hng e.symm)).trans b0
      have c1 := (hg.cell_far ⟨g, k * 4 + 1, none⟩ hgl (fun e => hng e.symm)).trans b1
      have c2 := (hg.cell_far ⟨g, k * 4 + 2, none⟩ hgl (fun e => hng e.symm)).trans b2
      have c3 := (hg.cell_far ⟨g, k * 4 + 3, none⟩ hgl (fun e => hng e.symm)).trans b3
      have HNX := Lib.hid (show anTo l os (k + 1) = anAdd (anTo l os k) (cd os k) from rfl)
      have HLK := Lib.hid (show n' ≤ 1000000 by have h1 := HNL.out k; have h2 := HLN.out; have h3 := hth.2; omega)
      have HTL := Lib.hid hth.2
      obtain ⟨⟨th, tv, tm, td⟩, hq⟩ : ∃ q, cd os k = q := ⟨_, rfl⟩
      rw [hq] at c0 c1 c2 c3 HNX
      dsimp only at c0 c1 c2 c3
      obtain ⟨L, hL⟩ : ∃ L, anTo l os k = L := ⟨_, rfl⟩
      rw [hL] at HT HTL HNX
      have HYS := Lib.hid (anAdd_in (l := L) (t := (th, tv, tm, td)))
      have HNO := Lib.hid (anAdd_new (l := L) (t := (th, tv, tm, td)))
      have hal := cd_al wr (.cells #[.int .i64 th, .int .i64 tv, .int .i64 tm, .int .i64 td] 29)
      have HT1 := Lib.hid (HT.out.below hal)
      have HB1 := Lib.hid hal
      have HTB := Lib.hid (tbox_alloc wr th tv tm td)
      clear b0 b1 b2 b3 hng hgl hq hL hal hth hg hown HT
      obtain ⟨t0, t1, t2, t3⟩ := id HTB.out
      go_wp2_with fail
      refine (implContains _ _ _ _ _ _ _ _ _ L HT1.out).mono ?_
      rintro e w4 ⟨rfl, hb4⟩
      have HB4 := Lib.hid (HB1.out.trans (hb4.mono HB1.out.size))
      have HT4 := Lib.hid (HT1.out.below hb4)
      have HTB4 := Lib.hid (HTB.out.below hb4)
      have HG4 := Lib.hid (g_trans HG.out (g_of_below HB4.out _))
      clear hb4 HB1 HT1 HTB t0 t1 t2 t3 c0 c1 c2 c3
      cases hm : decide ((th, tv, tm, td) ∈ L)
      · have HX := Lib.hid (HNX.out.trans (HNO.out hm))
        have hwz := HB4.out.size
        have hBB := HBB.out
        have hgz := HG.out.size
        have hlk := HLK.out
        have HOO := Lib.hid (show w4.ownsRow B 29 4 (.slice a' n' cap') n' (flat4 L) from by have := HT4.out.1; unfold ThRow at this; rwa [HTL.out] at this)
        obtain ⟨hc1, hc2⟩ := HT4.out.cap
        unfold maxLen at hc2
        obtain ⟨t0, t1, t2, t3⟩ := id HTB4.out
        clear hm
        go_wp2_with (at_builtin; refine wpList_append_lies _ rfl _ _ _ rfl B 29 i0 _ 4 32 Try.underlying45 hi0 hz0 hz1 hz2 rfl (by omega) (.slice a' n' cap') n' (flat4 L) (by rfl) (World.ownsRow.alloc HOO.out _) ⟨w4.heap.size, 0, none⟩ 1 1 [.int .i64 th, .int .i64 tv, .int .i64 tm, .int .i64 td] (by rfl) (by rfl) (World.news_of_block (cs := #[.int .i64 th, .int .i64 tv, .int .i64 tm, .int .i64 td]) (t := 29) (fr := (0, 0)) (heap_alloc_new w4 _)) (by simp [Value.oneCell']) (by omega) (by unfold maxLen; omega) (by omega) (by first | omega | (simp; omega)) (w4.heap.size + 1) (by simp) ?_; intro gg cp w5 hown5 hgrow5 hat5 hgl5; have HO5 := Lib.hid hown5; have HG5 := Lib.hid hgrow5; have HT5 := Lib.hid hat5; clear hown5 hgrow5 hat5 hgl5 t0 t1 t2 t3)
        have HN5 : RowKit.Hid (OwnNew w4 (.slice a' n' cap') (.slice (some ⟨gg, 0, none⟩) (n' + 1) cp)) := Lib.hid (by
          rcases HT5.out with h | h
          · exact .inl h.symm
          · exact .inr ⟨gg, rfl, by omega⟩)
        go_roundw
        case rel =>
          refine ⟨k + 1, _, _, _, hlt, by go_num, rfl, ⟨?_, ?_⟩, ?_, ?_⟩
          · unfold ThRow
            rw [HX.out, flat4_one, List.length_append, HTL.out]
            exact HO5.out
          · rw [HX.out, List.length_append, HTL.out]; rfl
          · exact g_own HG4.out (g_trans (g_of_below (cd_al w4 _) _) HG5.out) HW.out
          · exact ownNew_trans HW.out HN5.out HG4.out.size
        case measure => simp [intOf]; omega
      · have HX := Lib.hid (HNX.out.trans (HYS.out hm))
        clear hm
        go_wp2_with fail
        go_roundw
        case rel => exact ⟨k + 1, a', n', cap', hlt, by go_num, rfl, by rw [HX.out]; exact HT4.out, HG4.out, HW.out⟩
        case measure => simp [intOf]; omega
    · obtain rfl : k = m := by omega
      have HE := Lib.hid (show anV l os = anTo l os k by unfold anV; rw [HON.out])
      clear hth hg hown
      go_wp2_with fail
      go_ret
      exact ⟨_, rfl, by rw [HE.out]; exact HT.out.2 ▸ HT.out.1, HG.out, HW.out⟩
end Go.Proofs.Ytibcalpkmjjilaa
