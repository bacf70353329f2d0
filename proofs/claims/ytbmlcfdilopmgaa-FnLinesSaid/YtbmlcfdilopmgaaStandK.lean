/- Standing, of the model: CentralThrust. -/
import Derived.Test.YtbmlcfdilopmgaaStandS
import Derived.Test.YtbmlcfdilopmgaaCentP
import Derived.Test.YtbmlcfdilopmgaaThreeO
namespace Go.Proofs.Ytbmlcfdilopmgaa
set_option maxRecDepth 100000
open Go.ChangeShapes Go.WideShapes Go.ChangeAt Go.RowKit

/-- What MixThrusts answers, by letters. -/
theorem mix_any (p q : Cd) : ∃ (a b c e : Int) (o : Bool), mxV p.1 p.2.1 p.2.2.1 p.2.2.2 q.1 q.2.1 q.2.2.1 q.2.2.2 = .tuple #[.agg #[.int .i64 a, .int .i64 b, .int .i64 c, .int .i64 e], .bool o] ∧ hwB p q = o ∧ (o = true → hwT p q = (a, b, c, e)) := by
  cases h : mxOk p.1 p.2.1 p.2.2.1 p.2.2.2 q.1 q.2.1 q.2.2.1 q.2.2.2
  · exact ⟨0, 0, 0, 0, false, mxV_no h, by unfold hwB mxB; rw [h]; rfl, fun hh => absurd hh (by simp)⟩
  · exact ⟨_, _, _, _, _, mxV_yes h, by unfold hwB mxB; rw [h]; rfl, fun _ => rfl⟩
theorem ft_grown {b : Nat} {w w' : World} {row : Option Nat} (h : FreshT b w) (hg : w.grownBy w' row) (hr : some b ≠ row) : FreshT b w' := by
  obtain ⟨h0, h1, h2, h3, hf, hl⟩ := h
  exact ⟨(World.grownBy.cell_far hg ⟨b, 0, none⟩ hl hr).trans h0, (World.grownBy.cell_far hg ⟨b, 1, none⟩ hl hr).trans h1, (World.grownBy.cell_far hg ⟨b, 2, none⟩ hl hr).trans h2, (World.grownBy.cell_far hg ⟨b, 3, none⟩ hl hr).trans h3,
    fun o => (World.grownBy.frozen_far hg ⟨b, o, none⟩ hl hr).trans (hf o), Nat.lt_of_lt_of_le hl hg.size⟩
theorem cds_grown {w w' : World} {B m cap : Nat} {a : Option Addr} {rs : List Cd} {row : Option Nat} (h : Cds w B a m cap rs) (hg : w.grownBy w' row) (hr : ∀ b, (Value.slice a m cap).ownBlock = some b → some b ≠ row) : Cds w' B a m cap rs := by
  refine ⟨World.ownsRow.kept h.1 hg ?_, h.2⟩
  cases hv : (Value.slice a m cap).ownBlock with
  | none => exact .inl rfl
  | some q => exact .inr (fun he => hr q hv he)
theorem cds_drew {w : World} {B m cap : Nat} {a : Option Addr} {rs : List Cd} (h : Cds w B a m cap rs) (n : Nat) : Cds (w.drewN n) B a m cap rs := h.below (below_drewN (Below.refl _ _) n)
/-- The candidates' slice lies apart from the rows and from the box of the answer. -/
def Apart (v : Value) (A lo hi : Nat) : Prop := ∀ b, v.ownBlock = some b → A ≤ b ∧ (b < lo ∨ hi ≤ b)
/-- What holds at every round of the loops that make the candidates. -/
def CnOk (w : World) (H lo hi : Nat) (ra : Option Addr) (rn rc : Nat) (R : List Cd) (wr : World) : Prop := Cds wr lo ra rn rc R ∧ Below H w wr ∧ FreshT (H + 1) wr ∧ hi ≤ wr.heap.size
theorem CnOk.below {w wr w' : World} {H lo hi : Nat} {ra : Option Addr} {rn rc : Nat} {R : List Cd} (h : CnOk w H lo hi ra rn rc R wr) (hb : Below wr.heap.size wr w') (hH : H ≤ wr.heap.size) : CnOk w H lo hi ra rn rc R w' :=
  ⟨h.1.below hb, h.2.1.trans (hb.mono hH), ft_keep h.2.2.1 hb, Nat.le_trans h.2.2.2 hb.size⟩
/-- The central thrust; the zero thrust where there is none. -/
def cenT (js : List Jt) (ls : List Ld) : Cd := cenV (coV (rowsV js ls)) (rowsV js ls)

/-- How many rows a thrust just meets, as the length of what JustMetBy answers. -/
theorem specJmLen (w : World) (B : Nat) (ra : Option Addr) (m rc : Nat) (h v mm d : Int) (rs : List Cd) (N : Nat) (hN : jmL (h, v, mm, d) rs = N) (hm : m ≤ 1048576) (hr : Cds w B ra m rc rs) :
    Calls Try.prog 33 #[.agg #[.int .i64 h, .int .i64 v, .int .i64 mm, .int .i64 d], .slice ra m rc] w fun e w' => ∃ a c, e = .returned (.slice a N c) ∧ Below w.heap.size w w' := by
  refine (specJustMetBy w B ra m rc h v mm d rs hr hm).mono ?_
  rintro e w' ⟨x, rfl, hin, hb⟩
  obtain ⟨a, c, rfl, -, -⟩ := inrow_slice hin
  exact ⟨a, c, by rw [← hN]; rfl, hb⟩

set_option maxRecDepth 100000 in
set_option maxHeartbeats 4000000 in
theorem specCentralThrust (w : World) (B B2 g cap n : Nat) (la : Option Addr) (m lc : Nat) (js : List Jt) (ls : List Ld) (hr : JRowAt w B g cap js) (hn : js.length = n) (h8 : n ≤ 1048576) (hl : Lds w B2 la m lc ls) :
    Calls Try.prog 7 #[.agg #[.slice (some ⟨g, 0, none⟩) n cap], .slice la m lc] w (FtAns w (cenT js ls) (stB js ls)) := by
  obtain ⟨i0, hi0, hz0, hz1, hz2⟩ := info_parts Try.infoTr
  have hb0 := ((Below.refl w.heap.size w).alloc (Nat.le_refl _) (.cells #[.slice (some ⟨g, 0, none⟩) n cap] 26)).alloc (by simp) (.cells #[.int .i64 0, .int .i64 0, .int .i64 0, .int .i64 0] 31)
  have hz0 : FreshT (w.heap.size + 1) ((w.alloc (.cells #[.slice (some ⟨g, 0, none⟩) n cap] 26)).alloc (.cells #[.int .i64 0, .int .i64 0, .int .i64 0, .int .i64 0] 31)) := by
    have := ft_al (w := w.alloc (.cells #[.slice (some ⟨g, 0, none⟩) n cap] 26)) (t := 31) (Below.refl _ _)
    simpa using this
  have s0 : ((w.alloc (.cells #[.slice (some ⟨g, 0, none⟩) n cap] 26)).alloc (.cells #[.int .i64 0, .int .i64 0, .int .i64 0, .int .i64 0] 31)).cell? ⟨w.heap.size, 0, none⟩ = some (.slice (some ⟨g, 0, none⟩) n cap) := by go_simp
  have HR := Lib.hid (JRowAt.below hr hb0)
  have HL := Lib.hid (hl.below hb0)
  have HB0 := Lib.hid hb0
  have HZ0 := Lib.hid hz0
  have HN := Lib.hid hn
  have S0 := Lib.hid s0
  clear hr hl hb0 hz0 hn s0
  go_enter Try.func7, Try.ntmps7
  go_wp2_with fail
  refine (specThrustsOf _ _ _ _ _ _ _ _ _ js ls HR.out HN.out h8 HL.out).mono ?_
  rintro e w1 ⟨v, rfl, hth, hb1⟩
  obtain ⟨ta, tn, tc, rfl, hts⟩ := thsOf hth
  have HB1 := Lib.hid (HB0.out.trans (hb1.mono HB0.out.size))
  have HV := Lib.hid (show stB js ls = decide (0 < tn) by unfold stB; rw [hts.2])
  have HZ1 := Lib.hid (ft_keep HZ0.out hb1)
  have HR1 := Lib.hid (JRowAt.below HR.out hb1)
  have HL1 := Lib.hid (HL.out.below hb1)
  have HT1 := Lib.hid (show Ths w1 (w.heap.size + 2) ta tn tc _ from hts.base (by simp))
  have s1 := cell_kept S0.out hb1
  have htn : tn ≤ 8000 := by rw [← hts.2]; exact coV_len _
  clear hb1 hth hts HB0 HZ0 HR HL S0
  go_wp2_with fail
  refine (specRowsOf _ _ _ _ _ _ _ _ _ js ls HR1.out HN.out h8 HL1.out).mono ?_
  rintro e w2 ⟨v, rfl, hrow, hb2⟩
  obtain ⟨ra, rn, rc, rfl, hcd⟩ := cdsOf hrow
  have HB2 := Lib.hid (HB1.out.trans (hb2.mono HB1.out.size))
  have HZ2 := Lib.hid (ft_keep HZ1.out hb2)
  have HT2 := Lib.hid (HT1.out.below hb2)
  have HC2 := Lib.hid hcd
  have HRB := Lib.hid (fun b hb => World.ownsRow.lt hcd.1 b hb)
  have HLB := Lib.hid (fun b hb => (World.ownsRow.lt HT1.out.1 b hb))
  have hz12 := hb2.size
  clear hb2 hrow hcd s1 HB1 HZ1 HT1 HR1 HL1
  have HTN := Lib.hid (HT2.out.2)
  have HG := Lib.hid (show cenT js ls = cenV (coV (rowsV js ls)) (rowsV js ls) from rfl)
  obtain ⟨R, hR⟩ : ∃ R, rowsV js ls = R := ⟨_, rfl⟩
  rw [hR] at HG HT2 HC2 HTN
  obtain ⟨L, hL⟩ : ∃ L, coV R = L := ⟨_, rfl⟩
  rw [hL] at HG HT2 HTN
  have HRN := Lib.hid (fun (h0 : 0 < tn) => (show rn ≤ 1048576 by
    have h1 : 0 < (coV R).length := by rw [hL, HTN.out]; exact h0
    have h2 : coOk R = true := by
      cases hc : coOk R
      · rw [coV_no hc] at h1; exact absurd h1 (Nat.lt_irrefl 0)
      · rfl
    unfold coOk at h2
    rw [Bool.and_eq_true] at h2
    have h3 := inR_iff.1 h2.2
    have h4 := HC2.out.2
    omega))
  clear hR hL
  have HO2 := Lib.hid (show CnOk w w.heap.size w1.heap.size w2.heap.size ra rn rc R w2 from ⟨HC2.out, HB2.out, HZ2.out, Nat.le_refl _⟩)
  have HA2 := Lib.hid (show Apart (.slice ta tn tc) (w.heap.size + 2) w1.heap.size w2.heap.size from fun b hb => ⟨(HLB.out b hb).1, .inl (HLB.out b hb).2⟩)
  clear HC2 HB2 HZ2
  go_wp2_with fail
  go_loopw [6, 9] (fun q t wr => ∃ (k : Nat) (a : Option Addr) (n2 cap2 : Nat), k ≤ tn ∧ t = .int .i64 k ∧ q = .slice a n2 cap2 ∧ Ths wr (w.heap.size + 2) a n2 cap2 (hwK L k) ∧ CnOk w w.heap.size w1.heap.size w2.heap.size ra rn rc R wr ∧ Apart (.slice a n2 cap2) (w.heap.size + 2) w1.heap.size w2.heap.size)
    (fun _ t _ => tn - (intOf t).toNat)
  case atStart => exact ⟨0, ta, tn, tc, Nat.zero_le _, rfl, rfl, HT2.out, HO2.out, HA2.out⟩
  case round =>
    clear HT2 HO2 HA2
    obtain ⟨k, a, n2, cap2, hk, rfl, rfl, hth, hok, hap⟩ := hrel
    have HT := Lib.hid hth
    have HO := Lib.hid hok
    have HA := Lib.hid hap
    clear hth hok hap
    by_cases hlt : k < tn
    · have HKN := Lib.hid (hwK_next L k)
      go_wp2_with fail
      rename World => wk
      go_loopw [6, 10] (fun q t wr => ∃ (i : Nat) (a : Option Addr) (n2 cap2 : Nat), k < i ∧ i ≤ tn ∧ t = .int .i64 i ∧ q = .slice a n2 cap2 ∧ Ths wr (w.heap.size + 2) a n2 cap2 (hwI L k (hwK L k) i) ∧ CnOk w w.heap.size w1.heap.size w2.heap.size ra rn rc R wr ∧ Apart (.slice a n2 cap2) (w.heap.size + 2) w1.heap.size w2.heap.size)
        (fun _ t _ => tn - (intOf t).toNat)
      case atStart => exact ⟨k + 1, a, n2, cap2, Nat.lt_succ_self _, hlt, by go_num, rfl, by rw [hwI_low _ _ _ _ (Nat.le_refl _)]; exact HT.out, HO.out, HA.out⟩
      case round =>
        clear HT HO HA
        obtain ⟨i, a3, n3, cap3, hki, hi, rfl, rfl, hth, hok, hap⟩ := hrel
        have HT := Lib.hid hth
        have HO := Lib.hid hok
        have HA := Lib.hid hap
        have HLT := Lib.hid hth.2
        clear hok hap
        by_cases hlti : i < tn
        · have HST := Lib.hid (hwI_next L k (hwK L k) i hki)
          have hlk := hwK_len L k
          have hli := hwI_len L (hwK L k) k i
          rw [HLT.out] at hli
          rw [HTN.out] at hlk
          have hn3 : tn ≤ n3 := by omega
          have hk3 : k < n3 := by omega
          have hi3 : i < n3 := by omega
          have hnb : n3 ≤ 100000000 := by
            have : k * tn ≤ 8000 * 8000 := Nat.mul_le_mul (by omega) htn
            omega
          clear hlk hli
          obtain ⟨g, rfl, -, p0, p1, p2, p3⟩ := hth.at k (by omega)
          obtain ⟨g', hg', -, q0, q1, q2, q3⟩ := hth.at i (by omega)
          simp only [Option.some.injEq, Addr.mk.injEq, and_true] at hg'
          subst hg'
          have hat : ∀ x, x < tn → cd (hwI L k (hwK L k) i) x = cd L x := fun x hx => by
            rw [hwI_at (by have := (hwK_len L k).1; rw [HTN.out] at this; omega), hwK_at (by rw [HTN.out]; exact hx)]
          rw [hat k hlt] at p0 p1 p2 p3
          rw [hat i hlti] at q0 q1 q2 q3
          clear hat hth
          obtain ⟨P, hP⟩ : ∃ P, cd L k = P := ⟨_, rfl⟩
          obtain ⟨Q, hQ⟩ : ∃ Q, cd L i = Q := ⟨_, rfl⟩
          rw [hP] at p0 p1 p2 p3
          rw [hQ] at q0 q1 q2 q3
          obtain ⟨x1, x2, x3, x4, o, hm, ho, hh⟩ := mix_any P Q
          have HNO := Lib.hid (fun (h : o = false) => (show hwI L k (hwK L k) (i + 1) = hwI L k (hwK L k) i by rw [HST.out]; exact hwStep_no (by rw [hP, hQ, ho, h])))
          have HYES := Lib.hid (fun (h : o = true) => (show hwI L k (hwK L k) (i + 1) = hwI L k (hwK L k) i ++ [(x1, x2, x3, x4)] by rw [HST.out, hwStep_yes (by rw [hP, hQ, ho, h]), hP, hQ, hh h]))
          obtain ⟨px, py, pz, pu⟩ := P
          obtain ⟨qx, qy, qz, qu⟩ := Q
          dsimp only at p0 p1 p2 p3 q0 q1 q2 q3 hm
          have HS := Lib.hid (fun w => specMix px py pz pu qx qy qz qu w)
          rw [hm] at HS
          clear hm ho hh hP hQ HST
          obtain ⟨L3, hL3⟩ : ∃ L3, hwI L k (hwK L k) i = L3 := ⟨_, rfl⟩
          rw [hL3] at HT HLT HNO HYES
          clear hL3
          have F0 := Lib.hid (fun (U : World) (hU : Below wr.heap.size wr U) => (⟨tcell p0 hU, tcell p1 hU, tcell p2 hU, tcell p3 hU, tcell q0 hU, tcell q1 hU, tcell q2 hU, tcell q3 hU⟩ : U.cell? ⟨g, k * 4, none⟩ = some (.int .i64 px) ∧ U.cell? ⟨g, k * 4 + 1, none⟩ = some (.int .i64 py) ∧ U.cell? ⟨g, k * 4 + 2, none⟩ = some (.int .i64 pz) ∧ U.cell? ⟨g, k * 4 + 3, none⟩ = some (.int .i64 pu) ∧ U.cell? ⟨g, i * 4, none⟩ = some (.int .i64 qx) ∧ U.cell? ⟨g, i * 4 + 1, none⟩ = some (.int .i64 qy) ∧ U.cell? ⟨g, i * 4 + 2, none⟩ = some (.int .i64 qz) ∧ U.cell? ⟨g, i * 4 + 3, none⟩ = some (.int .i64 qu)))
          have ZZ := Lib.hid (Below.refl wr.heap.size wr)
          have c1 := Nat.ne_of_lt (cell_block_lt p0)
          dsimp only at c1
          have c2 := Ne.symm c1
          go_upto_region 10 with fail
          go_cut [11, 12] from 35 to 51 (fun p q wx => ∃ b : Nat, p = .pointer (some ⟨b, 0, none⟩) ∧ q = .bool o ∧ TBox wx b x1 x2 x3 x4 ∧ Below wr.heap.size wr wx)
          case first =>
            go_region_held3 (fun w' => w'.cell? ⟨g, k * 4, none⟩ = some (.int .i64 px) ∧ w'.cell? ⟨g, k * 4 + 1, none⟩ = some (.int .i64 py) ∧ w'.cell? ⟨g, k * 4 + 2, none⟩ = some (.int .i64 pz) ∧ w'.cell? ⟨g, k * 4 + 3, none⟩ = some (.int .i64 pu) ∧ w'.cell? ⟨g, i * 4, none⟩ = some (.int .i64 qx) ∧ w'.cell? ⟨g, i * 4 + 1, none⟩ = some (.int .i64 qy) ∧ w'.cell? ⟨g, i * 4 + 2, none⟩ = some (.int .i64 qz) ∧ w'.cell? ⟨g, i * 4 + 3, none⟩ = some (.int .i64 qu))
              (first | (exact F0.out _ ZZ.out) | (exact F0.out _ (tbelowD ZZ.out)) | (exact F0.out _ (below_drewN ZZ.out _)) | (exact F0.out _ (cal ZZ.out _)) | (exact F0.out _ (cal (tbelowD ZZ.out) _)) | (exact F0.out _ (cal (below_drewN ZZ.out _) _)) | (exact F0.out _ (tbelowD (cal ZZ.out _))) | (refine ⟨?_, ?_, ?_, ?_, ?_, ?_, ?_, ?_⟩ <;> exact tcell_sf (by assumption) (by assumption)) | go_keep | trivial)
              ((go_at_call 32; refine (HS.out _).mono ?_; rintro e y ⟨rfl, hy⟩; (first | (have z := ft_dal hy) | (have z := ft_al hy) | skip); have ZZ : RowKit.Hid (Below wr.heap.size wr y) := Lib.hid (by first | exact cstep ZZ hy | exact cstepD ZZ hy | exact cstepA ZZ hy | exact cstepDA ZZ hy); clear hy; have sz := ZZ.out.size; obtain ⟨p0, p1, p2, p3, q0, q1, q2, q3⟩ := F0.out _ ZZ.out; have c1 := Nat.ne_of_lt (cell_block_lt p0); dsimp only at c1; have c2 := Ne.symm c1; (try (obtain ⟨zc, zd, ze, zh, zf, zl⟩ := z))))
            all_goals
              go_wp2_with fail
              go_meet
              refine ⟨_, rfl, rfl, ⟨by first | (go_simp; done) | (go_keep; done), by first | (go_simp; done) | (go_keep; done), by first | (go_simp; done) | (go_keep; done), by first | (go_simp; done) | (go_keep; done)⟩, ?_⟩
              first
                | (with_reducible exact ZZ.out)
                | (with_reducible exact cal ZZ.out _)
                | (with_reducible exact tbelowD (cal ZZ.out _))
                | (with_reducible exact cal (tbelowD ZZ.out) _)
                | (iterate 4 (with_reducible refine Below.setCell ?_ (by first | exact Nat.le_refl _ | with_reducible assumption | omega) _)); with_reducible exact ZZ.out
                | trace_state
          case rest =>
            obtain ⟨b, rfl, rfl, htb, hbx⟩ := hcut
            have HT4 := Lib.hid (HT.out.below hbx)
            have HO4 := Lib.hid (HO.out.below hbx HO.out.2.1.size)
            have HTB := Lib.hid htb
            clear hbx htb F0 ZZ HT HS HO c1 c2 p0 p1 p2 p3 q0 q1 q2 q3
            cases o
            · have HX := Lib.hid (HNO.out (by first | rfl | trivial))
              go_wp2_with fail
              go_roundw
              case rel => exact ⟨i + 1, _, n3, cap3, Nat.lt_succ_of_lt hki, hlti, by go_num, rfl, by rw [HX.out]; exact HT4.out, HO4.out, HA.out⟩
              case measure => simp [intOf]; omega
            have HX := Lib.hid (HYES.out (by first | rfl | trivial))
            have hwz := HO4.out.2.1.size
            have hzh := HO4.out.2.2.2
            have hzl := HO4.out.2.2.1.2.2.2.2.2
            obtain ⟨hcc3, hcm3⟩ := HT4.out.cap
            unfold maxLen at hcm3
            have HOW := Lib.hid (show wc.ownsRow (w.heap.size + 2) 31 4 (.slice (some ⟨g, 0, none⟩) n3 cap3) n3 (flat4 L3) from by have := HT4.out.1; unfold ThRow at this; rwa [HLT.out] at this)
            obtain ⟨t0, t1, t2, t3⟩ := id HTB.out
            go_wp2_with (at_builtin; refine wpList_append_lies _ rfl _ _ _ rfl (w.heap.size + 2) 31 i0 _ 4 32 Try.underlying64 hi0 hz0 hz1 hz2 rfl (by omega) (.slice (some ⟨g, 0, none⟩) n3 cap3) n3 (flat4 L3) (by rfl) (World.ownsRow.alloc HOW.out _) ⟨wc.heap.size, 0, none⟩ 1 1 [.int .i64 x1, .int .i64 x2, .int .i64 x3, .int .i64 x4] (by rfl) (by rfl) (World.news_of_block (cs := #[.int .i64 x1, .int .i64 x2, .int .i64 x3, .int .i64 x4]) (t := 31) (fr := (0, 0)) (heap_alloc_new wc _)) (by simp [Value.oneCell']) (by omega) (by unfold maxLen; omega) (by omega) (by first | omega | (simp; omega)) (wc.heap.size + 1) (by simp) ?_; intro gg cp w9 hown9 hgrow9 hat9 hgl9; have HO9 := Lib.hid hown9; have HG9 := Lib.hid hgrow9; have HAT9 := Lib.hid hat9; clear hown9 hgrow9 hat9 hgl9 t0 t1 t2 t3)
            have hbk : ∀ b, (Value.slice (some ⟨g, 0, none⟩) n3 cap3).ownBlock = some b → b = g := fun b hb => by simpa [Value.ownBlock] using hb.symm
            have hga := HA.out g (by simp [Value.ownBlock])
            have HO9' := Lib.hid (show CnOk w w.heap.size w1.heap.size w2.heap.size ra rn rc R w9 from by
              refine ⟨cds_grown (HO4.out.1.below (cd_al wc (.cells #[.int .i64 x1, .int .i64 x2, .int .i64 x3, .int .i64 x4] 31))) HG9.out (fun b hb he => ?_), below_rowed (HO4.out.2.1.alloc HO4.out.2.1.size _) HG9.out (by simp; omega) (fun y hy => by have := hbk y hy; omega), ft_grown (ft_keep HO4.out.2.2.1 (cd_al wc _)) HG9.out (fun he => by have := hbk _ he.symm; omega), by have := HG9.out.size; simp at this; omega⟩
              have h1 := HRB.out b hb
              have h2 := hbk b he.symm
              omega)
            have HA9 := Lib.hid (show Apart (.slice (some ⟨gg, 0, none⟩) (n3 + 1) cp) (w.heap.size + 2) w1.heap.size w2.heap.size from fun b hb => by
              have hb' : b = gg := by simpa [Value.ownBlock] using hb.symm
              rcases HAT9.out with h | h
              · have := hbk gg h
                omega
              · omega)
            have HT9 : RowKit.Hid (Ths w9 (w.heap.size + 2) (some ⟨gg, 0, none⟩) (n3 + 1) cp (hwI L k (hwK L k) (i + 1))) := Lib.hid (by
              rw [HX.out]
              refine ⟨?_, by rw [List.length_append, HLT.out]; rfl⟩
              unfold ThRow
              rw [flat4_one, List.length_append, HLT.out]
              exact HO9.out)
            go_roundw
            case rel => exact ⟨i + 1, _, _, _, Nat.lt_succ_of_lt hki, hlti, by go_num, rfl, HT9.out, HO9'.out, HA9.out⟩
            case measure => simp [intOf]; omega
        · have hie : i = tn := by omega
          have HE := Lib.hid (show hwI L k (hwK L k) i = hwK L (k + 1) by rw [HKN.out, HTN.out, hie])
          clear hth hie
          go_wp2_with fail
          go_roundw
          case rel => exact ⟨k + 1, a3, n3, cap3, hlt, by go_num, rfl, by rw [← HE.out]; exact HT.out, HO.out, HA.out⟩
          case measure => simp [intOf]; omega
    · have hke : k = tn := by omega
      subst hke
      have HC := Lib.hid (show Ths wr (w.heap.size + 2) a n2 cap2 (hwK L L.length) by rw [HTN.out]; exact HT.out)
      have HCN := Lib.hid (show (hwK L L.length).length = n2 from HC.out.2)
      have hnn : k ≤ n2 := by
        have := (hwK_len L L.length).1
        have h1 := HCN.out
        have h2 := HTN.out
        omega
      have HBST := Lib.hid (show cenV L R = bstTo (hwK L L.length) R n2 by unfold cenV; rw [HCN.out])
      have hzh := HO.out.2.2.2
      have hzl := HO.out.2.2.1.2.2.2.2.2
      obtain ⟨C, hC⟩ : ∃ C, hwK L L.length = C := ⟨_, rfl⟩
      rw [hC] at HC HCN HBST
      clear hC HT
      have hnl : ¬ (k < k) := Nat.lt_irrefl _
      by_cases h0 : 0 < k
      · obtain ⟨g, rfl, -, p0, p1, p2, p3⟩ := HC.out.at 0 (by omega)
        have HF1 := Lib.hid (bst_one C R)
        have htn0 : ¬ k = 0 := by omega
        have HBX := Lib.hid (cd_al wr (.cells #[.int .i64 (cd C 0).1, .int .i64 (cd C 0).2.1, .int .i64 (cd C 0).2.2.1, .int .i64 (cd C 0).2.2.2] 31))
        have HTX := Lib.hid (tbox_alloc wr (cd C 0).1 (cd C 0).2.1 (cd C 0).2.2.1 (cd C 0).2.2.2)
        have HFX := Lib.hid (show ∀ o, (wr.alloc (.cells #[.int .i64 (cd C 0).1, .int .i64 (cd C 0).2.1, .int .i64 (cd C 0).2.2.1, .int .i64 (cd C 0).2.2.2] 31)).frozen? ⟨wr.heap.size, o, none⟩ = false from fun o => by go_simp)
        have hge : w.heap.size ≤ wr.heap.size := HO.out.2.1.size
        have hkb : ((k : Int) == 0) = false := by simp; omega
        go_wp2_with fail
        try rw [hkb]
        have H0 := Lib.hid h0
        have hn2 : n2 ≤ 9223372036854775807 := by have := HC.out.cap; unfold maxLen at this; omega
        clear p0 p1 p2 p3 h0 htn0 hnl hkb
        rename World => w3
        go_loopw [14] (fun t wr => ∃ j : Nat, 1 ≤ j ∧ j ≤ n2 ∧ t = .int .i64 j ∧ TBox wr w3.heap.size (bstTo C R j).1 (bstTo C R j).2.1 (bstTo C R j).2.2.1 (bstTo C R j).2.2.2 ∧ (∀ o, wr.frozen? ⟨w3.heap.size, o, none⟩ = false) ∧ Below w3.heap.size w3 wr)
          (fun t _ => n2 - (intOf t).toNat)
        case atStart => exact ⟨1, Nat.le_refl _, by have := H0.out; omega, rfl, by rw [HF1.out]; exact HTX.out, HFX.out, HBX.out⟩
        case round =>
          clear HBX HTX HFX
          obtain ⟨j, hj1, hjn, rfl, htb, hfz, hbw⟩ := hrel
          have HBW := Lib.hid hbw
          have HFZ := Lib.hid hfz
          by_cases hltj : j < n2
          · obtain ⟨g', hg', -, p0, p1, p2, p3⟩ := (HC.out.below hbw).at j hltj
            simp only [Option.some.injEq, Addr.mk.injEq, and_true] at hg'
            subst hg'
            have HCD0 := Lib.hid (HO.out.1.below hbw)
            have HY := Lib.hid (fun h => bst_yes (cs := C) (rs := R) (k := j) hj1 h)
            have HX := Lib.hid (fun h => bst_no (cs := C) (rs := R) (k := j) hj1 h)
            obtain ⟨q0, q1, q2, q3⟩ := htb
            obtain ⟨⟨px, py, pz, pu⟩, hP⟩ : ∃ P, cd C j = P := ⟨_, rfl⟩
            obtain ⟨⟨qx, qy, qz, qu⟩, hQ⟩ : ∃ Q, bstTo C R j = Q := ⟨_, rfl⟩
            rw [hP] at p0 p1 p2 p3
            rw [hQ] at q0 q1 q2 q3
            rw [hP, hQ] at HY HX
            dsimp only at p0 p1 p2 p3 q0 q1 q2 q3
            have HJ := Lib.hid (fun W h v m d hr => specJmLen W w1.heap.size ra rn rc h v m d R _ rfl (HRN.out H0.out) hr)
            have F0 := Lib.hid (fun (U : World) (hU : Below wr.heap.size wr U) => (⟨tcell p0 hU, tcell p1 hU, tcell p2 hU, tcell p3 hU, tcell q0 hU, tcell q1 hU, tcell q2 hU, tcell q3 hU⟩ : U.cell? ⟨g, j * 4, none⟩ = some (.int .i64 px) ∧ U.cell? ⟨g, j * 4 + 1, none⟩ = some (.int .i64 py) ∧ U.cell? ⟨g, j * 4 + 2, none⟩ = some (.int .i64 pz) ∧ U.cell? ⟨g, j * 4 + 3, none⟩ = some (.int .i64 pu) ∧ U.cell? ⟨w3.heap.size, 0, none⟩ = some (.int .i64 qx) ∧ U.cell? ⟨w3.heap.size, 1, none⟩ = some (.int .i64 qy) ∧ U.cell? ⟨w3.heap.size, 2, none⟩ = some (.int .i64 qz) ∧ U.cell? ⟨w3.heap.size, 3, none⟩ = some (.int .i64 qu)))
            have ZZ := Lib.hid (Below.refl wr.heap.size wr)
            have hwl := cell_block_lt q0
            dsimp only at hwl
            clear hP hQ hbw hfz
            by_cases hc : jmL (px, py, pz, pu) R < jmL (qx, qy, qz, qu) R
            · have HN' := Lib.hid (HY.out hc)
              clear HY HX HV HG HTN HBST HCN HRN HF1 HC
              clear hi0 hz0 hz1 hz2 htn hz12 hnn hge
              go_wp2_with fail
              go_region_held3 (fun w' => w'.cell? ⟨g, j * 4, none⟩ = some (.int .i64 px) ∧ w'.cell? ⟨g, j * 4 + 1, none⟩ = some (.int .i64 py) ∧ w'.cell? ⟨g, j * 4 + 2, none⟩ = some (.int .i64 pz) ∧ w'.cell? ⟨g, j * 4 + 3, none⟩ = some (.int .i64 pu) ∧ w'.cell? ⟨w3.heap.size, 0, none⟩ = some (.int .i64 qx) ∧ w'.cell? ⟨w3.heap.size, 1, none⟩ = some (.int .i64 qy) ∧ w'.cell? ⟨w3.heap.size, 2, none⟩ = some (.int .i64 qz) ∧ w'.cell? ⟨w3.heap.size, 3, none⟩ = some (.int .i64 qu))
                (first | (exact F0.out _ ZZ.out) | (exact F0.out _ (tbelowD ZZ.out)) | (exact F0.out _ (below_drewN ZZ.out _)) | go_keep | trivial)
                ((go_at_call 33; refine (HJ.out _ _ _ _ _ (by first | exact HCD0.out | exact cds_drew HCD0.out _)).mono ?_; rintro e y ⟨b1, e1, rfl, hy⟩; have HCD0 : RowKit.Hid (Cds y w1.heap.size ra rn rc R) := Lib.hid (by first | exact HCD0.out.below hy | exact HCD0.out.after hy); have ZZ : RowKit.Hid (Below wr.heap.size wr y) := Lib.hid (by first | exact cstep ZZ hy | exact cstepD ZZ hy); clear hy; obtain ⟨p0, p1, p2, p3, q0, q1, q2, q3⟩ := F0.out _ ZZ.out))
              clear HJ
              have HB9 := Lib.hid (HBW.out.trans (ZZ.out.mono HBW.out.size))
              have HF9 := Lib.hid (fun o => (ZZ.out.frozen (p := ⟨w3.heap.size, o, none⟩) hwl).trans (HFZ.out o))
              have hz9 := Nat.lt_of_lt_of_le hwl ZZ.out.size
              have f9 := HF9.out
              go_wp2_with fail
              go_roundw
              case rel => exact ⟨j + 1, by omega, hltj, by go_num, by rw [HN'.out]; exact tset _ _ _ _ q0 q1 q2 q3, fun o => by go_simp, tset_below HB9.out (Nat.le_refl _) _ _ _ _⟩
              case measure => simp [intOf]; omega
            · have HN' := Lib.hid (HX.out hc)
              clear HY HX HV HG HTN HBST HCN HRN HF1 HC
              clear hi0 hz0 hz1 hz2 htn hz12 hnn hge
              go_wp2_with fail
              go_region_held3 (fun w' => w'.cell? ⟨g, j * 4, none⟩ = some (.int .i64 px) ∧ w'.cell? ⟨g, j * 4 + 1, none⟩ = some (.int .i64 py) ∧ w'.cell? ⟨g, j * 4 + 2, none⟩ = some (.int .i64 pz) ∧ w'.cell? ⟨g, j * 4 + 3, none⟩ = some (.int .i64 pu) ∧ w'.cell? ⟨w3.heap.size, 0, none⟩ = some (.int .i64 qx) ∧ w'.cell? ⟨w3.heap.size, 1, none⟩ = some (.int .i64 qy) ∧ w'.cell? ⟨w3.heap.size, 2, none⟩ = some (.int .i64 qz) ∧ w'.cell? ⟨w3.heap.size, 3, none⟩ = some (.int .i64 qu))
                (first | (exact F0.out _ ZZ.out) | (exact F0.out _ (tbelowD ZZ.out)) | (exact F0.out _ (below_drewN ZZ.out _)) | go_keep | trivial)
                ((go_at_call 33; refine (HJ.out _ _ _ _ _ (by first | exact HCD0.out | exact cds_drew HCD0.out _)).mono ?_; rintro e y ⟨b1, e1, rfl, hy⟩; have HCD0 : RowKit.Hid (Cds y w1.heap.size ra rn rc R) := Lib.hid (by first | exact HCD0.out.below hy | exact HCD0.out.after hy); have ZZ : RowKit.Hid (Below wr.heap.size wr y) := Lib.hid (by first | exact cstep ZZ hy | exact cstepD ZZ hy); clear hy; obtain ⟨p0, p1, p2, p3, q0, q1, q2, q3⟩ := F0.out _ ZZ.out))
              clear HJ
              have HB9 := Lib.hid (HBW.out.trans (ZZ.out.mono HBW.out.size))
              have HF9 := Lib.hid (fun o => (ZZ.out.frozen (p := ⟨w3.heap.size, o, none⟩) hwl).trans (HFZ.out o))
              have HT9 := Lib.hid (show TBox _ w3.heap.size qx qy qz qu from ⟨q0, q1, q2, q3⟩)
              go_wp2_with fail
              go_roundw
              case rel => exact ⟨j + 1, by omega, hltj, by go_num, by rw [HN'.out]; exact HT9.out, HF9.out, HB9.out⟩
              case measure => simp [intOf]; omega
          · have hje : j = n2 := by omega
            have HE := Lib.hid (show cenT js ls = bstTo C R j by rw [HG.out, HBST.out, hje])
            have HV1 := Lib.hid (show stB js ls = true by rw [HV.out]; simpa using H0.out)
            have HZ9 := Lib.hid (ft_keep HO.out.2.2.1 hbw)
            have HB9 := Lib.hid (HO.out.2.1.trans (hbw.mono hge))
            obtain ⟨q0, q1, q2, q3⟩ := htb
            obtain ⟨zc, zd, ze, zh, zf, zl⟩ := id HZ9.out
            obtain ⟨Q, hQ⟩ : ∃ Q, bstTo C R j = Q := ⟨_, rfl⟩
            rw [hQ] at q0 q1 q2 q3 HE
            clear hQ hbw hfz
            go_wp2_with fail
            refine World.any (p := fun W => bodyPost _ _ (FtAns w (cenT js ls) (stB js ls)) _ _ W) (fun Z hZ => ?_)
            obtain ⟨z0, z1, z2, z3⟩ : TBox Z (w.heap.size + 1) Q.1 Q.2.1 Q.2.2.1 Q.2.2.2 := by
              subst hZ; exact tset _ _ _ _ zc zd ze zh
            have HBW' : Below w.heap.size w Z := by subst hZ; exact tset_below HB9.out (by omega) _ _ _ _
            refine bodyPost_ret (v := .tuple #[.agg #[.int .i64 Q.1, .int .i64 Q.2.1, .int .i64 Q.2.2.1, .int .i64 Q.2.2.2], .bool true]) (by simp [results, Try.results7, go_sem, z0, z1, z2, z3]) rfl ⟨by rw [HV1.out, HE.out], HBW'⟩
      · have h00 : k = 0 := by omega
        subst h00
        have HV1 := Lib.hid (show stB js ls = false by rw [HV.out]; rfl)
        have HF := Lib.hid (show cenT js ls = (0, 0, 0, 0) by rw [HG.out, List.length_eq_zero_iff.1 HTN.out]; rfl)
        have HZ9 := Lib.hid HO.out.2.2.1
        have HB9 := Lib.hid HO.out.2.1
        obtain ⟨zc, zd, ze, zh, zf, zl⟩ := id HZ9.out
        clear h0 hnl
        go_wp2_with fail
        refine World.any (p := fun W => bodyPost _ _ (FtAns w (cenT js ls) (stB js ls)) _ _ W) (fun Z hZ => ?_)
        obtain ⟨z0, z1, z2, z3⟩ : TBox Z (w.heap.size + 1) 0 0 0 0 := by
          subst hZ; exact tset _ _ _ _ zc zd ze zh
        have HBW : Below w.heap.size w Z := by subst hZ; exact tset_below HB9.out (by omega) _ _ _ _
        refine bodyPost_ret (v := .tuple #[.agg #[.int .i64 0, .int .i64 0, .int .i64 0, .int .i64 0], .bool false]) (by simp [results, Try.results7, go_sem, z0, z1, z2, z3]) rfl ⟨by rw [HV1.out, HF.out], HBW⟩
end Go.Proofs.Ytbmlcfdilopmgaa
