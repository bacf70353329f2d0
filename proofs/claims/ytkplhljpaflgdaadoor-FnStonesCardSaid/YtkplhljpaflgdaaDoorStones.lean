/- The law of stones: a drawn stone contains its corners, and its mirror image is a stone. The card ties the library's tables to the program's text; no other condition. -/
import Derived.Test.YtkplhljpaflgdaaDoorStoneR
import Derived.Test.YtkplhljpaflgdaaDoorStoneT
import Derived.Test.YtkplhljpaflgdaaDoorAtC
import Derived.Test.YtkplhljpaflgdaaDoorLaidC
import Derived.Test.YtkplhljpaflgdaaDoorRows
import Derived.Test.YtkplhljpaflgdaaDoorCards
import Derived.Test.YtkplhljpaflgdaaDoorTie
import Derived.LaidMore
import Derived.Stop.Joined
import Derived.SevenTiedAt
import Derived.WalkKit
import Derived.ProofKit
import Derived.OpenShut
import Derived.ShutString
import Derived.ChangeOld
import Derived.Below
namespace Go.Proofs.YtkplhljpaflgdaaDoor.fnStones
open Go.ChangeShapes Go.WideShapes Go.ChangeAt Go.RowKit
open Go.ChangeMaps (open_string shut_string)
set_option linter.unusedVariables false

theorem own : ownKnob Tryd.prog.godebug = none := by kernel_rfl
theorem laidOut : laidOutB Tryd.prog = true := by kernel_rfl

/-- WHAT THE WALK IS TOLD OF A SLICE OF INTEGERS THAT CAME IN: it is nil; or it leads to a row of 'cap' cells, the numbers 'zs' (the first 'len' are its elements, the rest its spare room), each fitting its kind. -/
def IsRow (k : IntKind) (w : World) (a : Option Addr) (len cap : Nat) (zs : List Int) : Prop :=
  (a = none ∧ len = 0 ∧ cap = 0 ∧ zs = []) ∨
  ∃ x, a = some x ∧ len ≤ cap ∧ cap ≤ maxLen ∧ zs.length = cap ∧ (∀ i, i < zs.length → w.cell? (x.add i) = some (.int k (zs.getD i 0))) ∧ ∀ n ∈ zs, (Lit.int k n).wf = true

theorem below_al2 {a w : World} (h : Below a.heap.size a w) (o : Obj) : Below a.heap.size a (w.alloc o) := h.alloc h.size o
theorem alloc_below2 (w : World) (o : Obj) : Below w.heap.size w (w.alloc o) := (Below.refl w.heap.size w).alloc (Nat.le_refl _) o

/-- What the law asks of a drawn stone. -/
theorem stone_facts {cs : List (Int × Int)} (hg : Good cs) {x : Int} (hx : -4 ≤ x ∧ x ≤ 4) :
    stoneV cs = true ∧ mirV cs x = mirL cs x ∧ mirV (mirL cs x) x = cs ∧ widV (mirL cs x) = widV cs ∧ 0 < widV cs ∧ (-30 ≤ boxV cs hiX ∧ boxV cs hiX ≤ 30) ∧ inV cs (boxV cs hiX + 1, boxV cs loY) = false ∧
    ∀ k, k < cs.length → inV cs (pt cs k) = true ∧ (boxV cs loX ≤ (pt cs k).1 ∧ (pt cs k).1 ≤ boxV cs hiX) ∧ boxV cs loY ≤ (pt cs k).2 ∧ (pt cs k).2 ≤ boxV cs hiY := by
  obtain ⟨hs, hr, hn⟩ := hg
  have hm := mir_stone hs hr hn hx
  have h0 := stone_size hs
  have hb : ∀ q, boxV cs q = q cs cs.length := fun q => by unfold boxV; rw [hs]; rfl
  have hw : widV cs = widTo cs cs.length := by unfold widV; rw [hs]; rfl
  refine ⟨hs, ?_, ?_, ?_, ?_, ?_, ?_, ?_⟩
  · unfold mirV; rw [hs, hm]; rfl
  · unfold mirV; rw [hm, mir_back hs hn hx, hs]; rfl
  · rw [hw]; unfold widV; rw [hm]; exact wid_mir hs hn hx
  · rw [hw]; exact wid_pos hs
  · rw [hb]
    obtain ⟨j, hj, he⟩ := hiX_at cs cs.length
    have := hn j (by omega)
    omega
  · rw [hb, hb]
    exact not_in hs _ (by show _ < _ + 1; omega)
  · intro k hk
    rw [hb, hb, hb, hb]
    exact ⟨in_corner hs hr k hk, box_le cs cs.length k hk⟩

/-! ### THE WALK: the Go text returns true, and writes nothing that was there. -/
set_option maxRecDepth 100000 in
set_option maxHeartbeats 4000000 in
theorem walk (a0 : Option Addr) (len0 cap0 : Nat) (z0 : List Int) (w : World) (g0 : IsRow .u8 w a0 len0 cap0 z0) (hT : Tens w) :
    Calls Tryd.prog 3 #[.slice a0 len0 cap0] w fun e w' => e = .returned (.bool true) ∧ Below w.heap.size w w' := by
  have hr : IsCode w a0 len0 cap0 z0 := g0
  clear g0
  have HT := Lib.hid hT
  clear hT
  have hm := (code_cells hr).1
  unfold maxLen at hm
  by_cases hbig : 1048576 < len0
  · clear hr
    go_enter Tryd.func3, Tryd.ntmps3
    go_wp2_with (go_at_call 5; refine (big_yes _ _ _ _ (by omega) (by omega)).mono ?_; rintro e w' ⟨rfl, rfl⟩)
    go_ret
    exact ⟨rfl, Below.refl _ _⟩
  · go_enter Tryd.func3, Tryd.ntmps3
    go_wp2_with fail
    refine (big_no _ _ _ _ (by omega) (by omega)).mono ?_
    rintro e w' ⟨rfl, rfl⟩
    go_wp2_with fail
    refine (drawStone _ _ _ _ _ hr).mono ?_
    rintro e w1 ⟨u, cs, hg, rfl, hrow, hb1⟩
    obtain ⟨ua, uc, hu, hul⟩ := row_sliceS hrow
    have HR := Lib.hid hr
    have HGd := Lib.hid hg
    have RS1 := Lib.hid (hrow.below (alloc_below2 w1 (.cells #[u] 26)))
    have HB1 := Lib.hid (below_al2 hb1 (.cells #[u] 26))
    generalize hN : cs.length = N at *
    subst hu
    have hs1 : (w1.alloc (.cells #[.slice ua N uc] 26)).cell? ⟨w1.heap.size, 0, none⟩ = some (.slice ua N uc) := by go_simp
    have HN := Lib.hid hN
    have HS1 := Lib.hid hs1
    clear hr hg hrow hb1 hN hs1
    go_wp2_with fail
    refine (implBoxOf _ _ _ cs RS1.out).mono ?_
    rintro e w2 ⟨rfl, hb2⟩
    generalize hL1 : boxV cs loX = L1
    generalize hL2 : boxV cs loY = L2
    generalize hH1 : boxV cs hiX = H1
    generalize hH2 : boxV cs hiY = H2
    have HL1 := Lib.hid hL1
    have HL2 := Lib.hid hL2
    have HH1 := Lib.hid hH1
    have HH2 := Lib.hid hH2
    have s2 := cell_kept HS1.out hb2
    have l2 := cell_block_lt s2
    dsimp only at l2
    have hb12 := HB1.out.trans (hb2.mono HB1.out.size)
    have RS2 := Lib.hid ((RS1.out.below hb2).below ((alloc_below2 w2 (.cells #[.int .i64 L1, .int .i64 L2] 29)).alloc (by simp) (.cells #[.int .i64 H1, .int .i64 H2] 29)))
    have HB2 := Lib.hid (below_al2 (below_al2 hb12 (.cells #[.int .i64 L1, .int .i64 L2] 29)) (.cells #[.int .i64 H1, .int .i64 H2] 29))
    have hK2 : Known ((w2.alloc (.cells #[.int .i64 L1, .int .i64 L2] 29)).alloc (.cells #[.int .i64 H1, .int .i64 H2] 29)) [(w1.heap.size, 0, .slice ua N uc), (w2.heap.size, 0, .int .i64 L1), (w2.heap.size, 1, .int .i64 L2), (w2.heap.size + 1, 0, .int .i64 H1), (w2.heap.size + 1, 1, .int .i64 H2)] := by
      simp only [known_cons]
      refine ⟨?_, ?_, ?_, ?_, ?_, Known.nil _⟩
      · rw [World.cell?_alloc_lt _ _ _ (by simp; omega), World.cell?_alloc_lt _ _ _ (by simpa using l2)]; exact s2
      all_goals go_simp
    have KK2 := Lib.hid hK2
    clear hL1 hL2 hH1 hH2 hb2 s2 hb12 hK2 RS1 HB1 HS1
    go_wp2_with fail
    refine (at_any _ _ _ _ z0 0 (by omega) (HR.out.below HB2.out)).mono ?_
    rintro e w' ⟨t, ht0, ht1, rfl, rfl⟩
    have hK2 := KK2.out
    simp only [known_cons] at hK2
    obtain ⟨ks, kl1, kl2, kh1, kh2, -⟩ := hK2
    go_wp2_with fail
    have hx : -4 ≤ t % 9 - 4 ∧ t % 9 - 4 ≤ 4 := by omega
    generalize t % 9 - 4 = x at *
    obtain ⟨q1, q2, q3, q4, q5, q6, q7, q8⟩ := stone_facts HGd.out hx
    rw [HH1.out] at q6 q7
    rw [HL2.out] at q7
    simp only [HL1.out, HL2.out, HH1.out, HH2.out, HN.out] at q8
    generalize hV : widV cs = V at *
    have HV := Lib.hid hV
    have Q1 := Lib.hid q1
    have Q2 := Lib.hid q2
    have Q3 := Lib.hid q3
    have Q4 := Lib.hid q4
    have Q7 := Lib.hid q7
    have Q8 := Lib.hid q8
    obtain ⟨g3, g6⟩ := stone_size q1
    rw [HN.out] at g3 g6
    have hml : (mirL cs x).length = N := by rw [mirL_length]; exact HN.out
    have HML := Lib.hid hml
    clear hV q1 q2 q3 q4 q7 q8 ks kl1 kl2 kh1 kh2 HL1 HH2 hx ht0 ht1 hml
    refine World.any (p := fun W => Calls _ _ _ W _) (fun W hW => ?_)
    have hKW : Known W [(w1.heap.size, 0, .slice ua N uc), (w2.heap.size, 0, .int .i64 L1), (w2.heap.size, 1, .int .i64 L2), (w2.heap.size + 1, 0, .int .i64 H1), (w2.heap.size + 1, 1, .int .i64 H2)] := by subst hW; exact KK2.out
    have hRW : Row W w.heap.size (.slice ua N uc) cs := by subst hW; exact RS2.out
    have hBW : Below w.heap.size w W := by subst hW; exact HB2.out
    clear hW KK2 RS2 HB2
    refine (implMirrorStone _ _ _ cs x hRW).mono ?_
    rintro e w3 ⟨um, rfl, hrm, hb3⟩
    rw [Q2.out] at hrm
    obtain ⟨ma, mc, hum, -⟩ := row_sliceS hrm
    rw [HML.out] at hum
    subst hum
    have hb03 := below_al2 (hBW.trans (hb3.mono hBW.size)) (.cells #[.slice ma N mc] 26)
    have KW3 := Lib.hid (((hKW.below hb3).alloc (.cells #[.slice ma N mc] 26)).cons (b := w3.heap.size) (o := 0) (v := .slice ma N mc) (by go_simp))
    have RS3 := Lib.hid ((hRW.below hb3).below (alloc_below2 w3 (.cells #[.slice ma N mc] 26)))
    have RM3 := Lib.hid (hrm.below (alloc_below2 w3 (.cells #[.slice ma N mc] 26)))
    have HB3 := Lib.hid hb03
    have k3 := KW3.out
    simp only [known_cons] at k3
    obtain ⟨km3, -⟩ := k3
    clear hb03 hKW hRW hBW hrm hb3
    go_wp2_with fail
    refine World.any (p := fun W => Calls _ _ _ W _) (fun W3 hW => ?_)
    have hKW : Known W3 [(w3.heap.size, 0, .slice ma N mc), (w1.heap.size, 0, .slice ua N uc), (w2.heap.size, 0, .int .i64 L1), (w2.heap.size, 1, .int .i64 L2), (w2.heap.size + 1, 0, .int .i64 H1), (w2.heap.size + 1, 1, .int .i64 H2)] := by subst hW; exact KW3.out
    have hRS : Row W3 w.heap.size (.slice ua N uc) cs := by subst hW; exact RS3.out
    have hRM := hW ▸ RM3.out
    have hBW : Below w.heap.size w W3 := by subst hW; exact HB3.out
    clear hW KW3 RS3 RM3 HB3 km3
    refine (implMirrorStone _ _ _ (mirL cs x) x hRM).mono ?_
    rintro e w4 ⟨ub, rfl, hrb, hb4⟩
    rw [Q3.out] at hrb
    obtain ⟨ba, bcp, hub, -⟩ := row_sliceS hrb
    rw [HN.out] at hub
    subst hub
    have hb04 := below_al2 (hBW.trans (hb4.mono hBW.size)) (.cells #[.slice ba N bcp] 26)
    have KW4 := Lib.hid (((hKW.below hb4).alloc (.cells #[.slice ba N bcp] 26)).cons (b := w4.heap.size) (o := 0) (v := .slice ba N bcp) (by go_simp))
    have RS4 := Lib.hid ((hRS.below hb4).below (alloc_below2 w4 (.cells #[.slice ba N bcp] 26)))
    have RM4 := Lib.hid ((hRM.below hb4).below (alloc_below2 w4 (.cells #[.slice ba N bcp] 26)))
    have RB4 := Lib.hid (hrb.below (alloc_below2 w4 (.cells #[.slice ba N bcp] 26)))
    have HB4 := Lib.hid hb04
    have k4 := KW4.out
    simp only [known_cons] at k4
    obtain ⟨kb4, km4, ks4, kl41, kl42, kh41, kh42, -⟩ := k4
    clear hb04 hKW hRS hRM hBW hrb hb4
    go_wp2_with fail
    refine World.any (p := fun W => Code.wp _ _ _ _ W) (fun W5 hW => ?_)
    have hKW : Known W5 [(w4.heap.size, 0, .slice ba N bcp), (w3.heap.size, 0, .slice ma N mc), (w1.heap.size, 0, .slice ua N uc), (w2.heap.size, 0, .int .i64 L1), (w2.heap.size, 1, .int .i64 L2), (w2.heap.size + 1, 0, .int .i64 H1), (w2.heap.size + 1, 1, .int .i64 H2)] := by subst hW; exact KW4.out
    have hRS : Row W5 w.heap.size (.slice ua N uc) cs := by subst hW; exact RS4.out
    have hRM := hW ▸ RM4.out
    have hRB := hW ▸ RB4.out
    have hBW : Below w.heap.size w W5 := by subst hW; exact HB4.out
    clear hW KW4 RS4 RM4 RB4 HB4 kb4 km4 ks4 kl41 kl42 kh41 kh42
    generalize hTT : stTextV cs = T at *
    have HTT := Lib.hid hTT
    have hOk : ∀ x : Since W5, Calls Tryd.prog 10 #[.agg #[.slice ua N uc]] x.1 fun e w' => e = .returned (.bool true) ∧ Below x.1.heap.size x.1 w' := fun x => by
      have := implStoneOk _ _ _ cs (hRS.below x.2); rw [Q1.out] at this; exact this
    have hWm : ∀ x : Since W5, Calls Tryd.prog 11 #[.agg #[.slice ma N mc]] x.1 fun e w' => e = .returned (.int .i64 V) ∧ Below x.1.heap.size x.1 w' := fun x => by
      have := implWidestOf _ _ _ _ (hRM.below x.2); rw [Q4.out] at this; exact this
    have hWs : ∀ x : Since W5, Calls Tryd.prog 11 #[.agg #[.slice ua N uc]] x.1 fun e w' => e = .returned (.int .i64 V) ∧ Below x.1.heap.size x.1 w' := fun x => by
      have := implWidestOf _ _ _ cs (hRS.below x.2); rw [HV.out] at this; exact this
    have hTb : ∀ x : Since W5, Calls Tryd.prog 12 #[.agg #[.slice ba N bcp]] x.1 fun e w' => e = .returned (.string T) ∧ Below x.1.heap.size x.1 w' := fun x => by
      have := implStoneText _ _ _ _ (hRB.below x.2) (HT.out.below (hBW.trans (x.2.mono hBW.size))); rw [HTT.out] at this; exact this
    have hTs : ∀ x : Since W5, Calls Tryd.prog 12 #[.agg #[.slice ua N uc]] x.1 fun e w' => e = .returned (.string T) ∧ Below x.1.heap.size x.1 w' := fun x => by
      have := implStoneText _ _ _ cs (hRS.below x.2) (HT.out.below (hBW.trans (x.2.mono hBW.size))); rw [HTT.out] at this; exact this
    have HOk := Lib.hid hOk
    have HWm := Lib.hid hWm
    have HWs := Lib.hid hWs
    have HTb := Lib.hid hTb
    have HTs := Lib.hid hTs
    have HK5 := Lib.hid hKW
    have HRS5 := Lib.hid hRS
    have HRB5 := Lib.hid hRB
    have HB5 := Lib.hid hBW
    simp only [known_cons] at hKW
    obtain ⟨kb, km, ks, kl1, kl2, kh1, kh2, -⟩ := hKW
    have hn1 := Since.nonempty W5
    have sb := fun (x : Since W5) => (x.cell w4.heap.size 0 (cell_block_lt kb)).trans kb
    have sm := fun (x : Since W5) => (x.cell w3.heap.size 0 (cell_block_lt km)).trans km
    have ss := fun (x : Since W5) => (x.cell w1.heap.size 0 (cell_block_lt ks)).trans ks
    have hnn : ((N : Int) != (N : Int)) = false := by simp
    have hvv : (V != V) = false := by simp
    clear hOk hWm hWs hTb hTs hTT hRS hRM hRB hBW kl1 kl2 kh1 kh2 kb km
    refine wp_region_fast (by kernel_rfl) (by kernel_rfl) ?_
    try dsimp only [List.append]
    repeat (go_big_quiet_step (first
      | (go_at_call 10; exact Since.call (HOk.out _))
      | (go_at_call_of 11 (Value.agg #[Value.slice ma N mc]); exact Since.call (HWm.out _))
      | (go_at_call_of 11 (Value.agg #[Value.slice ua N uc]); exact Since.call (HWs.out _))
      | (go_at_call_of 12 (Value.agg #[Value.slice ba N bcp]); exact Since.call (HTb.out _))
      | (go_at_call_of 12 (Value.agg #[Value.slice ua N uc]); exact Since.call (HTs.out _))))
    refine wpQuiet_nil ?_
    rintro w6 ⟨⟨w6, hb6⟩, rfl⟩
    clear sb sm ss
    have HK6 := Lib.hid (HK5.out.below hb6)
    have HRS6 := Lib.hid (HRS5.out.below hb6)
    have HRB6 := Lib.hid (HRB5.out.below hb6)
    have HB6 := Lib.hid (HB5.out.trans (hb6.mono HB5.out.size))
    clear hb6 HK5 HRS5 HRB5 HB5 HOk HWm HWs HTb HTs
    have hcl : cs.length = N := HN.out
    rcases HRS6.out.cases with ⟨-, hz⟩ | ⟨gs, gsc, hgs, rs6, -, hgs2, -, -⟩
    · rw [hz] at hcl; simp at hcl; omega
    rcases HRB6.out.cases with ⟨-, hz⟩ | ⟨gb, gbc, hgb, rb6, -, hgb2, -, -⟩
    · rw [hz] at hcl; simp at hcl; omega
    simp only [Value.slice.injEq] at hgs hgb
    obtain ⟨rfl, -, rfl⟩ := hgs
    obtain ⟨rfl, -, rfl⟩ := hgb
    have RS6 := Lib.hid rs6
    have RB6 := Lib.hid rb6
    have ks6 := HK6.out
    simp only [known_cons] at ks6
    obtain ⟨kb, -, ks, kl1, kl2, kh1, kh2, -⟩ := ks6
    have KB := Lib.hid kb
    have KS := Lib.hid ks
    have KL1 := Lib.hid kl1
    have KL2 := Lib.hid kl2
    have KH1 := Lib.hid kh1
    have KH2 := Lib.hid kh2
    clear rs6 rb6 hcl HRS6 HRB6 HK6 ks kb kl1 kl2 kh1 kh2 hnn hvv
    go_wp2_with fail
    go_loopw [9] (fun t wr => ∃ k : Nat, k ≤ N ∧ t = .int .i64 k ∧ Below w6.heap.size w6 wr)
      (fun t _ => N - (intOf t).toNat)
    case atStart => exact ⟨0, Nat.zero_le _, rfl, Below.refl _ _⟩
    case round =>
      obtain ⟨k, hk, rfl, hbw⟩ := hrel
      have HB := Lib.hid hbw
      have ks := cell_kept KS.out hbw
      by_cases hlt : k < N
      · have hkn : k < cs.length := by have := HN.out; omega
        obtain ⟨p1, p2, p3⟩ := Q8.out k hlt
        obtain ⟨a0, a1⟩ := (RS6.out.below hbw).cells k hkn
        obtain ⟨b0, b1⟩ := (RB6.out.below hbw).cells k hkn
        have kb := cell_kept KB.out hbw
        have kl1 := cell_kept KL1.out hbw
        have kl2 := cell_kept KL2.out hbw
        have kh1 := cell_kept KH1.out hbw
        have kh2 := cell_kept KH2.out hbw
        have hsz := hbw.size
        have hRow : Row wr w.heap.size (.slice (some ⟨gs, 0, none⟩) N uc) cs := by
          have := (RS6.out.below hbw).row
          rw [HN.out] at this
          exact this
        have HRow := Lib.hid hRow
        obtain ⟨⟨px, py⟩, ep⟩ : ∃ p, pt cs k = p := ⟨_, rfl⟩
        rw [ep] at p1 p2 p3 a0 a1 b0 b1
        simp only at p2 p3 a0 a1 b0 b1
        have P1 := Lib.hid p1
        have l1 := cell_block_lt ks
        have l2' := cell_block_lt kb
        have l3 := cell_block_lt kl1
        have l4 := cell_block_lt kh1
        have l5 := cell_block_lt a0
        have l6 := cell_block_lt b0
        dsimp only at l1 l2' l3 l4 l5 l6
        clear hbw hRow ep p1 hkn
        go_wp2_with fail
        refine World.any (p := fun W => Code.wp _ _ _ _ W) (fun W7 hW => ?_)
        have hKW : Known W7 [(wr.heap.size, 0, .int .i64 px), (wr.heap.size, 1, .int .i64 py), (w4.heap.size, 0, .slice (some ⟨gb, 0, none⟩) N bcp), (w1.heap.size, 0, .slice (some ⟨gs, 0, none⟩) N uc), (w2.heap.size, 0, .int .i64 L1), (w2.heap.size, 1, .int .i64 L2), (w2.heap.size + 1, 0, .int .i64 H1), (w2.heap.size + 1, 1, .int .i64 H2), (gb, k * 2, .int .i64 px), (gb, k * 2 + 1, .int .i64 py)] := by
          subst hW
          simp only [known_cons]
          refine ⟨by go_simp, by go_simp, ?_, ?_, ?_, ?_, ?_, ?_, ?_, ?_, Known.nil _⟩
          all_goals first
            | exact cell_kept kb (alloc_below2 _ _)
            | exact cell_kept ks (alloc_below2 _ _)
            | exact cell_kept kl1 (alloc_below2 _ _)
            | exact cell_kept kl2 (alloc_below2 _ _)
            | exact cell_kept kh1 (alloc_below2 _ _)
            | exact cell_kept kh2 (alloc_below2 _ _)
            | exact cell_kept b0 (alloc_below2 _ _)
            | exact cell_kept b1 (alloc_below2 _ _)
        have hRW : Row W7 w.heap.size (.slice (some ⟨gs, 0, none⟩) N uc) cs := by subst hW; exact HRow.out.below (alloc_below2 _ _)
        have hBW : Below w6.heap.size w6 W7 := by subst hW; exact below_al2 HB.out _
        have hIn : ∀ x : Since W7, Calls Tryd.prog 13 #[.agg #[.slice (some ⟨gs, 0, none⟩) N uc], .agg #[.int .i64 px, .int .i64 py]] x.1 fun e w' => e = .returned (.bool true) ∧ Below x.1.heap.size x.1 w' := fun x => by
          have := implIsInStone _ _ _ cs px py (hRW.below x.2); rw [P1.out] at this; exact this
        have HIn := Lib.hid hIn
        have HBW := Lib.hid hBW
        simp only [known_cons] at hKW
        obtain ⟨u1, u2, u3, u4, u5, u6, u7, u8, u9, u10, -⟩ := hKW
        have hn2 := Since.nonempty W7
        have v1 := fun (x : Since W7) => (x.cell _ _ (cell_block_lt u1)).trans u1
        have v2 := fun (x : Since W7) => (x.cell _ _ (cell_block_lt u2)).trans u2
        have v3 := fun (x : Since W7) => (x.cell _ _ (cell_block_lt u3)).trans u3
        have v4 := fun (x : Since W7) => (x.cell _ _ (cell_block_lt u4)).trans u4
        have v5 := fun (x : Since W7) => (x.cell _ _ (cell_block_lt u5)).trans u5
        have v6 := fun (x : Since W7) => (x.cell _ _ (cell_block_lt u6)).trans u6
        have v7 := fun (x : Since W7) => (x.cell _ _ (cell_block_lt u7)).trans u7
        have v8 := fun (x : Since W7) => (x.cell _ _ (cell_block_lt u8)).trans u8
        have v9 := fun (x : Since W7) => (x.cell _ _ (cell_block_lt u9)).trans u9
        have v10 := fun (x : Since W7) => (x.cell _ _ (cell_block_lt u10)).trans u10
        have cb1 : decide (px < L1) = false := decide_eq_false (by omega)
        have cb2 : decide (H1 < px) = false := decide_eq_false (by omega)
        have cb3 : decide (py < L2) = false := decide_eq_false (by omega)
        have cb4 : decide (H2 < py) = false := decide_eq_false (by omega)
        clear hIn hRW hBW hW u1 u2 u3 u5 u6 u7 u8 u9 u10 ks kb kl1 kl2 kh1 kh2 a0 a1 b0 b1 p2 p3
        refine wp_region_fast (by kernel_rfl) (by kernel_rfl) ?_
        try dsimp only [List.append]
        repeat (go_big_quiet_step (first
          | (go_at_call 13; exact Since.call (HIn.out _))))
        refine wpQuiet_nil ?_
        rintro w8 ⟨⟨w8, hb8⟩, rfl⟩
        have HB8 := Lib.hid (HBW.out.trans (hb8.mono HBW.out.size))
        clear v1 v2 v3 v4 v5 v6 v7 v8 v9 v10 hb8 u4
        go_wp2_with fail
        go_roundw
        case rel => exact ⟨k + 1, by omega, by go_num, HB8.out⟩
        case measure => simp [intOf]; omega
      · have hkn : k = N := by omega
        rw [hkn]
        have kl2 := cell_kept KL2.out hbw
        have kh1 := cell_kept KH1.out hbw
        have hRow : Row wr w.heap.size (.slice (some ⟨gs, 0, none⟩) N uc) cs := by
          have := (RS6.out.below hbw).row
          rw [HN.out] at this
          exact this
        have HRow := Lib.hid hRow
        clear hbw hkn hlt hk hRow
        go_wp2_with fail
        refine (implIsInStone _ _ _ cs _ _ HRow.out).mono ?_
        rintro e w8 ⟨rfl, hb8⟩
        rw [Q7.out]
        have ks8 := cell_kept ks hb8
        have HRow8 := Lib.hid (HRow.out.below hb8)
        have HB8 := Lib.hid (HB.out.trans (hb8.mono HB.out.size))
        clear hb8 kl2 kh1 ks
        go_wp2_with fail
        refine (implWidestOf _ _ _ cs HRow8.out).mono ?_
        rintro e w9 ⟨rfl, hb9⟩
        rw [HV.out]
        have HB9 := Lib.hid (HB8.out.trans (hb9.mono HB8.out.size))
        clear hb9 ks8
        go_wp2_with fail
        go_ret
        exact ⟨rfl, HB6.out.trans (HB9.out.mono HB6.out.size)⟩

/-- The door's own heap meets the condition. -/
theorem door_met (os : Os) (args : Array Value) : laidMetH Tryd.prog Rows.fnStonesRow.laid ((World.doorLaid Tryd.prog 400 os).forCall (fun _ _ => 0) ⟨#[], args, []⟩).memory :=
  laidMetH_of_parts3 (fuel := 8) (laidMet_of_run' 8 (by kernel_rfl) (by kernel_rfl)) (by kernel_rfl) (by kernel_rfl)

/-! ### THE ROW's STEP -/
set_option maxRecDepth 100000 in
theorem lifted (os : Os) (started : os.Started) (H : Type) (enc : TypeId × Value → H) :
    ReturnsInHanded {} Tryd.checked os 3 .any (fun w args => (Rows.fnStonesSpec.pre enc Tryd.prog Tryd.f3 [] false w args ∧ laidMetH Tryd.prog Rows.fnStonesRow.laid w) ∧ sizedMet enc Tryd.prog Tryd.f3 (OpenSpec.ofChange Rows.fnStonesSpec) false w args) (Rows.fnStonesSpec.post enc Tryd.prog Tryd.f3 false true false false) := by
  refine returnsInHanded_of_change_and (C := Tryd.checked) (X := fun w _ => laidMetH Tryd.prog Rows.fnStonesRow.laid w) (fun _ _ _ hh h => h.of_heap hh) own started (by kernel_rfl) Tryd.func3
    (ChangeSpec.witness_shaped (enc := enc) (C := Tryd.checked) (os := os) (X := fun w _ => laidMetH Tryd.prog Rows.fnStonesRow.laid w) false (World.doorLaid Tryd.prog 400 os) #[.slice none 0 0] 8 rfl (World.shaped_of_RefB (by kernel_rfl) (by kernel_rfl)) (by kernel_rfl) (by kernel_rfl) (by kernel_rfl) (door_met os _)) ?_
  intro W base args ds gs before hval0 hW _ _ hL _
  have hval : ∀ (j : Nat) t v, Tryd.f3.params[j]? = some t → args[j]? = some v → Value.okWide Tryd.prog W .any base t v := hval0
  have hW' := hW
  obtain ⟨p, q, hA0, hV, rfl, hfz, hnd⟩ := hW
  have hA : DataW.TrodAll enc Tryd.prog W 0 (fun _ => true) true Tryd.f3.params.toList args.toList ds p := hA0
  rw [Tryd.params3] at hA hval
  obtain ⟨v0, vs0, d0, ds0, p0, q0, hargs, rfl, rfl, h0, r0⟩ := trodAll_cons hA
  obtain ⟨rfl, rfl, rfl⟩ := trodAll_nil r0
  obtain rfl : args = #[v0] := by cases args; simp_all
  obtain ⟨rfl, rfl⟩ := trodVars_none hV
  have k0 := h0
  have lt0 : ∀ x ∈ p0, x.block < W.heap.size := by obtain ⟨m, hm⟩ := k0; exact DataW.trod_lt m _ _ _ hm
  obtain ⟨a0, len0, cap0, rfl⟩ := okWide_slice Tryd.underlying22 (hval 0 22 v0 rfl rfl)
  obtain ⟨z0, g0⟩ : ∃ zs, IsRow .u8 W a0 len0 cap0 zs := by
    obtain ⟨fuel, hf⟩ := h0
    rcases open_ints Tryd.underlying22 Tryd.underlying5 (by kernel_rfl) hf with ⟨hcs, _⟩ | ⟨x, l, c, zs, hcs, _, hl, hm, hz, _, hcell, hwz⟩
    · simp [Value.cells] at hcs
      obtain ⟨rfl, rfl, rfl⟩ := hcs
      exact ⟨[], .inl ⟨rfl, rfl, rfl, rfl⟩⟩
    · simp [Value.cells] at hcs
      obtain ⟨rfl, rfl, rfl⟩ := hcs
      exact ⟨zs, .inr ⟨_, rfl, hl, hm, by simpa using hz, hcell, hwz⟩⟩
  clear hA0 hval0
  have hT := tens_of_laid (by kernel_rfl) hL
  refine (walk a0 len0 cap0 z0 W g0 hT).mono fun e W' ⟨he, bel⟩ => ?_
  subst he
  exact ⟨_, rfl, _, _, _, [], _, [], hW', trodAll_mk1 (shut_bool Tryd.underlying4 _), (trodAll_cons_mk (Below.trod laidOut (by kernel_rfl) (of_decide_eq_true (by kernel_rfl)) k0 bel lt0) trodAll_mk0), rfl, bel.frame _, fun h => by cases h⟩

theorem over : Rows.fnStonesRow.holds Tryd.pinned (OpenSpec.ofChange Rows.fnStonesSpec) :=
  OpenClaim.holds_of_wide 3 Tryd.f3 rfl rfl rfl rfl rfl rfl rfl ⟨rfl, rfl, rfl, rfl, rfl⟩ rfl rfl rfl rfl rfl (by kernel_rfl) Tryd.func3 (by kernel_rfl)
    (of_decide_eq_true (by kernel_rfl)) (by unfold Func.isWrapper; first | (rw [if_pos (by decide +kernel)]; kernel_rfl) | (rw [if_neg (by decide +kernel)]; exact ⟨rfl, rfl⟩))
    (fun os started H enc _ => lifted os started H enc)

/-- THE STATEMENT: the card, tied to the program's text. -/
theorem proved : Rows.FnStonesCardSaid :=
  Claim7.holds_tied_plain_at .later [] [.data, .data, .data] true (true, "c19385cfc930cf4e7b36fdc6a932b8d36e176c3946ef5c228b7e8d47ab5eb832") false
    over (fun _ h => by cases h) (by kernel_rfl) (fun _ h => by cases h) fnStones_row_tie rfl ⟨rfl, rfl⟩ (by kernel_rfl) rfl
    (fun f fn hf hfn => by
      obtain rfl : f = 3 := Option.some.inj ((show Tryd.prog.funcNamed Rows.fnStonesRow.func = some 3 by kernel_rfl).symm.trans hf) |>.symm
      obtain rfl : fn = Tryd.f3 := (Option.some.inj (Tryd.func3.symm.trans hfn)).symm
      exact ⟨by kernel_rfl, fun j t ht => by
        rw [Tryd.params3] at ht
        have hm : t ∈ [22] := by simpa using Array.mem_of_getElem? ht
        have hall : ([22].all fun u => !Tryd.prog.wantsStandIn u) = true := by kernel_rfl
        exact (show Tryd.prog.wantsStandIn t = false by simpa using List.all_eq_true.1 hall t hm)⟩)
    (by kernel_rfl)
#print axioms proved
end Go.Proofs.YtkplhljpaflgdaaDoor.fnStones
