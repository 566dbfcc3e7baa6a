/- The walk of FnSewing. -/
import Derived.Test.YtlkiacgpiodkiaaM34
import Derived.Deep.DeepCutAuto

set_option linter.unusedSimpArgs false
set_option linter.unusedVariables false
namespace Go.Proofs.Ytlkiacgpiodkiaa
open Go.ChangeShapes Go.WideShapes Go.ChangeAt Go.RowKit

set_option maxHeartbeats 12000000 in
set_option maxRecDepth 20000 in
theorem SewingLaw_go (a : Option Addr) (len cap : Nat) (w : World) (hs : Src w w.heap.size a len) :
    Calls Try.prog 3 #[.slice a len cap] w fun e w' => e = .returned (.bool true) ∧ Below w.heap.size w w' := by
  obtain ⟨i1, hi1, hy0, hy1, hy2⟩ := info_parts3 info_intJ
  have HS := Lib.hid hs
  obtain ⟨hm, hsrc⟩ := hs
  have hl : len ≤ 9223372036854775807 := by unfold maxLen at hm; omega
  clear hm hsrc
  by_cases hb0 : len ≤ 1048576
  · go_enter Try.func3, Try.ntmps3
    go_wp2_with fail
    refine (Big_no a len cap w hb0).mono ?_
    rintro e w' ⟨rfl, rfl⟩
    go_wp2_with fail
    refine (DrawJoins_any a len cap w HS.out hb0).mono ?_
    rintro e w1 ⟨v, js, N, hT, rfl, Rl, B⟩
    obtain ⟨av, cv, rfl⟩ := Rl.form
    obtain ⟨hn12, hj11⟩ : N ≤ 12 ∧ js.length ≤ 11 := by
      obtain ⟨N', e, hT'⟩ := tree_is hT
      have := hT'.len; have := hT'.n12; omega
    have wn : (Lit.int .i64 (N : Int)).wf = true := WalkArith.wf_i64 (by omega)
    have CC := Lib.hid (fun lo hi v w r h => ImplCount_any lo hi v js N wn w r h)
    have CF := Lib.hid (fun lo hi v w r h => ImplFirst_any lo hi v js N wn w r h)
    have CR := Lib.hid (fun lo hi v w r h => ImplRounds_any lo hi v js N wn w r h)
    have CM := Lib.hid (fun lo hi v w r h => ImplMost_any lo hi v js N wn w r h)
    have CD := Lib.hid (fun lo hi v w r h => SpecDepthOf_any lo hi v js N wn w r h)
    have CO := Lib.hid (fun (os : List Int) lo hi lo2 hi2 v vi w r ri h h2 => ImplOrder_any lo hi lo2 hi2 v vi js os N wn w r ri h h2)
    have hc1 : ¬ cntB js N < 1 := by have := cnt_pos hT; omega
    obtain ⟨hf1, hf2⟩ := first_is hT
    obtain ⟨hr1, hr2, hr3⟩ := cat_all hT
    obtain ⟨hrb1, hrb2⟩ := rounds_bd js N
    have HSW := Lib.hid (fun h => swap_is hT h)
    have HTW := Lib.hid (fun h ha hb => cnt_two hT h ha hb)
    have HFO := Lib.hid hf2
    have HRO := Lib.hid hr1
    have HRL := Lib.hid hr2
    have HBD := Lib.hid hrb2
    have hne : (((roundsB js N).length : Int) != depJ js N) = false := by rw [hr3]; simp
    have HMO : Hid (mostB js N = mostF (roundsB js N) (roundsB js N).length) := Lib.hid rfl
    rw [hf1] at CF
    generalize roundsB js N = L at CR hr3 hrb1 hne HRO HRL HBD HMO
    rw [HMO.out] at CM
    generalize depJ js N = d at CD hne
    generalize cntB js N = c at CC hc1 HTW
    clear hT wn hf1 hf2 hr1 hr2 hr3 hrb2 HS
    have R1 := Lib.hid Rl
    have B1 := Lib.hid B
    have z1 := B.size
    clear Rl B
    go_wp2_with fail
    refine (args_eqL (CC.out _ _ _ _ R1.out (Nat.le_refl _)) (by with_reducible rfl)).mono ?_
    rintro e w2 ⟨rfl, hb⟩
    have R2 := Lib.hid (R1.out.below hb)
    have B2 := Lib.hid (bel_c B1.out (Nat.le_refl _) hb)
    have z2 := hb.size
    clear hb R1 B1
    go_wp2_with fail
    refine (args_eqL (CF.out _ _ _ _ R2.out z2) (by with_reducible rfl)).mono ?_
    rintro e w3 ⟨vo, rfl, ho, hb⟩
    have hil := idxL_len js.length
    obtain ⟨ao, co, hvo⟩ := ho.form
    rw [hil] at hvo
    subst hvo
    have O3 := Lib.hid ho
    have R3 := Lib.hid (R2.out.below (hb.mono z2))
    have B3 := Lib.hid (bel_c B2.out (Nat.le_refl _) hb)
    have z3 := hb.size
    clear hb R2 B2 ho CF CC
    go_wp2_with fail
    refine (args_eqL (CR.out _ _ _ _ R3.out (by omega)) (by with_reducible rfl)).mono ?_
    rintro e w4 ⟨vr, rfl, hr, hb⟩
    obtain ⟨ar, cr, rfl⟩ := hr.form
    have L4 := Lib.hid hr
    have O4 := Lib.hid (O3.out.below hb)
    have R4 := Lib.hid (R3.out.below (hb.mono (by omega)))
    have B4 := Lib.hid (bel_c B3.out (Nat.le_refl _) hb)
    have z4 := hb.size
    clear hb R3 B3 O3 hr CR
    go_wp2_with fail
    refine (args_eqL (CO.out _ _ _ _ _ _ _ _ R4.out O4.out (by omega) (by omega)) (by with_reducible rfl)).mono ?_
    rintro e w5 ⟨rfl, hb⟩
    rw [HFO.out]
    have L5 := Lib.hid (L4.out.below hb (Nat.le_refl _))
    have O5 := Lib.hid (O4.out.below (hb.mono (by omega)))
    have R5 := Lib.hid (R4.out.below (hb.mono (by omega)))
    have B5 := Lib.hid (bel_c B4.out (Nat.le_refl _) hb)
    have z5 := hb.size
    clear hb R4 B4 O4 L4
    go_wp2_with fail
    refine (args_eqL (CD.out _ _ _ _ R5.out (by omega)) (by with_reducible rfl)).mono ?_
    rintro e w6 ⟨rfl, hb⟩
    have L6 := Lib.hid (L5.out.below (hb.mono z5) z5)
    have O6 := Lib.hid (O5.out.below (hb.mono (by omega)))
    have R6 := Lib.hid (R5.out.below (hb.mono (by omega)))
    have B6 := Lib.hid (bel_c B5.out (Nat.le_refl _) hb)
    have z6 := hb.size
    clear hb R5 B5 O5 L5
    go_wp2_with fail
    have BA := bel0 w6 (.cells #[] 3)
    have E0 : Hid (OwnD w6.heap.size (w6.alloc (.cells #[] 3)) (.slice (some ⟨w6.heap.size, 0, none⟩) 0 0) []) := Lib.hid (OwnD.empty w6 _ (Nat.le_refl _))
    have BA0 := Lib.hid BA
    clear BA
    go_loopw [8, 9, 10, 11] (fun s m q i wr => ∃ (k : Nat), k ≤ L.length ∧ i = .int .i64 k ∧ s = .int .i64 (catF L k).length ∧ m = .int .i64 (mostF L k) ∧ Hid (OwnD w6.heap.size wr q (catF L k)) ∧ Hid (Below w6.heap.size w6 wr)) (fun _ _ _ i _ => L.length - (intOf i).toNat)
    case atStart => exact ⟨0, Nat.zero_le _, rfl, rfl, rfl, E0, BA0⟩
    case round =>
      clear E0 BA0
      obtain ⟨k, hk, rfl, rfl, rfl, hown, hbel⟩ := hrel
      have hcl := catF_le HBD.out k hk
      have hrow := hown.out.row (by omega)
      obtain ⟨aq, cq, rfl⟩ := hrow.form
      have hsw := hbel.out.size
      by_cases hlt : k < L.length
      · have L7 := L6.out.below (hbel.out.mono (by omega)) (by omega)
        obtain ⟨G, b, cc0, rfl, hG0, hG1, e0, i0⟩ := L7.at hlt
        have hmx : mostF L (k + 1) = max (mostF L k) (((lat L k).length : Nat) : Int) := rfl
        have hct : catF L (k + 1) = catF L k ++ lat L k := rfl
        have hc2 := catF_le HBD.out (k + 1) hlt
        have hlk := HBD.out k hlt
        have HI := Lib.hid i0
        have HCT := Lib.hid hct
        have hcs : (catF L (k + 1)).length = (catF L k).length + (lat L k).length := by rw [hct]; simp
        have HCS := Lib.hid hcs
        have HMX := Lib.hid hmx
        obtain ⟨M, hM⟩ : ∃ M, (if mostF L k < (((lat L k).length : Nat) : Int) then (((lat L k).length : Nat) : Int) else mostF L k) = M := ⟨_, rfl⟩
        have HM : Hid (mostF L (k + 1) = M) := Lib.hid (by rw [HMX.out, ← hM]; split <;> omega)
        have HRW := Lib.hid (i0.rowOf (Below.refl _ wr))
        have hws : IntKind.i64.wrap (((catF L k).length : Int) + ((lat L k).length : Int)) = ((catF L (k + 1)).length : Int) := by
          have hgen : ∀ x y : Nat, x ≤ 1000 → y ≤ 11 → IntKind.i64.wrap ((x : Int) + (y : Int)) = ((x + y : Nat) : Int) := fun x y hx hy => by simp [IntKind.wrap, IntKind.bits, IntKind.signed]; omega
          rw [hcs]; exact hgen _ _ (by omega) hlk
        clear hmx hct hcs HMX i0 L7 hrow
        generalize lat L k = zs at e0 HI HCT HCS HRW hM hws hlk
        generalize catF L k = ks at hown hcl HCT HCS hws
        generalize mostF L k = mo at hM
        have hkz : ks.length + zs.length ≤ 1000 := by omega
        go_wp2_with (at_builtin; refine wpList_append_row rfl _ _ 28 rfl w6.heap.size 3 i1 (.int .i64 0) 1 8 Try.underlying28 hi1 hy0 hy1 hy2 rfl (by decide) _ _ _ rfl hown.out _ zs.length (ivals zs) rfl (by rw [ivals_len]; omega) HRW.out (oneI zs) (by unfold maxLen; omega) (by omega) hsw (wr.heap.size) rfl ?_; intro v3 w7 own3 grow3 at3)
        have HN7 : Hid (OwnD w6.heap.size w7 v3 (catF L (k + 1))) := Lib.hid (by
          rw [HCT.out]
          unfold OwnD
          rw [List.length_append, ivals_app]; exact own3)
        have HB7 : Hid (Below w6.heap.size w6 w7) := Lib.hid (hbel.out.trans ((Below.refl w6.heap.size _).grown grow3 hsw (ogL hown.out)))
        clear own3 grow3 at3 hown hbel HRW HI e0
        go_wp2_with fail
        go_roundw
        case rel => exact ⟨k + 1, by omega, by go_num, rfl, by rw [HM.out], HN7, HB7⟩
        case measure => simp [intOf] <;> omega
      · obtain rfl : k = L.length := by omega
        have R7 := Lib.hid (R6.out.below (hbel.out.mono (by omega)))
        have O7 := Lib.hid (O6.out.below (hbel.out.mono (by omega)))
        have B7 := Lib.hid (bel_c B6.out (Nat.le_refl _) hbel.out)
        have hkl := HRL.out
        have HOW := Lib.hid hrow
        obtain ⟨ks, hks⟩ : ∃ ks, ks = catF L L.length := ⟨_, rfl⟩
        rw [← hks] at HOW HRO hkl hcl ⊢
        rw [hkl] at HOW
        clear hown hbel hrow hks HBD
        by_cases h2 : 2 ≤ js.length
        · have hg1 : (1 : Int) < (js.length : Int) := by omega
          have BA := bel0 wr (.cells #[] 3)
          have E0 : Hid ((wr.alloc (.cells #[] 3)).ownsRow wr.heap.size 3 1 (.slice (some ⟨wr.heap.size, 0, none⟩) 0 0) 0 []) := Lib.hid (OwnD.empty wr _ (Nat.le_refl _))
          have R8 := Lib.hid (R7.out.below (BA.mono (by omega)))
          have O8 := Lib.hid (O7.out.below (BA.mono (by omega)))
          have W8 := Lib.hid (HOW.out.below BA)
          have B8 := Lib.hid (bel_c B7.out (Nat.le_refl _) BA)
          have HRW := Lib.hid (O7.out.rowOf (w' := wr.alloc (.cells #[] 3)) (BA.mono (by omega)))
          rw [hil] at HRW
          clear BA R7 O7 B7 HOW
          have hs8 : wr.heap.size ≤ (wr.alloc (.cells #[] 3)).heap.size := by simp
          go_upto_region 20 with (at_builtin; refine wpList_append_row rfl _ _ 28 rfl wr.heap.size 3 i1 (.int .i64 0) 1 8 Try.underlying28 hi1 hy0 hy1 hy2 rfl (by decide) _ _ _ rfl E0.out _ js.length (ivals (idxL js.length)) rfl (by simp [ivals_len, idxL_len]) HRW.out (oneI _) (by unfold maxLen; omega) (by omega) hs8 (wr.heap.size + 1) (by simp) ?_; intro v3 w8 own3 grow3 at3; obtain ⟨gx, cx, rfl, hgx, own3⟩ := row_form own3 (by omega))
          have HX : OwnD wr.heap.size w8 (.slice (some ⟨gx, 0, none⟩) js.length cx) (idxL js.length) := by
            unfold OwnD; rw [hil]; simpa using own3
          have hb8 := (Below.refl wr.heap.size _).grown grow3 hs8 (ogL E0.out)
          have R9 := Lib.hid (R8.out.below (hb8.mono (by omega)))
          have O9 := O8.out.below (hb8.mono (by omega))
          have W9 := Lib.hid (W8.out.below hb8)
          have B9 := Lib.hid (B8.out.trans (hb8.mono (by omega)))
          have hs9 : wr.heap.size ≤ w8.heap.size := Nat.le_trans hs8 hb8.size
          have D10 : Below wr.heap.size w8 ((w8.setCell ⟨gx, 0, none⟩ (.int .i64 1)).setCell ⟨gx, 1, none⟩ (.int .i64 0)) := Below.setCell (Below.setCell (Below.refl _ _) hgx _) hgx _
          have X10 : Hid (IntIn wr.heap.size ((w8.setCell ⟨gx, 0, none⟩ (.int .i64 1)).setCell ⟨gx, 1, none⟩ (.int .i64 0)).heap.size ((w8.setCell ⟨gx, 0, none⟩ (.int .i64 1)).setCell ⟨gx, 1, none⟩ (.int .i64 0)) (.slice (some ⟨gx, 0, none⟩) js.length cx) (((idxL js.length).set 0 1).set 1 0)) := Lib.hid (((HX.put hil.symm 0 1).put (by rw [List.length_set]; exact hil.symm) 1 0).row (by simp [hil]; omega))
          have hxr := HX.row (by rw [hil]; omega)
          obtain ⟨gx', hgx', _, _, q0, f0⟩ := hxr.at (Below.refl _ _) (i := 0) (by rw [hil]; omega)
          obtain ⟨gx'', hgx'', _, _, q1, f1⟩ := hxr.at (Below.refl _ _) (i := 1) (by rw [hil]; omega)
          simp only [Option.some.injEq, Addr.mk.injEq, and_true] at hgx' hgx''
          subst hgx'
          subst hgx''
          obtain ⟨go, hgo, go0, go1, p0, _⟩ := O9.at (Below.refl _ _) (i := 0) (by rw [hil]; omega)
          obtain ⟨go', hgo', _, _, p1, _⟩ := O9.at (Below.refl _ _) (i := 1) (by rw [hil]; omega)
          subst hgo
          simp only [Option.some.injEq, Addr.mk.injEq, and_true] at hgo'
          subst hgo'
          rw [idxL_get (by omega)] at p0 p1 q0 q1
          have p0 : w8.cell? ⟨go, 0, none⟩ = some (.int .i64 0) := p0
          have p1 : w8.cell? ⟨go, 1, none⟩ = some (.int .i64 1) := p1
          have q0 : w8.cell? ⟨gx, 0, none⟩ = some (.int .i64 0) := q0
          have q1 : w8.cell? ⟨gx, 1, none⟩ = some (.int .i64 1) := q1
          have hgne : gx ≠ go := by omega
          have p0' : (w8.setCell ⟨gx, 0, none⟩ (.int .i64 1)).cell? ⟨go, 0, none⟩ = some (.int .i64 0) := (World.cell?_setCell_other _ _ _ _ (by simp <;> omega)).trans p0
          have q1' : (w8.setCell ⟨gx, 0, none⟩ (.int .i64 1)).cell? ⟨gx, 1, none⟩ = some (.int .i64 1) := (World.cell?_setCell_other _ _ _ _ (by simp)).trans q1
          have f1' : (w8.setCell ⟨gx, 0, none⟩ (.int .i64 1)).frozen? ⟨gx, 1, none⟩ = false := (World.frozen?_setCell _ _ _ _).trans f1
          have R10 := Lib.hid (R9.out.below (D10.mono (by omega)))
          have W10 := Lib.hid (W9.out.below D10)
          have B10 := Lib.hid (B9.out.trans (D10.mono (by omega)))
          obtain ⟨gj, hgj, _, _, ⟨e0, e1, e2⟩, _⟩ := R10.out.at (Below.refl _ _) (i := 1) (by omega)
          have HSWX := Lib.hid (HSW.out h2)
          have HTX := Lib.hid (HTW.out h2)
          obtain ⟨j, hj⟩ : ∃ j, j = jn js 1 := ⟨_, rfl⟩
          rw [show js.getD 1 J3.zero = j from hj.symm] at e0 e1 e2
          rw [← hj] at HSWX HTX
          obtain ⟨up, ja, jb⟩ := j
          simp only [Nat.one_mul, Nat.reduceAdd] at e0 e1 e2 HSWX HTX
          have hs10 : w8.heap.size ≤ ((w8.setCell ⟨gx, 0, none⟩ (.int .i64 1)).setCell ⟨gx, 1, none⟩ (.int .i64 0)).heap.size := by simp [World.setCell]
          subst hgj
          clear own3 grow3 at3 HX hb8 R9 O9 W9 B9 D10 hxr R8 O8 W8 B8 E0 HRW hj HSW HTW
          by_cases ha : ja = (N : Int)
          · have ha' : (ja != (N : Int)) = false := by simp [ha]
            rw [show (decide (ja ≠ (N : Int)) && decide (jb ≠ (N : Int))) = false by simp [ha]] at HSWX
            clear ha HTX
            go_wp2_with fail
            refine (args_eqL (CO.out _ _ _ _ _ _ _ _ R10.out X10.out (by omega) (Nat.le_refl _)) (by with_reducible rfl)).mono ?_
            rintro e w11 ⟨rfl, hb⟩
            rw [HSWX.out]
            have R11 := Lib.hid (R10.out.below (hb.mono (by omega)))
            have W11 := Lib.hid (W10.out.below (hb.mono (by omega)))
            have B11 := Lib.hid (bel_c B10.out (Nat.le_refl _) hb)
            have z11 := hb.size
            clear hb R10 W10 B10 X10
            go_wp2_with fail
            refine (args_eqL (CM.out _ _ _ _ R11.out (by omega)) (by with_reducible rfl)).mono ?_
            rintro e x1 ⟨rfl, hb⟩
            have Ra := Lib.hid (R11.out.below (hb.mono (by omega)))
            have Oa := Lib.hid (W11.out.below (hb.mono (by omega)))
            have Ba := Lib.hid (bel_c B11.out (Nat.le_refl _) hb)
            have za := hb.size
            clear hb
            generalize mostF L L.length = mo
            go_wp2_with fail
            refine (args_eqL (CO.out _ _ _ _ _ _ _ _ Ra.out Oa.out (by omega) (by omega)) (by with_reducible rfl)).mono ?_
            rintro e x2 ⟨rfl, hb⟩
            rw [HRO.out]
            have Bb := Lib.hid (bel_c Ba.out (Nat.le_refl _) hb)
            clear hb
            have HL3 := Lib.hid (lit_row x2)
            have Bc := Lib.hid (bel_n Bb.out (Nat.le_refl _) (.cells #[.bool false, .int .i64 0, .int .i64 1, .bool false, .int .i64 2, .int .i64 3, .bool false, .int .i64 4, .int .i64 5] 34))
            go_wp2_with fail
            refine (args_eqL (ImplCount_any _ _ _ lit3 4 (WalkArith.wf_i64 (by omega)) _ HL3.out (by simp)) (by with_reducible rfl)).mono ?_
            rintro e x3 ⟨rfl, hb⟩
            rw [show cntB lit3 4 = 2 from four_two]
            have Bd := Lib.hid (bel_c Bc.out (Nat.le_refl _) hb)
            clear hb
            go_wp2_with fail
            go_ret
            exact ⟨rfl, Bd.out⟩
          · have ha' : (ja != (N : Int)) = true := by simp [ha]
            by_cases hbj : jb = (N : Int)
            · have hb' : (jb != (N : Int)) = false := by simp [hbj]
              rw [show (decide (ja ≠ (N : Int)) && decide (jb ≠ (N : Int))) = false by simp [hbj]] at HSWX
              clear ha hbj HTX
              go_wp2_with fail
              refine (args_eqL (CO.out _ _ _ _ _ _ _ _ R10.out X10.out (by omega) (Nat.le_refl _)) (by with_reducible rfl)).mono ?_
              rintro e w11 ⟨rfl, hb⟩
              rw [HSWX.out]
              have R11 := Lib.hid (R10.out.below (hb.mono (by omega)))
              have W11 := Lib.hid (W10.out.below (hb.mono (by omega)))
              have B11 := Lib.hid (bel_c B10.out (Nat.le_refl _) hb)
              have z11 := hb.size
              clear hb R10 W10 B10 X10
              go_wp2_with fail
              refine (args_eqL (CM.out _ _ _ _ R11.out (by omega)) (by with_reducible rfl)).mono ?_
              rintro e x1 ⟨rfl, hb⟩
              have Ra := Lib.hid (R11.out.below (hb.mono (by omega)))
              have Oa := Lib.hid (W11.out.below (hb.mono (by omega)))
              have Ba := Lib.hid (bel_c B11.out (Nat.le_refl _) hb)
              have za := hb.size
              clear hb
              generalize mostF L L.length = mo
              go_wp2_with fail
              refine (args_eqL (CO.out _ _ _ _ _ _ _ _ Ra.out Oa.out (by omega) (by omega)) (by with_reducible rfl)).mono ?_
              rintro e x2 ⟨rfl, hb⟩
              rw [HRO.out]
              have Bb := Lib.hid (bel_c Ba.out (Nat.le_refl _) hb)
              clear hb
              have HL3 := Lib.hid (lit_row x2)
              have Bc := Lib.hid (bel_n Bb.out (Nat.le_refl _) (.cells #[.bool false, .int .i64 0, .int .i64 1, .bool false, .int .i64 2, .int .i64 3, .bool false, .int .i64 4, .int .i64 5] 34))
              go_wp2_with fail
              refine (args_eqL (ImplCount_any _ _ _ lit3 4 (WalkArith.wf_i64 (by omega)) _ HL3.out (by simp)) (by with_reducible rfl)).mono ?_
              rintro e x3 ⟨rfl, hb⟩
              rw [show cntB lit3 4 = 2 from four_two]
              have Bd := Lib.hid (bel_c Bc.out (Nat.le_refl _) hb)
              clear hb
              go_wp2_with fail
              go_ret
              exact ⟨rfl, Bd.out⟩
            · have hb' : (jb != (N : Int)) = true := by simp [hbj]
              rw [show (decide (ja ≠ (N : Int)) && decide (jb ≠ (N : Int))) = true by simp [ha, hbj]] at HSWX
              have hc2 : ¬ c < 2 := by have := HTX.out ha hbj; omega
              clear ha hbj HTX
              go_wp2_with fail
              refine (args_eqL (CO.out _ _ _ _ _ _ _ _ R10.out X10.out (by omega) (Nat.le_refl _)) (by with_reducible rfl)).mono ?_
              rintro e w11 ⟨rfl, hb⟩
              rw [HSWX.out]
              have R11 := Lib.hid (R10.out.below (hb.mono (by omega)))
              have W11 := Lib.hid (W10.out.below (hb.mono (by omega)))
              have B11 := Lib.hid (bel_c B10.out (Nat.le_refl _) hb)
              have z11 := hb.size
              clear hb R10 W10 B10 X10
              go_wp2_with fail
              refine (args_eqL (CM.out _ _ _ _ R11.out (by omega)) (by with_reducible rfl)).mono ?_
              rintro e x1 ⟨rfl, hb⟩
              have Ra := Lib.hid (R11.out.below (hb.mono (by omega)))
              have Oa := Lib.hid (W11.out.below (hb.mono (by omega)))
              have Ba := Lib.hid (bel_c B11.out (Nat.le_refl _) hb)
              have za := hb.size
              clear hb
              generalize mostF L L.length = mo
              go_wp2_with fail
              refine (args_eqL (CO.out _ _ _ _ _ _ _ _ Ra.out Oa.out (by omega) (by omega)) (by with_reducible rfl)).mono ?_
              rintro e x2 ⟨rfl, hb⟩
              rw [HRO.out]
              have Bb := Lib.hid (bel_c Ba.out (Nat.le_refl _) hb)
              clear hb
              have HL3 := Lib.hid (lit_row x2)
              have Bc := Lib.hid (bel_n Bb.out (Nat.le_refl _) (.cells #[.bool false, .int .i64 0, .int .i64 1, .bool false, .int .i64 2, .int .i64 3, .bool false, .int .i64 4, .int .i64 5] 34))
              go_wp2_with fail
              refine (args_eqL (ImplCount_any _ _ _ lit3 4 (WalkArith.wf_i64 (by omega)) _ HL3.out (by simp)) (by with_reducible rfl)).mono ?_
              rintro e x3 ⟨rfl, hb⟩
              rw [show cntB lit3 4 = 2 from four_two]
              have Bd := Lib.hid (bel_c Bc.out (Nat.le_refl _) hb)
              clear hb
              go_wp2_with fail
              go_ret
              exact ⟨rfl, Bd.out⟩
        · have hg1 : ¬ (1 : Int) < (js.length : Int) := by omega
          go_wp2_with fail
          refine (args_eqL (CM.out _ _ _ _ R7.out (by omega)) (by with_reducible rfl)).mono ?_
          rintro e x1 ⟨rfl, hb⟩
          have Ra := Lib.hid (R7.out.below (hb.mono (by omega)))
          have Oa := Lib.hid (HOW.out.below (hb.mono (by omega)))
          have Ba := Lib.hid (bel_c B7.out (Nat.le_refl _) hb)
          have za := hb.size
          clear hb
          generalize mostF L L.length = mo
          go_wp2_with fail
          refine (args_eqL (CO.out _ _ _ _ _ _ _ _ Ra.out Oa.out (by omega) (by omega)) (by with_reducible rfl)).mono ?_
          rintro e x2 ⟨rfl, hb⟩
          rw [HRO.out]
          have Bb := Lib.hid (bel_c Ba.out (Nat.le_refl _) hb)
          clear hb
          have HL3 := Lib.hid (lit_row x2)
          have Bc := Lib.hid (bel_n Bb.out (Nat.le_refl _) (.cells #[.bool false, .int .i64 0, .int .i64 1, .bool false, .int .i64 2, .int .i64 3, .bool false, .int .i64 4, .int .i64 5] 34))
          go_wp2_with fail
          refine (args_eqL (ImplCount_any _ _ _ lit3 4 (WalkArith.wf_i64 (by omega)) _ HL3.out (by simp)) (by with_reducible rfl)).mono ?_
          rintro e x3 ⟨rfl, hb⟩
          rw [show cntB lit3 4 = 2 from four_two]
          have Bd := Lib.hid (bel_c Bc.out (Nat.le_refl _) hb)
          clear hb
          go_wp2_with fail
          go_ret
          exact ⟨rfl, Bd.out⟩
  · go_enter Try.func3, Try.ntmps3
    go_wp2_with fail
    refine (Big_yes a len cap w hl (by omega)).mono ?_
    rintro e w' ⟨rfl, rfl⟩
    go_wp2_with fail
    go_ret
    exact ⟨rfl, Below.refl _ _⟩
end Go.Proofs.Ytlkiacgpiodkiaa
