/- The walk of FnCuts. -/
import Derived.Test.YtakjgnkkeefgbaaCutLx
import Derived.Test.YtakjgnkkeefgbaaCutV
import Derived.Test.YtakjgnkkeefgbaaCutIn
import Derived.Test.YtakjgnkkeefgbaaCutSe
import Derived.Test.YtakjgnkkeefgbaaLayD3
import Derived.Test.YtakjgnkkeefgbaaLaySm
import Derived.Deep.RegionHeld3
import Derived.Deep.DeepCutAuto
namespace Go.Proofs.Ytakjgnkkeefgbaa
open Go.ChangeShapes Go.WideShapes Go.ChangeAt Go.RowKit

/-- One element of a row of cuts. -/
def Ele (g i : Nat) (x y : Value) (u : World) : Prop := u.cell? ⟨g, i * 2, none⟩ = some x ∧ u.cell? ⟨g, i * 2 + 1, none⟩ = some y
theorem Ele.keep {g i : Nat} {x y : Value} {u v : World} (h : Ele g i x y u) (hb : Below u.heap.size u v) : Ele g i x y v := ⟨kept hb h.1, kept hb h.2⟩
theorem Btoi_any (b : Bool) (w : World) : Calls Try.prog 17 #[.bool b] w fun e w' => e = .returned (.int .i64 (if b then 1 else 0)) ∧ Below w.heap.size w w' := by
  cases b
  all_goals
    go_enter Try.func17, Try.ntmps17
    go_wp2_with fail
    go_ret
    exact ⟨rfl, Below.refl _ _⟩
set_option maxHeartbeats 12000000 in
set_option maxRecDepth 20000 in
theorem CutsLaw_go (a : Option Addr) (len cap : Nat) (w : World) (hs : Src w w.heap.size a len) :
    Calls Try.prog 3 #[.slice a len cap] w fun e w' => e = .returned (.bool true) ∧ Below w.heap.size w w' := by
  have HS := Lib.hid hs
  obtain ⟨hm, hsrc⟩ := hs
  have hl : len ≤ 9223372036854775807 := by unfold maxLen at hm; omega
  clear hm hsrc
  by_cases hb0 : len ≤ 1048576
  · go_enter Try.func3, Try.ntmps3
    go_wp2_with fail
    refine (Big_no a len cap w hb0).mono ?_
    rintro e w' ⟨rfl, rfl⟩
    go_wp2_with fail
    refine (DrawLayout_any a len cap w HS.out hb0).mono ?_
    rintro e w1 ⟨m, n, v, xs, hok, rfl, Rl, B⟩
    obtain ⟨hx0, hx1⟩ := hok.2.2.1
    obtain ⟨av, cv, rfl⟩ := Rl.form
    have HK := Lib.hid hok
    have HY := Lib.hid (lay_yes hok)
    have HWF := Lib.hid (lay_wf hok)
    have zw1 : w.heap.size ≤ w1.heap.size := B.size
    clear hok HS
    obtain ⟨can, hcan⟩ : ∃ can, can = sewB m n xs := ⟨_, rfl⟩
    have HCAN := Lib.hid hcan
    have CAN1 : Hid (∀ (lo hi : Nat) (v : Value) (u : World), PatIn lo hi u v xs → hi ≤ u.heap.size → Calls Try.prog 12 #[.agg #[.int .i64 m, .int .i64 n, v]] u fun e w' => e = .returned (.bool can) ∧ Below u.heap.size u w') := Lib.hid (fun lo hi v u r h => by rw [hcan]; exact ImplCanSew_any 0 hi m n v xs HWF.out u (r.wide (Nat.zero_le _) (Nat.le_refl _)) h (Nat.zero_le _))
    have CAN2 : Hid (∀ (lo hi : Nat) (v : Value) (u : World), PatIn lo hi u v xs → hi ≤ u.heap.size → Calls Try.prog 15 #[.agg #[.int .i64 m, .int .i64 n, v]] u fun e w' => e = .returned (.bool can) ∧ Below u.heap.size u w') := Lib.hid (fun lo hi v u r h => by rw [hcan]; exact SpecCanSew_any lo hi m n v xs u r h)
    obtain ⟨sv, hsv⟩ : ∃ sv, sv = seamsB m n xs := ⟨_, rfl⟩
    have SEA : Hid (∀ (lo hi : Nat) (v : Value) (u : World), PatIn lo hi u v xs → hi ≤ u.heap.size → Calls Try.prog 16 #[.agg #[.int .i64 m, .int .i64 n, v]] u fun e w' => e = .returned (.int .i64 sv) ∧ Below u.heap.size u w') := Lib.hid (fun lo hi v u r h => by rw [hsv]; exact ImplCountSeams_any 0 hi m n v xs HWF.out u (r.wide (Nat.zero_le _) (Nat.le_refl _)) h (Nat.zero_le _))
    have HSV : Hid (sv = if can then (xs.length : Int) - 1 else -1) := Lib.hid (by rw [hsv, hcan]; rfl)
    obtain ⟨cs, hcs⟩ : ∃ cs, cs = cutsB m n xs := ⟨_, rfl⟩
    have HCS : Hid (cs = cutsL m n xs) := Lib.hid (by rw [hcs, cuts_yes HY.out.symm])
    have CUT1 : Hid (∀ (lo hi : Nat) (v : Value) (u : World), PatIn lo hi u v xs → hi ≤ u.heap.size → Calls Try.prog 13 #[.agg #[.int .i64 m, .int .i64 n, v]] u (FreshCut cs u)) := Lib.hid (fun lo hi v u r h => by rw [hcs]; exact ImplCutsOf_any lo hi m n v xs HWF.out u r h)
    have CUT2 : Hid (∀ (lo hi : Nat) (v : Value) (u : World), PatIn lo hi u v xs → hi ≤ u.heap.size → Calls Try.prog 22 #[.agg #[.int .i64 m, .int .i64 n, v]] u (FreshCut cs u)) := Lib.hid (fun lo hi v u r h => by rw [hcs]; exact SpecCutsOf_any lo hi m n v xs u r h)
    obtain ⟨q, hq⟩ : ∃ q, q = knotR m n xs := ⟨_, rfl⟩
    have HQ : Hid (KnotIs m n xs q) := Lib.hid (by rw [hq]; exact knotR_is HY.out.symm)
    have HQC : Hid (q.isSome = !can) := Lib.hid (by rw [hq, hcan]; exact sew_knot HK.out)
    obtain ⟨M, hM⟩ : ∃ M, M = kM q := ⟨_, rfl⟩
    obtain ⟨N, hN⟩ : ∃ N, N = kN q := ⟨_, rfl⟩
    obtain ⟨X, hX⟩ : ∃ X, X = kX q := ⟨_, rfl⟩
    have KNO : Hid (∀ (lo hi : Nat) (v : Value) (u : World), PatIn lo hi u v xs → hi ≤ u.heap.size → Calls Try.prog 14 #[.agg #[.int .i64 m, .int .i64 n, v]] u (KnotW M N X (!can) u)) := Lib.hid (fun lo hi v u r h => by rw [hM, hN, hX, ← HQC.out, hq]; exact ImplFirstKnot_any lo hi m n v xs HWF.out u r h)
    have HKN : Hid (can = false → LayOk M N X ∧ cutsL M N X = [] ∧ 5 ≤ X.length) := Lib.hid (fun h => by
      have hs := HQC.out
      rw [h] at hs
      cases q with
      | none => simp at hs
      | some r => obtain ⟨A, B, C⟩ := r; rw [hM, hN, hX]; exact knot_is HQ.out rfl)
    clear hcan hsv hcs hq hM hN hX
    have NB := bel0 w1 (.cells #[.int .i64 m, .int .i64 n, .slice av xs.length cv] 26)
    have Rl := Rl.below (NB.mono (by omega))
    have B := bel_n B (Nat.le_refl _) (.cells #[.int .i64 m, .int .i64 n, .slice av xs.length cv] 26)
    have Xl := Tri.new w1 (.int .i64 m) (.int .i64 n) (.slice av xs.length cv) 26
    have zw2 : w1.heap.size + 1 ≤ (w1.alloc (.cells #[.int .i64 m, .int .i64 n, .slice av xs.length cv] 26)).heap.size := by simp
    obtain ⟨w2, hV⟩ : ∃ V, V = w1.alloc (.cells #[.int .i64 m, .int .i64 n, .slice av xs.length cv] 26) := ⟨_, rfl⟩
    rw [← hV] at B zw2 Xl Rl
    go_wp2_with fail
    rw [← hV]
    clear hV NB
    obtain ⟨cl0, cl1, cl2⟩ := id Xl
    go_wp2_with fail
    clear cl0 cl1 cl2
    refine (CAN1.out _ _ _ _ Rl (by omega)).mono ?_
    rintro e w3 ⟨rfl, hb⟩
    have Xl := Xl.keep hb
    have Rl := Rl.below (hb.mono (by omega))
    have B := bel_c B (Nat.le_refl _) hb
    have zw3 : w2.heap.size ≤ w3.heap.size := hb.size
    clear hb
    obtain ⟨cl0, cl1, cl2⟩ := id Xl
    go_wp2_with fail
    clear cl0 cl1 cl2
    refine (CUT1.out _ _ _ _ Rl (by omega)).mono ?_
    rintro e w4 ⟨vc, rfl, R, hb⟩
    obtain ⟨ac, cc, rfl⟩ := R.form
    have Xl := Xl.keep hb
    have Rl := Rl.below (hb.mono (by omega))
    have B := bel_c B (Nat.le_refl _) hb
    have zw4 : w3.heap.size ≤ w4.heap.size := hb.size
    clear hb
    have Rc := R
    clear R
    obtain ⟨cl0, cl1, cl2⟩ := id Xl
    go_wp2_with fail
    clear cl0 cl1 cl2
    refine (KNO.out _ _ _ _ Rl (by omega)).mono ?_
    rintro e w5 ⟨vk, rfl, R, hb⟩
    obtain ⟨ak, ck, rfl⟩ := R.form
    have Xl := Xl.keep hb
    have Rl := Rl.below (hb.mono (by omega))
    have Rc := Rc.below (hb.mono (by omega))
    have B := bel_c B (Nat.le_refl _) hb
    have zw5 : w4.heap.size ≤ w5.heap.size := hb.size
    clear hb
    have Rk := R
    clear R
    have NB := bel0 w5 (.cells #[.int .i64 M, .int .i64 N, .slice ak X.length ck] 26)
    have Xl := Xl.keep NB
    have Rl := Rl.below (NB.mono (by omega))
    have Rc := Rc.below (NB.mono (by omega))
    have Rk := Rk.below (NB.mono (by omega))
    have B := bel_n B (Nat.le_refl _) (.cells #[.int .i64 M, .int .i64 N, .slice ak X.length ck] 26)
    have Xk := Tri.new w5 (.int .i64 M) (.int .i64 N) (.slice ak X.length ck) 26
    have zw6 : w5.heap.size + 1 ≤ (w5.alloc (.cells #[.int .i64 M, .int .i64 N, .slice ak X.length ck] 26)).heap.size := by simp
    obtain ⟨w6, hV⟩ : ∃ V, V = w5.alloc (.cells #[.int .i64 M, .int .i64 N, .slice ak X.length ck] 26) := ⟨_, rfl⟩
    rw [← hV] at B zw6 Xl Xk Rl Rc Rk
    go_wp2_with fail
    rw [← hV]
    clear hV NB
    have KP : ∀ u v : World, Below u.heap.size u v → (u.cell? ⟨w1.heap.size, 0, none⟩ = some (.int .i64 m) ∧ u.cell? ⟨w1.heap.size, 1, none⟩ = some (.int .i64 n) ∧ u.cell? ⟨w1.heap.size, 2, none⟩ = some (.slice av xs.length cv) ∧ Below w6.heap.size w6 u) → (v.cell? ⟨w1.heap.size, 0, none⟩ = some (.int .i64 m) ∧ v.cell? ⟨w1.heap.size, 1, none⟩ = some (.int .i64 n) ∧ v.cell? ⟨w1.heap.size, 2, none⟩ = some (.slice av xs.length cv) ∧ Below w6.heap.size w6 v) := fun u v hb h => ⟨kept hb h.1, kept hb h.2.1, kept hb h.2.2.1, bel_c h.2.2.2 (Nat.le_refl _) hb⟩
    have D0 : Below w6.heap.size w6 w6.drew := ⟨rfl, rfl, rfl, Nat.le_refl _, fun _ _ => rfl⟩
    have S0 : w6.drew.cell? ⟨w1.heap.size, 0, none⟩ = some (.int .i64 m) ∧ w6.drew.cell? ⟨w1.heap.size, 1, none⟩ = some (.int .i64 n) ∧ w6.drew.cell? ⟨w1.heap.size, 2, none⟩ = some (.slice av xs.length cv) ∧ Below w6.heap.size w6 w6.drew := ⟨kept D0 Xl.1, kept D0 Xl.2.1, kept D0 Xl.2.2, D0⟩
    have CR : Hid (∀ u : World, (u.cell? ⟨w1.heap.size, 0, none⟩ = some (.int .i64 m) ∧ u.cell? ⟨w1.heap.size, 1, none⟩ = some (.int .i64 n) ∧ u.cell? ⟨w1.heap.size, 2, none⟩ = some (.slice av xs.length cv) ∧ Below w6.heap.size w6 u) → PatIn w.heap.size w1.heap.size u (.slice av xs.length cv) xs ∧ w1.heap.size ≤ u.heap.size) := Lib.hid (fun u h => ⟨Rl.below (h.2.2.2.mono (by omega)), by have := h.2.2.2.size; omega⟩)
    obtain ⟨cl0, cl1, cl2⟩ := id Xl
    go_upto_region 7 with fail
    go_cut [49] (fun q wx => q = .bool false ∧ Hid (Below w6.heap.size w6 wx))
    case first =>
      have hsv := HSV.out
      cases can
      all_goals
        simp only [if_true, if_false, Bool.false_eq_true] at hsv
        go_region_held3 (fun w' => w'.cell? ⟨w1.heap.size, 0, none⟩ = some (.int .i64 m) ∧ w'.cell? ⟨w1.heap.size, 1, none⟩ = some (.int .i64 n) ∧ w'.cell? ⟨w1.heap.size, 2, none⟩ = some (.slice av xs.length cv) ∧ Below w6.heap.size w6 w') (first | assumption | (refine KP _ _ (by assumption) ?_; assumption))
          ((first
            | (go_at_call 15; refine (args_eqL (CAN2.out _ _ _ _ (CR.out _ (by assumption)).1 (CR.out _ (by assumption)).2) (by with_reducible rfl)).mono ?_; rintro e y1 ⟨rfl, hb1⟩)
            | (go_at_call 16; refine (args_eqL (SEA.out _ _ _ _ (CR.out _ (by assumption)).1 (CR.out _ (by assumption)).2) (by with_reducible rfl)).mono ?_; rintro e y2 ⟨rfl, hb2⟩)
            | (go_at_call 17; refine (args_eqL (Btoi_any false _) (by with_reducible rfl)).mono ?_; rintro e y3 ⟨rfl, hb3⟩)
            | (go_at_call 17; refine (args_eqL (Btoi_any true _) (by with_reducible rfl)).mono ?_; rintro e y4 ⟨rfl, hb4⟩)))
        have BE := Lib.hid (bel_c (bel_c (bel_c D0 (Nat.le_refl _) hb1) (Nat.le_refl _) hb2) (Nat.le_refl _) (by first | exact bel_c hb3 (Nat.le_refl _) hb4 | exact bel_c hb4 (Nat.le_refl _) hb3))
        go_wp2_with fail
        go_meet
        refine ⟨?_, BE⟩
        subst hsv
        simp [IntKind.wrap, IntKind.bits, IntKind.signed] <;> omega
    case rest =>
     as_aux_lemma =>
      obtain ⟨rfl, HBW⟩ := hcut
      generalize wc = w7 at *
      have hb := HBW.out
      clear HBW S0 KP D0 CR cl0 cl1 cl2
      have Xl := Xl.keep hb
      have Xk := Xk.keep hb
      have Rl := Rl.below (hb.mono (by omega))
      have Rc := Rc.below (hb.mono (by omega))
      have Rk := Rk.below (hb.mono (by omega))
      have B := bel_c B (Nat.le_refl _) hb
      have zw7 : w6.heap.size ≤ w7.heap.size := hb.size
      clear hb
      go_wp2_with fail
      have hcl : cs.length ≤ 24 := by rw [HCS.out]; exact cutK_len _ 24
      go_loopw [8] (fun i wr => ∃ j : Nat, j ≤ cs.length ∧ i = .int .i64 j ∧ Hid (Below w7.heap.size w7 wr)) (fun i _ => cs.length - (intOf i).toNat)
      case atStart => exact ⟨0, Nat.zero_le _, rfl, Lib.hid (Below.refl _ _)⟩
      case round =>
       as_aux_lemma =>
        obtain ⟨j, hj, rfl, hbel⟩ := hrel
        have BL := hbel.out
        have hb := hbel.out
        clear hbel
        have Xl := Xl.keep hb
        have Xk := Xk.keep hb
        have Rl := Rl.below (hb.mono (by omega))
        have Rc := Rc.below (hb.mono (by omega))
        have Rk := Rk.below (hb.mono (by omega))
        have B := bel_c B (Nat.le_refl _) hb
        have zwr : w7.heap.size ≤ wr.heap.size := hb.size
        clear hb
        by_cases hlt : j < cs.length
        · as_aux_lemma =>
          have hlt2 : (j : Int) < cs.length := by omega
          obtain ⟨gc, rfl, gc0, gc1, hec, _⟩ := Rc.at (Below.refl _ _) hlt
          obtain ⟨c, hc⟩ : ∃ c, c = cs.getD j C2.zero := ⟨_, rfl⟩
          rw [← hc] at hec
          have HC : Hid (hasC m n xs c = true) := Lib.hid (cuts_mem (by rw [← HCS.out, hc]; simp only [List.getD, List.getElem?_eq_getElem hlt, Option.getD_some]; exact List.getElem_mem hlt))
          obtain ⟨up, z⟩ := c
          have Xe : Ele gc j (.bool up) (.int .i64 z) wr := hec
          clear hec hc
          have HCB : Hid (cutB m n xs ⟨up, z⟩ = true) := Lib.hid (by rw [← cut_lay HY.out.symm]; exact HC.out)
          obtain ⟨M1, hM1⟩ : ∃ M1, M1 = pM1 m ⟨up, z⟩ := ⟨_, rfl⟩
          obtain ⟨N1, hN1⟩ : ∃ N1, N1 = pN1 n ⟨up, z⟩ := ⟨_, rfl⟩
          obtain ⟨M2, hM2⟩ : ∃ M2, M2 = pM2 m ⟨up, z⟩ := ⟨_, rfl⟩
          obtain ⟨N2, hN2⟩ : ∃ N2, N2 = pN2 n ⟨up, z⟩ := ⟨_, rfl⟩
          obtain ⟨L1, hL1⟩ : ∃ L1, L1 = pL1 m n ⟨up, z⟩ xs := ⟨_, rfl⟩
          obtain ⟨L2, hL2⟩ : ∃ L2, L2 = pL2 m n ⟨up, z⟩ xs := ⟨_, rfl⟩
          have CSP : Hid (∀ (lo hi : Nat) (v : Value) (u : World), PatIn lo hi u v xs → hi ≤ u.heap.size → Calls Try.prog 18 #[.agg #[.int .i64 m, .int .i64 n, v], .agg #[.bool up, .int .i64 z]] u (SplitLV M1 N1 L1 M2 N2 L2 true u)) := Lib.hid (fun lo hi v u r h => by
            have hsp := ImplSplitLayout_any lo hi m n v xs up z HWF.out u r h
            obtain ⟨e1, e2, e3, e4, e5, e6⟩ := s_yes HCB.out
            rw [e1, e2, e3, e4, e5, e6, HCB.out, ← hM1, ← hN1, ← hM2, ← hN2, ← hL1, ← hL2] at hsp
            exact hsp)
          have HL1 : Hid (LayOk M1 N1 L1) := Lib.hid (by rw [hM1, hN1, hL1]; exact lay1 HK.out HC.out)
          have HL2 : Hid (LayOk M2 N2 L2) := Lib.hid (by rw [hM2, hN2, hL2]; exact lay2 HK.out HC.out)
          have HLEN : L1.length + L2.length = xs.length := by rw [hL1, hL2]; exact part_len HK.out HC.out
          obtain ⟨sA, hsA⟩ : ∃ sA, sA = sewB M1 N1 L1 := ⟨_, rfl⟩
          obtain ⟨sB, hsB⟩ : ∃ sB, sB = sewB M2 N2 L2 := ⟨_, rfl⟩
          have HSW : Hid ((sA && sB) = can) := Lib.hid (by rw [hsA, hsB, HCAN.out, hM1, hN1, hL1, hM2, hN2, hL2]; exact sew_cut HK.out HC.out)
          have HSA := Lib.hid hsA
          have HSB := Lib.hid hsB
          clear hM1 hN1 hM2 hN2 hL1 hL2 hsA hsB
          have KP : ∀ u v : World, Below u.heap.size u v → (u.cell? ⟨w1.heap.size, 0, none⟩ = some (.int .i64 m) ∧ u.cell? ⟨w1.heap.size, 1, none⟩ = some (.int .i64 n) ∧ u.cell? ⟨w1.heap.size, 2, none⟩ = some (.slice av xs.length cv) ∧ u.cell? ⟨gc, j * 2, none⟩ = some (.bool up) ∧ u.cell? ⟨gc, j * 2 + 1, none⟩ = some (.int .i64 z) ∧ Below wr.heap.size wr u) → (v.cell? ⟨w1.heap.size, 0, none⟩ = some (.int .i64 m) ∧ v.cell? ⟨w1.heap.size, 1, none⟩ = some (.int .i64 n) ∧ v.cell? ⟨w1.heap.size, 2, none⟩ = some (.slice av xs.length cv) ∧ v.cell? ⟨gc, j * 2, none⟩ = some (.bool up) ∧ v.cell? ⟨gc, j * 2 + 1, none⟩ = some (.int .i64 z) ∧ Below wr.heap.size wr v) := fun u v hb h => ⟨kept hb h.1, kept hb h.2.1, kept hb h.2.2.1, kept hb h.2.2.2.1, kept hb h.2.2.2.2.1, bel_c h.2.2.2.2.2 (Nat.le_refl _) hb⟩
          have D0 : Below wr.heap.size wr wr.drew := ⟨rfl, rfl, rfl, Nat.le_refl _, fun _ _ => rfl⟩
          have S0 : wr.drew.cell? ⟨w1.heap.size, 0, none⟩ = some (.int .i64 m) ∧ wr.drew.cell? ⟨w1.heap.size, 1, none⟩ = some (.int .i64 n) ∧ wr.drew.cell? ⟨w1.heap.size, 2, none⟩ = some (.slice av xs.length cv) ∧ wr.drew.cell? ⟨gc, j * 2, none⟩ = some (.bool up) ∧ wr.drew.cell? ⟨gc, j * 2 + 1, none⟩ = some (.int .i64 z) ∧ Below wr.heap.size wr wr.drew := ⟨kept D0 Xl.1, kept D0 Xl.2.1, kept D0 Xl.2.2, kept D0 Xe.1, kept D0 Xe.2, D0⟩
          have hgl : w1.heap.size < wr.heap.size := Xl.lt
          have hgc : gc < wr.heap.size := lt_of_cell Xe.1
          have KS : ∀ (u : World) (p : Nat) (x0 x1 x2 : Value), wr.heap.size ≤ p → (u.cell? ⟨w1.heap.size, 0, none⟩ = some (.int .i64 m) ∧ u.cell? ⟨w1.heap.size, 1, none⟩ = some (.int .i64 n) ∧ u.cell? ⟨w1.heap.size, 2, none⟩ = some (.slice av xs.length cv) ∧ u.cell? ⟨gc, j * 2, none⟩ = some (.bool up) ∧ u.cell? ⟨gc, j * 2 + 1, none⟩ = some (.int .i64 z) ∧ Below wr.heap.size wr u) → ((set3 u p x0 x1 x2).cell? ⟨w1.heap.size, 0, none⟩ = some (.int .i64 m) ∧ (set3 u p x0 x1 x2).cell? ⟨w1.heap.size, 1, none⟩ = some (.int .i64 n) ∧ (set3 u p x0 x1 x2).cell? ⟨w1.heap.size, 2, none⟩ = some (.slice av xs.length cv) ∧ (set3 u p x0 x1 x2).cell? ⟨gc, j * 2, none⟩ = some (.bool up) ∧ (set3 u p x0 x1 x2).cell? ⟨gc, j * 2 + 1, none⟩ = some (.int .i64 z) ∧ Below wr.heap.size wr (set3 u p x0 x1 x2)) := fun u p x0 x1 x2 hp h => ⟨(set3_far (show p ≠ w1.heap.size by omega)).trans h.1, (set3_far (show p ≠ w1.heap.size by omega)).trans h.2.1, (set3_far (show p ≠ w1.heap.size by omega)).trans h.2.2.1, (set3_far (show p ≠ gc by omega)).trans h.2.2.2.1, (set3_far (show p ≠ gc by omega)).trans h.2.2.2.2.1, ((h.2.2.2.2.2.setCell hp _).setCell hp _).setCell hp _⟩
          have KP1 := Lib.hid KP
          have KS1 := Lib.hid KS
          have RXU : Hid (∀ u : World, (u.cell? ⟨w1.heap.size, 0, none⟩ = some (.int .i64 m) ∧ u.cell? ⟨w1.heap.size, 1, none⟩ = some (.int .i64 n) ∧ u.cell? ⟨w1.heap.size, 2, none⟩ = some (.slice av xs.length cv) ∧ u.cell? ⟨gc, j * 2, none⟩ = some (.bool up) ∧ u.cell? ⟨gc, j * 2 + 1, none⟩ = some (.int .i64 z) ∧ Below wr.heap.size wr u) → PatIn w.heap.size w1.heap.size u (.slice av xs.length cv) xs ∧ w1.heap.size ≤ u.heap.size) := Lib.hid (fun u h => ⟨Rl.below (h.2.2.2.2.2.mono (by omega)), by have := h.2.2.2.2.2.size; omega⟩)
          clear KP KS D0
          obtain ⟨cl0, cl1, cl2⟩ := id Xl
          obtain ⟨ce0, ce1⟩ := id Xe
          go_upto_region 12 with fail
          go_cut [9, 10, 11] (fun q t r wx => WWS wr M1 N1 M2 N2 L1 L2 true q t r wx)
          case first =>
           (try simp only [List.append_eq, List.cons_append, List.nil_append])
           have hS := S0
           refine reg_begin (fun w' => w'.cell? ⟨w1.heap.size, 0, none⟩ = some (.int .i64 m) ∧ w'.cell? ⟨w1.heap.size, 1, none⟩ = some (.int .i64 n) ∧ w'.cell? ⟨w1.heap.size, 2, none⟩ = some (.slice av xs.length cv) ∧ w'.cell? ⟨gc, j * 2, none⟩ = some (.bool up) ∧ w'.cell? ⟨gc, j * 2 + 1, none⟩ = some (.int .i64 z) ∧ Below wr.heap.size wr w') (by kernel_rfl) hS ?_
           refine rt 0 (v := ?_) rfl (by intro w hSw; (try dsimp only at hSw); go_simp; first | done | with_reducible rfl) hS ?_
           (try simp only [Act.put, List.setIfInBounds_toArray, List.set_cons_zero, List.set_cons_succ])
           refine rt 1 (v := ?_) rfl (by intro w hSw; (try dsimp only at hSw); go_simp; first | done | with_reducible rfl) hS ?_
           (try simp only [Act.put, List.setIfInBounds_toArray, List.set_cons_zero, List.set_cons_succ])
           refine rt 2 (v := ?_) rfl (by intro w hSw; (try dsimp only at hSw); go_simp; first | done | with_reducible rfl) hS ?_
           (try simp only [Act.put, List.setIfInBounds_toArray, List.set_cons_zero, List.set_cons_succ])
           refine rt 3 (v := ?_) rfl (by intro w hSw; (try dsimp only at hSw); go_simp; first | done | with_reducible rfl) hS ?_
           (try simp only [Act.put, List.setIfInBounds_toArray, List.set_cons_zero, List.set_cons_succ])
           refine rt 4 (v := ?_) rfl (by intro w hSw; (try dsimp only at hSw); go_simp; first | done | with_reducible rfl) hS ?_
           (try simp only [Act.put, List.setIfInBounds_toArray, List.set_cons_zero, List.set_cons_succ])
           have hz0 : wr.drew.heap.size ≤ wr.heap.size ∧ wr.heap.size ≤ wr.drew.heap.size := ⟨Nat.le_refl _, Nat.le_refl _⟩
           generalize wr.drew = U0 at hS hz0 ⊢
           refine reg_three 5 10 11 rfl rfl rfl (by kernel_rfl) (by rfl) (by rfl) (by rfl) (fun K hK => ?_) (fun K hK => ?_) (fun K hK => ?_)
           · as_aux_lemma =>
             go_simp
             go_at_call 18
             refine (args_eqL (CSP.out _ _ _ _ (RXU.out _ hS).1 (RXU.out _ hS).2) (by with_reducible rfl)).mono ?_
             rintro e y1 ⟨vA, vB, k, rfl, RA, RB, hk1, hk2, hb⟩
             have RA0 := Lib.hid RA
             have RB0 := Lib.hid RB
             obtain ⟨aA, cA, rfl⟩ := RA.form
             obtain ⟨aB, cB, rfl⟩ := RB.form
             clear RA RB
             have hzy1 := hb.size
             refine hK.out _ _ (KP1.out _ _ hb hS) (fun hS' => ?_)
             clear hK K hS; have hS := hS'; clear hS'
             (try simp only [Act.put, List.setIfInBounds_toArray, List.set_cons_zero, List.set_cons_succ])
             clear hb
             refine rt 6 (v := ?_) rfl (by intro w _; go_simp; first | done | with_reducible rfl) hS ?_
             (try simp only [Act.put, List.setIfInBounds_toArray, List.set_cons_zero, List.set_cons_succ])
             refine rt 7 (v := ?_) rfl (by intro w _; go_simp; first | done | with_reducible rfl) hS ?_
             (try simp only [Act.put, List.setIfInBounds_toArray, List.set_cons_zero, List.set_cons_succ])
             refine rt 8 (v := ?_) rfl (by intro w _; go_simp; first | done | with_reducible rfl) hS ?_
             (try simp only [Act.put, List.setIfInBounds_toArray, List.set_cons_zero, List.set_cons_succ])
             refine rt 9 (v := ?_) rfl (by intro w _; go_simp; first | done | with_reducible rfl) hS ?_
             (try simp only [Act.put, List.setIfInBounds_toArray, List.set_cons_zero, List.set_cons_succ])
             refine reg_two 10 11 rfl rfl (by kernel_rfl) (by rfl) (by rfl) (fun K hK => ?_) (fun K hK => ?_)
             · as_aux_lemma =>
               go_simp
               refine hK.out _ _ (KP1.out _ _ (bel0 _ _) hS) (fun hS' => ?_)
               clear hK K hS; have hS := hS'; clear hS'
               (try simp only [Act.put, List.setIfInBounds_toArray, List.set_cons_zero, List.set_cons_succ])
               obtain ⟨V2, hV, hbe, hx, hzV2⟩ := zstep y1
               have HX10 := Lib.hid hx
               have RA0 := Lib.hid (RA0.out.below (hbe.mono (by omega)))
               have RB0 := Lib.hid (RB0.out.below (hbe.mono (by omega)))
               rw [← hV] at hS ⊢
               clear hV hbe hx
               refine reg_call 11 rfl (by kernel_rfl) (by rfl) (fun K hK => ?_)
               go_simp
               refine hK.out _ _ (KP1.out _ _ (bel0 _ _) hS) (fun hS' => ?_)
               clear hK K hS; have hS := hS'; clear hS'
               (try simp only [Act.put, List.setIfInBounds_toArray, List.set_cons_zero, List.set_cons_succ])
               obtain ⟨V3, hV, hbe, hx, hzV3⟩ := zstep V2
               have HX11 := Lib.hid hx
               have HX10 := Lib.hid (HX10.out.below hbe (by omega))
               have RA0 := Lib.hid (RA0.out.below (hbe.mono (by omega)))
               have RB0 := Lib.hid (RB0.out.below (hbe.mono (by omega)))
               rw [← hV] at hS ⊢
               clear hV hbe hx
               clear KP1
               refine reg_call 12 rfl (by kernel_rfl) (by rfl) (fun K hK => ?_)
               have ec0 := HX10.out.1
               have ec1 := HX10.out.2.1
               have ec2 := HX10.out.2.2.1
               have ec3 := HX10.out.2.2.2.1
               have ec4 := HX10.out.2.2.2.2.1
               have ec5 := HX10.out.2.2.2.2.2
               go_simp
               refine hK.out _ _ (KS1.out _ y1.heap.size (.int .i64 M1) (.int .i64 N1) (.slice aA L1.length cA) (by omega) hS) (fun hS' => ?_)
               clear hK K hS ec0 ec1 ec2 ec3 ec4 ec5; have hS := hS'; clear hS'
               (try simp only [Act.put, List.setIfInBounds_toArray, List.set_cons_zero, List.set_cons_succ])
               have HY := Lib.hid (HX11.out.far3e (show y1.heap.size ≠ V2.heap.size by omega) (.int .i64 M1) (.int .i64 N1) (.slice aA L1.length cA))
               refine reg_call 13 rfl (by kernel_rfl) (by rfl) (fun K hK => ?_)
               have ec0 := HY.out.1
               have ec1 := HY.out.2.1
               have ec2 := HY.out.2.2.1
               have ec3 := HY.out.2.2.2.1
               have ec4 := HY.out.2.2.2.2.1
               have ec5 := HY.out.2.2.2.2.2
               go_simp
               refine hK.out _ _ (KS1.out _ V2.heap.size (.int .i64 M2) (.int .i64 N2) (.slice aB L2.length cB) (by omega) hS) (fun hS' => ?_)
               clear hK K hS ec0 ec1 ec2 ec3 ec4 ec5; have hS := hS'; clear hS'
               (try simp only [Act.put, List.setIfInBounds_toArray, List.set_cons_zero, List.set_cons_succ])
               refine rt 14 (v := ?_) rfl (by intro w _; go_simp; first | done | with_reducible rfl) hS ?_
               (try simp only [Act.put, List.setIfInBounds_toArray, List.set_cons_zero, List.set_cons_succ])
               refine wpAnyH_done (by kernel_rfl) ?_ _
               have HBW := Lib.hid hS.2.2.2.2.2
               clear hS
               go_wp2_with fail
               go_meet
               exact wws_end HX10.out HX11.out (show y1.heap.size ≠ V2.heap.size by omega) (RA0.out.wide (lo' := U0.heap.size) (hi' := y1.heap.size) (by omega) (by omega)) (RB0.out.wide (by omega) (by omega)) (by omega) (by omega) (by omega) (by omega) (by omega) (by omega) HBW.out
             · as_aux_lemma =>
               go_simp
               refine hK.out _ _ (KP1.out _ _ (bel0 _ _) hS) (fun hS' => ?_)
               clear hK K hS; have hS := hS'; clear hS'
               (try simp only [Act.put, List.setIfInBounds_toArray, List.set_cons_zero, List.set_cons_succ])
               obtain ⟨V2, hV, hbe, hx, hzV2⟩ := zstep y1
               have HX11 := Lib.hid hx
               have RA0 := Lib.hid (RA0.out.below (hbe.mono (by omega)))
               have RB0 := Lib.hid (RB0.out.below (hbe.mono (by omega)))
               rw [← hV] at hS ⊢
               clear hV hbe hx
               refine reg_call 10 rfl (by kernel_rfl) (by rfl) (fun K hK => ?_)
               go_simp
               refine hK.out _ _ (KP1.out _ _ (bel0 _ _) hS) (fun hS' => ?_)
               clear hK K hS; have hS := hS'; clear hS'
               (try simp only [Act.put, List.setIfInBounds_toArray, List.set_cons_zero, List.set_cons_succ])
               obtain ⟨V3, hV, hbe, hx, hzV3⟩ := zstep V2
               have HX10 := Lib.hid hx
               have HX11 := Lib.hid (HX11.out.below hbe (by omega))
               have RA0 := Lib.hid (RA0.out.below (hbe.mono (by omega)))
               have RB0 := Lib.hid (RB0.out.below (hbe.mono (by omega)))
               rw [← hV] at hS ⊢
               clear hV hbe hx
               clear KP1
               refine reg_call 12 rfl (by kernel_rfl) (by rfl) (fun K hK => ?_)
               have ec0 := HX10.out.1
               have ec1 := HX10.out.2.1
               have ec2 := HX10.out.2.2.1
               have ec3 := HX10.out.2.2.2.1
               have ec4 := HX10.out.2.2.2.2.1
               have ec5 := HX10.out.2.2.2.2.2
               go_simp
               refine hK.out _ _ (KS1.out _ V2.heap.size (.int .i64 M1) (.int .i64 N1) (.slice aA L1.length cA) (by omega) hS) (fun hS' => ?_)
               clear hK K hS ec0 ec1 ec2 ec3 ec4 ec5; have hS := hS'; clear hS'
               (try simp only [Act.put, List.setIfInBounds_toArray, List.set_cons_zero, List.set_cons_succ])
               have HY := Lib.hid (HX11.out.far3e (show V2.heap.size ≠ y1.heap.size by omega) (.int .i64 M1) (.int .i64 N1) (.slice aA L1.length cA))
               refine reg_call 13 rfl (by kernel_rfl) (by rfl) (fun K hK => ?_)
               have ec0 := HY.out.1
               have ec1 := HY.out.2.1
               have ec2 := HY.out.2.2.1
               have ec3 := HY.out.2.2.2.1
               have ec4 := HY.out.2.2.2.2.1
               have ec5 := HY.out.2.2.2.2.2
               go_simp
               refine hK.out _ _ (KS1.out _ y1.heap.size (.int .i64 M2) (.int .i64 N2) (.slice aB L2.length cB) (by omega) hS) (fun hS' => ?_)
               clear hK K hS ec0 ec1 ec2 ec3 ec4 ec5; have hS := hS'; clear hS'
               (try simp only [Act.put, List.setIfInBounds_toArray, List.set_cons_zero, List.set_cons_succ])
               refine rt 14 (v := ?_) rfl (by intro w _; go_simp; first | done | with_reducible rfl) hS ?_
               (try simp only [Act.put, List.setIfInBounds_toArray, List.set_cons_zero, List.set_cons_succ])
               refine wpAnyH_done (by kernel_rfl) ?_ _
               have HBW := Lib.hid hS.2.2.2.2.2
               clear hS
               go_wp2_with fail
               go_meet
               exact wws_end HX10.out HX11.out (show V2.heap.size ≠ y1.heap.size by omega) (RA0.out.wide (lo' := U0.heap.size) (hi' := y1.heap.size) (by omega) (by omega)) (RB0.out.wide (by omega) (by omega)) (by omega) (by omega) (by omega) (by omega) (by omega) (by omega) HBW.out
           · as_aux_lemma =>
             go_simp
             refine hK.out _ _ (KP1.out _ _ (bel0 _ _) hS) (fun hS' => ?_)
             clear hK K hS; have hS := hS'; clear hS'
             (try simp only [Act.put, List.setIfInBounds_toArray, List.set_cons_zero, List.set_cons_succ])
             obtain ⟨V1, hV, hbe, hx, hzV1⟩ := zstep U0
             have HX10 := Lib.hid hx
             rw [← hV] at hS ⊢
             clear hV hbe hx
             refine reg_two 5 11 rfl rfl (by kernel_rfl) (by rfl) (by rfl) (fun K hK => ?_) (fun K hK => ?_)
             · as_aux_lemma =>
               go_simp
               go_at_call 18
               refine (args_eqL (CSP.out _ _ _ _ (RXU.out _ hS).1 (RXU.out _ hS).2) (by with_reducible rfl)).mono ?_
               rintro e y2 ⟨vA, vB, k, rfl, RA, RB, hk1, hk2, hb⟩
               have RA0 := Lib.hid RA
               have RB0 := Lib.hid RB
               obtain ⟨aA, cA, rfl⟩ := RA.form
               obtain ⟨aB, cB, rfl⟩ := RB.form
               clear RA RB
               have hzy2 := hb.size
               have HX10 := Lib.hid (HX10.out.below hb (by omega))
               refine hK.out _ _ (KP1.out _ _ hb hS) (fun hS' => ?_)
               clear hK K hS; have hS := hS'; clear hS'
               (try simp only [Act.put, List.setIfInBounds_toArray, List.set_cons_zero, List.set_cons_succ])
               clear hb
               refine rt 6 (v := ?_) rfl (by intro w _; go_simp; first | done | with_reducible rfl) hS ?_
               (try simp only [Act.put, List.setIfInBounds_toArray, List.set_cons_zero, List.set_cons_succ])
               refine rt 7 (v := ?_) rfl (by intro w _; go_simp; first | done | with_reducible rfl) hS ?_
               (try simp only [Act.put, List.setIfInBounds_toArray, List.set_cons_zero, List.set_cons_succ])
               refine rt 8 (v := ?_) rfl (by intro w _; go_simp; first | done | with_reducible rfl) hS ?_
               (try simp only [Act.put, List.setIfInBounds_toArray, List.set_cons_zero, List.set_cons_succ])
               refine rt 9 (v := ?_) rfl (by intro w _; go_simp; first | done | with_reducible rfl) hS ?_
               (try simp only [Act.put, List.setIfInBounds_toArray, List.set_cons_zero, List.set_cons_succ])
               refine reg_call 11 rfl (by kernel_rfl) (by rfl) (fun K hK => ?_)
               go_simp
               refine hK.out _ _ (KP1.out _ _ (bel0 _ _) hS) (fun hS' => ?_)
               clear hK K hS; have hS := hS'; clear hS'
               (try simp only [Act.put, List.setIfInBounds_toArray, List.set_cons_zero, List.set_cons_succ])
               obtain ⟨V3, hV, hbe, hx, hzV3⟩ := zstep y2
               have HX11 := Lib.hid hx
               have HX10 := Lib.hid (HX10.out.below hbe (by omega))
               have RA0 := Lib.hid (RA0.out.below (hbe.mono (by omega)))
               have RB0 := Lib.hid (RB0.out.below (hbe.mono (by omega)))
               rw [← hV] at hS ⊢
               clear hV hbe hx
               clear KP1
               refine reg_call 12 rfl (by kernel_rfl) (by rfl) (fun K hK => ?_)
               have ec0 := HX10.out.1
               have ec1 := HX10.out.2.1
               have ec2 := HX10.out.2.2.1
               have ec3 := HX10.out.2.2.2.1
               have ec4 := HX10.out.2.2.2.2.1
               have ec5 := HX10.out.2.2.2.2.2
               go_simp
               refine hK.out _ _ (KS1.out _ U0.heap.size (.int .i64 M1) (.int .i64 N1) (.slice aA L1.length cA) (by omega) hS) (fun hS' => ?_)
               clear hK K hS ec0 ec1 ec2 ec3 ec4 ec5; have hS := hS'; clear hS'
               (try simp only [Act.put, List.setIfInBounds_toArray, List.set_cons_zero, List.set_cons_succ])
               have HY := Lib.hid (HX11.out.far3e (show U0.heap.size ≠ y2.heap.size by omega) (.int .i64 M1) (.int .i64 N1) (.slice aA L1.length cA))
               refine reg_call 13 rfl (by kernel_rfl) (by rfl) (fun K hK => ?_)
               have ec0 := HY.out.1
               have ec1 := HY.out.2.1
               have ec2 := HY.out.2.2.1
               have ec3 := HY.out.2.2.2.1
               have ec4 := HY.out.2.2.2.2.1
               have ec5 := HY.out.2.2.2.2.2
               go_simp
               refine hK.out _ _ (KS1.out _ y2.heap.size (.int .i64 M2) (.int .i64 N2) (.slice aB L2.length cB) (by omega) hS) (fun hS' => ?_)
               clear hK K hS ec0 ec1 ec2 ec3 ec4 ec5; have hS := hS'; clear hS'
               (try simp only [Act.put, List.setIfInBounds_toArray, List.set_cons_zero, List.set_cons_succ])
               refine rt 14 (v := ?_) rfl (by intro w _; go_simp; first | done | with_reducible rfl) hS ?_
               (try simp only [Act.put, List.setIfInBounds_toArray, List.set_cons_zero, List.set_cons_succ])
               refine wpAnyH_done (by kernel_rfl) ?_ _
               have HBW := Lib.hid hS.2.2.2.2.2
               clear hS
               go_wp2_with fail
               go_meet
               exact wws_end HX10.out HX11.out (show U0.heap.size ≠ y2.heap.size by omega) (RA0.out.wide (lo' := V1.heap.size) (hi' := y2.heap.size) (by omega) (by omega)) (RB0.out.wide (by omega) (by omega)) (by omega) (by omega) (by omega) (by omega) (by omega) (by omega) HBW.out
             · as_aux_lemma =>
               go_simp
               refine hK.out _ _ (KP1.out _ _ (bel0 _ _) hS) (fun hS' => ?_)
               clear hK K hS; have hS := hS'; clear hS'
               (try simp only [Act.put, List.setIfInBounds_toArray, List.set_cons_zero, List.set_cons_succ])
               obtain ⟨V2, hV, hbe, hx, hzV2⟩ := zstep V1
               have HX11 := Lib.hid hx
               have HX10 := Lib.hid (HX10.out.below hbe (by omega))
               rw [← hV] at hS ⊢
               clear hV hbe hx
               refine reg_call 5 rfl (by kernel_rfl) (by rfl) (fun K hK => ?_)
               go_simp
               go_at_call 18
               refine (args_eqL (CSP.out _ _ _ _ (RXU.out _ hS).1 (RXU.out _ hS).2) (by with_reducible rfl)).mono ?_
               rintro e y3 ⟨vA, vB, k, rfl, RA, RB, hk1, hk2, hb⟩
               have RA0 := Lib.hid RA
               have RB0 := Lib.hid RB
               obtain ⟨aA, cA, rfl⟩ := RA.form
               obtain ⟨aB, cB, rfl⟩ := RB.form
               clear RA RB
               have hzy3 := hb.size
               have HX10 := Lib.hid (HX10.out.below hb (by omega))
               have HX11 := Lib.hid (HX11.out.below hb (by omega))
               refine hK.out _ _ (KP1.out _ _ hb hS) (fun hS' => ?_)
               clear hK K hS; have hS := hS'; clear hS'
               (try simp only [Act.put, List.setIfInBounds_toArray, List.set_cons_zero, List.set_cons_succ])
               clear hb
               refine rt 6 (v := ?_) rfl (by intro w _; go_simp; first | done | with_reducible rfl) hS ?_
               (try simp only [Act.put, List.setIfInBounds_toArray, List.set_cons_zero, List.set_cons_succ])
               refine rt 7 (v := ?_) rfl (by intro w _; go_simp; first | done | with_reducible rfl) hS ?_
               (try simp only [Act.put, List.setIfInBounds_toArray, List.set_cons_zero, List.set_cons_succ])
               refine rt 8 (v := ?_) rfl (by intro w _; go_simp; first | done | with_reducible rfl) hS ?_
               (try simp only [Act.put, List.setIfInBounds_toArray, List.set_cons_zero, List.set_cons_succ])
               refine rt 9 (v := ?_) rfl (by intro w _; go_simp; first | done | with_reducible rfl) hS ?_
               (try simp only [Act.put, List.setIfInBounds_toArray, List.set_cons_zero, List.set_cons_succ])
               clear KP1
               refine reg_call 12 rfl (by kernel_rfl) (by rfl) (fun K hK => ?_)
               have ec0 := HX10.out.1
               have ec1 := HX10.out.2.1
               have ec2 := HX10.out.2.2.1
               have ec3 := HX10.out.2.2.2.1
               have ec4 := HX10.out.2.2.2.2.1
               have ec5 := HX10.out.2.2.2.2.2
               go_simp
               refine hK.out _ _ (KS1.out _ U0.heap.size (.int .i64 M1) (.int .i64 N1) (.slice aA L1.length cA) (by omega) hS) (fun hS' => ?_)
               clear hK K hS ec0 ec1 ec2 ec3 ec4 ec5; have hS := hS'; clear hS'
               (try simp only [Act.put, List.setIfInBounds_toArray, List.set_cons_zero, List.set_cons_succ])
               have HY := Lib.hid (HX11.out.far3e (show U0.heap.size ≠ V1.heap.size by omega) (.int .i64 M1) (.int .i64 N1) (.slice aA L1.length cA))
               refine reg_call 13 rfl (by kernel_rfl) (by rfl) (fun K hK => ?_)
               have ec0 := HY.out.1
               have ec1 := HY.out.2.1
               have ec2 := HY.out.2.2.1
               have ec3 := HY.out.2.2.2.1
               have ec4 := HY.out.2.2.2.2.1
               have ec5 := HY.out.2.2.2.2.2
               go_simp
               refine hK.out _ _ (KS1.out _ V1.heap.size (.int .i64 M2) (.int .i64 N2) (.slice aB L2.length cB) (by omega) hS) (fun hS' => ?_)
               clear hK K hS ec0 ec1 ec2 ec3 ec4 ec5; have hS := hS'; clear hS'
               (try simp only [Act.put, List.setIfInBounds_toArray, List.set_cons_zero, List.set_cons_succ])
               refine rt 14 (v := ?_) rfl (by intro w _; go_simp; first | done | with_reducible rfl) hS ?_
               (try simp only [Act.put, List.setIfInBounds_toArray, List.set_cons_zero, List.set_cons_succ])
               refine wpAnyH_done (by kernel_rfl) ?_ _
               have HBW := Lib.hid hS.2.2.2.2.2
               clear hS
               go_wp2_with fail
               go_meet
               exact wws_end HX10.out HX11.out (show U0.heap.size ≠ V1.heap.size by omega) (RA0.out.wide (lo' := V2.heap.size) (hi' := y3.heap.size) (by omega) (by omega)) (RB0.out.wide (by omega) (by omega)) (by omega) (by omega) (by omega) (by omega) (by omega) (by omega) HBW.out
           · as_aux_lemma =>
             go_simp
             refine hK.out _ _ (KP1.out _ _ (bel0 _ _) hS) (fun hS' => ?_)
             clear hK K hS; have hS := hS'; clear hS'
             (try simp only [Act.put, List.setIfInBounds_toArray, List.set_cons_zero, List.set_cons_succ])
             obtain ⟨V1, hV, hbe, hx, hzV1⟩ := zstep U0
             have HX11 := Lib.hid hx
             rw [← hV] at hS ⊢
             clear hV hbe hx
             refine reg_two 5 10 rfl rfl (by kernel_rfl) (by rfl) (by rfl) (fun K hK => ?_) (fun K hK => ?_)
             · as_aux_lemma =>
               go_simp
               go_at_call 18
               refine (args_eqL (CSP.out _ _ _ _ (RXU.out _ hS).1 (RXU.out _ hS).2) (by with_reducible rfl)).mono ?_
               rintro e y2 ⟨vA, vB, k, rfl, RA, RB, hk1, hk2, hb⟩
               have RA0 := Lib.hid RA
               have RB0 := Lib.hid RB
               obtain ⟨aA, cA, rfl⟩ := RA.form
               obtain ⟨aB, cB, rfl⟩ := RB.form
               clear RA RB
               have hzy2 := hb.size
               have HX11 := Lib.hid (HX11.out.below hb (by omega))
               refine hK.out _ _ (KP1.out _ _ hb hS) (fun hS' => ?_)
               clear hK K hS; have hS := hS'; clear hS'
               (try simp only [Act.put, List.setIfInBounds_toArray, List.set_cons_zero, List.set_cons_succ])
               clear hb
               refine rt 6 (v := ?_) rfl (by intro w _; go_simp; first | done | with_reducible rfl) hS ?_
               (try simp only [Act.put, List.setIfInBounds_toArray, List.set_cons_zero, List.set_cons_succ])
               refine rt 7 (v := ?_) rfl (by intro w _; go_simp; first | done | with_reducible rfl) hS ?_
               (try simp only [Act.put, List.setIfInBounds_toArray, List.set_cons_zero, List.set_cons_succ])
               refine rt 8 (v := ?_) rfl (by intro w _; go_simp; first | done | with_reducible rfl) hS ?_
               (try simp only [Act.put, List.setIfInBounds_toArray, List.set_cons_zero, List.set_cons_succ])
               refine rt 9 (v := ?_) rfl (by intro w _; go_simp; first | done | with_reducible rfl) hS ?_
               (try simp only [Act.put, List.setIfInBounds_toArray, List.set_cons_zero, List.set_cons_succ])
               refine reg_call 10 rfl (by kernel_rfl) (by rfl) (fun K hK => ?_)
               go_simp
               refine hK.out _ _ (KP1.out _ _ (bel0 _ _) hS) (fun hS' => ?_)
               clear hK K hS; have hS := hS'; clear hS'
               (try simp only [Act.put, List.setIfInBounds_toArray, List.set_cons_zero, List.set_cons_succ])
               obtain ⟨V3, hV, hbe, hx, hzV3⟩ := zstep y2
               have HX10 := Lib.hid hx
               have HX11 := Lib.hid (HX11.out.below hbe (by omega))
               have RA0 := Lib.hid (RA0.out.below (hbe.mono (by omega)))
               have RB0 := Lib.hid (RB0.out.below (hbe.mono (by omega)))
               rw [← hV] at hS ⊢
               clear hV hbe hx
               clear KP1
               refine reg_call 12 rfl (by kernel_rfl) (by rfl) (fun K hK => ?_)
               have ec0 := HX10.out.1
               have ec1 := HX10.out.2.1
               have ec2 := HX10.out.2.2.1
               have ec3 := HX10.out.2.2.2.1
               have ec4 := HX10.out.2.2.2.2.1
               have ec5 := HX10.out.2.2.2.2.2
               go_simp
               refine hK.out _ _ (KS1.out _ y2.heap.size (.int .i64 M1) (.int .i64 N1) (.slice aA L1.length cA) (by omega) hS) (fun hS' => ?_)
               clear hK K hS ec0 ec1 ec2 ec3 ec4 ec5; have hS := hS'; clear hS'
               (try simp only [Act.put, List.setIfInBounds_toArray, List.set_cons_zero, List.set_cons_succ])
               have HY := Lib.hid (HX11.out.far3e (show y2.heap.size ≠ U0.heap.size by omega) (.int .i64 M1) (.int .i64 N1) (.slice aA L1.length cA))
               refine reg_call 13 rfl (by kernel_rfl) (by rfl) (fun K hK => ?_)
               have ec0 := HY.out.1
               have ec1 := HY.out.2.1
               have ec2 := HY.out.2.2.1
               have ec3 := HY.out.2.2.2.1
               have ec4 := HY.out.2.2.2.2.1
               have ec5 := HY.out.2.2.2.2.2
               go_simp
               refine hK.out _ _ (KS1.out _ U0.heap.size (.int .i64 M2) (.int .i64 N2) (.slice aB L2.length cB) (by omega) hS) (fun hS' => ?_)
               clear hK K hS ec0 ec1 ec2 ec3 ec4 ec5; have hS := hS'; clear hS'
               (try simp only [Act.put, List.setIfInBounds_toArray, List.set_cons_zero, List.set_cons_succ])
               refine rt 14 (v := ?_) rfl (by intro w _; go_simp; first | done | with_reducible rfl) hS ?_
               (try simp only [Act.put, List.setIfInBounds_toArray, List.set_cons_zero, List.set_cons_succ])
               refine wpAnyH_done (by kernel_rfl) ?_ _
               have HBW := Lib.hid hS.2.2.2.2.2
               clear hS
               go_wp2_with fail
               go_meet
               exact wws_end HX10.out HX11.out (show y2.heap.size ≠ U0.heap.size by omega) (RA0.out.wide (lo' := V1.heap.size) (hi' := y2.heap.size) (by omega) (by omega)) (RB0.out.wide (by omega) (by omega)) (by omega) (by omega) (by omega) (by omega) (by omega) (by omega) HBW.out
             · as_aux_lemma =>
               go_simp
               refine hK.out _ _ (KP1.out _ _ (bel0 _ _) hS) (fun hS' => ?_)
               clear hK K hS; have hS := hS'; clear hS'
               (try simp only [Act.put, List.setIfInBounds_toArray, List.set_cons_zero, List.set_cons_succ])
               obtain ⟨V2, hV, hbe, hx, hzV2⟩ := zstep V1
               have HX10 := Lib.hid hx
               have HX11 := Lib.hid (HX11.out.below hbe (by omega))
               rw [← hV] at hS ⊢
               clear hV hbe hx
               refine reg_call 5 rfl (by kernel_rfl) (by rfl) (fun K hK => ?_)
               go_simp
               go_at_call 18
               refine (args_eqL (CSP.out _ _ _ _ (RXU.out _ hS).1 (RXU.out _ hS).2) (by with_reducible rfl)).mono ?_
               rintro e y3 ⟨vA, vB, k, rfl, RA, RB, hk1, hk2, hb⟩
               have RA0 := Lib.hid RA
               have RB0 := Lib.hid RB
               obtain ⟨aA, cA, rfl⟩ := RA.form
               obtain ⟨aB, cB, rfl⟩ := RB.form
               clear RA RB
               have hzy3 := hb.size
               have HX11 := Lib.hid (HX11.out.below hb (by omega))
               have HX10 := Lib.hid (HX10.out.below hb (by omega))
               refine hK.out _ _ (KP1.out _ _ hb hS) (fun hS' => ?_)
               clear hK K hS; have hS := hS'; clear hS'
               (try simp only [Act.put, List.setIfInBounds_toArray, List.set_cons_zero, List.set_cons_succ])
               clear hb
               refine rt 6 (v := ?_) rfl (by intro w _; go_simp; first | done | with_reducible rfl) hS ?_
               (try simp only [Act.put, List.setIfInBounds_toArray, List.set_cons_zero, List.set_cons_succ])
               refine rt 7 (v := ?_) rfl (by intro w _; go_simp; first | done | with_reducible rfl) hS ?_
               (try simp only [Act.put, List.setIfInBounds_toArray, List.set_cons_zero, List.set_cons_succ])
               refine rt 8 (v := ?_) rfl (by intro w _; go_simp; first | done | with_reducible rfl) hS ?_
               (try simp only [Act.put, List.setIfInBounds_toArray, List.set_cons_zero, List.set_cons_succ])
               refine rt 9 (v := ?_) rfl (by intro w _; go_simp; first | done | with_reducible rfl) hS ?_
               (try simp only [Act.put, List.setIfInBounds_toArray, List.set_cons_zero, List.set_cons_succ])
               clear KP1
               refine reg_call 12 rfl (by kernel_rfl) (by rfl) (fun K hK => ?_)
               have ec0 := HX10.out.1
               have ec1 := HX10.out.2.1
               have ec2 := HX10.out.2.2.1
               have ec3 := HX10.out.2.2.2.1
               have ec4 := HX10.out.2.2.2.2.1
               have ec5 := HX10.out.2.2.2.2.2
               go_simp
               refine hK.out _ _ (KS1.out _ V1.heap.size (.int .i64 M1) (.int .i64 N1) (.slice aA L1.length cA) (by omega) hS) (fun hS' => ?_)
               clear hK K hS ec0 ec1 ec2 ec3 ec4 ec5; have hS := hS'; clear hS'
               (try simp only [Act.put, List.setIfInBounds_toArray, List.set_cons_zero, List.set_cons_succ])
               have HY := Lib.hid (HX11.out.far3e (show V1.heap.size ≠ U0.heap.size by omega) (.int .i64 M1) (.int .i64 N1) (.slice aA L1.length cA))
               refine reg_call 13 rfl (by kernel_rfl) (by rfl) (fun K hK => ?_)
               have ec0 := HY.out.1
               have ec1 := HY.out.2.1
               have ec2 := HY.out.2.2.1
               have ec3 := HY.out.2.2.2.1
               have ec4 := HY.out.2.2.2.2.1
               have ec5 := HY.out.2.2.2.2.2
               go_simp
               refine hK.out _ _ (KS1.out _ U0.heap.size (.int .i64 M2) (.int .i64 N2) (.slice aB L2.length cB) (by omega) hS) (fun hS' => ?_)
               clear hK K hS ec0 ec1 ec2 ec3 ec4 ec5; have hS := hS'; clear hS'
               (try simp only [Act.put, List.setIfInBounds_toArray, List.set_cons_zero, List.set_cons_succ])
               refine rt 14 (v := ?_) rfl (by intro w _; go_simp; first | done | with_reducible rfl) hS ?_
               (try simp only [Act.put, List.setIfInBounds_toArray, List.set_cons_zero, List.set_cons_succ])
               refine wpAnyH_done (by kernel_rfl) ?_ _
               have HBW := Lib.hid hS.2.2.2.2.2
               clear hS
               go_wp2_with fail
               go_meet
               exact wws_end HX10.out HX11.out (show V1.heap.size ≠ U0.heap.size by omega) (RA0.out.wide (lo' := V2.heap.size) (hi' := y3.heap.size) (by omega) (by omega)) (RB0.out.wide (by omega) (by omega)) (by omega) (by omega) (by omega) (by omega) (by omega) (by omega) HBW.out
          case rest =>
           as_aux_lemma =>
            obtain ⟨pP, pQ, aP, cP, aQ, cQ, loP, hiP, rfl, rfl, rfl, HXA, HXB, HRA, HRB, lzP, hzP, pzP, pzQ, HBW⟩ := hcut
            generalize wc = w8 at *
            have hb := HBW.out
            have XP_ := Tri.of_box HXA.out
            have XQ_ := Tri.of_box HXB.out
            have RP_ := HRA.out
            have RQ_ := HRB.out
            clear HXA HXB HRA HRB HBW S0 KP1 KS1 RXU cl0 cl1 cl2 ce0 ce1
            have Xl := Xl.keep hb
            have Xk := Xk.keep hb
            have Xe := Xe.keep hb
            have Rl := Rl.below (hb.mono (by omega))
            have Rc := Rc.below (hb.mono (by omega))
            have Rk := Rk.below (hb.mono (by omega))
            have B := bel_c B (Nat.le_refl _) hb
            have BL := bel_c BL (Nat.le_refl _) hb
            have zw8 : wr.heap.size ≤ w8.heap.size := hb.size
            clear hb
            have XP := XP_
            have RP := RP_
            have XQ := XQ_
            have RQ := RQ_
            clear XP_ XQ_ RP_ RQ_
            have KP : ∀ u v : World, Below u.heap.size u v → (u.cell? ⟨w1.heap.size, 0, none⟩ = some (.int .i64 m) ∧ u.cell? ⟨w1.heap.size, 1, none⟩ = some (.int .i64 n) ∧ u.cell? ⟨w1.heap.size, 2, none⟩ = some (.slice av xs.length cv) ∧ u.cell? ⟨pP, 0, none⟩ = some (.int .i64 M1) ∧ u.cell? ⟨pP, 1, none⟩ = some (.int .i64 N1) ∧ u.cell? ⟨pP, 2, none⟩ = some (.slice aP L1.length cP) ∧ u.cell? ⟨pQ, 0, none⟩ = some (.int .i64 M2) ∧ u.cell? ⟨pQ, 1, none⟩ = some (.int .i64 N2) ∧ u.cell? ⟨pQ, 2, none⟩ = some (.slice aQ L2.length cQ) ∧ u.cell? ⟨gc, j * 2, none⟩ = some (.bool up) ∧ u.cell? ⟨gc, j * 2 + 1, none⟩ = some (.int .i64 z) ∧ Below w8.heap.size w8 u) → (v.cell? ⟨w1.heap.size, 0, none⟩ = some (.int .i64 m) ∧ v.cell? ⟨w1.heap.size, 1, none⟩ = some (.int .i64 n) ∧ v.cell? ⟨w1.heap.size, 2, none⟩ = some (.slice av xs.length cv) ∧ v.cell? ⟨pP, 0, none⟩ = some (.int .i64 M1) ∧ v.cell? ⟨pP, 1, none⟩ = some (.int .i64 N1) ∧ v.cell? ⟨pP, 2, none⟩ = some (.slice aP L1.length cP) ∧ v.cell? ⟨pQ, 0, none⟩ = some (.int .i64 M2) ∧ v.cell? ⟨pQ, 1, none⟩ = some (.int .i64 N2) ∧ v.cell? ⟨pQ, 2, none⟩ = some (.slice aQ L2.length cQ) ∧ v.cell? ⟨gc, j * 2, none⟩ = some (.bool up) ∧ v.cell? ⟨gc, j * 2 + 1, none⟩ = some (.int .i64 z) ∧ Below w8.heap.size w8 v) := fun u v hb h => ⟨kept hb h.1, kept hb h.2.1, kept hb h.2.2.1, kept hb h.2.2.2.1, kept hb h.2.2.2.2.1, kept hb h.2.2.2.2.2.1, kept hb h.2.2.2.2.2.2.1, kept hb h.2.2.2.2.2.2.2.1, kept hb h.2.2.2.2.2.2.2.2.1, kept hb h.2.2.2.2.2.2.2.2.2.1, kept hb h.2.2.2.2.2.2.2.2.2.2.1, bel_c h.2.2.2.2.2.2.2.2.2.2.2 (Nat.le_refl _) hb⟩
            have D0 : Below w8.heap.size w8 w8.drew := ⟨rfl, rfl, rfl, Nat.le_refl _, fun _ _ => rfl⟩
            have S0 : w8.drew.cell? ⟨w1.heap.size, 0, none⟩ = some (.int .i64 m) ∧ w8.drew.cell? ⟨w1.heap.size, 1, none⟩ = some (.int .i64 n) ∧ w8.drew.cell? ⟨w1.heap.size, 2, none⟩ = some (.slice av xs.length cv) ∧ w8.drew.cell? ⟨pP, 0, none⟩ = some (.int .i64 M1) ∧ w8.drew.cell? ⟨pP, 1, none⟩ = some (.int .i64 N1) ∧ w8.drew.cell? ⟨pP, 2, none⟩ = some (.slice aP L1.length cP) ∧ w8.drew.cell? ⟨pQ, 0, none⟩ = some (.int .i64 M2) ∧ w8.drew.cell? ⟨pQ, 1, none⟩ = some (.int .i64 N2) ∧ w8.drew.cell? ⟨pQ, 2, none⟩ = some (.slice aQ L2.length cQ) ∧ w8.drew.cell? ⟨gc, j * 2, none⟩ = some (.bool up) ∧ w8.drew.cell? ⟨gc, j * 2 + 1, none⟩ = some (.int .i64 z) ∧ Below w8.heap.size w8 w8.drew := ⟨kept D0 Xl.1, kept D0 Xl.2.1, kept D0 Xl.2.2, kept D0 XP.1, kept D0 XP.2.1, kept D0 XP.2.2, kept D0 XQ.1, kept D0 XQ.2.1, kept D0 XQ.2.2, kept D0 Xe.1, kept D0 Xe.2, D0⟩
            have C1 : Hid (∀ u : World, (u.cell? ⟨w1.heap.size, 0, none⟩ = some (.int .i64 m) ∧ u.cell? ⟨w1.heap.size, 1, none⟩ = some (.int .i64 n) ∧ u.cell? ⟨w1.heap.size, 2, none⟩ = some (.slice av xs.length cv) ∧ u.cell? ⟨pP, 0, none⟩ = some (.int .i64 M1) ∧ u.cell? ⟨pP, 1, none⟩ = some (.int .i64 N1) ∧ u.cell? ⟨pP, 2, none⟩ = some (.slice aP L1.length cP) ∧ u.cell? ⟨pQ, 0, none⟩ = some (.int .i64 M2) ∧ u.cell? ⟨pQ, 1, none⟩ = some (.int .i64 N2) ∧ u.cell? ⟨pQ, 2, none⟩ = some (.slice aQ L2.length cQ) ∧ u.cell? ⟨gc, j * 2, none⟩ = some (.bool up) ∧ u.cell? ⟨gc, j * 2 + 1, none⟩ = some (.int .i64 z) ∧ Below w8.heap.size w8 u) → Calls Try.prog 19 #[.agg #[.int .i64 m, .int .i64 n, .slice av xs.length cv], .agg #[.bool up, .int .i64 z]] u fun e w' => e = .returned (.bool true) ∧ Below u.heap.size u w') := Lib.hid (fun u h => by rw [← HCB.out]; exact ImplIsCut_any _ _ m n _ xs up z HWF.out u (Rl.below (h.2.2.2.2.2.2.2.2.2.2.2.mono (by omega))) (by have := h.2.2.2.2.2.2.2.2.2.2.2.size; omega))
            have LA : Hid (∀ u : World, (u.cell? ⟨w1.heap.size, 0, none⟩ = some (.int .i64 m) ∧ u.cell? ⟨w1.heap.size, 1, none⟩ = some (.int .i64 n) ∧ u.cell? ⟨w1.heap.size, 2, none⟩ = some (.slice av xs.length cv) ∧ u.cell? ⟨pP, 0, none⟩ = some (.int .i64 M1) ∧ u.cell? ⟨pP, 1, none⟩ = some (.int .i64 N1) ∧ u.cell? ⟨pP, 2, none⟩ = some (.slice aP L1.length cP) ∧ u.cell? ⟨pQ, 0, none⟩ = some (.int .i64 M2) ∧ u.cell? ⟨pQ, 1, none⟩ = some (.int .i64 N2) ∧ u.cell? ⟨pQ, 2, none⟩ = some (.slice aQ L2.length cQ) ∧ u.cell? ⟨gc, j * 2, none⟩ = some (.bool up) ∧ u.cell? ⟨gc, j * 2 + 1, none⟩ = some (.int .i64 z) ∧ Below w8.heap.size w8 u) → Calls Try.prog 20 #[.agg #[.int .i64 M1, .int .i64 N1, .slice aP L1.length cP]] u fun e w' => e = .returned (.bool true) ∧ Below u.heap.size u w') := Lib.hid (fun u h => by rw [lay_yes HL1.out]; exact SpecLayoutOk_any _ _ M1 N1 _ L1 u (RP.below (h.2.2.2.2.2.2.2.2.2.2.2.mono (by omega))) (by have := h.2.2.2.2.2.2.2.2.2.2.2.size; omega))
            have SA : Hid (∀ u : World, (u.cell? ⟨w1.heap.size, 0, none⟩ = some (.int .i64 m) ∧ u.cell? ⟨w1.heap.size, 1, none⟩ = some (.int .i64 n) ∧ u.cell? ⟨w1.heap.size, 2, none⟩ = some (.slice av xs.length cv) ∧ u.cell? ⟨pP, 0, none⟩ = some (.int .i64 M1) ∧ u.cell? ⟨pP, 1, none⟩ = some (.int .i64 N1) ∧ u.cell? ⟨pP, 2, none⟩ = some (.slice aP L1.length cP) ∧ u.cell? ⟨pQ, 0, none⟩ = some (.int .i64 M2) ∧ u.cell? ⟨pQ, 1, none⟩ = some (.int .i64 N2) ∧ u.cell? ⟨pQ, 2, none⟩ = some (.slice aQ L2.length cQ) ∧ u.cell? ⟨gc, j * 2, none⟩ = some (.bool up) ∧ u.cell? ⟨gc, j * 2 + 1, none⟩ = some (.int .i64 z) ∧ Below w8.heap.size w8 u) → Calls Try.prog 12 #[.agg #[.int .i64 M1, .int .i64 N1, .slice aP L1.length cP]] u fun e w' => e = .returned (.bool sA) ∧ Below u.heap.size u w') := Lib.hid (fun u h => by rw [HSA.out]; exact ImplCanSew_any 0 _ M1 N1 _ L1 (lay_wf HL1.out) u ((RP.below (h.2.2.2.2.2.2.2.2.2.2.2.mono (by omega))).wide (Nat.zero_le _) (Nat.le_refl _)) (by have := h.2.2.2.2.2.2.2.2.2.2.2.size; omega) (Nat.zero_le _))
            have LB : Hid (∀ u : World, (u.cell? ⟨w1.heap.size, 0, none⟩ = some (.int .i64 m) ∧ u.cell? ⟨w1.heap.size, 1, none⟩ = some (.int .i64 n) ∧ u.cell? ⟨w1.heap.size, 2, none⟩ = some (.slice av xs.length cv) ∧ u.cell? ⟨pP, 0, none⟩ = some (.int .i64 M1) ∧ u.cell? ⟨pP, 1, none⟩ = some (.int .i64 N1) ∧ u.cell? ⟨pP, 2, none⟩ = some (.slice aP L1.length cP) ∧ u.cell? ⟨pQ, 0, none⟩ = some (.int .i64 M2) ∧ u.cell? ⟨pQ, 1, none⟩ = some (.int .i64 N2) ∧ u.cell? ⟨pQ, 2, none⟩ = some (.slice aQ L2.length cQ) ∧ u.cell? ⟨gc, j * 2, none⟩ = some (.bool up) ∧ u.cell? ⟨gc, j * 2 + 1, none⟩ = some (.int .i64 z) ∧ Below w8.heap.size w8 u) → Calls Try.prog 20 #[.agg #[.int .i64 M2, .int .i64 N2, .slice aQ L2.length cQ]] u fun e w' => e = .returned (.bool true) ∧ Below u.heap.size u w') := Lib.hid (fun u h => by rw [lay_yes HL2.out]; exact SpecLayoutOk_any _ _ M2 N2 _ L2 u (RQ.below (h.2.2.2.2.2.2.2.2.2.2.2.mono (by omega))) (by have := h.2.2.2.2.2.2.2.2.2.2.2.size; omega))
            have SB : Hid (∀ u : World, (u.cell? ⟨w1.heap.size, 0, none⟩ = some (.int .i64 m) ∧ u.cell? ⟨w1.heap.size, 1, none⟩ = some (.int .i64 n) ∧ u.cell? ⟨w1.heap.size, 2, none⟩ = some (.slice av xs.length cv) ∧ u.cell? ⟨pP, 0, none⟩ = some (.int .i64 M1) ∧ u.cell? ⟨pP, 1, none⟩ = some (.int .i64 N1) ∧ u.cell? ⟨pP, 2, none⟩ = some (.slice aP L1.length cP) ∧ u.cell? ⟨pQ, 0, none⟩ = some (.int .i64 M2) ∧ u.cell? ⟨pQ, 1, none⟩ = some (.int .i64 N2) ∧ u.cell? ⟨pQ, 2, none⟩ = some (.slice aQ L2.length cQ) ∧ u.cell? ⟨gc, j * 2, none⟩ = some (.bool up) ∧ u.cell? ⟨gc, j * 2 + 1, none⟩ = some (.int .i64 z) ∧ Below w8.heap.size w8 u) → Calls Try.prog 12 #[.agg #[.int .i64 M2, .int .i64 N2, .slice aQ L2.length cQ]] u fun e w' => e = .returned (.bool sB) ∧ Below u.heap.size u w') := Lib.hid (fun u h => by rw [HSB.out]; exact ImplCanSew_any 0 _ M2 N2 _ L2 (lay_wf HL2.out) u ((RQ.below (h.2.2.2.2.2.2.2.2.2.2.2.mono (by omega))).wide (Nat.zero_le _) (Nat.le_refl _)) (by have := h.2.2.2.2.2.2.2.2.2.2.2.size; omega) (Nat.zero_le _))
            have hli : (L1.length : Int) + L2.length = xs.length := by omega
            have hw : IntKind.i64.wrap ((L1.length : Int) + (L2.length : Int)) = (xs.length : Int) := by rw [hli]; simp [IntKind.wrap, IntKind.bits, IntKind.signed]; omega
            have hwx : IntKind.i64.wrap (xs.length : Int) = (xs.length : Int) := by simp [IntKind.wrap, IntKind.bits, IntKind.signed]; omega
            have hd1 : ((L1.length : Int) + (L2.length : Int) == (xs.length : Int)) = true := by rw [hli]; exact beq_self_eq_true _
            have hd2 : ((L1.length : Int) + (L2.length : Int) != (xs.length : Int)) = false := by rw [hli]; exact bne_self_eq_false _
            have hd3 : (IntKind.i64.wrap ((L1.length : Int) + (L2.length : Int)) == (xs.length : Int)) = true := by rw [hw]; exact beq_self_eq_true _
            have hd4 : (IntKind.i64.wrap ((L1.length : Int) + (L2.length : Int)) != (xs.length : Int)) = false := by rw [hw]; exact bne_self_eq_false _
            have hb1 : L1.length ≤ 12 := by omega
            have hb2 : L2.length ≤ 12 := by omega
            clear HSA HSB
            obtain ⟨cl0, cl1, cl2⟩ := id Xl
            obtain ⟨cP0, cP1, cP2⟩ := id XP
            obtain ⟨cQ0, cQ1, cQ2⟩ := id XQ
            obtain ⟨ce0, ce1⟩ := id Xe
            go_upto_region 13 with fail
            go_cut [109] (fun q wx => q = .bool false ∧ Hid (Below w8.heap.size w8 wx))
            case first =>
             as_aux_lemma =>
              have hs := HSW.out
              cases sA
              all_goals simp only [Bool.true_and, Bool.false_and] at hs
              all_goals subst hs
              · (try simp only [List.append_eq, List.cons_append, List.nil_append])
                have hS := S0
                refine reg_begin (fun w' => w'.cell? ⟨w1.heap.size, 0, none⟩ = some (.int .i64 m) ∧ w'.cell? ⟨w1.heap.size, 1, none⟩ = some (.int .i64 n) ∧ w'.cell? ⟨w1.heap.size, 2, none⟩ = some (.slice av xs.length cv) ∧ w'.cell? ⟨pP, 0, none⟩ = some (.int .i64 M1) ∧ w'.cell? ⟨pP, 1, none⟩ = some (.int .i64 N1) ∧ w'.cell? ⟨pP, 2, none⟩ = some (.slice aP L1.length cP) ∧ w'.cell? ⟨pQ, 0, none⟩ = some (.int .i64 M2) ∧ w'.cell? ⟨pQ, 1, none⟩ = some (.int .i64 N2) ∧ w'.cell? ⟨pQ, 2, none⟩ = some (.slice aQ L2.length cQ) ∧ w'.cell? ⟨gc, j * 2, none⟩ = some (.bool up) ∧ w'.cell? ⟨gc, j * 2 + 1, none⟩ = some (.int .i64 z) ∧ Below w8.heap.size w8 w') (by kernel_rfl) hS ?_
                refine reg_take 0 (v := ?_) rfl (by kernel_rfl) (by kernel_rfl) (by kernel_rfl) (fun _ _ _ h => h) (by rfl) (by intro w hSw; (try dsimp only at hSw); go_simp; first | done | with_reducible rfl) hS ?_
                (try simp only [Act.put, List.setIfInBounds_toArray, List.set_cons_zero, List.set_cons_succ])
                refine reg_take 1 (v := ?_) rfl (by kernel_rfl) (by kernel_rfl) (by kernel_rfl) (fun _ _ _ h => h) (by rfl) (by intro w hSw; (try dsimp only at hSw); go_simp; first | done | with_reducible rfl) hS ?_
                (try simp only [Act.put, List.setIfInBounds_toArray, List.set_cons_zero, List.set_cons_succ])
                refine reg_take 2 (v := ?_) rfl (by kernel_rfl) (by kernel_rfl) (by kernel_rfl) (fun _ _ _ h => h) (by rfl) (by intro w hSw; (try dsimp only at hSw); go_simp; first | done | with_reducible rfl) hS ?_
                (try simp only [Act.put, List.setIfInBounds_toArray, List.set_cons_zero, List.set_cons_succ])
                refine reg_take 3 (v := ?_) rfl (by kernel_rfl) (by kernel_rfl) (by kernel_rfl) (fun _ _ _ h => h) (by rfl) (by intro w hSw; (try dsimp only at hSw); go_simp; first | done | with_reducible rfl) hS ?_
                (try simp only [Act.put, List.setIfInBounds_toArray, List.set_cons_zero, List.set_cons_succ])
                refine reg_take 4 (v := ?_) rfl (by kernel_rfl) (by kernel_rfl) (by kernel_rfl) (fun _ _ _ h => h) (by rfl) (by intro w hSw; (try dsimp only at hSw); go_simp; first | done | with_reducible rfl) hS ?_
                (try simp only [Act.put, List.setIfInBounds_toArray, List.set_cons_zero, List.set_cons_succ])
                refine reg_take 5 (v := ?_) rfl (by kernel_rfl) (by kernel_rfl) (by kernel_rfl) (fun _ _ _ h => h) (by rfl) (by intro w hSw; (try dsimp only at hSw); go_simp; first | done | with_reducible rfl) hS ?_
                (try simp only [Act.put, List.setIfInBounds_toArray, List.set_cons_zero, List.set_cons_succ])
                refine reg_take 6 (v := ?_) rfl (by kernel_rfl) (by kernel_rfl) (by kernel_rfl) (fun _ _ _ h => h) (by rfl) (by intro w hSw; (try dsimp only at hSw); go_simp; first | done | with_reducible rfl) hS ?_
                (try simp only [Act.put, List.setIfInBounds_toArray, List.set_cons_zero, List.set_cons_succ])
                refine reg_take 7 (v := ?_) rfl (by kernel_rfl) (by kernel_rfl) (by kernel_rfl) (fun _ _ _ h => h) (by rfl) (by intro w hSw; (try dsimp only at hSw); go_simp; first | done | with_reducible rfl) hS ?_
                (try simp only [Act.put, List.setIfInBounds_toArray, List.set_cons_zero, List.set_cons_succ])
                refine reg_call 8 rfl (by kernel_rfl) (by rfl) (fun K hK => ?_)
                go_simp
                go_at_call 19
                refine (args_eqL (C1.out _ hS) (by with_reducible rfl)).mono ?_
                rintro e u1 ⟨rfl, hb⟩
                refine hK.out _ _ (KP _ _ hb hS) (fun hS' => ?_)
                clear hK K hS
                have hS := hS'
                clear hS' hb
                try (try simp only [Act.put, List.setIfInBounds_toArray, List.set_cons_zero, List.set_cons_succ])
                refine reg_take 9 (v := ?_) rfl (by kernel_rfl) (by kernel_rfl) (by kernel_rfl) (fun _ _ _ h => h) (by rfl) (by intro w hSw; (try dsimp only at hSw); go_simp; first | done | with_reducible rfl) hS ?_
                (try simp only [Act.put, List.setIfInBounds_toArray, List.set_cons_zero, List.set_cons_succ])
                refine reg_take 10 (v := ?_) rfl (by kernel_rfl) (by kernel_rfl) (by kernel_rfl) (fun _ _ _ h => h) (by rfl) (by intro w hSw; (try dsimp only at hSw); go_simp; first | done | with_reducible rfl) hS ?_
                (try simp only [Act.put, List.setIfInBounds_toArray, List.set_cons_zero, List.set_cons_succ])
                refine reg_take 11 (v := ?_) rfl (by kernel_rfl) (by kernel_rfl) (by kernel_rfl) (fun _ _ _ h => h) (by rfl) (by intro w hSw; (try dsimp only at hSw); go_simp; first | done | with_reducible rfl) hS ?_
                (try simp only [Act.put, List.setIfInBounds_toArray, List.set_cons_zero, List.set_cons_succ])
                refine reg_take 12 (v := ?_) rfl (by kernel_rfl) (by kernel_rfl) (by kernel_rfl) (fun _ _ _ h => h) (by rfl) (by intro w hSw; (try dsimp only at hSw); go_simp; first | done | with_reducible rfl) hS ?_
                (try simp only [Act.put, List.setIfInBounds_toArray, List.set_cons_zero, List.set_cons_succ])
                refine reg_call 13 rfl (by kernel_rfl) (by rfl) (fun K hK => ?_)
                go_simp
                go_at_call 20
                refine (args_eqL (LA.out _ hS) (by with_reducible rfl)).mono ?_
                rintro e u2 ⟨rfl, hb⟩
                refine hK.out _ _ (KP _ _ hb hS) (fun hS' => ?_)
                clear hK K hS
                have hS := hS'
                clear hS' hb
                try (try simp only [Act.put, List.setIfInBounds_toArray, List.set_cons_zero, List.set_cons_succ])
                refine reg_take 14 (v := ?_) rfl (by kernel_rfl) (by kernel_rfl) (by kernel_rfl) (fun _ _ _ h => h) (by rfl) (by intro w hSw; (try dsimp only at hSw); go_simp; first | done | with_reducible rfl) hS ?_
                (try simp only [Act.put, List.setIfInBounds_toArray, List.set_cons_zero, List.set_cons_succ])
                refine reg_take 15 (v := ?_) rfl (by kernel_rfl) (by kernel_rfl) (by kernel_rfl) (fun _ _ _ h => h) (by rfl) (by intro w hSw; (try dsimp only at hSw); go_simp; first | done | with_reducible rfl) hS ?_
                (try simp only [Act.put, List.setIfInBounds_toArray, List.set_cons_zero, List.set_cons_succ])
                refine reg_take 16 (v := ?_) rfl (by kernel_rfl) (by kernel_rfl) (by kernel_rfl) (fun _ _ _ h => h) (by rfl) (by intro w hSw; (try dsimp only at hSw); go_simp; first | done | with_reducible rfl) hS ?_
                (try simp only [Act.put, List.setIfInBounds_toArray, List.set_cons_zero, List.set_cons_succ])
                refine reg_take 17 (v := ?_) rfl (by kernel_rfl) (by kernel_rfl) (by kernel_rfl) (fun _ _ _ h => h) (by rfl) (by intro w hSw; (try dsimp only at hSw); go_simp; first | done | with_reducible rfl) hS ?_
                (try simp only [Act.put, List.setIfInBounds_toArray, List.set_cons_zero, List.set_cons_succ])
                refine reg_call 18 rfl (by kernel_rfl) (by rfl) (fun K hK => ?_)
                go_simp
                go_at_call 20
                refine (args_eqL (LB.out _ hS) (by with_reducible rfl)).mono ?_
                rintro e u3 ⟨rfl, hb⟩
                refine hK.out _ _ (KP _ _ hb hS) (fun hS' => ?_)
                clear hK K hS
                have hS := hS'
                clear hS' hb
                try (try simp only [Act.put, List.setIfInBounds_toArray, List.set_cons_zero, List.set_cons_succ])
                refine reg_take 19 (v := ?_) rfl (by kernel_rfl) (by kernel_rfl) (by kernel_rfl) (fun _ _ _ h => h) (by rfl) (by intro w hSw; (try dsimp only at hSw); go_simp; first | done | with_reducible rfl) hS ?_
                (try simp only [Act.put, List.setIfInBounds_toArray, List.set_cons_zero, List.set_cons_succ])
                refine reg_take 20 (v := ?_) rfl (by kernel_rfl) (by kernel_rfl) (by kernel_rfl) (fun _ _ _ h => h) (by rfl) (by intro w hSw; (try dsimp only at hSw); go_simp; first | done | with_reducible rfl) hS ?_
                (try simp only [Act.put, List.setIfInBounds_toArray, List.set_cons_zero, List.set_cons_succ])
                refine reg_take 21 (v := ?_) rfl (by kernel_rfl) (by kernel_rfl) (by kernel_rfl) (fun _ _ _ h => h) (by rfl) (by intro w hSw; (try dsimp only at hSw); go_simp; first | done | with_reducible rfl) hS ?_
                (try simp only [Act.put, List.setIfInBounds_toArray, List.set_cons_zero, List.set_cons_succ])
                refine reg_take 22 (v := ?_) rfl (by kernel_rfl) (by kernel_rfl) (by kernel_rfl) (fun _ _ _ h => h) (by rfl) (by intro w hSw; (try dsimp only at hSw); go_simp; first | done | with_reducible rfl) hS ?_
                (try simp only [Act.put, List.setIfInBounds_toArray, List.set_cons_zero, List.set_cons_succ])
                refine reg_take 23 (v := ?_) rfl (by kernel_rfl) (by kernel_rfl) (by kernel_rfl) (fun _ _ _ h => h) (by rfl) (by intro w hSw; (try dsimp only at hSw); go_simp; first | done | with_reducible rfl) hS ?_
                (try simp only [Act.put, List.setIfInBounds_toArray, List.set_cons_zero, List.set_cons_succ])
                refine reg_take 24 (v := ?_) rfl (by kernel_rfl) (by kernel_rfl) (by kernel_rfl) (fun _ _ _ h => h) (by rfl) (by intro w hSw; (try dsimp only at hSw); go_simp; first | done | with_reducible rfl) hS ?_
                (try simp only [Act.put, List.setIfInBounds_toArray, List.set_cons_zero, List.set_cons_succ])
                refine reg_take 25 (v := ?_) rfl (by kernel_rfl) (by kernel_rfl) (by kernel_rfl) (fun _ _ _ h => h) (by rfl) (by intro w hSw; (try dsimp only at hSw); go_simp; first | done | with_reducible rfl) hS ?_
                (try simp only [Act.put, List.setIfInBounds_toArray, List.set_cons_zero, List.set_cons_succ])
                refine reg_take 26 (v := ?_) rfl (by kernel_rfl) (by kernel_rfl) (by kernel_rfl) (fun _ _ _ h => h) (by rfl) (by intro w hSw; (try dsimp only at hSw); go_simp; first | done | with_reducible rfl) hS ?_
                (try simp only [Act.put, List.setIfInBounds_toArray, List.set_cons_zero, List.set_cons_succ])
                refine reg_take 27 (v := ?_) rfl (by kernel_rfl) (by kernel_rfl) (by kernel_rfl) (fun _ _ _ h => h) (by rfl) (by intro w hSw; (try dsimp only at hSw); go_simp; first | done | with_reducible rfl) hS ?_
                (try simp only [Act.put, List.setIfInBounds_toArray, List.set_cons_zero, List.set_cons_succ])
                refine reg_take 28 (v := ?_) rfl (by kernel_rfl) (by kernel_rfl) (by kernel_rfl) (fun _ _ _ h => h) (by rfl) (by intro w hSw; (try dsimp only at hSw); go_simp; first | done | with_reducible rfl) hS ?_
                (try simp only [Act.put, List.setIfInBounds_toArray, List.set_cons_zero, List.set_cons_succ])
                refine reg_take 29 (v := ?_) rfl (by kernel_rfl) (by kernel_rfl) (by kernel_rfl) (fun _ _ _ h => h) (by rfl) (by intro w hSw; (try dsimp only at hSw); go_simp; first | done | with_reducible rfl) hS ?_
                (try simp only [Act.put, List.setIfInBounds_toArray, List.set_cons_zero, List.set_cons_succ])
                refine reg_take 30 (v := ?_) rfl (by kernel_rfl) (by kernel_rfl) (by kernel_rfl) (fun _ _ _ h => h) (by rfl) (by intro w hSw; (try dsimp only at hSw); go_simp; first | done | with_reducible rfl) hS ?_
                (try simp only [Act.put, List.setIfInBounds_toArray, List.set_cons_zero, List.set_cons_succ])
                refine reg_take 31 (v := ?_) rfl (by kernel_rfl) (by kernel_rfl) (by kernel_rfl) (fun _ _ _ h => h) (by rfl) (by intro w hSw; (try dsimp only at hSw); go_simp; first | done | with_reducible rfl) hS ?_
                (try simp only [Act.put, List.setIfInBounds_toArray, List.set_cons_zero, List.set_cons_succ])
                refine reg_take 32 (v := .bool false) rfl (by kernel_rfl) (by kernel_rfl) (by kernel_rfl) (fun _ _ _ h => h) (by rfl) (by intro w hSw; (try dsimp only at hSw); go_simp; first | done | exact hwx) hS ?_
                (try simp only [Act.put, List.setIfInBounds_toArray, List.set_cons_zero, List.set_cons_succ])
                refine reg_take 33 (v := ?_) rfl (by kernel_rfl) (by kernel_rfl) (by kernel_rfl) (fun _ _ _ h => h) (by rfl) (by intro w hSw; (try dsimp only at hSw); go_simp; first | done | with_reducible rfl) hS ?_
                (try simp only [Act.put, List.setIfInBounds_toArray, List.set_cons_zero, List.set_cons_succ])
                refine reg_take 34 (v := ?_) rfl (by kernel_rfl) (by kernel_rfl) (by kernel_rfl) (fun _ _ _ h => h) (by rfl) (by intro w hSw; (try dsimp only at hSw); go_simp; first | done | with_reducible rfl) hS ?_
                (try simp only [Act.put, List.setIfInBounds_toArray, List.set_cons_zero, List.set_cons_succ])
                refine reg_take 35 (v := ?_) rfl (by kernel_rfl) (by kernel_rfl) (by kernel_rfl) (fun _ _ _ h => h) (by rfl) (by intro w hSw; (try dsimp only at hSw); go_simp; first | done | with_reducible rfl) hS ?_
                (try simp only [Act.put, List.setIfInBounds_toArray, List.set_cons_zero, List.set_cons_succ])
                refine reg_take 41 (v := ?_) rfl (by kernel_rfl) (by kernel_rfl) (by kernel_rfl) (fun _ _ _ h => h) (by rfl) (by intro w hSw; (try dsimp only at hSw); go_simp; first | done | with_reducible rfl) hS ?_
                (try simp only [Act.put, List.setIfInBounds_toArray, List.set_cons_zero, List.set_cons_succ])
                refine reg_call 36 rfl (by kernel_rfl) (by rfl) (fun K hK => ?_)
                go_simp
                go_at_call 12
                refine (args_eqL (SA.out _ hS) (by with_reducible rfl)).mono ?_
                rintro e u4 ⟨rfl, hb⟩
                refine hK.out _ _ (KP _ _ hb hS) (fun hS' => ?_)
                clear hK K hS
                have hS := hS'
                clear hS' hb
                try (try simp only [Act.put, List.setIfInBounds_toArray, List.set_cons_zero, List.set_cons_succ])
                refine reg_take 37 (v := ?_) rfl (by kernel_rfl) (by kernel_rfl) (by kernel_rfl) (fun _ _ _ h => h) (by rfl) (by intro w hSw; (try dsimp only at hSw); go_simp; first | done | with_reducible rfl) hS ?_
                (try simp only [Act.put, List.setIfInBounds_toArray, List.set_cons_zero, List.set_cons_succ])
                refine reg_skip 38 rfl (by kernel_rfl) (by kernel_rfl) (by kernel_rfl) (fun _ _ _ h => h) (by rfl) hS ?_
                (try simp only [Act.put, List.setIfInBounds_toArray, List.set_cons_zero, List.set_cons_succ])
                refine reg_skip 39 rfl (by kernel_rfl) (by kernel_rfl) (by kernel_rfl) (fun _ _ _ h => h) (by rfl) hS ?_
                (try simp only [Act.put, List.setIfInBounds_toArray, List.set_cons_zero, List.set_cons_succ])
                refine reg_take 40 (v := ?_) rfl (by kernel_rfl) (by kernel_rfl) (by kernel_rfl) (fun _ _ _ h => h) (by rfl) (by intro w hSw; (try dsimp only at hSw); go_simp; first | done | with_reducible rfl) hS ?_
                (try simp only [Act.put, List.setIfInBounds_toArray, List.set_cons_zero, List.set_cons_succ])
                refine reg_take 42 (v := ?_) rfl (by kernel_rfl) (by kernel_rfl) (by kernel_rfl) (fun _ _ _ h => h) (by rfl) (by intro w hSw; (try dsimp only at hSw); go_simp; first | done | with_reducible rfl) hS ?_
                (try simp only [Act.put, List.setIfInBounds_toArray, List.set_cons_zero, List.set_cons_succ])
                refine reg_take 43 (v := ?_) rfl (by kernel_rfl) (by kernel_rfl) (by kernel_rfl) (fun _ _ _ h => h) (by rfl) (by intro w hSw; (try dsimp only at hSw); go_simp; first | done | with_reducible rfl) hS ?_
                (try simp only [Act.put, List.setIfInBounds_toArray, List.set_cons_zero, List.set_cons_succ])
                refine wpAnyH_done (by kernel_rfl) ?_ _
                have BE := Lib.hid hS.2.2.2.2.2.2.2.2.2.2.2
                clear hS
                go_wp2_with fail
                go_meet
                refine ⟨?_, BE⟩
                first | rfl | (simp; done) | (simp [IntKind.wrap, IntKind.bits, IntKind.signed] <;> omega)
              · (try simp only [List.append_eq, List.cons_append, List.nil_append])
                have hS := S0
                refine reg_begin (fun w' => w'.cell? ⟨w1.heap.size, 0, none⟩ = some (.int .i64 m) ∧ w'.cell? ⟨w1.heap.size, 1, none⟩ = some (.int .i64 n) ∧ w'.cell? ⟨w1.heap.size, 2, none⟩ = some (.slice av xs.length cv) ∧ w'.cell? ⟨pP, 0, none⟩ = some (.int .i64 M1) ∧ w'.cell? ⟨pP, 1, none⟩ = some (.int .i64 N1) ∧ w'.cell? ⟨pP, 2, none⟩ = some (.slice aP L1.length cP) ∧ w'.cell? ⟨pQ, 0, none⟩ = some (.int .i64 M2) ∧ w'.cell? ⟨pQ, 1, none⟩ = some (.int .i64 N2) ∧ w'.cell? ⟨pQ, 2, none⟩ = some (.slice aQ L2.length cQ) ∧ w'.cell? ⟨gc, j * 2, none⟩ = some (.bool up) ∧ w'.cell? ⟨gc, j * 2 + 1, none⟩ = some (.int .i64 z) ∧ Below w8.heap.size w8 w') (by kernel_rfl) hS ?_
                refine reg_take 0 (v := ?_) rfl (by kernel_rfl) (by kernel_rfl) (by kernel_rfl) (fun _ _ _ h => h) (by rfl) (by intro w hSw; (try dsimp only at hSw); go_simp; first | done | with_reducible rfl) hS ?_
                (try simp only [Act.put, List.setIfInBounds_toArray, List.set_cons_zero, List.set_cons_succ])
                refine reg_take 1 (v := ?_) rfl (by kernel_rfl) (by kernel_rfl) (by kernel_rfl) (fun _ _ _ h => h) (by rfl) (by intro w hSw; (try dsimp only at hSw); go_simp; first | done | with_reducible rfl) hS ?_
                (try simp only [Act.put, List.setIfInBounds_toArray, List.set_cons_zero, List.set_cons_succ])
                refine reg_take 2 (v := ?_) rfl (by kernel_rfl) (by kernel_rfl) (by kernel_rfl) (fun _ _ _ h => h) (by rfl) (by intro w hSw; (try dsimp only at hSw); go_simp; first | done | with_reducible rfl) hS ?_
                (try simp only [Act.put, List.setIfInBounds_toArray, List.set_cons_zero, List.set_cons_succ])
                refine reg_take 3 (v := ?_) rfl (by kernel_rfl) (by kernel_rfl) (by kernel_rfl) (fun _ _ _ h => h) (by rfl) (by intro w hSw; (try dsimp only at hSw); go_simp; first | done | with_reducible rfl) hS ?_
                (try simp only [Act.put, List.setIfInBounds_toArray, List.set_cons_zero, List.set_cons_succ])
                refine reg_take 4 (v := ?_) rfl (by kernel_rfl) (by kernel_rfl) (by kernel_rfl) (fun _ _ _ h => h) (by rfl) (by intro w hSw; (try dsimp only at hSw); go_simp; first | done | with_reducible rfl) hS ?_
                (try simp only [Act.put, List.setIfInBounds_toArray, List.set_cons_zero, List.set_cons_succ])
                refine reg_take 5 (v := ?_) rfl (by kernel_rfl) (by kernel_rfl) (by kernel_rfl) (fun _ _ _ h => h) (by rfl) (by intro w hSw; (try dsimp only at hSw); go_simp; first | done | with_reducible rfl) hS ?_
                (try simp only [Act.put, List.setIfInBounds_toArray, List.set_cons_zero, List.set_cons_succ])
                refine reg_take 6 (v := ?_) rfl (by kernel_rfl) (by kernel_rfl) (by kernel_rfl) (fun _ _ _ h => h) (by rfl) (by intro w hSw; (try dsimp only at hSw); go_simp; first | done | with_reducible rfl) hS ?_
                (try simp only [Act.put, List.setIfInBounds_toArray, List.set_cons_zero, List.set_cons_succ])
                refine reg_take 7 (v := ?_) rfl (by kernel_rfl) (by kernel_rfl) (by kernel_rfl) (fun _ _ _ h => h) (by rfl) (by intro w hSw; (try dsimp only at hSw); go_simp; first | done | with_reducible rfl) hS ?_
                (try simp only [Act.put, List.setIfInBounds_toArray, List.set_cons_zero, List.set_cons_succ])
                refine reg_call 8 rfl (by kernel_rfl) (by rfl) (fun K hK => ?_)
                go_simp
                go_at_call 19
                refine (args_eqL (C1.out _ hS) (by with_reducible rfl)).mono ?_
                rintro e u1 ⟨rfl, hb⟩
                refine hK.out _ _ (KP _ _ hb hS) (fun hS' => ?_)
                clear hK K hS
                have hS := hS'
                clear hS' hb
                try (try simp only [Act.put, List.setIfInBounds_toArray, List.set_cons_zero, List.set_cons_succ])
                refine reg_take 9 (v := ?_) rfl (by kernel_rfl) (by kernel_rfl) (by kernel_rfl) (fun _ _ _ h => h) (by rfl) (by intro w hSw; (try dsimp only at hSw); go_simp; first | done | with_reducible rfl) hS ?_
                (try simp only [Act.put, List.setIfInBounds_toArray, List.set_cons_zero, List.set_cons_succ])
                refine reg_take 10 (v := ?_) rfl (by kernel_rfl) (by kernel_rfl) (by kernel_rfl) (fun _ _ _ h => h) (by rfl) (by intro w hSw; (try dsimp only at hSw); go_simp; first | done | with_reducible rfl) hS ?_
                (try simp only [Act.put, List.setIfInBounds_toArray, List.set_cons_zero, List.set_cons_succ])
                refine reg_take 11 (v := ?_) rfl (by kernel_rfl) (by kernel_rfl) (by kernel_rfl) (fun _ _ _ h => h) (by rfl) (by intro w hSw; (try dsimp only at hSw); go_simp; first | done | with_reducible rfl) hS ?_
                (try simp only [Act.put, List.setIfInBounds_toArray, List.set_cons_zero, List.set_cons_succ])
                refine reg_take 12 (v := ?_) rfl (by kernel_rfl) (by kernel_rfl) (by kernel_rfl) (fun _ _ _ h => h) (by rfl) (by intro w hSw; (try dsimp only at hSw); go_simp; first | done | with_reducible rfl) hS ?_
                (try simp only [Act.put, List.setIfInBounds_toArray, List.set_cons_zero, List.set_cons_succ])
                refine reg_call 13 rfl (by kernel_rfl) (by rfl) (fun K hK => ?_)
                go_simp
                go_at_call 20
                refine (args_eqL (LA.out _ hS) (by with_reducible rfl)).mono ?_
                rintro e u2 ⟨rfl, hb⟩
                refine hK.out _ _ (KP _ _ hb hS) (fun hS' => ?_)
                clear hK K hS
                have hS := hS'
                clear hS' hb
                try (try simp only [Act.put, List.setIfInBounds_toArray, List.set_cons_zero, List.set_cons_succ])
                refine reg_take 14 (v := ?_) rfl (by kernel_rfl) (by kernel_rfl) (by kernel_rfl) (fun _ _ _ h => h) (by rfl) (by intro w hSw; (try dsimp only at hSw); go_simp; first | done | with_reducible rfl) hS ?_
                (try simp only [Act.put, List.setIfInBounds_toArray, List.set_cons_zero, List.set_cons_succ])
                refine reg_take 15 (v := ?_) rfl (by kernel_rfl) (by kernel_rfl) (by kernel_rfl) (fun _ _ _ h => h) (by rfl) (by intro w hSw; (try dsimp only at hSw); go_simp; first | done | with_reducible rfl) hS ?_
                (try simp only [Act.put, List.setIfInBounds_toArray, List.set_cons_zero, List.set_cons_succ])
                refine reg_take 16 (v := ?_) rfl (by kernel_rfl) (by kernel_rfl) (by kernel_rfl) (fun _ _ _ h => h) (by rfl) (by intro w hSw; (try dsimp only at hSw); go_simp; first | done | with_reducible rfl) hS ?_
                (try simp only [Act.put, List.setIfInBounds_toArray, List.set_cons_zero, List.set_cons_succ])
                refine reg_take 17 (v := ?_) rfl (by kernel_rfl) (by kernel_rfl) (by kernel_rfl) (fun _ _ _ h => h) (by rfl) (by intro w hSw; (try dsimp only at hSw); go_simp; first | done | with_reducible rfl) hS ?_
                (try simp only [Act.put, List.setIfInBounds_toArray, List.set_cons_zero, List.set_cons_succ])
                refine reg_call 18 rfl (by kernel_rfl) (by rfl) (fun K hK => ?_)
                go_simp
                go_at_call 20
                refine (args_eqL (LB.out _ hS) (by with_reducible rfl)).mono ?_
                rintro e u3 ⟨rfl, hb⟩
                refine hK.out _ _ (KP _ _ hb hS) (fun hS' => ?_)
                clear hK K hS
                have hS := hS'
                clear hS' hb
                try (try simp only [Act.put, List.setIfInBounds_toArray, List.set_cons_zero, List.set_cons_succ])
                refine reg_take 19 (v := ?_) rfl (by kernel_rfl) (by kernel_rfl) (by kernel_rfl) (fun _ _ _ h => h) (by rfl) (by intro w hSw; (try dsimp only at hSw); go_simp; first | done | with_reducible rfl) hS ?_
                (try simp only [Act.put, List.setIfInBounds_toArray, List.set_cons_zero, List.set_cons_succ])
                refine reg_take 20 (v := ?_) rfl (by kernel_rfl) (by kernel_rfl) (by kernel_rfl) (fun _ _ _ h => h) (by rfl) (by intro w hSw; (try dsimp only at hSw); go_simp; first | done | with_reducible rfl) hS ?_
                (try simp only [Act.put, List.setIfInBounds_toArray, List.set_cons_zero, List.set_cons_succ])
                refine reg_take 21 (v := ?_) rfl (by kernel_rfl) (by kernel_rfl) (by kernel_rfl) (fun _ _ _ h => h) (by rfl) (by intro w hSw; (try dsimp only at hSw); go_simp; first | done | with_reducible rfl) hS ?_
                (try simp only [Act.put, List.setIfInBounds_toArray, List.set_cons_zero, List.set_cons_succ])
                refine reg_take 22 (v := ?_) rfl (by kernel_rfl) (by kernel_rfl) (by kernel_rfl) (fun _ _ _ h => h) (by rfl) (by intro w hSw; (try dsimp only at hSw); go_simp; first | done | with_reducible rfl) hS ?_
                (try simp only [Act.put, List.setIfInBounds_toArray, List.set_cons_zero, List.set_cons_succ])
                refine reg_take 23 (v := ?_) rfl (by kernel_rfl) (by kernel_rfl) (by kernel_rfl) (fun _ _ _ h => h) (by rfl) (by intro w hSw; (try dsimp only at hSw); go_simp; first | done | with_reducible rfl) hS ?_
                (try simp only [Act.put, List.setIfInBounds_toArray, List.set_cons_zero, List.set_cons_succ])
                refine reg_take 24 (v := ?_) rfl (by kernel_rfl) (by kernel_rfl) (by kernel_rfl) (fun _ _ _ h => h) (by rfl) (by intro w hSw; (try dsimp only at hSw); go_simp; first | done | with_reducible rfl) hS ?_
                (try simp only [Act.put, List.setIfInBounds_toArray, List.set_cons_zero, List.set_cons_succ])
                refine reg_take 25 (v := ?_) rfl (by kernel_rfl) (by kernel_rfl) (by kernel_rfl) (fun _ _ _ h => h) (by rfl) (by intro w hSw; (try dsimp only at hSw); go_simp; first | done | with_reducible rfl) hS ?_
                (try simp only [Act.put, List.setIfInBounds_toArray, List.set_cons_zero, List.set_cons_succ])
                refine reg_take 26 (v := ?_) rfl (by kernel_rfl) (by kernel_rfl) (by kernel_rfl) (fun _ _ _ h => h) (by rfl) (by intro w hSw; (try dsimp only at hSw); go_simp; first | done | with_reducible rfl) hS ?_
                (try simp only [Act.put, List.setIfInBounds_toArray, List.set_cons_zero, List.set_cons_succ])
                refine reg_take 27 (v := ?_) rfl (by kernel_rfl) (by kernel_rfl) (by kernel_rfl) (fun _ _ _ h => h) (by rfl) (by intro w hSw; (try dsimp only at hSw); go_simp; first | done | with_reducible rfl) hS ?_
                (try simp only [Act.put, List.setIfInBounds_toArray, List.set_cons_zero, List.set_cons_succ])
                refine reg_take 28 (v := ?_) rfl (by kernel_rfl) (by kernel_rfl) (by kernel_rfl) (fun _ _ _ h => h) (by rfl) (by intro w hSw; (try dsimp only at hSw); go_simp; first | done | with_reducible rfl) hS ?_
                (try simp only [Act.put, List.setIfInBounds_toArray, List.set_cons_zero, List.set_cons_succ])
                refine reg_take 29 (v := ?_) rfl (by kernel_rfl) (by kernel_rfl) (by kernel_rfl) (fun _ _ _ h => h) (by rfl) (by intro w hSw; (try dsimp only at hSw); go_simp; first | done | with_reducible rfl) hS ?_
                (try simp only [Act.put, List.setIfInBounds_toArray, List.set_cons_zero, List.set_cons_succ])
                refine reg_take 30 (v := ?_) rfl (by kernel_rfl) (by kernel_rfl) (by kernel_rfl) (fun _ _ _ h => h) (by rfl) (by intro w hSw; (try dsimp only at hSw); go_simp; first | done | with_reducible rfl) hS ?_
                (try simp only [Act.put, List.setIfInBounds_toArray, List.set_cons_zero, List.set_cons_succ])
                refine reg_take 31 (v := ?_) rfl (by kernel_rfl) (by kernel_rfl) (by kernel_rfl) (fun _ _ _ h => h) (by rfl) (by intro w hSw; (try dsimp only at hSw); go_simp; first | done | with_reducible rfl) hS ?_
                (try simp only [Act.put, List.setIfInBounds_toArray, List.set_cons_zero, List.set_cons_succ])
                refine reg_take 32 (v := .bool false) rfl (by kernel_rfl) (by kernel_rfl) (by kernel_rfl) (fun _ _ _ h => h) (by rfl) (by intro w hSw; (try dsimp only at hSw); go_simp; first | done | exact hwx) hS ?_
                (try simp only [Act.put, List.setIfInBounds_toArray, List.set_cons_zero, List.set_cons_succ])
                refine reg_take 33 (v := ?_) rfl (by kernel_rfl) (by kernel_rfl) (by kernel_rfl) (fun _ _ _ h => h) (by rfl) (by intro w hSw; (try dsimp only at hSw); go_simp; first | done | with_reducible rfl) hS ?_
                (try simp only [Act.put, List.setIfInBounds_toArray, List.set_cons_zero, List.set_cons_succ])
                refine reg_take 34 (v := ?_) rfl (by kernel_rfl) (by kernel_rfl) (by kernel_rfl) (fun _ _ _ h => h) (by rfl) (by intro w hSw; (try dsimp only at hSw); go_simp; first | done | with_reducible rfl) hS ?_
                (try simp only [Act.put, List.setIfInBounds_toArray, List.set_cons_zero, List.set_cons_succ])
                refine reg_take 35 (v := ?_) rfl (by kernel_rfl) (by kernel_rfl) (by kernel_rfl) (fun _ _ _ h => h) (by rfl) (by intro w hSw; (try dsimp only at hSw); go_simp; first | done | with_reducible rfl) hS ?_
                (try simp only [Act.put, List.setIfInBounds_toArray, List.set_cons_zero, List.set_cons_succ])
                refine reg_take 41 (v := ?_) rfl (by kernel_rfl) (by kernel_rfl) (by kernel_rfl) (fun _ _ _ h => h) (by rfl) (by intro w hSw; (try dsimp only at hSw); go_simp; first | done | with_reducible rfl) hS ?_
                (try simp only [Act.put, List.setIfInBounds_toArray, List.set_cons_zero, List.set_cons_succ])
                refine reg_call 36 rfl (by kernel_rfl) (by rfl) (fun K hK => ?_)
                go_simp
                go_at_call 12
                refine (args_eqL (SA.out _ hS) (by with_reducible rfl)).mono ?_
                rintro e u4 ⟨rfl, hb⟩
                refine hK.out _ _ (KP _ _ hb hS) (fun hS' => ?_)
                clear hK K hS
                have hS := hS'
                clear hS' hb
                try (try simp only [Act.put, List.setIfInBounds_toArray, List.set_cons_zero, List.set_cons_succ])
                refine reg_take 37 (v := ?_) rfl (by kernel_rfl) (by kernel_rfl) (by kernel_rfl) (fun _ _ _ h => h) (by rfl) (by intro w hSw; (try dsimp only at hSw); go_simp; first | done | with_reducible rfl) hS ?_
                (try simp only [Act.put, List.setIfInBounds_toArray, List.set_cons_zero, List.set_cons_succ])
                refine reg_take 38 (v := ?_) rfl (by kernel_rfl) (by kernel_rfl) (by kernel_rfl) (fun _ _ _ h => h) (by rfl) (by intro w hSw; (try dsimp only at hSw); go_simp; first | done | with_reducible rfl) hS ?_
                (try simp only [Act.put, List.setIfInBounds_toArray, List.set_cons_zero, List.set_cons_succ])
                refine reg_call 39 rfl (by kernel_rfl) (by rfl) (fun K hK => ?_)
                go_simp
                go_at_call 12
                refine (args_eqL (SB.out _ hS) (by with_reducible rfl)).mono ?_
                rintro e u5 ⟨rfl, hb⟩
                refine hK.out _ _ (KP _ _ hb hS) (fun hS' => ?_)
                clear hK K hS
                have hS := hS'
                clear hS' hb
                try (try simp only [Act.put, List.setIfInBounds_toArray, List.set_cons_zero, List.set_cons_succ])
                refine reg_take 40 (v := ?_) rfl (by kernel_rfl) (by kernel_rfl) (by kernel_rfl) (fun _ _ _ h => h) (by rfl) (by intro w hSw; (try dsimp only at hSw); go_simp; first | done | with_reducible rfl) hS ?_
                (try simp only [Act.put, List.setIfInBounds_toArray, List.set_cons_zero, List.set_cons_succ])
                refine reg_take 42 (v := ?_) rfl (by kernel_rfl) (by kernel_rfl) (by kernel_rfl) (fun _ _ _ h => h) (by rfl) (by intro w hSw; (try dsimp only at hSw); go_simp; first | done | with_reducible rfl) hS ?_
                (try simp only [Act.put, List.setIfInBounds_toArray, List.set_cons_zero, List.set_cons_succ])
                refine reg_take 43 (v := ?_) rfl (by kernel_rfl) (by kernel_rfl) (by kernel_rfl) (fun _ _ _ h => h) (by rfl) (by intro w hSw; (try dsimp only at hSw); go_simp; first | done | with_reducible rfl) hS ?_
                (try simp only [Act.put, List.setIfInBounds_toArray, List.set_cons_zero, List.set_cons_succ])
                refine wpAnyH_done (by kernel_rfl) ?_ _
                have BE := Lib.hid hS.2.2.2.2.2.2.2.2.2.2.2
                clear hS
                go_wp2_with fail
                go_meet
                refine ⟨?_, BE⟩
                first | rfl | (simp; done) | (simp [IntKind.wrap, IntKind.bits, IntKind.signed] <;> omega)
            case rest =>
             as_aux_lemma =>
              obtain ⟨rfl, HBW⟩ := hcut
              generalize wc = w9 at *
              have hb := HBW.out
              clear HBW
              have BLL := Lib.hid (bel_c BL (Nat.le_refl _) hb)
              clear hb
              go_wp2_with fail
              go_roundw
              case rel => exact ⟨j + 1, by omega, by go_num, BLL⟩
              case measure => simp [intOf] <;> omega
        · as_aux_lemma =>
          obtain rfl : j = cs.length := by omega
          have hkn := HKN.out
          clear BL hlt hj
          have HLP := Lib.hid (smp_no)
          cases can
          · skip
            obtain ⟨kL, kC, k5⟩ := hkn rfl
            have KO := SpecLayoutOk_any _ _ M N _ X _ Rk (by omega)
            rw [← lay_yes kL] at KO
            have k5i : ¬ ((X.length : Int) < 5) := by omega
            obtain ⟨ck0, ck1, ck2⟩ := id Xk
            go_wp2_with fail
            clear ck0 ck1 ck2
            refine (KO).mono ?_
            rintro e w10 ⟨rfl, hb⟩
            clear KO
            have Xl := Xl.keep hb
            have Xk := Xk.keep hb
            have Rl := Rl.below (hb.mono (by omega))
            have Rc := Rc.below (hb.mono (by omega))
            have Rk := Rk.below (hb.mono (by omega))
            have B := bel_c B (Nat.le_refl _) hb
            have zw10 : wr.heap.size ≤ w10.heap.size := hb.size
            clear hb
            have KC := ImplCutsOf_any _ _ M N _ X (lay_wf kL) _ Rk (by omega)
            rw [cuts_yes (lay_yes kL).symm, kC] at KC
            obtain ⟨ck0, ck1, ck2⟩ := id Xk
            go_wp2_with fail
            clear ck0 ck1 ck2
            refine (KC).mono ?_
            rintro e w11 ⟨vq, rfl, R, hb⟩
            obtain ⟨aq, cq, rfl⟩ := R.form
            clear R KC
            have Xl := Xl.keep hb
            have Xk := Xk.keep hb
            have Rl := Rl.below (hb.mono (by omega))
            have Rc := Rc.below (hb.mono (by omega))
            have Rk := Rk.below (hb.mono (by omega))
            have B := bel_c B (Nat.le_refl _) hb
            have zw11 : w10.heap.size ≤ w11.heap.size := hb.size
            clear hb
            obtain ⟨ck0, ck1, ck2⟩ := id Xk
            go_wp2_with fail
            clear ck0 ck1 ck2
            refine (ImplSampleLayout_any _).mono ?_
            rintro e w12 ⟨vs, rfl, R, hb⟩
            obtain ⟨aS, cS, rfl⟩ := R.form
            have Xl := Xl.keep hb
            have Xk := Xk.keep hb
            have Rl := Rl.below (hb.mono (by omega))
            have Rc := Rc.below (hb.mono (by omega))
            have Rk := Rk.below (hb.mono (by omega))
            have B := bel_c B (Nat.le_refl _) hb
            have zw12 : w11.heap.size ≤ w12.heap.size := hb.size
            clear hb
            have Rs := R
            clear R
            have SC := ImplCanSew_any 0 _ 3 3 _ smpL (lay_wf smp_ok) _ (Rs.wide (Nat.zero_le _) (Nat.le_refl _)) (by omega) (Nat.zero_le _)
            rw [HLP.out] at SC
            go_wp2_with fail
            refine (SC).mono ?_
            rintro e w13 ⟨rfl, hb⟩
            clear SC
            have Xl := Xl.keep hb
            have Xk := Xk.keep hb
            have Rl := Rl.below (hb.mono (by omega))
            have Rc := Rc.below (hb.mono (by omega))
            have Rk := Rk.below (hb.mono (by omega))
            have Rs := Rs.below (hb.mono (by omega))
            have B := bel_c B (Nat.le_refl _) hb
            have zw13 : w12.heap.size ≤ w13.heap.size := hb.size
            clear hb
            obtain ⟨cl0, cl1, cl2⟩ := id Xl
            go_wp2_with fail
            clear cl0 cl1 cl2
            refine (CUT2.out _ _ _ _ Rl (by omega)).mono ?_
            rintro e w14 ⟨vt, rfl, R, hb⟩
            obtain ⟨at', ct, rfl⟩ := R.form
            clear R
            have Xl := Xl.keep hb
            have Xk := Xk.keep hb
            have Rl := Rl.below (hb.mono (by omega))
            have Rc := Rc.below (hb.mono (by omega))
            have Rk := Rk.below (hb.mono (by omega))
            have Rs := Rs.below (hb.mono (by omega))
            have B := bel_c B (Nat.le_refl _) hb
            have zw14 : w13.heap.size ≤ w14.heap.size := hb.size
            clear hb
            go_wp2_with fail
            go_ret
            exact ⟨ret_bool (by simp), B⟩
          · skip
            go_wp2_with fail
            refine (ImplSampleLayout_any _).mono ?_
            rintro e w10 ⟨vs, rfl, R, hb⟩
            obtain ⟨aS, cS, rfl⟩ := R.form
            have Xl := Xl.keep hb
            have Xk := Xk.keep hb
            have Rl := Rl.below (hb.mono (by omega))
            have Rc := Rc.below (hb.mono (by omega))
            have Rk := Rk.below (hb.mono (by omega))
            have B := bel_c B (Nat.le_refl _) hb
            have zw10 : wr.heap.size ≤ w10.heap.size := hb.size
            clear hb
            have Rs := R
            clear R
            have SC := ImplCanSew_any 0 _ 3 3 _ smpL (lay_wf smp_ok) _ (Rs.wide (Nat.zero_le _) (Nat.le_refl _)) (by omega) (Nat.zero_le _)
            rw [HLP.out] at SC
            go_wp2_with fail
            refine (SC).mono ?_
            rintro e w11 ⟨rfl, hb⟩
            clear SC
            have Xl := Xl.keep hb
            have Xk := Xk.keep hb
            have Rl := Rl.below (hb.mono (by omega))
            have Rc := Rc.below (hb.mono (by omega))
            have Rk := Rk.below (hb.mono (by omega))
            have Rs := Rs.below (hb.mono (by omega))
            have B := bel_c B (Nat.le_refl _) hb
            have zw11 : w10.heap.size ≤ w11.heap.size := hb.size
            clear hb
            obtain ⟨cl0, cl1, cl2⟩ := id Xl
            go_wp2_with fail
            clear cl0 cl1 cl2
            refine (CUT2.out _ _ _ _ Rl (by omega)).mono ?_
            rintro e w12 ⟨vt, rfl, R, hb⟩
            obtain ⟨at', ct, rfl⟩ := R.form
            clear R
            have Xl := Xl.keep hb
            have Xk := Xk.keep hb
            have Rl := Rl.below (hb.mono (by omega))
            have Rc := Rc.below (hb.mono (by omega))
            have Rk := Rk.below (hb.mono (by omega))
            have Rs := Rs.below (hb.mono (by omega))
            have B := bel_c B (Nat.le_refl _) hb
            have zw12 : w11.heap.size ≤ w12.heap.size := hb.size
            clear hb
            go_wp2_with fail
            go_ret
            exact ⟨ret_bool (by simp), B⟩
  · go_enter Try.func3, Try.ntmps3
    go_wp2_with fail
    refine (Big_yes a len cap w hl (by omega)).mono ?_
    rintro e w' ⟨rfl, rfl⟩
    go_wp2_with fail
    go_ret
    exact ⟨rfl, Below.refl _ _⟩

end Go.Proofs.Ytakjgnkkeefgbaa
