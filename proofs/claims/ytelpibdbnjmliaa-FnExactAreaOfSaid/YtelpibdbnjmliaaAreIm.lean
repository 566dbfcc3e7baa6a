/- Areas: the program's map of areas, filled color by color. -/
import Derived.Test.YtelpibdbnjmliaaAreIf
import Derived.Test.YtelpibdbnjmliaaAreIa
import Derived.Test.YtelpibdbnjmliaaBlkN
import Derived.Deep.AppendLies
namespace Go.Proofs.Ytelpibdbnjmliaa
open Go.ChangeShapes Go.WideShapes Go.ChangeAt Go.RowKit Go.Maps

set_option maxRecDepth 100000 in
set_option maxHeartbeats 2000000 in
theorem AreasMap_any (lo hi : Nat) (n : Int) (v : Value) (xs : List C3) (w : World) (r : CellIn lo hi w v xs) (hhi : hi ≤ w.heap.size) :
    Calls Try.prog 39 #[.agg #[.int .i64 n, v]] w (FreshL (colorsOf n xs) (areaOf n xs) w) := by
  obtain ⟨a, cap, rfl⟩ := r.form
  have hl := r.1
  have HR := Lib.hid (fun W (hb : Below w.heap.size w W) => r.below (hb.mono hhi))
  have hmm := @run_makeMap Try.prog
  clear r
  have HE := Lib.hid (fO_end n xs)
  have HC := Lib.hid (colors_fact n xs)
  have hc6 := colors_le n xs
  go_enter Try.func39, Try.ntmps39
  go_wp2_with fail
  refine (ImplColors_any lo hi n _ xs _ (HR.out _ (bel_n (bel0 w _) (Nat.le_refl _) _)) (by simp; omega)).mono ?_
  rintro e w1 ⟨vt, rfl, RT, hb1⟩
  generalize colorsOf n xs = t at *
  generalize areaOf n xs = F at *
  obtain ⟨ta, tc, rfl⟩ := RT.form
  have htl := RT.1
  have HZ : Hid ((w.alloc (.cells #[.int .i64 n, .slice a xs.length cap] 26)).heap.size = w.heap.size + 1) := Lib.hid (by simp)
  have p1 := kept (p := ⟨w.heap.size, 1, none⟩) (x := .slice a xs.length cap) hb1 (by go_simp)
  have HP := Lib.hid p1
  have HM := Lib.hid (((MapL.made (w.alloc (.cells #[.int .i64 n, .slice a xs.length cap] 26))).congr (g := fO t xs 0) (fun k => by simp [fO])).below hb1 (by simp))
  rw [HZ.out] at HM
  have HB1 := Lib.hid (bel_c (bel_n (bel0 w (.cells #[.int .i64 n, .slice a xs.length cap] 26)) (Nat.le_refl _) (.map #[] 0)) (Nat.le_refl _) hb1)
  have HT : Hid (IntIn (w.heap.size + 1 + 1) w1.heap.size w1 (.slice ta t.length tc) t) := Lib.hid (by simpa using RT)
  have hs1 : w.heap.size + 1 + 1 ≤ w1.heap.size := by have := hb1.size; simpa using this
  clear hb1 RT p1
  go_wp2_with fail
  go_loopw [12] (fun i wr => ∃ c : Nat, c ≤ t.length ∧ i = .int .i64 c ∧ Hid (MapL wr (w.heap.size + 1) (c * 16) (t.take c) (fO t xs c)) ∧ Hid (Within (w.heap.size + 1) (w.heap.size + 1 + 1) w1 wr)) (fun i _ => t.length - (intOf i).toNat)
  case atStart => exact ⟨0, Nat.zero_le _, rfl, HM, Lib.hid (Within.refl _ _ _)⟩
  case round =>
    obtain ⟨c, hk, rfl, hmap, hwi⟩ := hrel
    by_cases hlt : c < t.length
    · obtain ⟨hb, h0, h5, hnt⟩ := HC.out c hlt
      have hx := (blk_len hb).2
      have hx1 := (blk_len hb).1
      have HO := Lib.hid hb.2.2
      have HNT := Lib.hid hnt
      have wa : (Lit.int .i64 (t.getD c 0)).wf = true := wf_small (by omega) (by omega)
      obtain ⟨g, rfl, _, _, e0, _⟩ := (HT.out.apart hwi.out (Nat.le_refl _)).at (Below.refl _ _) hlt
      have p1 := hwi.out.cell HP.out (.inl (by simp))
      have hsw := hwi.out.size
      have HI : Hid (MapL wr (w.heap.size + 1) (c * 16 + 0) (ks t c 0) (fI t xs c 0)) := Lib.hid (hmap.out.congr (fI_zero t xs c))
      have HF := Lib.hid (fI_full t xs c hlt)
      clear hb hnt hmap
      obtain ⟨wo, rfl⟩ : ∃ wo : World, wo = wr := ⟨_, rfl⟩
      generalize hA : t.getD c 0 = A at *
      have HA := Lib.hid hA
      clear hA
      go_wp2_with fail
      go_loopw [19] (fun i wr => ∃ m : Nat, m ≤ xs.length ∧ i = .int .i64 m ∧ Hid (MapL wr (w.heap.size + 1) (c * 16 + m) (ks t c m) (fI t xs c m)) ∧ Hid (Within (w.heap.size + 1) (w.heap.size + 1 + 1) w1 wr)) (fun i _ => xs.length - (intOf i).toNat)
      case atStart => exact ⟨0, Nat.zero_le _, rfl, HI, hwi⟩
      case round =>
        obtain ⟨m, hm, rfl, hmap, hwi⟩ := hrel
        have hsr := hwi.out.size
        by_cases hlt2 : m < xs.length
        · obtain ⟨q, rfl, _, _, ⟨e0, e1, e2⟩, _⟩ := (HR.out _ (bel_w HB1.out (Nat.le_refl _) hwi.out (by omega))).at (Below.refl _ _) hlt2
          have hok : (xs.getD m C3.zero).Ok := HO.out _ (by simp [List.getD, hlt2])
          have HN0 := Lib.hid (arL_succ xs A hlt2)
          have hAb := arL_bound xs A m hm
          have hy := ar2_bound (xs.getD m C3.zero) A
          have CA0 := Lib.hid (ImplArea_ok (xs.getD m C3.zero) A)
          have HZ1 := Lib.hid (fI_at t xs c m (by rw [HA.out]; exact HNT.out))
          rw [HA.out] at HZ1
          generalize xs.getD m C3.zero = x at e0 e1 e2 hok hy HN0 CA0
          obtain ⟨cs, ca, cb⟩ := x
          have CA : Hid (∀ u : World, Calls Try.prog 19 #[.agg #[.int .i64 cs, .int .i64 ca, .int .i64 cb], .int .i64 A] u fun e w' => e = .returned (.int .i64 (ar2 ⟨cs, ca, cb⟩ A)) ∧ Below u.heap.size u w') := Lib.hid (fun u => CA0.out u hok)
          clear CA0 hok
          generalize ar2 ⟨cs, ca, cb⟩ A = y at hy HN0 CA
          generalize hzz : arL xs A m = z at hAb HN0 HZ1
          have HN : Hid (z + y = arL xs A (m + 1)) := Lib.hid HN0.out.symm
          clear HN0 hzz
          obtain ⟨D, hD⟩ := hmap.out
          have HD : Hid (MapLD (wr.alloc (.cells #[.int .i64 cs, .int .i64 ca, .int .i64 cb] 34)).drew (w.heap.size + 1) (c * 16 + m) (ks t c m) (fI t xs c m) D) := Lib.hid (hD.below (B := wr.heap.size) (bel0d wr _) (by omega))
          have HL : Hid (w.heap.size + 1 < (wr.alloc (.cells #[.int .i64 cs, .int .i64 ca, .int .i64 cb] 34)).drew.heap.size) := Lib.hid (by rw [size_drew_alloc]; omega)
          clear hmap hD
          have T3 := Three.new wr ⟨cs, ca, cb⟩ 34
          have hS : (wr.alloc (.cells #[.int .i64 cs, .int .i64 ca, .int .i64 cb] 34)).drew.cell? ⟨wr.heap.size, 0, none⟩ = some (.int .i64 cs) ∧ (wr.alloc (.cells #[.int .i64 cs, .int .i64 ca, .int .i64 cb] 34)).drew.cell? ⟨wr.heap.size, 1, none⟩ = some (.int .i64 ca) ∧ (wr.alloc (.cells #[.int .i64 cs, .int .i64 ca, .int .i64 cb] 34)).drew.cell? ⟨wr.heap.size, 2, none⟩ = some (.int .i64 cb) ∧ Within (w.heap.size + 1) (w.heap.size + 1 + 1) w1 (wr.alloc (.cells #[.int .i64 cs, .int .i64 ca, .int .i64 cb] 34)).drew := ⟨T3.1, T3.2.1, T3.2.2, hwi.out.trans (Within.of_below (bel0d wr _))⟩
          have KP : Hid (∀ u v, Below u.heap.size u v → (u.cell? ⟨wr.heap.size, 0, none⟩ = some (.int .i64 cs) ∧ u.cell? ⟨wr.heap.size, 1, none⟩ = some (.int .i64 ca) ∧ u.cell? ⟨wr.heap.size, 2, none⟩ = some (.int .i64 cb) ∧ Within (w.heap.size + 1) (w.heap.size + 1 + 1) w1 u) → (v.cell? ⟨wr.heap.size, 0, none⟩ = some (.int .i64 cs) ∧ v.cell? ⟨wr.heap.size, 1, none⟩ = some (.int .i64 ca) ∧ v.cell? ⟨wr.heap.size, 2, none⟩ = some (.int .i64 cb) ∧ Within (w.heap.size + 1) (w.heap.size + 1 + 1) w1 v)) := Lib.hid (fun u v hb h => ⟨kept hb h.1, kept hb h.2.1, kept hb h.2.2.1, h.2.2.2.trans (Within.of_below hb)⟩)
          clear T3 hwi
          have wz : (Lit.int .i64 (z + y)).wf = true := wf_small (by omega) (by omega)
          have hsum : IntKind.i64.wrap (z + y) = z + y := IntWalk.i64_in _ (by omega)
          have HS0 := Lib.hid hS
          clear hS
          have hz := HZ1
          clear HZ1
          go_wp2_with fail
          have hS := HS0.out
          have hz := hz.out
          clear HS0
          refine reg_begin (fun u => u.cell? ⟨wr.heap.size, 0, none⟩ = some (.int .i64 cs) ∧ u.cell? ⟨wr.heap.size, 1, none⟩ = some (.int .i64 ca) ∧ u.cell? ⟨wr.heap.size, 2, none⟩ = some (.int .i64 cb) ∧ Within (w.heap.size + 1) (w.heap.size + 1 + 1) w1 u) (by kernel_rfl) hS ?_
          refine reg_take 0 (v := ?_) rfl (by kernel_rfl) (by kernel_rfl) (by kernel_rfl) (fun _ _ _ h => h) (by rfl) (by intro w hSw; (try dsimp only at hSw); go_simp; first | done | with_reducible rfl) hS ?_
          (try simp only [Act.put, List.setIfInBounds_toArray, List.set_cons_zero, List.set_cons_succ])
          refine reg_take 1 (v := ?_) rfl (by kernel_rfl) (by kernel_rfl) (by kernel_rfl) (fun _ _ _ h => h) (by rfl) (by intro w hSw; (try dsimp only at hSw); go_simp; first | done | with_reducible rfl) hS ?_
          (try simp only [Act.put, List.setIfInBounds_toArray, List.set_cons_zero, List.set_cons_succ])
          refine reg_take 3 (v := ?_) rfl (by kernel_rfl) (by kernel_rfl) (by kernel_rfl) (fun _ _ _ h => h) (by rfl) (by intro w hSw; (try dsimp only at hSw); go_simp; first | done | with_reducible rfl) hS ?_
          (try simp only [Act.put, List.setIfInBounds_toArray, List.set_cons_zero, List.set_cons_succ])
          refine reg_take 4 (v := ?_) rfl (by kernel_rfl) (by kernel_rfl) (by kernel_rfl) (fun _ _ _ h => h) (by rfl) (by intro w hSw; (try dsimp only at hSw); go_simp; first | done | with_reducible rfl) hS ?_
          (try simp only [Act.put, List.setIfInBounds_toArray, List.set_cons_zero, List.set_cons_succ])
          refine reg_two 2 5 rfl rfl (by kernel_rfl) (by rfl) (by rfl) (fun K hK => ?_) (fun K hK => ?_)
          · refine op_look _ _ rfl hz rfl rfl wa HD.out.1 ?_
            refine hK.out _ _ hS (fun hS' => ?_)
            clear hK K
            replace hS := hS'
            clear hS'
            (try simp only [Act.put, List.setIfInBounds_toArray, List.set_cons_zero, List.set_cons_succ])
            refine reg_call 5 rfl (by kernel_rfl) (by rfl) (fun K hK => ?_)
            go_simp
            go_at_call 19
            refine (CA.out _).mono ?_
            rintro e w2 ⟨rfl, hb2⟩
            have HD2 := Lib.hid (HD.out.below hb2 HL.out)
            have HS := Lib.hid (KP.out _ _ hb2 hS)
            clear hb2
            refine hK.out _ _ HS.out (fun hS' => ?_)
            clear HS
            clear hK K
            replace hS := hS'
            clear hS'
            (try simp only [Act.put, List.setIfInBounds_toArray, List.set_cons_zero, List.set_cons_succ])
            refine reg_take 6 (v := ?_) rfl (by kernel_rfl) (by kernel_rfl) (by kernel_rfl) (fun _ _ _ h => h) (by rfl) (by intro w hSw; (try dsimp only at hSw); go_simp; first | done | with_reducible rfl) hS ?_
            (try simp only [Act.put, List.setIfInBounds_toArray, List.set_cons_zero, List.set_cons_succ])
            refine reg_call 7 rfl (by kernel_rfl) (by rfl) (fun K hK => ?_)
            refine op_put _ _ _ rfl rfl rfl rfl wa wz HD2.out.1 (by omega) ?_
            intro w3 hown hgrow
            have HM3 := Lib.hid (HD2.out.step (z := z + y) (by rw [HA.out]; exact wa) (by rw [HA.out]; exact HNT.out) (by rw [HA.out]; exact HN.out) (by rw [HA.out]; exact hown))
            have HS : Hid (w3.cell? ⟨wr.heap.size, 0, none⟩ = some (.int .i64 cs) ∧ w3.cell? ⟨wr.heap.size, 1, none⟩ = some (.int .i64 ca) ∧ w3.cell? ⟨wr.heap.size, 2, none⟩ = some (.int .i64 cb) ∧ Within (w.heap.size + 1) (w.heap.size + 1 + 1) w1 w3) := Lib.hid ⟨(hgrow.cell_far ⟨wr.heap.size, 0, none⟩ (lt_of_cell hS.1) (by simp; omega)).trans hS.1, (hgrow.cell_far ⟨wr.heap.size, 1, none⟩ (lt_of_cell hS.2.1) (by simp; omega)).trans hS.2.1, (hgrow.cell_far ⟨wr.heap.size, 2, none⟩ (lt_of_cell hS.2.2.1) (by simp; omega)).trans hS.2.2.1, hS.2.2.2.trans (Within.of_grown hgrow (by omega) (by omega))⟩
            clear hown hgrow
            refine hK.out _ _ HS.out (fun hS' => ?_)
            clear hK K hS'
            (try simp only [Act.put])
            have HW3 := Lib.hid HS.out.2.2.2
            clear HS hS
            refine wpAnyH_done (by kernel_rfl) ?_ _
            go_wp2_with fail
            go_roundw
            case rel => exact ⟨m + 1, by omega, by go_num, HM3, HW3⟩
            case measure => simp [intOf] <;> omega
          · go_simp
            go_at_call 19
            refine (CA.out _).mono ?_
            rintro e w2 ⟨rfl, hb2⟩
            have HD2 := Lib.hid (HD.out.below hb2 HL.out)
            have HS := Lib.hid (KP.out _ _ hb2 hS)
            clear hb2
            refine hK.out _ _ HS.out (fun hS' => ?_)
            clear HS
            clear hK K
            replace hS := hS'
            clear hS'
            (try simp only [Act.put, List.setIfInBounds_toArray, List.set_cons_zero, List.set_cons_succ])
            refine reg_call 2 rfl (by kernel_rfl) (by rfl) (fun K hK => ?_)
            refine op_look _ _ rfl hz rfl rfl wa HD2.out.1 ?_
            refine hK.out _ _ hS (fun hS' => ?_)
            clear hK K
            replace hS := hS'
            clear hS'
            (try simp only [Act.put, List.setIfInBounds_toArray, List.set_cons_zero, List.set_cons_succ])
            refine reg_take 6 (v := ?_) rfl (by kernel_rfl) (by kernel_rfl) (by kernel_rfl) (fun _ _ _ h => h) (by rfl) (by intro w hSw; (try dsimp only at hSw); go_simp; first | done | with_reducible rfl) hS ?_
            (try simp only [Act.put, List.setIfInBounds_toArray, List.set_cons_zero, List.set_cons_succ])
            refine reg_call 7 rfl (by kernel_rfl) (by rfl) (fun K hK => ?_)
            refine op_put _ _ _ rfl rfl rfl rfl wa wz HD2.out.1 (by omega) ?_
            intro w3 hown hgrow
            have HM3 := Lib.hid (HD2.out.step (z := z + y) (by rw [HA.out]; exact wa) (by rw [HA.out]; exact HNT.out) (by rw [HA.out]; exact HN.out) (by rw [HA.out]; exact hown))
            have HS : Hid (w3.cell? ⟨wr.heap.size, 0, none⟩ = some (.int .i64 cs) ∧ w3.cell? ⟨wr.heap.size, 1, none⟩ = some (.int .i64 ca) ∧ w3.cell? ⟨wr.heap.size, 2, none⟩ = some (.int .i64 cb) ∧ Within (w.heap.size + 1) (w.heap.size + 1 + 1) w1 w3) := Lib.hid ⟨(hgrow.cell_far ⟨wr.heap.size, 0, none⟩ (lt_of_cell hS.1) (by simp; omega)).trans hS.1, (hgrow.cell_far ⟨wr.heap.size, 1, none⟩ (lt_of_cell hS.2.1) (by simp; omega)).trans hS.2.1, (hgrow.cell_far ⟨wr.heap.size, 2, none⟩ (lt_of_cell hS.2.2.1) (by simp; omega)).trans hS.2.2.1, hS.2.2.2.trans (Within.of_grown hgrow (by omega) (by omega))⟩
            clear hown hgrow
            refine hK.out _ _ HS.out (fun hS' => ?_)
            clear hK K hS'
            (try simp only [Act.put])
            have HW3 := Lib.hid HS.out.2.2.2
            clear HS hS
            refine wpAnyH_done (by kernel_rfl) ?_ _
            go_wp2_with fail
            go_roundw
            case rel => exact ⟨m + 1, by omega, by go_num, HM3, HW3⟩
            case measure => simp [intOf] <;> omega
        · obtain rfl : m = xs.length := by omega
          have HM5 := Lib.hid ((hmap.out.congr HF.out).mono (n' := (c + 1) * 16) (by omega))
          have HKS : Hid (ks t c xs.length = t.take (c + 1)) := Lib.hid (by unfold ks; rw [if_neg (by omega), take_one t c hlt])
          rw [HKS.out] at HM5
          clear hmap
          go_wp2_with fail
          go_roundw
          case rel => exact ⟨c + 1, by omega, by go_num, HM5, hwi⟩
          case measure => simp [intOf] <;> omega
    · obtain rfl : c = t.length := by omega
      go_wp2_with fail
      go_ret
      exact ⟨w.heap.size + 1, _, rfl, by have := hmap.out.congr HE.out; rw [List.take_length] at this; exact this, by omega, bel_w HB1.out (Nat.le_refl _) hwi.out (by omega)⟩

end Go.Proofs.Ytelpibdbnjmliaa
