/- Cells: the program's WholeCell. Cells: the program's SplitCell. Exchanges: the program's ExchangeCell. Exchanges: the model's ExchangeBlock. -/
import Derived.Test.YtfidnhhlcdbaeaaGreatDoorM07
import Derived.Test.YtfidnhhlcdbaeaaGreatDoorM04
import Derived.Test.YtfidnhhlcdbaeaaGreatDoorM05
import Derived.Test.YtfidnhhlcdbaeaaGreatDoorM12
import Derived.Test.YtfidnhhlcdbaeaaGreatDoorM14
import Derived.Test.YtfidnhhlcdbaeaaGreatDoorM03

namespace Go.Proofs.YtfidnhhlcdbaeaaGreatDoor
open Go.ChangeShapes Go.WideShapes Go.ChangeAt Go.RowKit

theorem ImplWhole_any (a : Int) (w : World) :
    Calls Tryz.prog 93 #[.int .i64 a] w fun e w' => e = .returned (.agg #[.int .i64 0, .int .i64 (wh a), .int .i64 (wh a)]) ∧ w' = w.alloc (.cells #[.int .i64 0, .int .i64 (wh a), .int .i64 (wh a)] 50) := by
  by_cases h : 0 ≤ a ∧ a ≤ 5
  · rw [wh_yes h]
    obtain ⟨a0, a1⟩ := h
    go_enter Tryz.func93, Tryz.ntmps93
    go_wp2_with (refine (Color_yes _ _ (by assumption) (by assumption)).mono ?_; rintro e w' ⟨rfl, rfl⟩)
    exact bodyPost_ret (v := .agg #[.int .i64 0, .int .i64 a, .int .i64 a]) (by simp [results, Tryz.results93, go_sem]) rfl ⟨rfl, rfl⟩
  · rw [wh_no h]
    have h' : a < 0 ∨ 5 < a := by omega
    clear h
    go_enter Tryz.func93, Tryz.ntmps93
    go_wp2_with (refine (Color_no _ _ (by assumption)).mono ?_; rintro e w' ⟨rfl, rfl⟩)
    exact bodyPost_ret (v := .agg #[.int .i64 0, .int .i64 0, .int .i64 0]) (by simp [results, Tryz.results93, go_sem]) rfl ⟨rfl, rfl⟩

end Go.Proofs.YtfidnhhlcdbaeaaGreatDoor

namespace Go.Proofs.YtfidnhhlcdbaeaaGreatDoor
open Go.ChangeShapes Go.WideShapes Go.ChangeAt Go.RowKit

theorem ImplSplit_any (s a b : Int) (w : World) :
    Calls Tryz.prog 85 #[.int .i64 s, .int .i64 a, .int .i64 b] w fun e w' => e = .returned (.agg #[.int .i64 (spS s a b), .int .i64 (spA s a b), .int .i64 (spB s a b)]) ∧ Below w.heap.size w w' := by
  by_cases h : a = b
  · subst h
    obtain ⟨e1, e2, e3⟩ := sp_same s a
    rw [e1, e2, e3]
    clear e1 e2 e3
    go_enter Tryz.func85, Tryz.ntmps85
    go_wp2_with (refine (ImplWhole_any _ _).mono ?_; rintro e w' ⟨rfl, rfl⟩)
    exact bodyPost_ret (v := .agg #[.int .i64 0, .int .i64 (wh a), .int .i64 (wh a)]) (by simp [results, Tryz.results85, go_sem]) rfl ⟨rfl, ((Below.refl _ _).alloc (Nat.le_refl _) _).alloc (by simp) _⟩
  · by_cases k : OkC s a b
    · obtain ⟨e1, e2, e3⟩ := sp_ok h k
      rw [e1, e2, e3]
      clear e1 e2 e3
      have k' := Lib.hid (decide_eq_true k)
      clear k
      go_enter Tryz.func85, Tryz.ntmps85
      go_wp2_with (refine (ImplOk_any _ _ _ _).mono ?_; rw [k'.out]; rintro e w' ⟨rfl, rfl⟩)
      exact bodyPost_ret (v := .agg #[.int .i64 s, .int .i64 a, .int .i64 b]) (by simp [results, Tryz.results85, go_sem]) rfl ⟨rfl, (((Below.refl _ _).alloc (Nat.le_refl _) _).alloc (by simp) _).alloc (by simp; omega) _⟩
    · obtain ⟨e1, e2, e3⟩ := sp_no h k
      rw [e1, e2, e3]
      clear e1 e2 e3
      have k' := Lib.hid (decide_eq_false k)
      clear k
      go_enter Tryz.func85, Tryz.ntmps85
      go_wp2_with (refine (ImplOk_any _ _ _ _).mono ?_; rw [k'.out]; rintro e w' ⟨rfl, rfl⟩)
      exact bodyPost_ret (v := .agg #[.int .i64 0, .int .i64 0, .int .i64 0]) (by simp [results, Tryz.results85, go_sem]) rfl ⟨rfl, (((Below.refl _ _).alloc (Nat.le_refl _) _).alloc (by simp) _).alloc (by simp; omega) _⟩

end Go.Proofs.YtfidnhhlcdbaeaaGreatDoor

namespace Go.Proofs.YtfidnhhlcdbaeaaGreatDoor
open Go.ChangeShapes Go.WideShapes Go.ChangeAt Go.RowKit

theorem ImplCOk_yes (s a b : Int) (w : World) (k : OkC s a b) :
    Calls Tryz.prog 55 #[.agg #[.int .i64 s, .int .i64 a, .int .i64 b]] w fun e w' => e = .returned (.bool true) ∧ Below w.heap.size w w' := by
  refine (ImplOk_any s a b w).mono ?_
  rintro e w' ⟨rfl, rfl⟩
  exact ⟨ret_bool (decide_eq_true k), bel0 _ _⟩
theorem ImplCOk_no (s a b : Int) (w : World) (k : ¬ OkC s a b) :
    Calls Tryz.prog 55 #[.agg #[.int .i64 s, .int .i64 a, .int .i64 b]] w fun e w' => e = .returned (.bool false) ∧ Below w.heap.size w w' := by
  refine (ImplOk_any s a b w).mono ?_
  rintro e w' ⟨rfl, rfl⟩
  exact ⟨ret_bool (decide_eq_false k), bel0 _ _⟩
set_option maxRecDepth 100000 in
set_option maxHeartbeats 2000000 in
theorem ImplExchangeCell_any (lo hi : Nat) (s a b : Int) (v : Value) (zs : List Int) (w : World) (r : IntO lo hi w v zs) (hhi : hi ≤ w.heap.size) :
    Calls Tryz.prog 66 #[.agg #[.int .i64 s, .int .i64 a, .int .i64 b], v] w fun e w' => e = .returned (.agg #[.int .i64 (exZ zs ⟨s, a, b⟩).s, .int .i64 (exZ zs ⟨s, a, b⟩).a, .int .i64 (exZ zs ⟨s, a, b⟩).b]) ∧ Below w.heap.size w w' := by
  obtain ⟨al, cap, rfl⟩ := r.form
  have HR := Lib.hid (fun W (hb : Below w.heap.size w W) => r.below (hb.mono hhi))
  have hl := r.1
  clear r
  have HK := Lib.hid (SpecTurnCell_keep s a b w)
  by_cases hc : OkC s a b
  · have HC := Lib.hid hc
    by_cases hz : LstOk zs
    · have HL := Lib.hid hz
      have hl6 : zs.length ≤ 6 := by rw [hz.1]; exact Nat.le_refl _
      have hl6' : 6 ≤ zs.length := by rw [hz.1]; exact Nat.le_refl _
      rw [exZ_yes (c := ⟨s, a, b⟩) hc hz]
      obtain ⟨sp1, sp2, sp3⟩ := sp_exC (c := ⟨s, a, b⟩) hz hc
      have ha : 0 ≤ a ∧ a ≤ 5 := by unfold OkC at hc; omega
      have hb5 : 0 ≤ b ∧ b ≤ 5 := by unfold OkC at hc; omega
      obtain ⟨i, rfl⟩ : ∃ i : Nat, a = i := ⟨a.toNat, by omega⟩
      obtain ⟨j, rfl⟩ : ∃ j : Nat, b = j := ⟨b.toNat, by omega⟩
      have CS := Lib.hid (fun u => ImplSplit_any s (zs.getD i 0) (zs.getD j 0) u)
      dsimp only [atL, Int.toNat_natCast] at sp1 sp2 sp3
      rw [sp1, sp2, sp3] at CS
      clear sp1 sp2 sp3 hc hz
      generalize exC zs ⟨s, i, j⟩ = z at CS ⊢
      have hi5 : i < 6 := by omega
      have hj5 : j < 6 := by omega
      go_enter Tryz.func66, Tryz.ntmps66
      go_wp2_with fail
      refine (ImplCOk_yes _ _ _ _ HC.out).mono ?_
      rintro e w1 ⟨rfl, hb⟩
      obtain ⟨⟨c0, c1, c2⟩, ⟨d0, d1, d2⟩, ⟨f0, f1, f2⟩, B⟩ := HK.out w1 hb
      clear hb HK
      go_wp2_with fail
      refine (ImplListOk_eq lo hi _ zs _ (HR.out _ B)).mono ?_
      rw [← lst_yes HL.out]
      rintro e w' ⟨rfl, hw⟩
      have hw' := hw.symm
      subst hw'
      clear hw
      obtain ⟨g, o, rfl, hg1, hg2, e0, _⟩ := (HR.out _ B).at (Below.refl _ _) (i := i) (by omega)
      obtain ⟨g2, o2, hge, _, _, e1, _⟩ := (HR.out _ B).at (Below.refl _ _) (i := j) (by omega)
      simp only [Option.some.injEq, Addr.mk.injEq, and_true] at hge
      obtain ⟨rfl, rfl⟩ := hge
      generalize zs.getD i 0 = x at e0 CS
      generalize zs.getD j 0 = y at e1 CS
      have hil : (i : Int) < (zs.length : Int) := by omega
      have hjl : (j : Int) < (zs.length : Int) := by omega
      have hS0 : Hid (w1.drew.cell? ⟨w.heap.size, 0, none⟩ = some (.int .i64 s) ∧ w1.drew.cell? ⟨w.heap.size, 1, none⟩ = some (.int .i64 (i : Nat)) ∧ w1.drew.cell? ⟨w.heap.size, 2, none⟩ = some (.int .i64 (j : Nat)) ∧ w1.drew.cell? ⟨g, o + i, none⟩ = some (.int .i64 x) ∧ w1.drew.cell? ⟨g, o + j, none⟩ = some (.int .i64 y)) := Lib.hid ⟨c0, c1, c2, e0, e1⟩
      have HB := Lib.hid (bel_draw B)
      have KP : Hid (∀ u v, Below (w.heap.size + 1) u v → (u.cell? ⟨w.heap.size, 0, none⟩ = some (.int .i64 s) ∧ u.cell? ⟨w.heap.size, 1, none⟩ = some (.int .i64 (i : Nat)) ∧ u.cell? ⟨w.heap.size, 2, none⟩ = some (.int .i64 (j : Nat)) ∧ u.cell? ⟨g, o + i, none⟩ = some (.int .i64 x) ∧ u.cell? ⟨g, o + j, none⟩ = some (.int .i64 y)) → (v.cell? ⟨w.heap.size, 0, none⟩ = some (.int .i64 s) ∧ v.cell? ⟨w.heap.size, 1, none⟩ = some (.int .i64 (i : Nat)) ∧ v.cell? ⟨w.heap.size, 2, none⟩ = some (.int .i64 (j : Nat)) ∧ v.cell? ⟨g, o + i, none⟩ = some (.int .i64 x) ∧ v.cell? ⟨g, o + j, none⟩ = some (.int .i64 y))) := Lib.hid (fun u v hb h => ⟨(hb.cell (p := ⟨w.heap.size, 0, none⟩) (Nat.lt_succ_self _)).trans h.1, (hb.cell (p := ⟨w.heap.size, 1, none⟩) (Nat.lt_succ_self _)).trans h.2.1, (hb.cell (p := ⟨w.heap.size, 2, none⟩) (Nat.lt_succ_self _)).trans h.2.2.1, (hb.cell (p := ⟨g, o + i, none⟩) (by show g < _; omega)).trans h.2.2.2.1, (hb.cell (p := ⟨g, o + j, none⟩) (by show g < _; omega)).trans h.2.2.2.2⟩)
      have HD := Lib.hid (⟨⟨d0, d1, d2⟩, f0, f1, f2⟩ : (_ ∧ _ ∧ _) ∧ _ ∧ _ ∧ _)
      have hsz : w.heap.size + 1 ≤ w1.drew.heap.size := by have := lt_of_cell d0; simp at this; show _ ≤ w1.heap.size; omega
      clear c0 c1 c2 e0 e1 d0 d1 d2 f0 f1 f2 B
      go_wp2_with fail
      (try simp only [List.append_eq, List.cons_append, List.nil_append])
      have hS := hS0.out
      clear hS0
      refine reg_begin (fun u => u.cell? ⟨w.heap.size, 0, none⟩ = some (.int .i64 s) ∧ u.cell? ⟨w.heap.size, 1, none⟩ = some (.int .i64 (i : Nat)) ∧ u.cell? ⟨w.heap.size, 2, none⟩ = some (.int .i64 (j : Nat)) ∧ u.cell? ⟨g, o + i, none⟩ = some (.int .i64 x) ∧ u.cell? ⟨g, o + j, none⟩ = some (.int .i64 y)) (by kernel_rfl) hS ?_
      refine reg_take 0 (v := ?_) rfl (by kernel_rfl) (by kernel_rfl) (by kernel_rfl) (fun _ _ _ h => h) (by rfl) (by intro w hSw; (try dsimp only at hSw); go_simp; first | done | with_reducible rfl) hS ?_
      (try simp only [Act.put, List.setIfInBounds_toArray, List.set_cons_zero, List.set_cons_succ])
      refine reg_take 1 (v := ?_) rfl (by kernel_rfl) (by kernel_rfl) (by kernel_rfl) (fun _ _ _ h => h) (by rfl) (by intro w hSw; (try dsimp only at hSw); go_simp; first | done | with_reducible rfl) hS ?_
      (try simp only [Act.put, List.setIfInBounds_toArray, List.set_cons_zero, List.set_cons_succ])
      refine reg_take 2 (v := ?_) rfl (by kernel_rfl) (by kernel_rfl) (by kernel_rfl) (fun _ _ _ h => h) (by rfl) (by intro w hSw; (try dsimp only at hSw); go_simp; first | done | with_reducible rfl) hS ?_
      (try simp only [Act.put, List.setIfInBounds_toArray, List.set_cons_zero, List.set_cons_succ])
      refine reg_take 3 (v := ?_) rfl (by kernel_rfl) (by kernel_rfl) (by kernel_rfl) (fun _ _ _ h => h) (by rfl) (by intro w hSw; (try dsimp only at hSw); go_simp; first | done | with_reducible rfl) hS ?_
      (try simp only [Act.put, List.setIfInBounds_toArray, List.set_cons_zero, List.set_cons_succ])
      refine reg_take 4 (v := ?_) rfl (by kernel_rfl) (by kernel_rfl) (by kernel_rfl) (fun _ _ _ h => h) (by rfl) (by intro w hSw; (try dsimp only at hSw); go_simp; first | done | with_reducible rfl) hS ?_
      (try simp only [Act.put, List.setIfInBounds_toArray, List.set_cons_zero, List.set_cons_succ])
      refine reg_take 5 (v := ?_) rfl (by kernel_rfl) (by kernel_rfl) (by kernel_rfl) (fun _ _ _ h => h) (by rfl) (by intro w hSw; (try dsimp only at hSw); go_simp; first | done | with_reducible rfl) hS ?_
      (try simp only [Act.put, List.setIfInBounds_toArray, List.set_cons_zero, List.set_cons_succ])
      refine reg_take 6 (v := ?_) rfl (by kernel_rfl) (by kernel_rfl) (by kernel_rfl) (fun _ _ _ h => h) (by rfl) (by intro w hSw; (try dsimp only at hSw); go_simp; first | done | with_reducible rfl) hS ?_
      (try simp only [Act.put, List.setIfInBounds_toArray, List.set_cons_zero, List.set_cons_succ])
      refine reg_take 7 (v := ?_) rfl (by kernel_rfl) (by kernel_rfl) (by kernel_rfl) (fun _ _ _ h => h) (by rfl) (by intro w hSw; (try dsimp only at hSw); go_simp; first | done | with_reducible rfl) hS ?_
      (try simp only [Act.put, List.setIfInBounds_toArray, List.set_cons_zero, List.set_cons_succ])
      refine reg_take 8 (v := ?_) rfl (by kernel_rfl) (by kernel_rfl) (by kernel_rfl) (fun _ _ _ h => h) (by rfl) (by intro w hSw; (try dsimp only at hSw); go_simp; first | done | with_reducible rfl) hS ?_
      (try simp only [Act.put, List.setIfInBounds_toArray, List.set_cons_zero, List.set_cons_succ])
      refine reg_take 9 (v := ?_) rfl (by kernel_rfl) (by kernel_rfl) (by kernel_rfl) (fun _ _ _ h => h) (by rfl) (by intro w hSw; (try dsimp only at hSw); go_simp; first | done | with_reducible rfl) hS ?_
      (try simp only [Act.put, List.setIfInBounds_toArray, List.set_cons_zero, List.set_cons_succ])
      refine reg_take 10 (v := ?_) rfl (by kernel_rfl) (by kernel_rfl) (by kernel_rfl) (fun _ _ _ h => h) (by rfl) (by intro w hSw; (try dsimp only at hSw); go_simp; first | done | with_reducible rfl) hS ?_
      (try simp only [Act.put, List.setIfInBounds_toArray, List.set_cons_zero, List.set_cons_succ])
      refine reg_take 11 (v := ?_) rfl (by kernel_rfl) (by kernel_rfl) (by kernel_rfl) (fun _ _ _ h => h) (by rfl) (by intro w hSw; (try dsimp only at hSw); go_simp; first | done | with_reducible rfl) hS ?_
      (try simp only [Act.put, List.setIfInBounds_toArray, List.set_cons_zero, List.set_cons_succ])
      refine reg_call 12 rfl (by kernel_rfl) (by rfl) (fun K hK => ?_)
      go_simp
      go_at_call 85
      refine (CS.out _).mono ?_
      rintro e w2 ⟨rfl, hb2⟩
      have HB2 := Lib.hid (bel_c HB.out (Nat.le_refl _) hb2)
      obtain ⟨⟨d0, d1, d2⟩, f0, f1, f2⟩ := HD.out
      have q0 := kept (p := ⟨w.heap.size + 1, 0, none⟩) hb2 d0
      have q1 := kept (p := ⟨w.heap.size + 1, 1, none⟩) hb2 d1
      have q2 := kept (p := ⟨w.heap.size + 1, 2, none⟩) hb2 d2
      have r0 := keptF (p := ⟨w.heap.size + 1, 0, none⟩) hb2 d0 f0
      have r1 := keptF (p := ⟨w.heap.size + 1, 1, none⟩) hb2 d1 f1
      have r2 := keptF (p := ⟨w.heap.size + 1, 2, none⟩) hb2 d2 f2
      have HS := Lib.hid (KP.out _ _ (hb2.mono hsz) hS)
      clear hb2 d0 d1 d2 f0 f1 f2 HD
      refine hK.out _ _ HS.out (fun hS' => ?_)
      clear HS
      clear hK K
      replace hS := hS'
      clear hS'
      (try simp only [Act.put, List.setIfInBounds_toArray, List.set_cons_zero, List.set_cons_succ])
      refine reg_call 13 rfl (by kernel_rfl) (by rfl) (fun K hK => ?_)
      have HS := Lib.hid (KP.out w2 (((w2.setCell ⟨w.heap.size + 1, 0, none⟩ (.int .i64 z.s)).setCell ⟨w.heap.size + 1, 1, none⟩ (.int .i64 z.a)).setCell ⟨w.heap.size + 1, 2, none⟩ (.int .i64 z.b)) (bel_set3 w2 (w.heap.size + 1) _ _ _) hS)
      go_simp
      refine hK.out _ _ HS.out (fun hS' => ?_)
      clear HS hS' hK K hS
      (try simp only [Act.put, List.setIfInBounds_toArray, List.set_cons_zero, List.set_cons_succ])
      refine wpAnyH_done (by kernel_rfl) ?_ _
      go_wp2_with fail
      refine bodyPost_ret (v := .agg #[.int .i64 z.s, .int .i64 z.a, .int .i64 z.b]) (by simp [results, Tryz.results66, go_sem, q0, q1, q2]) rfl ⟨rfl, ?_⟩
      refine Below.setCell (Below.setCell (Below.setCell HB2.out ?_ _) ?_ _) ?_ _ <;> (simp <;> omega)
    · have HL := Lib.hid hz
      rw [exZ_no (c := ⟨s, a, b⟩) (fun h => hz h.2)]
      clear hc hz
      show Calls _ _ _ _ fun e w' => e = .returned (.agg #[.int .i64 0, .int .i64 0, .int .i64 0]) ∧ _
      go_enter Tryz.func66, Tryz.ntmps66
      go_wp2_with fail
      refine (ImplCOk_yes _ _ _ _ HC.out).mono ?_
      rintro e w1 ⟨rfl, hb⟩
      obtain ⟨⟨c0, c1, c2⟩, ⟨d0, d1, d2⟩, ⟨f0, f1, f2⟩, B⟩ := HK.out w1 hb
      clear hb HK
      go_wp2_with fail
      refine (ImplListOk_eq lo hi _ zs _ (HR.out _ B)).mono ?_
      rw [← lst_no HL.out]
      rintro e w' ⟨rfl, rfl⟩
      go_wp2_with fail
      refine bodyPost_ret (v := .agg #[.int .i64 0, .int .i64 0, .int .i64 0]) (by simp [results, Tryz.results66, go_sem, d0, d1, d2]) rfl ⟨rfl, ?_⟩
      refine Below.setCell (Below.setCell (Below.setCell B ?_ _) ?_ _) ?_ _ <;> (simp <;> omega)
  · have HC := Lib.hid hc
    rw [exZ_no (c := ⟨s, a, b⟩) (fun h => hc h.1)]
    clear hc
    show Calls _ _ _ _ fun e w' => e = .returned (.agg #[.int .i64 0, .int .i64 0, .int .i64 0]) ∧ _
    go_enter Tryz.func66, Tryz.ntmps66
    go_wp2_with fail
    refine (ImplCOk_no _ _ _ _ HC.out).mono ?_
    rintro e w1 ⟨rfl, hb⟩
    obtain ⟨⟨c0, c1, c2⟩, ⟨d0, d1, d2⟩, ⟨f0, f1, f2⟩, B⟩ := HK.out w1 hb
    clear hb HK
    go_wp2_with fail
    refine bodyPost_ret (v := .agg #[.int .i64 0, .int .i64 0, .int .i64 0]) (by simp [results, Tryz.results66, go_sem, d0, d1, d2]) rfl ⟨rfl, ?_⟩
    refine Below.setCell (Below.setCell (Below.setCell B ?_ _) ?_ _) ?_ _ <;> (simp <;> omega)

end Go.Proofs.YtfidnhhlcdbaeaaGreatDoor

namespace Go.Proofs.YtfidnhhlcdbaeaaGreatDoor
open Go.ChangeShapes Go.WideShapes Go.ChangeAt Go.RowKit

/-- What ExchangeBlock answers. -/
noncomputable def exA (n : Int) (xs : List C3) (zs : List Int) : List C3 := @ite _ (BlkOk n xs ∧ LstOk zs) (Classical.propDecidable _) (exL zs xs) xs
noncomputable def exK (n : Int) (xs : List C3) (zs : List Int) : Bool := @decide (BlkOk n xs ∧ LstOk zs) (Classical.propDecidable _)
theorem exA_yes {n : Int} {xs : List C3} {zs : List Int} (h : BlkOk n xs ∧ LstOk zs) : exA n xs zs = exL zs xs ∧ exK n xs zs = true := ⟨if_pos h, by unfold exK; simp [h]⟩
theorem exA_no {n : Int} {xs : List C3} {zs : List Int} (h : ¬ (BlkOk n xs ∧ LstOk zs)) : exA n xs zs = xs ∧ exK n xs zs = false := ⟨if_neg h, by unfold exK; simp [h]⟩
set_option maxRecDepth 100000 in
set_option maxHeartbeats 4000000 in
theorem SpecExchangeBlock_any (lo hi lo2 hi2 : Nat) (n : Int) (v vl : Value) (xs : List C3) (zs : List Int) (w : World) (r : CellIn lo hi w v xs) (hhi : hi ≤ w.heap.size) (rl : IntO lo2 hi2 w vl zs) (hhi2 : hi2 ≤ w.heap.size) :
    Calls Tryz.prog 11 #[.agg #[.int .i64 n, v], vl] w (FreshBB n (exA n xs zs) (exK n xs zs) w) := by
  obtain ⟨i0, hi0, hz0, hz1, hz2⟩ := info_parts3 info_cell
  obtain ⟨a, cap, rfl⟩ := r.form
  obtain ⟨al, cl, rfl⟩ := rl.form
  have hl := r.1
  have hl2 := rl.1
  have HR := Lib.hid (fun W (hb : Below w.heap.size w W) => r.below (hb.mono hhi))
  have HRL := Lib.hid (fun W (hb : Below w.heap.size w W) => rl.below (hb.mono hhi2))
  clear r rl
  by_cases hb : BlkOk n xs
  · have HB := Lib.hid hb
    have hx16 := (blk_len hb).2
    by_cases hz : LstOk zs
    · have HL := Lib.hid hz
      obtain ⟨e1, e2⟩ := exA_yes (n := n) ⟨hb, hz⟩
      rw [e1, e2]
      clear hb hz e1 e2
      go_enter Tryz.func11, Tryz.ntmps11
      go_wp2_with fail
      refine (SpecBlockOk_yes lo hi n _ xs _ (HR.out _ (bel_n (bel0 w _) (Nat.le_refl _) _)) (by simp; omega) HB.out).mono ?_
      rintro e w1 ⟨rfl, hb1⟩
      have p0 := kept (p := ⟨w.heap.size, 0, none⟩) (x := .int .i64 n) hb1 (by go_simp)
      have p1 := kept (p := ⟨w.heap.size, 1, none⟩) (x := .slice a xs.length cap) hb1 (by go_simp)
      have d0 := kept (p := ⟨w.heap.size + 1, 0, none⟩) (x := .int .i64 0) hb1 (by go_simp)
      have d1 := kept (p := ⟨w.heap.size + 1, 1, none⟩) (x := .slice none 0 0) hb1 (by go_simp)
      have g0 := keptF (p := ⟨w.heap.size + 1, 0, none⟩) (x := .int .i64 0) hb1 (by go_simp) (by go_simp)
      have g1 := keptF (p := ⟨w.heap.size + 1, 1, none⟩) (x := .slice none 0 0) hb1 (by go_simp) (by go_simp)
      have HB1 := Lib.hid (bel_c (bel_n (bel0 w (.cells #[.int .i64 n, .slice a xs.length cap] 26)) (Nat.le_refl _) (.cells #[.int .i64 0, .slice none 0 0] 26)) (Nat.le_refl _) hb1)
      have HPO : Hid (w.heap.size + 1 < w1.heap.size) := Lib.hid (by have := hb1.size; simp at this; omega)
      go_wp2_with fail
      refine (SpecListOk_any lo2 hi2 _ zs _ (HRL.out _ HB1.out)).mono ?_
      rw [← lst_yes HL.out]
      rintro e w' ⟨rfl, hw⟩
      have hw' := hw.symm
      subst hw'
      clear hw
      have HT := Lib.hid (TBk.start n (.slice a xs.length cap) w w1 hb1)
      have HB0 := Lib.hid (bel_n HB1.out (Nat.le_refl _) (.cells #[.int .i64 n, .slice none 0 0] 26))
      have HSZ : Hid (w1.heap.size + 1 ≤ (w1.alloc (.cells #[.int .i64 n, .slice none 0 0] 26)).heap.size) := Lib.hid (by simp)
      clear hb1 d0 d1 g0 g1
      go_wp2_with fail
      clear p0 p1
      go_loopw [7] (fun i wr => ∃ (k : Nat) (v : Value), k ≤ xs.length ∧ i = .int .i64 k ∧ Hid (wr.ownsRow (w1.heap.size + 1) 50 3 v k (places (exL zs (xs.take k)))) ∧ Hid (TBk w.heap.size w1.heap.size n (.slice a xs.length cap) v wr) ∧ Hid (Below w.heap.size w wr) ∧ w1.heap.size + 1 ≤ wr.heap.size) (fun i _ => xs.length - (intOf i).toNat)
      case atStart => exact ⟨0, .slice none 0 0, Nat.zero_le _, rfl, Lib.hid ⟨rfl, .inl ⟨rfl, rfl⟩⟩, HT, HB0, HSZ.out⟩
      case round =>
        obtain ⟨k, v, hk, rfl, hown, hcs, hbel, hsz⟩ := hrel
        by_cases hlt : k < xs.length
        · have hji : (k : Int) < (xs.length : Int) := by omega
          obtain ⟨g, rfl, hg1, hg2, ⟨e0, e1, e2⟩, _⟩ := (HR.out _ hbel.out).at (Below.refl _ _) hlt
          have hok := blk_at HB.out hlt
          have CT0 := Lib.hid (fun u (h : Below w.heap.size w u) => SpecExchangeCell_any lo2 hi2 (xs.getD k C3.zero).s (xs.getD k C3.zero).a (xs.getD k C3.zero).b _ zs u (HRL.out u h) (Nat.le_trans hhi2 h.size))
          have hzz : exZ zs (xs.getD k C3.zero) = exC zs (xs.getD k C3.zero) := exZ_yes hok HL.out
          have HNX : Hid (places (exL zs (xs.take k)) ++ [.int .i64 (exC zs (xs.getD k C3.zero)).s, .int .i64 (exC zs (xs.getD k C3.zero)).a, .int .i64 (exC zs (xs.getD k C3.zero)).b] = places (exL zs (xs.take (k + 1)))) := Lib.hid (by
            rw [List.take_succ_eq_append_getElem hlt]
            unfold exL
            rw [List.map_append, List.map_cons, List.map_nil, places_more]
            have : xs.getD k C3.zero = xs[k] := by simp [List.getD, hlt]
            rw [this])
          have CT : Hid (∀ u : World, Below w.heap.size w u → Calls Tryz.prog 31 #[.agg #[.int .i64 (xs.getD k C3.zero).s, .int .i64 (xs.getD k C3.zero).a, .int .i64 (xs.getD k C3.zero).b], .slice al zs.length cl] u fun e w' => e = .returned (.agg #[.int .i64 (exC zs (xs.getD k C3.zero)).s, .int .i64 (exC zs (xs.getD k C3.zero)).a, .int .i64 (exC zs (xs.getD k C3.zero)).b]) ∧ Below u.heap.size u w') := Lib.hid (fun u h => by have := CT0.out u h; rw [show exZ zs ⟨(xs.getD k C3.zero).s, (xs.getD k C3.zero).a, (xs.getD k C3.zero).b⟩ = exC zs (xs.getD k C3.zero) from hzz] at this; exact this)
          clear CT0 hzz hok
          generalize exC zs (xs.getD k C3.zero) = z at CT HNX
          generalize xs.getD k C3.zero = c at e0 e1 e2 CT
          obtain ⟨cs, ca, cb⟩ := c
          have HPO1 : Hid (w.heap.size + 1 ≤ w1.heap.size + 1) := Lib.hid (by have := HPO.out; omega)
          have HPO2 : Hid (w.heap.size ≤ w1.heap.size + 1) := Lib.hid (by have := HPO.out; omega)
          have KP : Hid (∀ u v, Below (w.heap.size + 1) u v → (u.cell? ⟨w.heap.size, 0, none⟩ = some (.int .i64 n) ∧ u.cell? ⟨w.heap.size, 1, none⟩ = some (.slice (some ⟨g, 0, none⟩) xs.length cap) ∧ u.cell? ⟨g, k * 3, none⟩ = some (.int .i64 cs) ∧ u.cell? ⟨g, k * 3 + 1, none⟩ = some (.int .i64 ca) ∧ u.cell? ⟨g, k * 3 + 2, none⟩ = some (.int .i64 cb)) → (v.cell? ⟨w.heap.size, 0, none⟩ = some (.int .i64 n) ∧ v.cell? ⟨w.heap.size, 1, none⟩ = some (.slice (some ⟨g, 0, none⟩) xs.length cap) ∧ v.cell? ⟨g, k * 3, none⟩ = some (.int .i64 cs) ∧ v.cell? ⟨g, k * 3 + 1, none⟩ = some (.int .i64 ca) ∧ v.cell? ⟨g, k * 3 + 2, none⟩ = some (.int .i64 cb))) := Lib.hid (fun u v hb h => ⟨(hb.cell (p := ⟨w.heap.size, 0, none⟩) (Nat.lt_succ_self _)).trans h.1, (hb.cell (p := ⟨w.heap.size, 1, none⟩) (Nat.lt_succ_self _)).trans h.2.1, (hb.cell (p := ⟨g, k * 3, none⟩) (by show g < _; omega)).trans h.2.2.1, (hb.cell (p := ⟨g, k * 3 + 1, none⟩) (by show g < _; omega)).trans h.2.2.2.1, (hb.cell (p := ⟨g, k * 3 + 2, none⟩) (by show g < _; omega)).trans h.2.2.2.2⟩)
          have HS0 : Hid (wr.cell? ⟨w.heap.size, 0, none⟩ = some (.int .i64 n) ∧ wr.cell? ⟨w.heap.size, 1, none⟩ = some (.slice (some ⟨g, 0, none⟩) xs.length cap) ∧ wr.cell? ⟨g, k * 3, none⟩ = some (.int .i64 cs) ∧ wr.cell? ⟨g, k * 3 + 1, none⟩ = some (.int .i64 ca) ∧ wr.cell? ⟨g, k * 3 + 2, none⟩ = some (.int .i64 cb)) := Lib.hid ⟨hcs.out.2.2.2.1, hcs.out.2.2.2.2.1, e0, e1, e2⟩
          have hp0 := hcs.out.2.2.2.2.1
          have HDR := Lib.hid (bel_draw (Below.refl wr.heap.size wr))
          have HT1 := Lib.hid (hcs.out.far (HDR.out.mono hsz) HPO.out)
          have HO1 := Lib.hid (owns_below hown.out HDR.out)
          have HB1 := Lib.hid (bel_draw hbel.out)
          have HZ1 : Hid (w1.heap.size + 1 ≤ wr.drew.heap.size) := Lib.hid hsz
          clear hown hcs hbel
          go_wp2_with fail
          clear hp0 e0 e1 e2
          have hS : wr.drew.cell? ⟨w.heap.size, 0, none⟩ = some (.int .i64 n) ∧ wr.drew.cell? ⟨w.heap.size, 1, none⟩ = some (.slice (some ⟨g, 0, none⟩) xs.length cap) ∧ wr.drew.cell? ⟨g, k * 3, none⟩ = some (.int .i64 cs) ∧ wr.drew.cell? ⟨g, k * 3 + 1, none⟩ = some (.int .i64 ca) ∧ wr.drew.cell? ⟨g, k * 3 + 2, none⟩ = some (.int .i64 cb) := HS0.out
          clear HS0
          (try simp only [List.append_eq, List.cons_append, List.nil_append])
          refine reg_begin (fun u => u.cell? ⟨w.heap.size, 0, none⟩ = some (.int .i64 n) ∧ u.cell? ⟨w.heap.size, 1, none⟩ = some (.slice (some ⟨g, 0, none⟩) xs.length cap) ∧ u.cell? ⟨g, k * 3, none⟩ = some (.int .i64 cs) ∧ u.cell? ⟨g, k * 3 + 1, none⟩ = some (.int .i64 ca) ∧ u.cell? ⟨g, k * 3 + 2, none⟩ = some (.int .i64 cb)) (by kernel_rfl) hS ?_
          refine reg_take 0 (v := ?_) rfl (by kernel_rfl) (by kernel_rfl) (by kernel_rfl) (fun _ _ _ h => h) (by rfl) (by intro w hSw; (try dsimp only at hSw); go_simp; first | done | with_reducible rfl) hS ?_
          (try simp only [Act.put, List.setIfInBounds_toArray, List.set_cons_zero, List.set_cons_succ])
          refine reg_take 2 (v := ?_) rfl (by kernel_rfl) (by kernel_rfl) (by kernel_rfl) (fun _ _ _ h => h) (by rfl) (by intro w hSw; (try dsimp only at hSw); go_simp; first | done | with_reducible rfl) hS ?_
          (try simp only [Act.put, List.setIfInBounds_toArray, List.set_cons_zero, List.set_cons_succ])
          refine reg_take 3 (v := ?_) rfl (by kernel_rfl) (by kernel_rfl) (by kernel_rfl) (fun _ _ _ h => h) (by rfl) (by intro w hSw; (try dsimp only at hSw); go_simp; first | done | with_reducible rfl) hS ?_
          (try simp only [Act.put, List.setIfInBounds_toArray, List.set_cons_zero, List.set_cons_succ])
          refine reg_take 4 (v := ?_) rfl (by kernel_rfl) (by kernel_rfl) (by kernel_rfl) (fun _ _ _ h => h) (by rfl) (by intro w hSw; (try dsimp only at hSw); go_simp; first | done | with_reducible rfl) hS ?_
          (try simp only [Act.put, List.setIfInBounds_toArray, List.set_cons_zero, List.set_cons_succ])
          refine reg_take 5 (v := ?_) rfl (by kernel_rfl) (by kernel_rfl) (by kernel_rfl) (fun _ _ _ h => h) (by rfl) (by intro w hSw; (try dsimp only at hSw); go_simp; first | done | with_reducible rfl) hS ?_
          (try simp only [Act.put, List.setIfInBounds_toArray, List.set_cons_zero, List.set_cons_succ])
          refine reg_take 6 (v := ?_) rfl (by kernel_rfl) (by kernel_rfl) (by kernel_rfl) (fun _ _ _ h => h) (by rfl) (by intro w hSw; (try dsimp only at hSw); go_simp; first | done | with_reducible rfl) hS ?_
          (try simp only [Act.put, List.setIfInBounds_toArray, List.set_cons_zero, List.set_cons_succ])
          refine reg_take 7 (v := ?_) rfl (by kernel_rfl) (by kernel_rfl) (by kernel_rfl) (fun _ _ _ h => h) (by rfl) (by intro w hSw; (try dsimp only at hSw); go_simp; first | done | with_reducible rfl) hS ?_
          (try simp only [Act.put, List.setIfInBounds_toArray, List.set_cons_zero, List.set_cons_succ])
          refine reg_pair 1 8 rfl rfl (by kernel_rfl) (by rfl) (by rfl) (fun K hK => ?_) (fun K hK => ?_)
          · have q := HT1.out.1
            go_simp
            refine hK.out _ _ hS (fun hS' => ?_)
            clear hK K
            replace hS := hS'
            clear hS'
            (try simp only [Act.put, List.setIfInBounds_toArray, List.set_cons_zero, List.set_cons_succ])
            clear q
            refine reg_call 8 rfl (by kernel_rfl) (by rfl) (fun K hK => ?_)
            go_simp
            go_at_call 31
            refine (CT.out _ HB1.out).mono ?_
            rintro e w2 ⟨rfl, hb2⟩
            have HT2 := Lib.hid (HT1.out.far (hb2.mono HZ1.out) HPO.out)
            have HO2 := Lib.hid (owns_below HO1.out hb2)
            have HB2 := Lib.hid (bel_c HB1.out (Nat.le_refl _) hb2)
            have HZ2 : Hid (w1.heap.size + 1 ≤ w2.heap.size) := Lib.hid (Nat.le_trans HZ1.out hb2.size)
            have HS := Lib.hid (KP.out _ _ (hb2.mono (Nat.le_trans HPO1.out HZ1.out)) hS)
            clear hb2
            refine hK.out _ _ HS.out (fun hS' => ?_)
            clear HS
            clear hK K
            replace hS := hS'
            clear hS'
            (try simp only [Act.put, List.setIfInBounds_toArray, List.set_cons_zero, List.set_cons_succ])
            refine reg_call 9 rfl (by kernel_rfl) (by rfl) (fun K hK => ?_)
            have hbb := bel0 w2 (.cells #[.int .i64 z.s, .int .i64 z.a, .int .i64 z.b] 50)
            have HT3 := Lib.hid (HT2.out.far (hbb.mono HZ2.out) HPO.out)
            have HO3 := Lib.hid (owns_below HO2.out hbb)
            have HB3 := Lib.hid (bel_c HB2.out (Nat.le_refl _) hbb)
            have HZ3 : Hid (w1.heap.size + 1 ≤ (w2.alloc (.cells #[.int .i64 z.s, .int .i64 z.a, .int .i64 z.b] 50)).heap.size) := Lib.hid (Nat.le_trans HZ2.out hbb.size)
            have HS := Lib.hid (KP.out _ _ (hbb.mono (Nat.le_trans HPO1.out HZ2.out)) hS)
            clear hbb
            go_simp
            refine hK.out _ _ HS.out (fun hS' => ?_)
            clear HS
            clear hK K
            replace hS := hS'
            clear hS'
            (try simp only [Act.put, List.setIfInBounds_toArray, List.set_cons_zero, List.set_cons_succ])
            refine reg_call 10 rfl (by kernel_rfl) (by rfl) (fun K hK => ?_)
            refine wp_append_lies _ _ _ _ rfl (w1.heap.size + 1) 50 i0 _ 3 24 Tryz.underlying24 hi0 hz0 hz1 hz2 rfl (by omega) v k _ rfl HO3.out ⟨w2.heap.size, 0, none⟩ 1 1 [.int .i64 z.s, .int .i64 z.a, .int .i64 z.b] rfl rfl (news3 w2 z) (by simp [Value.oneCell']) (by omega) (by unfold maxLen; omega) (by omega) HZ3.out _ rfl ?_
            intro gg cc w4 hown4 hgrow hat hlt4
            have hbw := (Below.refl (w1.heap.size + 1) _).grown hgrow HZ3.out (own_ge3 HO3.out)
            have HT4 := Lib.hid (HT3.out.far hbw HPO.out)
            have HB4 := Lib.hid (HB3.out.trans (hbw.mono HPO2.out))
            have HZ4 : Hid (w1.heap.size + 1 ≤ w4.heap.size) := Lib.hid (Nat.le_trans HZ3.out hbw.size)
            have HO4 := Lib.hid hown4
            have HS := Lib.hid (KP.out _ _ (hbw.mono HPO1.out) hS)
            clear hown4 hgrow hat hlt4 hbw
            refine hK.out _ _ HS.out (fun hS' => ?_)
            clear HS
            clear hK K
            replace hS := hS'
            clear hS'
            (try simp only [Act.put, List.setIfInBounds_toArray, List.set_cons_zero, List.set_cons_succ])
            refine reg_take 11 (v := ?_) rfl (by kernel_rfl) (by kernel_rfl) (by kernel_rfl) (fun _ _ _ h => h) (by rfl) (by intro w hSw; (try dsimp only at hSw); go_simp; first | done | with_reducible rfl) hS ?_
            (try simp only [Act.put, List.setIfInBounds_toArray, List.set_cons_zero, List.set_cons_succ])
            refine reg_call 12 rfl (by kernel_rfl) (by rfl) (fun K hK => ?_)
            have q := HT4.out.1
            have q2 := HT4.out.2.2.1
            have HS := Lib.hid (KP.out w4 (w4.setCell ⟨w1.heap.size, 1, none⟩ (.slice (some ⟨gg, 0, none⟩) (k + 1) cc)) ((Below.refl _ _).setCell (by have := HPO1.out; show _ ≤ w1.heap.size; have := HPO.out; omega) _) hS)
            go_simp
            refine hK.out _ _ HS.out (fun hS' => ?_)
            clear HS hS' hK K q q2
            (try simp only [Act.put, List.setIfInBounds_toArray, List.set_cons_zero, List.set_cons_succ])
            refine wpAnyH_done (by kernel_rfl) ?_ _
            have HT5 := Lib.hid (HT4.out.store HPO.out (.slice (some ⟨gg, 0, none⟩) (k + 1) cc))
            have HB5 := Lib.hid (Below.setCell HB4.out (p := ⟨w1.heap.size, 1, none⟩) (by show _ ≤ w1.heap.size; have := HPO.out; omega) (.slice (some ⟨gg, 0, none⟩) (k + 1) cc))
            have HO5 := Lib.hid (owns_set (p := ⟨w1.heap.size, 1, none⟩) HO4.out (by show w1.heap.size < w1.heap.size + 1; omega) (.slice (some ⟨gg, 0, none⟩) (k + 1) cc))
            rw [HNX.out] at HO5
            go_wp2_with fail
            go_roundw
            case rel => exact ⟨k + 1, _, by omega, by go_num, HO5, HT5, HB5, by simp [World.setCell]; exact HZ4.out⟩
            case measure => simp [intOf] <;> omega
          · go_simp
            go_at_call 31
            refine (CT.out _ HB1.out).mono ?_
            rintro e w2 ⟨rfl, hb2⟩
            have HT2 := Lib.hid (HT1.out.far (hb2.mono HZ1.out) HPO.out)
            have HO2 := Lib.hid (owns_below HO1.out hb2)
            have HB2 := Lib.hid (bel_c HB1.out (Nat.le_refl _) hb2)
            have HZ2 : Hid (w1.heap.size + 1 ≤ w2.heap.size) := Lib.hid (Nat.le_trans HZ1.out hb2.size)
            have HS := Lib.hid (KP.out _ _ (hb2.mono (Nat.le_trans HPO1.out HZ1.out)) hS)
            clear hb2
            refine hK.out _ _ HS.out (fun hS' => ?_)
            clear HS
            clear hK K
            replace hS := hS'
            clear hS'
            (try simp only [Act.put, List.setIfInBounds_toArray, List.set_cons_zero, List.set_cons_succ])
            refine reg_pair 1 9 rfl rfl (by kernel_rfl) (by rfl) (by rfl) (fun K hK => ?_) (fun K hK => ?_)
            · have q := HT2.out.1
              go_simp
              refine hK.out _ _ hS (fun hS' => ?_)
              clear hK K
              replace hS := hS'
              clear hS'
              (try simp only [Act.put, List.setIfInBounds_toArray, List.set_cons_zero, List.set_cons_succ])
              clear q
              refine reg_call 9 rfl (by kernel_rfl) (by rfl) (fun K hK => ?_)
              have hbb := bel0 w2 (.cells #[.int .i64 z.s, .int .i64 z.a, .int .i64 z.b] 50)
              have HT3 := Lib.hid (HT2.out.far (hbb.mono HZ2.out) HPO.out)
              have HO3 := Lib.hid (owns_below HO2.out hbb)
              have HB3 := Lib.hid (bel_c HB2.out (Nat.le_refl _) hbb)
              have HZ3 : Hid (w1.heap.size + 1 ≤ (w2.alloc (.cells #[.int .i64 z.s, .int .i64 z.a, .int .i64 z.b] 50)).heap.size) := Lib.hid (Nat.le_trans HZ2.out hbb.size)
              have HS := Lib.hid (KP.out _ _ (hbb.mono (Nat.le_trans HPO1.out HZ2.out)) hS)
              clear hbb
              go_simp
              refine hK.out _ _ HS.out (fun hS' => ?_)
              clear HS
              clear hK K
              replace hS := hS'
              clear hS'
              (try simp only [Act.put, List.setIfInBounds_toArray, List.set_cons_zero, List.set_cons_succ])
              refine reg_call 10 rfl (by kernel_rfl) (by rfl) (fun K hK => ?_)
              refine wp_append_lies _ _ _ _ rfl (w1.heap.size + 1) 50 i0 _ 3 24 Tryz.underlying24 hi0 hz0 hz1 hz2 rfl (by omega) v k _ rfl HO3.out ⟨w2.heap.size, 0, none⟩ 1 1 [.int .i64 z.s, .int .i64 z.a, .int .i64 z.b] rfl rfl (news3 w2 z) (by simp [Value.oneCell']) (by omega) (by unfold maxLen; omega) (by omega) HZ3.out _ rfl ?_
              intro gg cc w4 hown4 hgrow hat hlt4
              have hbw := (Below.refl (w1.heap.size + 1) _).grown hgrow HZ3.out (own_ge3 HO3.out)
              have HT4 := Lib.hid (HT3.out.far hbw HPO.out)
              have HB4 := Lib.hid (HB3.out.trans (hbw.mono HPO2.out))
              have HZ4 : Hid (w1.heap.size + 1 ≤ w4.heap.size) := Lib.hid (Nat.le_trans HZ3.out hbw.size)
              have HO4 := Lib.hid hown4
              have HS := Lib.hid (KP.out _ _ (hbw.mono HPO1.out) hS)
              clear hown4 hgrow hat hlt4 hbw
              refine hK.out _ _ HS.out (fun hS' => ?_)
              clear HS
              clear hK K
              replace hS := hS'
              clear hS'
              (try simp only [Act.put, List.setIfInBounds_toArray, List.set_cons_zero, List.set_cons_succ])
              refine reg_take 11 (v := ?_) rfl (by kernel_rfl) (by kernel_rfl) (by kernel_rfl) (fun _ _ _ h => h) (by rfl) (by intro w hSw; (try dsimp only at hSw); go_simp; first | done | with_reducible rfl) hS ?_
              (try simp only [Act.put, List.setIfInBounds_toArray, List.set_cons_zero, List.set_cons_succ])
              refine reg_call 12 rfl (by kernel_rfl) (by rfl) (fun K hK => ?_)
              have q := HT4.out.1
              have q2 := HT4.out.2.2.1
              have HS := Lib.hid (KP.out w4 (w4.setCell ⟨w1.heap.size, 1, none⟩ (.slice (some ⟨gg, 0, none⟩) (k + 1) cc)) ((Below.refl _ _).setCell (by have := HPO1.out; show _ ≤ w1.heap.size; have := HPO.out; omega) _) hS)
              go_simp
              refine hK.out _ _ HS.out (fun hS' => ?_)
              clear HS hS' hK K q q2
              (try simp only [Act.put, List.setIfInBounds_toArray, List.set_cons_zero, List.set_cons_succ])
              refine wpAnyH_done (by kernel_rfl) ?_ _
              have HT5 := Lib.hid (HT4.out.store HPO.out (.slice (some ⟨gg, 0, none⟩) (k + 1) cc))
              have HB5 := Lib.hid (Below.setCell HB4.out (p := ⟨w1.heap.size, 1, none⟩) (by show _ ≤ w1.heap.size; have := HPO.out; omega) (.slice (some ⟨gg, 0, none⟩) (k + 1) cc))
              have HO5 := Lib.hid (owns_set (p := ⟨w1.heap.size, 1, none⟩) HO4.out (by show w1.heap.size < w1.heap.size + 1; omega) (.slice (some ⟨gg, 0, none⟩) (k + 1) cc))
              rw [HNX.out] at HO5
              go_wp2_with fail
              go_roundw
              case rel => exact ⟨k + 1, _, by omega, by go_num, HO5, HT5, HB5, by simp [World.setCell]; exact HZ4.out⟩
              case measure => simp [intOf] <;> omega
            · have hbb := bel0 w2 (.cells #[.int .i64 z.s, .int .i64 z.a, .int .i64 z.b] 50)
              have HT3 := Lib.hid (HT2.out.far (hbb.mono HZ2.out) HPO.out)
              have HO3 := Lib.hid (owns_below HO2.out hbb)
              have HB3 := Lib.hid (bel_c HB2.out (Nat.le_refl _) hbb)
              have HZ3 : Hid (w1.heap.size + 1 ≤ (w2.alloc (.cells #[.int .i64 z.s, .int .i64 z.a, .int .i64 z.b] 50)).heap.size) := Lib.hid (Nat.le_trans HZ2.out hbb.size)
              have HS := Lib.hid (KP.out _ _ (hbb.mono (Nat.le_trans HPO1.out HZ2.out)) hS)
              clear hbb
              go_simp
              refine hK.out _ _ HS.out (fun hS' => ?_)
              clear HS
              clear hK K
              replace hS := hS'
              clear hS'
              (try simp only [Act.put, List.setIfInBounds_toArray, List.set_cons_zero, List.set_cons_succ])
              refine reg_call 1 rfl (by kernel_rfl) (by rfl) (fun K hK => ?_)
              have q := HT3.out.1
              go_simp
              refine hK.out _ _ hS (fun hS' => ?_)
              clear hK K
              replace hS := hS'
              clear hS'
              (try simp only [Act.put, List.setIfInBounds_toArray, List.set_cons_zero, List.set_cons_succ])
              clear q
              refine reg_call 10 rfl (by kernel_rfl) (by rfl) (fun K hK => ?_)
              refine wp_append_lies _ _ _ _ rfl (w1.heap.size + 1) 50 i0 _ 3 24 Tryz.underlying24 hi0 hz0 hz1 hz2 rfl (by omega) v k _ rfl HO3.out ⟨w2.heap.size, 0, none⟩ 1 1 [.int .i64 z.s, .int .i64 z.a, .int .i64 z.b] rfl rfl (news3 w2 z) (by simp [Value.oneCell']) (by omega) (by unfold maxLen; omega) (by omega) HZ3.out _ rfl ?_
              intro gg cc w4 hown4 hgrow hat hlt4
              have hbw := (Below.refl (w1.heap.size + 1) _).grown hgrow HZ3.out (own_ge3 HO3.out)
              have HT4 := Lib.hid (HT3.out.far hbw HPO.out)
              have HB4 := Lib.hid (HB3.out.trans (hbw.mono HPO2.out))
              have HZ4 : Hid (w1.heap.size + 1 ≤ w4.heap.size) := Lib.hid (Nat.le_trans HZ3.out hbw.size)
              have HO4 := Lib.hid hown4
              have HS := Lib.hid (KP.out _ _ (hbw.mono HPO1.out) hS)
              clear hown4 hgrow hat hlt4 hbw
              refine hK.out _ _ HS.out (fun hS' => ?_)
              clear HS
              clear hK K
              replace hS := hS'
              clear hS'
              (try simp only [Act.put, List.setIfInBounds_toArray, List.set_cons_zero, List.set_cons_succ])
              refine reg_take 11 (v := ?_) rfl (by kernel_rfl) (by kernel_rfl) (by kernel_rfl) (fun _ _ _ h => h) (by rfl) (by intro w hSw; (try dsimp only at hSw); go_simp; first | done | with_reducible rfl) hS ?_
              (try simp only [Act.put, List.setIfInBounds_toArray, List.set_cons_zero, List.set_cons_succ])
              refine reg_call 12 rfl (by kernel_rfl) (by rfl) (fun K hK => ?_)
              have q := HT4.out.1
              have q2 := HT4.out.2.2.1
              have HS := Lib.hid (KP.out w4 (w4.setCell ⟨w1.heap.size, 1, none⟩ (.slice (some ⟨gg, 0, none⟩) (k + 1) cc)) ((Below.refl _ _).setCell (by have := HPO1.out; show _ ≤ w1.heap.size; have := HPO.out; omega) _) hS)
              go_simp
              refine hK.out _ _ HS.out (fun hS' => ?_)
              clear HS hS' hK K q q2
              (try simp only [Act.put, List.setIfInBounds_toArray, List.set_cons_zero, List.set_cons_succ])
              refine wpAnyH_done (by kernel_rfl) ?_ _
              have HT5 := Lib.hid (HT4.out.store HPO.out (.slice (some ⟨gg, 0, none⟩) (k + 1) cc))
              have HB5 := Lib.hid (Below.setCell HB4.out (p := ⟨w1.heap.size, 1, none⟩) (by show _ ≤ w1.heap.size; have := HPO.out; omega) (.slice (some ⟨gg, 0, none⟩) (k + 1) cc))
              have HO5 := Lib.hid (owns_set (p := ⟨w1.heap.size, 1, none⟩) HO4.out (by show w1.heap.size < w1.heap.size + 1; omega) (.slice (some ⟨gg, 0, none⟩) (k + 1) cc))
              rw [HNX.out] at HO5
              go_wp2_with fail
              go_roundw
              case rel => exact ⟨k + 1, _, by omega, by go_num, HO5, HT5, HB5, by simp [World.setCell]; exact HZ4.out⟩
              case measure => simp [intOf] <;> omega
        · obtain rfl : k = xs.length := by omega
          obtain ⟨q1, q0, f1, p0, p1, d0, d1, g0, g1⟩ := hcs.out
          have hown' := hown.out
          rw [List.take_length] at hown'
          have hin : CellIn (w1.heap.size + 1) wr.heap.size wr v (exL zs xs) := CellIn.of_owns (by rw [exL_length]; exact hown') (by rw [exL_length]; omega)
          obtain ⟨av, cv, hv⟩ := hin.form
          subst hv
          have HI := Lib.hid hin
          have HPW := Lib.hid (by have := HPO.out; exact (⟨by omega, by omega⟩ : w.heap.size + 1 < w1.heap.size ∧ w.heap.size ≤ w1.heap.size + 1))
          clear hin hown hown' hcs
          go_wp2_with fail
          refine bodyPost_ret (v := .tuple #[.agg #[.int .i64 n, .slice av (exL zs xs).length cv], .bool true]) (by simp [results, Tryz.results11, go_sem, d0, d1]) rfl ⟨_, rfl, ?_, ?_⟩
          · refine CellIn.wide (lo := w1.heap.size + 1) (hi := wr.heap.size) ?_ HPW.out.2 (by simp [World.setCell])
            refine CellIn.set_far (CellIn.set_far HI.out ?_ _) ?_ _ <;> (have := HPW.out.1; simp <;> omega)
          · refine Below.setCell (Below.setCell hbel.out ?_ _) ?_ _ <;> (simp <;> omega)
    · have HL := Lib.hid hz
      obtain ⟨e1, e2⟩ := exA_no (n := n) (xs := xs) (fun h => hz h.2)
      rw [e1, e2]
      clear hb hz e1 e2
      go_enter Tryz.func11, Tryz.ntmps11
      go_wp2_with fail
      refine (SpecBlockOk_yes lo hi n _ xs _ (HR.out _ (bel_n (bel0 w _) (Nat.le_refl _) _)) (by simp; omega) HB.out).mono ?_
      rintro e w1 ⟨rfl, hb1⟩
      have p0 := kept (p := ⟨w.heap.size, 0, none⟩) (x := .int .i64 n) hb1 (by go_simp)
      have p1 := kept (p := ⟨w.heap.size, 1, none⟩) (x := .slice a xs.length cap) hb1 (by go_simp)
      have d0 := kept (p := ⟨w.heap.size + 1, 0, none⟩) (x := .int .i64 0) hb1 (by go_simp)
      have d1 := kept (p := ⟨w.heap.size + 1, 1, none⟩) (x := .slice none 0 0) hb1 (by go_simp)
      have g0 := keptF (p := ⟨w.heap.size + 1, 0, none⟩) (x := .int .i64 0) hb1 (by go_simp) (by go_simp)
      have g1 := keptF (p := ⟨w.heap.size + 1, 1, none⟩) (x := .slice none 0 0) hb1 (by go_simp) (by go_simp)
      have HB1 := Lib.hid (bel_c (bel_n (bel0 w (.cells #[.int .i64 n, .slice a xs.length cap] 26)) (Nat.le_refl _) (.cells #[.int .i64 0, .slice none 0 0] 26)) (Nat.le_refl _) hb1)
      have HPO : Hid (w.heap.size + 1 < w1.heap.size) := Lib.hid (by have := hb1.size; simp at this; omega)
      clear hb1
      go_wp2_with fail
      refine (SpecListOk_any lo2 hi2 _ zs _ (HRL.out _ HB1.out)).mono ?_
      rw [← lst_no HL.out]
      rintro e w' ⟨rfl, hw⟩
      have hw' := hw.symm
      subst hw'
      clear hw
      go_wp2_with fail
      refine (SpecCopy_any lo hi n _ xs _ (HR.out _ HB1.out) (Nat.le_trans hhi HB1.out.size)).mono ?_
      rintro e w2 ⟨v2, rfl, hin2, hb2⟩
      obtain ⟨a2, c2, rfl⟩ := hin2.form
      have HI := Lib.hid hin2
      have HB2 := Lib.hid (bel_c HB1.out (Nat.le_refl _) hb2)
      have q0 := kept (p := ⟨w.heap.size + 1, 0, none⟩) hb2 d0
      have q1 := kept (p := ⟨w.heap.size + 1, 1, none⟩) hb2 d1
      have r0 := keptF (p := ⟨w.heap.size + 1, 0, none⟩) hb2 d0 g0
      have r1 := keptF (p := ⟨w.heap.size + 1, 1, none⟩) hb2 d1 g1
      clear hin2 hb2 d0 d1 g0 g1 p0 p1
      go_wp2_with fail
      refine bodyPost_ret (v := .tuple #[.agg #[.int .i64 n, .slice a2 xs.length c2], .bool false]) (by simp [results, Tryz.results11, go_sem, q0, q1]) rfl ⟨_, rfl, ?_, ?_⟩
      · refine CellIn.wide (lo := w1.heap.size) (hi := w2.heap.size) ?_ (by have := HB1.out.size; omega) (by simp [World.setCell])
        refine CellIn.set_far (CellIn.set_far HI.out ?_ _) ?_ _ <;> (have := HPO.out; simp <;> omega)
      · refine Below.setCell (Below.setCell HB2.out ?_ _) ?_ _ <;> (simp <;> omega)
  · have HB := Lib.hid hb
    obtain ⟨e1, e2⟩ := exA_no (n := n) (zs := zs) (fun h => hb h.1)
    rw [e1, e2]
    clear hb e1 e2
    go_enter Tryz.func11, Tryz.ntmps11
    go_wp2_with fail
    refine (SpecBlockOk_no lo hi n _ xs _ (HR.out _ (bel_n (bel0 w _) (Nat.le_refl _) _)) (by simp; omega) HB.out).mono ?_
    rintro e w1 ⟨rfl, hb1⟩
    have p0 := kept (p := ⟨w.heap.size, 0, none⟩) (x := .int .i64 n) hb1 (by go_simp)
    have p1 := kept (p := ⟨w.heap.size, 1, none⟩) (x := .slice a xs.length cap) hb1 (by go_simp)
    have d0 := kept (p := ⟨w.heap.size + 1, 0, none⟩) (x := .int .i64 0) hb1 (by go_simp)
    have d1 := kept (p := ⟨w.heap.size + 1, 1, none⟩) (x := .slice none 0 0) hb1 (by go_simp)
    have g0 := keptF (p := ⟨w.heap.size + 1, 0, none⟩) (x := .int .i64 0) hb1 (by go_simp) (by go_simp)
    have g1 := keptF (p := ⟨w.heap.size + 1, 1, none⟩) (x := .slice none 0 0) hb1 (by go_simp) (by go_simp)
    have HB1 := Lib.hid (bel_c (bel_n (bel0 w (.cells #[.int .i64 n, .slice a xs.length cap] 26)) (Nat.le_refl _) (.cells #[.int .i64 0, .slice none 0 0] 26)) (Nat.le_refl _) hb1)
    have HPO : Hid (w.heap.size + 1 < w1.heap.size) := Lib.hid (by have := hb1.size; simp at this; omega)
    clear hb1
    go_wp2_with fail
    refine (SpecCopy_any lo hi n _ xs _ (HR.out _ HB1.out) (Nat.le_trans hhi HB1.out.size)).mono ?_
    rintro e w2 ⟨v2, rfl, hin2, hb2⟩
    obtain ⟨a2, c2, rfl⟩ := hin2.form
    have HI := Lib.hid hin2
    have HB2 := Lib.hid (bel_c HB1.out (Nat.le_refl _) hb2)
    have q0 := kept (p := ⟨w.heap.size + 1, 0, none⟩) hb2 d0
    have q1 := kept (p := ⟨w.heap.size + 1, 1, none⟩) hb2 d1
    have r0 := keptF (p := ⟨w.heap.size + 1, 0, none⟩) hb2 d0 g0
    have r1 := keptF (p := ⟨w.heap.size + 1, 1, none⟩) hb2 d1 g1
    clear hin2 hb2 d0 d1 g0 g1 p0 p1
    go_wp2_with fail
    refine bodyPost_ret (v := .tuple #[.agg #[.int .i64 n, .slice a2 xs.length c2], .bool false]) (by simp [results, Tryz.results11, go_sem, q0, q1]) rfl ⟨_, rfl, ?_, ?_⟩
    · refine CellIn.wide (lo := w1.heap.size) (hi := w2.heap.size) ?_ (by have := HB1.out.size; omega) (by simp [World.setCell])
      refine CellIn.set_far (CellIn.set_far HI.out ?_ _) ?_ _ <;> (have := HPO.out; simp <;> omega)
    · refine Below.setCell (Below.setCell HB2.out ?_ _) ?_ _ <;> (simp <;> omega)

end Go.Proofs.YtfidnhhlcdbaeaaGreatDoor
