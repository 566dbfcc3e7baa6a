/- Exchanges: the model's ExchangeCell. Cells: the program's WholeCell. Cells: the program's SplitCell. Exchanges: the program's ExchangeCell. -/
import Derived.Test.YtbnokmlmajcibaaM06
import Derived.Test.YtbnokmlmajcibaaM12
import Derived.Test.YtbnokmlmajcibaaM10
import Derived.Test.YtbnokmlmajcibaaM03

namespace Go.Proofs.Ytbnokmlmajcibaa
open Go.ChangeShapes Go.WideShapes Go.ChangeAt Go.RowKit

theorem bel_set3 (u : World) (p : Nat) (x y z : Value) : Below p u (((u.setCell ⟨p, 0, none⟩ x).setCell ⟨p, 1, none⟩ y).setCell ⟨p, 2, none⟩ z) := (((Below.refl p u).setCell (p := ⟨p, 0, none⟩) (Nat.le_refl _) x).setCell (p := ⟨p, 1, none⟩) (Nat.le_refl _) y).setCell (p := ⟨p, 2, none⟩) (Nat.le_refl _) z
set_option maxRecDepth 100000 in
set_option maxHeartbeats 2000000 in
theorem SpecExchangeCell_any (lo hi : Nat) (s a b : Int) (v : Value) (zs : List Int) (w : World) (r : IntO lo hi w v zs) (hhi : hi ≤ w.heap.size) :
    Calls Try.prog 96 #[.agg #[.int .i64 s, .int .i64 a, .int .i64 b], v] w fun e w' => e = .returned (.agg #[.int .i64 (exZ zs ⟨s, a, b⟩).s, .int .i64 (exZ zs ⟨s, a, b⟩).a, .int .i64 (exZ zs ⟨s, a, b⟩).b]) ∧ Below w.heap.size w w' := by
  obtain ⟨al, cap, rfl⟩ := r.form
  have HR := Lib.hid (fun W (hb : Below w.heap.size w W) => r.below (hb.mono hhi))
  have hl := r.1
  clear r
  have HK := Lib.hid (SpecTurnCell_keep s a b w)
  by_cases hc : OkC s a b
  · have HC := Lib.hid hc
    by_cases hz : LstOk zs
    · have HL := Lib.hid hz
      have hl6 : zs.length ≤ 6 := by rw [hz.1]; exact Nat.le_refl _
      have hl6' : 6 ≤ zs.length := by rw [hz.1]; exact Nat.le_refl _
      rw [exZ_yes (c := ⟨s, a, b⟩) hc hz]
      obtain ⟨sp1, sp2, sp3⟩ := sp_exC (c := ⟨s, a, b⟩) hz hc
      have ha : 0 ≤ a ∧ a ≤ 5 := by unfold OkC at hc; omega
      have hb5 : 0 ≤ b ∧ b ≤ 5 := by unfold OkC at hc; omega
      obtain ⟨i, rfl⟩ : ∃ i : Nat, a = i := ⟨a.toNat, by omega⟩
      obtain ⟨j, rfl⟩ : ∃ j : Nat, b = j := ⟨b.toNat, by omega⟩
      have CS := Lib.hid (fun u => SpecSplit_any s (zs.getD i 0) (zs.getD j 0) u)
      dsimp only [atL, Int.toNat_natCast] at sp1 sp2 sp3
      rw [sp1, sp2, sp3] at CS
      clear sp1 sp2 sp3 hc hz
      generalize exC zs ⟨s, i, j⟩ = z at CS ⊢
      have hi5 : i < 6 := by omega
      have hj5 : j < 6 := by omega
      go_enter Try.func96, Try.ntmps96
      go_wp2_with fail
      refine (SpecOk_yes _ _ _ _ HC.out).mono ?_
      rintro e w1 ⟨rfl, hb⟩
      obtain ⟨⟨c0, c1, c2⟩, ⟨d0, d1, d2⟩, ⟨f0, f1, f2⟩, B⟩ := HK.out w1 hb
      clear hb HK
      go_wp2_with fail
      refine (SpecListOk_any lo hi _ zs _ (HR.out _ B)).mono ?_
      rw [← lst_yes HL.out]
      rintro e w' ⟨rfl, hw⟩
      have hw' := hw.symm
      subst hw'
      clear hw
      obtain ⟨g, o, rfl, hg1, hg2, e0, _⟩ := (HR.out _ B).at (Below.refl _ _) (i := i) (by omega)
      obtain ⟨g2, o2, hge, _, _, e1, _⟩ := (HR.out _ B).at (Below.refl _ _) (i := j) (by omega)
      simp only [Option.some.injEq, Addr.mk.injEq, and_true] at hge
      obtain ⟨rfl, rfl⟩ := hge
      generalize zs.getD i 0 = x at e0 CS
      generalize zs.getD j 0 = y at e1 CS
      have hil : (i : Int) < (zs.length : Int) := by omega
      have hjl : (j : Int) < (zs.length : Int) := by omega
      have hS0 : Hid (w1.drew.cell? ⟨w.heap.size, 0, none⟩ = some (.int .i64 s) ∧ w1.drew.cell? ⟨w.heap.size, 1, none⟩ = some (.int .i64 (i : Nat)) ∧ w1.drew.cell? ⟨w.heap.size, 2, none⟩ = some (.int .i64 (j : Nat)) ∧ w1.drew.cell? ⟨g, o + i, none⟩ = some (.int .i64 x) ∧ w1.drew.cell? ⟨g, o + j, none⟩ = some (.int .i64 y)) := Lib.hid ⟨c0, c1, c2, e0, e1⟩
      have HB := Lib.hid (bel_draw B)
      have KP : Hid (∀ u v, Below (w.heap.size + 1) u v → (u.cell? ⟨w.heap.size, 0, none⟩ = some (.int .i64 s) ∧ u.cell? ⟨w.heap.size, 1, none⟩ = some (.int .i64 (i : Nat)) ∧ u.cell? ⟨w.heap.size, 2, none⟩ = some (.int .i64 (j : Nat)) ∧ u.cell? ⟨g, o + i, none⟩ = some (.int .i64 x) ∧ u.cell? ⟨g, o + j, none⟩ = some (.int .i64 y)) → (v.cell? ⟨w.heap.size, 0, none⟩ = some (.int .i64 s) ∧ v.cell? ⟨w.heap.size, 1, none⟩ = some (.int .i64 (i : Nat)) ∧ v.cell? ⟨w.heap.size, 2, none⟩ = some (.int .i64 (j : Nat)) ∧ v.cell? ⟨g, o + i, none⟩ = some (.int .i64 x) ∧ v.cell? ⟨g, o + j, none⟩ = some (.int .i64 y))) := Lib.hid (fun u v hb h => ⟨(hb.cell (p := ⟨w.heap.size, 0, none⟩) (Nat.lt_succ_self _)).trans h.1, (hb.cell (p := ⟨w.heap.size, 1, none⟩) (Nat.lt_succ_self _)).trans h.2.1, (hb.cell (p := ⟨w.heap.size, 2, none⟩) (Nat.lt_succ_self _)).trans h.2.2.1, (hb.cell (p := ⟨g, o + i, none⟩) (by show g < _; omega)).trans h.2.2.2.1, (hb.cell (p := ⟨g, o + j, none⟩) (by show g < _; omega)).trans h.2.2.2.2⟩)
      have HD := Lib.hid (⟨⟨d0, d1, d2⟩, f0, f1, f2⟩ : (_ ∧ _ ∧ _) ∧ _ ∧ _ ∧ _)
      have hsz : w.heap.size + 1 ≤ w1.drew.heap.size := by have := lt_of_cell d0; simp at this; show _ ≤ w1.heap.size; omega
      clear c0 c1 c2 e0 e1 d0 d1 d2 f0 f1 f2 B
      go_wp2_with fail
      (try simp only [List.append_eq, List.cons_append, List.nil_append])
      have hS := hS0.out
      clear hS0
      refine reg_begin (fun u => u.cell? ⟨w.heap.size, 0, none⟩ = some (.int .i64 s) ∧ u.cell? ⟨w.heap.size, 1, none⟩ = some (.int .i64 (i : Nat)) ∧ u.cell? ⟨w.heap.size, 2, none⟩ = some (.int .i64 (j : Nat)) ∧ u.cell? ⟨g, o + i, none⟩ = some (.int .i64 x) ∧ u.cell? ⟨g, o + j, none⟩ = some (.int .i64 y)) (by kernel_rfl) hS ?_
      refine reg_take 0 (v := ?_) rfl (by kernel_rfl) (by kernel_rfl) (by kernel_rfl) (fun _ _ _ h => h) (by rfl) (by intro w hSw; (try dsimp only at hSw); go_simp; first | done | with_reducible rfl) hS ?_
      (try simp only [Act.put, List.setIfInBounds_toArray, List.set_cons_zero, List.set_cons_succ])
      refine reg_take 1 (v := ?_) rfl (by kernel_rfl) (by kernel_rfl) (by kernel_rfl) (fun _ _ _ h => h) (by rfl) (by intro w hSw; (try dsimp only at hSw); go_simp; first | done | with_reducible rfl) hS ?_
      (try simp only [Act.put, List.setIfInBounds_toArray, List.set_cons_zero, List.set_cons_succ])
      refine reg_take 2 (v := ?_) rfl (by kernel_rfl) (by kernel_rfl) (by kernel_rfl) (fun _ _ _ h => h) (by rfl) (by intro w hSw; (try dsimp only at hSw); go_simp; first | done | with_reducible rfl) hS ?_
      (try simp only [Act.put, List.setIfInBounds_toArray, List.set_cons_zero, List.set_cons_succ])
      refine reg_take 3 (v := ?_) rfl (by kernel_rfl) (by kernel_rfl) (by kernel_rfl) (fun _ _ _ h => h) (by rfl) (by intro w hSw; (try dsimp only at hSw); go_simp; first | done | with_reducible rfl) hS ?_
      (try simp only [Act.put, List.setIfInBounds_toArray, List.set_cons_zero, List.set_cons_succ])
      refine reg_take 4 (v := ?_) rfl (by kernel_rfl) (by kernel_rfl) (by kernel_rfl) (fun _ _ _ h => h) (by rfl) (by intro w hSw; (try dsimp only at hSw); go_simp; first | done | with_reducible rfl) hS ?_
      (try simp only [Act.put, List.setIfInBounds_toArray, List.set_cons_zero, List.set_cons_succ])
      refine reg_take 5 (v := ?_) rfl (by kernel_rfl) (by kernel_rfl) (by kernel_rfl) (fun _ _ _ h => h) (by rfl) (by intro w hSw; (try dsimp only at hSw); go_simp; first | done | with_reducible rfl) hS ?_
      (try simp only [Act.put, List.setIfInBounds_toArray, List.set_cons_zero, List.set_cons_succ])
      refine reg_take 6 (v := ?_) rfl (by kernel_rfl) (by kernel_rfl) (by kernel_rfl) (fun _ _ _ h => h) (by rfl) (by intro w hSw; (try dsimp only at hSw); go_simp; first | done | with_reducible rfl) hS ?_
      (try simp only [Act.put, List.setIfInBounds_toArray, List.set_cons_zero, List.set_cons_succ])
      refine reg_take 7 (v := ?_) rfl (by kernel_rfl) (by kernel_rfl) (by kernel_rfl) (fun _ _ _ h => h) (by rfl) (by intro w hSw; (try dsimp only at hSw); go_simp; first | done | with_reducible rfl) hS ?_
      (try simp only [Act.put, List.setIfInBounds_toArray, List.set_cons_zero, List.set_cons_succ])
      refine reg_take 8 (v := ?_) rfl (by kernel_rfl) (by kernel_rfl) (by kernel_rfl) (fun _ _ _ h => h) (by rfl) (by intro w hSw; (try dsimp only at hSw); go_simp; first | done | with_reducible rfl) hS ?_
      (try simp only [Act.put, List.setIfInBounds_toArray, List.set_cons_zero, List.set_cons_succ])
      refine reg_take 9 (v := ?_) rfl (by kernel_rfl) (by kernel_rfl) (by kernel_rfl) (fun _ _ _ h => h) (by rfl) (by intro w hSw; (try dsimp only at hSw); go_simp; first | done | with_reducible rfl) hS ?_
      (try simp only [Act.put, List.setIfInBounds_toArray, List.set_cons_zero, List.set_cons_succ])
      refine reg_take 10 (v := ?_) rfl (by kernel_rfl) (by kernel_rfl) (by kernel_rfl) (fun _ _ _ h => h) (by rfl) (by intro w hSw; (try dsimp only at hSw); go_simp; first | done | with_reducible rfl) hS ?_
      (try simp only [Act.put, List.setIfInBounds_toArray, List.set_cons_zero, List.set_cons_succ])
      refine reg_take 11 (v := ?_) rfl (by kernel_rfl) (by kernel_rfl) (by kernel_rfl) (fun _ _ _ h => h) (by rfl) (by intro w hSw; (try dsimp only at hSw); go_simp; first | done | with_reducible rfl) hS ?_
      (try simp only [Act.put, List.setIfInBounds_toArray, List.set_cons_zero, List.set_cons_succ])
      refine reg_call 12 rfl (by kernel_rfl) (by rfl) (fun K hK => ?_)
      go_simp
      go_at_call 85
      refine (CS.out _).mono ?_
      rintro e w2 ⟨rfl, hb2⟩
      have HB2 := Lib.hid (bel_c HB.out (Nat.le_refl _) hb2)
      obtain ⟨⟨d0, d1, d2⟩, f0, f1, f2⟩ := HD.out
      have q0 := kept (p := ⟨w.heap.size + 1, 0, none⟩) hb2 d0
      have q1 := kept (p := ⟨w.heap.size + 1, 1, none⟩) hb2 d1
      have q2 := kept (p := ⟨w.heap.size + 1, 2, none⟩) hb2 d2
      have r0 := keptF (p := ⟨w.heap.size + 1, 0, none⟩) hb2 d0 f0
      have r1 := keptF (p := ⟨w.heap.size + 1, 1, none⟩) hb2 d1 f1
      have r2 := keptF (p := ⟨w.heap.size + 1, 2, none⟩) hb2 d2 f2
      have HS := Lib.hid (KP.out _ _ (hb2.mono hsz) hS)
      clear hb2 d0 d1 d2 f0 f1 f2 HD
      refine hK.out _ _ HS.out (fun hS' => ?_)
      clear HS
      clear hK K
      replace hS := hS'
      clear hS'
      (try simp only [Act.put, List.setIfInBounds_toArray, List.set_cons_zero, List.set_cons_succ])
      refine reg_call 13 rfl (by kernel_rfl) (by rfl) (fun K hK => ?_)
      have HS := Lib.hid (KP.out w2 (((w2.setCell ⟨w.heap.size + 1, 0, none⟩ (.int .i64 z.s)).setCell ⟨w.heap.size + 1, 1, none⟩ (.int .i64 z.a)).setCell ⟨w.heap.size + 1, 2, none⟩ (.int .i64 z.b)) (bel_set3 w2 (w.heap.size + 1) _ _ _) hS)
      go_simp
      refine hK.out _ _ HS.out (fun hS' => ?_)
      clear HS hS' hK K hS
      (try simp only [Act.put, List.setIfInBounds_toArray, List.set_cons_zero, List.set_cons_succ])
      refine wpAnyH_done (by kernel_rfl) ?_ _
      go_wp2_with fail
      refine bodyPost_ret (v := .agg #[.int .i64 z.s, .int .i64 z.a, .int .i64 z.b]) (by simp [results, Try.results96, go_sem, q0, q1, q2]) rfl ⟨rfl, ?_⟩
      refine Below.setCell (Below.setCell (Below.setCell HB2.out ?_ _) ?_ _) ?_ _ <;> (simp <;> omega)
    · have HL := Lib.hid hz
      rw [exZ_no (c := ⟨s, a, b⟩) (fun h => hz h.2)]
      clear hc hz
      show Calls _ _ _ _ fun e w' => e = .returned (.agg #[.int .i64 0, .int .i64 0, .int .i64 0]) ∧ _
      go_enter Try.func96, Try.ntmps96
      go_wp2_with fail
      refine (SpecOk_yes _ _ _ _ HC.out).mono ?_
      rintro e w1 ⟨rfl, hb⟩
      obtain ⟨⟨c0, c1, c2⟩, ⟨d0, d1, d2⟩, ⟨f0, f1, f2⟩, B⟩ := HK.out w1 hb
      clear hb HK
      go_wp2_with fail
      refine (SpecListOk_any lo hi _ zs _ (HR.out _ B)).mono ?_
      rw [← lst_no HL.out]
      rintro e w' ⟨rfl, rfl⟩
      go_wp2_with fail
      refine bodyPost_ret (v := .agg #[.int .i64 0, .int .i64 0, .int .i64 0]) (by simp [results, Try.results96, go_sem, d0, d1, d2]) rfl ⟨rfl, ?_⟩
      refine Below.setCell (Below.setCell (Below.setCell B ?_ _) ?_ _) ?_ _ <;> (simp <;> omega)
  · have HC := Lib.hid hc
    rw [exZ_no (c := ⟨s, a, b⟩) (fun h => hc h.1)]
    clear hc
    show Calls _ _ _ _ fun e w' => e = .returned (.agg #[.int .i64 0, .int .i64 0, .int .i64 0]) ∧ _
    go_enter Try.func96, Try.ntmps96
    go_wp2_with fail
    refine (SpecOk_no _ _ _ _ HC.out).mono ?_
    rintro e w1 ⟨rfl, hb⟩
    obtain ⟨⟨c0, c1, c2⟩, ⟨d0, d1, d2⟩, ⟨f0, f1, f2⟩, B⟩ := HK.out w1 hb
    clear hb HK
    go_wp2_with fail
    refine bodyPost_ret (v := .agg #[.int .i64 0, .int .i64 0, .int .i64 0]) (by simp [results, Try.results96, go_sem, d0, d1, d2]) rfl ⟨rfl, ?_⟩
    refine Below.setCell (Below.setCell (Below.setCell B ?_ _) ?_ _) ?_ _ <;> (simp <;> omega)

end Go.Proofs.Ytbnokmlmajcibaa

namespace Go.Proofs.Ytbnokmlmajcibaa
open Go.ChangeShapes Go.WideShapes Go.ChangeAt Go.RowKit

theorem ImplWhole_any (a : Int) (w : World) :
    Calls Try.prog 56 #[.int .i64 a] w fun e w' => e = .returned (.agg #[.int .i64 0, .int .i64 (wh a), .int .i64 (wh a)]) ∧ w' = w.alloc (.cells #[.int .i64 0, .int .i64 (wh a), .int .i64 (wh a)] 58) := by
  by_cases h : 0 ≤ a ∧ a ≤ 5
  · rw [wh_yes h]
    obtain ⟨a0, a1⟩ := h
    go_enter Try.func56, Try.ntmps56
    go_wp2_with (refine (Color_yes _ _ (by assumption) (by assumption)).mono ?_; rintro e w' ⟨rfl, rfl⟩)
    exact bodyPost_ret (v := .agg #[.int .i64 0, .int .i64 a, .int .i64 a]) (by simp [results, Try.results56, go_sem]) rfl ⟨rfl, rfl⟩
  · rw [wh_no h]
    have h' : a < 0 ∨ 5 < a := by omega
    clear h
    go_enter Try.func56, Try.ntmps56
    go_wp2_with (refine (Color_no _ _ (by assumption)).mono ?_; rintro e w' ⟨rfl, rfl⟩)
    exact bodyPost_ret (v := .agg #[.int .i64 0, .int .i64 0, .int .i64 0]) (by simp [results, Try.results56, go_sem]) rfl ⟨rfl, rfl⟩

end Go.Proofs.Ytbnokmlmajcibaa

namespace Go.Proofs.Ytbnokmlmajcibaa
open Go.ChangeShapes Go.WideShapes Go.ChangeAt Go.RowKit

theorem ImplSplit_any (s a b : Int) (w : World) :
    Calls Try.prog 55 #[.int .i64 s, .int .i64 a, .int .i64 b] w fun e w' => e = .returned (.agg #[.int .i64 (spS s a b), .int .i64 (spA s a b), .int .i64 (spB s a b)]) ∧ Below w.heap.size w w' := by
  by_cases h : a = b
  · subst h
    obtain ⟨e1, e2, e3⟩ := sp_same s a
    rw [e1, e2, e3]
    clear e1 e2 e3
    go_enter Try.func55, Try.ntmps55
    go_wp2_with (refine (ImplWhole_any _ _).mono ?_; rintro e w' ⟨rfl, rfl⟩)
    exact bodyPost_ret (v := .agg #[.int .i64 0, .int .i64 (wh a), .int .i64 (wh a)]) (by simp [results, Try.results55, go_sem]) rfl ⟨rfl, ((Below.refl _ _).alloc (Nat.le_refl _) _).alloc (by simp) _⟩
  · by_cases k : OkC s a b
    · obtain ⟨e1, e2, e3⟩ := sp_ok h k
      rw [e1, e2, e3]
      clear e1 e2 e3
      have k' := Lib.hid (decide_eq_true k)
      clear k
      go_enter Try.func55, Try.ntmps55
      go_wp2_with (refine (ImplOk_any _ _ _ _).mono ?_; rw [k'.out]; rintro e w' ⟨rfl, rfl⟩)
      exact bodyPost_ret (v := .agg #[.int .i64 s, .int .i64 a, .int .i64 b]) (by simp [results, Try.results55, go_sem]) rfl ⟨rfl, (((Below.refl _ _).alloc (Nat.le_refl _) _).alloc (by simp) _).alloc (by simp; omega) _⟩
    · obtain ⟨e1, e2, e3⟩ := sp_no h k
      rw [e1, e2, e3]
      clear e1 e2 e3
      have k' := Lib.hid (decide_eq_false k)
      clear k
      go_enter Try.func55, Try.ntmps55
      go_wp2_with (refine (ImplOk_any _ _ _ _).mono ?_; rw [k'.out]; rintro e w' ⟨rfl, rfl⟩)
      exact bodyPost_ret (v := .agg #[.int .i64 0, .int .i64 0, .int .i64 0]) (by simp [results, Try.results55, go_sem]) rfl ⟨rfl, (((Below.refl _ _).alloc (Nat.le_refl _) _).alloc (by simp) _).alloc (by simp; omega) _⟩

end Go.Proofs.Ytbnokmlmajcibaa

namespace Go.Proofs.Ytbnokmlmajcibaa
open Go.ChangeShapes Go.WideShapes Go.ChangeAt Go.RowKit

theorem ImplCOk_yes (s a b : Int) (w : World) (k : OkC s a b) :
    Calls Try.prog 77 #[.agg #[.int .i64 s, .int .i64 a, .int .i64 b]] w fun e w' => e = .returned (.bool true) ∧ Below w.heap.size w w' := by
  refine (ImplOk_any s a b w).mono ?_
  rintro e w' ⟨rfl, rfl⟩
  exact ⟨ret_bool (decide_eq_true k), bel0 _ _⟩
theorem ImplCOk_no (s a b : Int) (w : World) (k : ¬ OkC s a b) :
    Calls Try.prog 77 #[.agg #[.int .i64 s, .int .i64 a, .int .i64 b]] w fun e w' => e = .returned (.bool false) ∧ Below w.heap.size w w' := by
  refine (ImplOk_any s a b w).mono ?_
  rintro e w' ⟨rfl, rfl⟩
  exact ⟨ret_bool (decide_eq_false k), bel0 _ _⟩
set_option maxRecDepth 100000 in
set_option maxHeartbeats 2000000 in
theorem ImplExchangeCell_any (lo hi : Nat) (s a b : Int) (v : Value) (zs : List Int) (w : World) (r : IntO lo hi w v zs) (hhi : hi ≤ w.heap.size) :
    Calls Try.prog 91 #[.agg #[.int .i64 s, .int .i64 a, .int .i64 b], v] w fun e w' => e = .returned (.agg #[.int .i64 (exZ zs ⟨s, a, b⟩).s, .int .i64 (exZ zs ⟨s, a, b⟩).a, .int .i64 (exZ zs ⟨s, a, b⟩).b]) ∧ Below w.heap.size w w' := by
  obtain ⟨al, cap, rfl⟩ := r.form
  have HR := Lib.hid (fun W (hb : Below w.heap.size w W) => r.below (hb.mono hhi))
  have hl := r.1
  clear r
  have HK := Lib.hid (SpecTurnCell_keep s a b w)
  by_cases hc : OkC s a b
  · have HC := Lib.hid hc
    by_cases hz : LstOk zs
    · have HL := Lib.hid hz
      have hl6 : zs.length ≤ 6 := by rw [hz.1]; exact Nat.le_refl _
      have hl6' : 6 ≤ zs.length := by rw [hz.1]; exact Nat.le_refl _
      rw [exZ_yes (c := ⟨s, a, b⟩) hc hz]
      obtain ⟨sp1, sp2, sp3⟩ := sp_exC (c := ⟨s, a, b⟩) hz hc
      have ha : 0 ≤ a ∧ a ≤ 5 := by unfold OkC at hc; omega
      have hb5 : 0 ≤ b ∧ b ≤ 5 := by unfold OkC at hc; omega
      obtain ⟨i, rfl⟩ : ∃ i : Nat, a = i := ⟨a.toNat, by omega⟩
      obtain ⟨j, rfl⟩ : ∃ j : Nat, b = j := ⟨b.toNat, by omega⟩
      have CS := Lib.hid (fun u => ImplSplit_any s (zs.getD i 0) (zs.getD j 0) u)
      dsimp only [atL, Int.toNat_natCast] at sp1 sp2 sp3
      rw [sp1, sp2, sp3] at CS
      clear sp1 sp2 sp3 hc hz
      generalize exC zs ⟨s, i, j⟩ = z at CS ⊢
      have hi5 : i < 6 := by omega
      have hj5 : j < 6 := by omega
      go_enter Try.func91, Try.ntmps91
      go_wp2_with fail
      refine (ImplCOk_yes _ _ _ _ HC.out).mono ?_
      rintro e w1 ⟨rfl, hb⟩
      obtain ⟨⟨c0, c1, c2⟩, ⟨d0, d1, d2⟩, ⟨f0, f1, f2⟩, B⟩ := HK.out w1 hb
      clear hb HK
      go_wp2_with fail
      refine (ImplListOk_eq lo hi _ zs _ (HR.out _ B)).mono ?_
      rw [← lst_yes HL.out]
      rintro e w' ⟨rfl, hw⟩
      have hw' := hw.symm
      subst hw'
      clear hw
      obtain ⟨g, o, rfl, hg1, hg2, e0, _⟩ := (HR.out _ B).at (Below.refl _ _) (i := i) (by omega)
      obtain ⟨g2, o2, hge, _, _, e1, _⟩ := (HR.out _ B).at (Below.refl _ _) (i := j) (by omega)
      simp only [Option.some.injEq, Addr.mk.injEq, and_true] at hge
      obtain ⟨rfl, rfl⟩ := hge
      generalize zs.getD i 0 = x at e0 CS
      generalize zs.getD j 0 = y at e1 CS
      have hil : (i : Int) < (zs.length : Int) := by omega
      have hjl : (j : Int) < (zs.length : Int) := by omega
      have hS0 : Hid (w1.drew.cell? ⟨w.heap.size, 0, none⟩ = some (.int .i64 s) ∧ w1.drew.cell? ⟨w.heap.size, 1, none⟩ = some (.int .i64 (i : Nat)) ∧ w1.drew.cell? ⟨w.heap.size, 2, none⟩ = some (.int .i64 (j : Nat)) ∧ w1.drew.cell? ⟨g, o + i, none⟩ = some (.int .i64 x) ∧ w1.drew.cell? ⟨g, o + j, none⟩ = some (.int .i64 y)) := Lib.hid ⟨c0, c1, c2, e0, e1⟩
      have HB := Lib.hid (bel_draw B)
      have KP : Hid (∀ u v, Below (w.heap.size + 1) u v → (u.cell? ⟨w.heap.size, 0, none⟩ = some (.int .i64 s) ∧ u.cell? ⟨w.heap.size, 1, none⟩ = some (.int .i64 (i : Nat)) ∧ u.cell? ⟨w.heap.size, 2, none⟩ = some (.int .i64 (j : Nat)) ∧ u.cell? ⟨g, o + i, none⟩ = some (.int .i64 x) ∧ u.cell? ⟨g, o + j, none⟩ = some (.int .i64 y)) → (v.cell? ⟨w.heap.size, 0, none⟩ = some (.int .i64 s) ∧ v.cell? ⟨w.heap.size, 1, none⟩ = some (.int .i64 (i : Nat)) ∧ v.cell? ⟨w.heap.size, 2, none⟩ = some (.int .i64 (j : Nat)) ∧ v.cell? ⟨g, o + i, none⟩ = some (.int .i64 x) ∧ v.cell? ⟨g, o + j, none⟩ = some (.int .i64 y))) := Lib.hid (fun u v hb h => ⟨(hb.cell (p := ⟨w.heap.size, 0, none⟩) (Nat.lt_succ_self _)).trans h.1, (hb.cell (p := ⟨w.heap.size, 1, none⟩) (Nat.lt_succ_self _)).trans h.2.1, (hb.cell (p := ⟨w.heap.size, 2, none⟩) (Nat.lt_succ_self _)).trans h.2.2.1, (hb.cell (p := ⟨g, o + i, none⟩) (by show g < _; omega)).trans h.2.2.2.1, (hb.cell (p := ⟨g, o + j, none⟩) (by show g < _; omega)).trans h.2.2.2.2⟩)
      have HD := Lib.hid (⟨⟨d0, d1, d2⟩, f0, f1, f2⟩ : (_ ∧ _ ∧ _) ∧ _ ∧ _ ∧ _)
      have hsz : w.heap.size + 1 ≤ w1.drew.heap.size := by have := lt_of_cell d0; simp at this; show _ ≤ w1.heap.size; omega
      clear c0 c1 c2 e0 e1 d0 d1 d2 f0 f1 f2 B
      go_wp2_with fail
      (try simp only [List.append_eq, List.cons_append, List.nil_append])
      have hS := hS0.out
      clear hS0
      refine reg_begin (fun u => u.cell? ⟨w.heap.size, 0, none⟩ = some (.int .i64 s) ∧ u.cell? ⟨w.heap.size, 1, none⟩ = some (.int .i64 (i : Nat)) ∧ u.cell? ⟨w.heap.size, 2, none⟩ = some (.int .i64 (j : Nat)) ∧ u.cell? ⟨g, o + i, none⟩ = some (.int .i64 x) ∧ u.cell? ⟨g, o + j, none⟩ = some (.int .i64 y)) (by kernel_rfl) hS ?_
      refine reg_take 0 (v := ?_) rfl (by kernel_rfl) (by kernel_rfl) (by kernel_rfl) (fun _ _ _ h => h) (by rfl) (by intro w hSw; (try dsimp only at hSw); go_simp; first | done | with_reducible rfl) hS ?_
      (try simp only [Act.put, List.setIfInBounds_toArray, List.set_cons_zero, List.set_cons_succ])
      refine reg_take 1 (v := ?_) rfl (by kernel_rfl) (by kernel_rfl) (by kernel_rfl) (fun _ _ _ h => h) (by rfl) (by intro w hSw; (try dsimp only at hSw); go_simp; first | done | with_reducible rfl) hS ?_
      (try simp only [Act.put, List.setIfInBounds_toArray, List.set_cons_zero, List.set_cons_succ])
      refine reg_take 2 (v := ?_) rfl (by kernel_rfl) (by kernel_rfl) (by kernel_rfl) (fun _ _ _ h => h) (by rfl) (by intro w hSw; (try dsimp only at hSw); go_simp; first | done | with_reducible rfl) hS ?_
      (try simp only [Act.put, List.setIfInBounds_toArray, List.set_cons_zero, List.set_cons_succ])
      refine reg_take 3 (v := ?_) rfl (by kernel_rfl) (by kernel_rfl) (by kernel_rfl) (fun _ _ _ h => h) (by rfl) (by intro w hSw; (try dsimp only at hSw); go_simp; first | done | with_reducible rfl) hS ?_
      (try simp only [Act.put, List.setIfInBounds_toArray, List.set_cons_zero, List.set_cons_succ])
      refine reg_take 4 (v := ?_) rfl (by kernel_rfl) (by kernel_rfl) (by kernel_rfl) (fun _ _ _ h => h) (by rfl) (by intro w hSw; (try dsimp only at hSw); go_simp; first | done | with_reducible rfl) hS ?_
      (try simp only [Act.put, List.setIfInBounds_toArray, List.set_cons_zero, List.set_cons_succ])
      refine reg_take 5 (v := ?_) rfl (by kernel_rfl) (by kernel_rfl) (by kernel_rfl) (fun _ _ _ h => h) (by rfl) (by intro w hSw; (try dsimp only at hSw); go_simp; first | done | with_reducible rfl) hS ?_
      (try simp only [Act.put, List.setIfInBounds_toArray, List.set_cons_zero, List.set_cons_succ])
      refine reg_take 6 (v := ?_) rfl (by kernel_rfl) (by kernel_rfl) (by kernel_rfl) (fun _ _ _ h => h) (by rfl) (by intro w hSw; (try dsimp only at hSw); go_simp; first | done | with_reducible rfl) hS ?_
      (try simp only [Act.put, List.setIfInBounds_toArray, List.set_cons_zero, List.set_cons_succ])
      refine reg_take 7 (v := ?_) rfl (by kernel_rfl) (by kernel_rfl) (by kernel_rfl) (fun _ _ _ h => h) (by rfl) (by intro w hSw; (try dsimp only at hSw); go_simp; first | done | with_reducible rfl) hS ?_
      (try simp only [Act.put, List.setIfInBounds_toArray, List.set_cons_zero, List.set_cons_succ])
      refine reg_take 8 (v := ?_) rfl (by kernel_rfl) (by kernel_rfl) (by kernel_rfl) (fun _ _ _ h => h) (by rfl) (by intro w hSw; (try dsimp only at hSw); go_simp; first | done | with_reducible rfl) hS ?_
      (try simp only [Act.put, List.setIfInBounds_toArray, List.set_cons_zero, List.set_cons_succ])
      refine reg_take 9 (v := ?_) rfl (by kernel_rfl) (by kernel_rfl) (by kernel_rfl) (fun _ _ _ h => h) (by rfl) (by intro w hSw; (try dsimp only at hSw); go_simp; first | done | with_reducible rfl) hS ?_
      (try simp only [Act.put, List.setIfInBounds_toArray, List.set_cons_zero, List.set_cons_succ])
      refine reg_take 10 (v := ?_) rfl (by kernel_rfl) (by kernel_rfl) (by kernel_rfl) (fun _ _ _ h => h) (by rfl) (by intro w hSw; (try dsimp only at hSw); go_simp; first | done | with_reducible rfl) hS ?_
      (try simp only [Act.put, List.setIfInBounds_toArray, List.set_cons_zero, List.set_cons_succ])
      refine reg_take 11 (v := ?_) rfl (by kernel_rfl) (by kernel_rfl) (by kernel_rfl) (fun _ _ _ h => h) (by rfl) (by intro w hSw; (try dsimp only at hSw); go_simp; first | done | with_reducible rfl) hS ?_
      (try simp only [Act.put, List.setIfInBounds_toArray, List.set_cons_zero, List.set_cons_succ])
      refine reg_call 12 rfl (by kernel_rfl) (by rfl) (fun K hK => ?_)
      go_simp
      go_at_call 55
      refine (CS.out _).mono ?_
      rintro e w2 ⟨rfl, hb2⟩
      have HB2 := Lib.hid (bel_c HB.out (Nat.le_refl _) hb2)
      obtain ⟨⟨d0, d1, d2⟩, f0, f1, f2⟩ := HD.out
      have q0 := kept (p := ⟨w.heap.size + 1, 0, none⟩) hb2 d0
      have q1 := kept (p := ⟨w.heap.size + 1, 1, none⟩) hb2 d1
      have q2 := kept (p := ⟨w.heap.size + 1, 2, none⟩) hb2 d2
      have r0 := keptF (p := ⟨w.heap.size + 1, 0, none⟩) hb2 d0 f0
      have r1 := keptF (p := ⟨w.heap.size + 1, 1, none⟩) hb2 d1 f1
      have r2 := keptF (p := ⟨w.heap.size + 1, 2, none⟩) hb2 d2 f2
      have HS := Lib.hid (KP.out _ _ (hb2.mono hsz) hS)
      clear hb2 d0 d1 d2 f0 f1 f2 HD
      refine hK.out _ _ HS.out (fun hS' => ?_)
      clear HS
      clear hK K
      replace hS := hS'
      clear hS'
      (try simp only [Act.put, List.setIfInBounds_toArray, List.set_cons_zero, List.set_cons_succ])
      refine reg_call 13 rfl (by kernel_rfl) (by rfl) (fun K hK => ?_)
      have HS := Lib.hid (KP.out w2 (((w2.setCell ⟨w.heap.size + 1, 0, none⟩ (.int .i64 z.s)).setCell ⟨w.heap.size + 1, 1, none⟩ (.int .i64 z.a)).setCell ⟨w.heap.size + 1, 2, none⟩ (.int .i64 z.b)) (bel_set3 w2 (w.heap.size + 1) _ _ _) hS)
      go_simp
      refine hK.out _ _ HS.out (fun hS' => ?_)
      clear HS hS' hK K hS
      (try simp only [Act.put, List.setIfInBounds_toArray, List.set_cons_zero, List.set_cons_succ])
      refine wpAnyH_done (by kernel_rfl) ?_ _
      go_wp2_with fail
      refine bodyPost_ret (v := .agg #[.int .i64 z.s, .int .i64 z.a, .int .i64 z.b]) (by simp [results, Try.results91, go_sem, q0, q1, q2]) rfl ⟨rfl, ?_⟩
      refine Below.setCell (Below.setCell (Below.setCell HB2.out ?_ _) ?_ _) ?_ _ <;> (simp <;> omega)
    · have HL := Lib.hid hz
      rw [exZ_no (c := ⟨s, a, b⟩) (fun h => hz h.2)]
      clear hc hz
      show Calls _ _ _ _ fun e w' => e = .returned (.agg #[.int .i64 0, .int .i64 0, .int .i64 0]) ∧ _
      go_enter Try.func91, Try.ntmps91
      go_wp2_with fail
      refine (ImplCOk_yes _ _ _ _ HC.out).mono ?_
      rintro e w1 ⟨rfl, hb⟩
      obtain ⟨⟨c0, c1, c2⟩, ⟨d0, d1, d2⟩, ⟨f0, f1, f2⟩, B⟩ := HK.out w1 hb
      clear hb HK
      go_wp2_with fail
      refine (ImplListOk_eq lo hi _ zs _ (HR.out _ B)).mono ?_
      rw [← lst_no HL.out]
      rintro e w' ⟨rfl, rfl⟩
      go_wp2_with fail
      refine bodyPost_ret (v := .agg #[.int .i64 0, .int .i64 0, .int .i64 0]) (by simp [results, Try.results91, go_sem, d0, d1, d2]) rfl ⟨rfl, ?_⟩
      refine Below.setCell (Below.setCell (Below.setCell B ?_ _) ?_ _) ?_ _ <;> (simp <;> omega)
  · have HC := Lib.hid hc
    rw [exZ_no (c := ⟨s, a, b⟩) (fun h => hc h.1)]
    clear hc
    show Calls _ _ _ _ fun e w' => e = .returned (.agg #[.int .i64 0, .int .i64 0, .int .i64 0]) ∧ _
    go_enter Try.func91, Try.ntmps91
    go_wp2_with fail
    refine (ImplCOk_no _ _ _ _ HC.out).mono ?_
    rintro e w1 ⟨rfl, hb⟩
    obtain ⟨⟨c0, c1, c2⟩, ⟨d0, d1, d2⟩, ⟨f0, f1, f2⟩, B⟩ := HK.out w1 hb
    clear hb HK
    go_wp2_with fail
    refine bodyPost_ret (v := .agg #[.int .i64 0, .int .i64 0, .int .i64 0]) (by simp [results, Try.results91, go_sem, d0, d1, d2]) rfl ⟨rfl, ?_⟩
    refine Below.setCell (Below.setCell (Below.setCell B ?_ _) ?_ _) ?_ _ <;> (simp <;> omega)

end Go.Proofs.Ytbnokmlmajcibaa
