/- Cells: CellText of both. -/
import Derived.Test.YtbfkpjciphkbeaaDoorCellW
import Derived.Test.YtbfkpjciphkbeaaDoorDigS
import Derived.Test.YtbfkpjciphkbeaaDoorBase
import Derived.Deep.RegionHeld3
namespace Go.Proofs.YtbfkpjciphkbeaaDoor
open Go.ChangeShapes Go.WideShapes Go.ChangeAt Go.RowKit

/-- The text of a cell. -/
def cellTxt (s a b : Int) : ByteArray := if OkC s a b then (if s = 1 then dgt a ++ ⟨#[47]⟩ ++ dgt b else if s = 2 then dgt a ++ ⟨#[92]⟩ ++ dgt b else dgt a) else ⟨#[]⟩
theorem txt_bad {s a b : Int} (k : ¬ OkC s a b) : cellTxt s a b = ⟨#[]⟩ := if_neg k
theorem txt_up {a b : Int} (k : OkC 1 a b) : cellTxt 1 a b = dgt a ++ ⟨#[47]⟩ ++ dgt b := by unfold cellTxt; rw [if_pos k, if_pos rfl]
theorem txt_down {a b : Int} (k : OkC 2 a b) : cellTxt 2 a b = dgt a ++ ⟨#[92]⟩ ++ dgt b := by unfold cellTxt; rw [if_pos k, if_neg (by omega), if_pos rfl]
theorem txt_whole {a b : Int} (k : OkC 0 a b) : cellTxt 0 a b = dgt a := by unfold cellTxt; rw [if_pos k, if_neg (by omega), if_neg (by omega)]

theorem keep_cell {u v : World} {p : Addr} {x : Value} (hb : Below u.heap.size u v) (h : u.cell? p = some x) : v.cell? p = some x :=
  (World.cell?_of_block (hb.block p.block (lt_of_cell h))).trans h
theorem bel_new' {b : Nat} {w u : World} (h : Below b w u) (hb : b ≤ w.heap.size) (o : Obj) : Below b w (u.alloc o) := h.alloc (Nat.le_trans hb h.size) _
theorem bel_call' {b : Nat} {w u v : World} (h : Below b w u) (hb : b ≤ w.heap.size) (k : Below u.heap.size u v) : Below b w v := h.trans (k.mono (Nat.le_trans hb h.size))

theorem bel_drewN {b : Nat} {w u : World} (h : Below b w u) (n : Nat) : Below b w (u.drewN n) := ⟨h.os, h.tape, h.output, h.size, h.block⟩

theorem ImplText_any (s a b : Int) (w : World) :
    Calls Tryd.prog 10 #[.agg #[.int .i64 s, .int .i64 a, .int .i64 b]] w fun e w' => e = .returned (.string (cellTxt s a b)) ∧ Below w.heap.size w w' := by
  by_cases k : OkC s a b
  · have k' := Lib.hid (decide_eq_true k)
    have hs : s = 0 ∨ s = 1 ∨ s = 2 := by unfold OkC at k; omega
    have ha : 0 ≤ a ∧ a ≤ 5 := by unfold OkC at k; omega
    have hb : 0 ≤ b ∧ b ≤ 5 := by unfold OkC at k; omega
    have CA := fun w => ImplDigit_any a w ha.1 (by omega)
    have CB := fun w => ImplDigit_any b w hb.1 (by omega)
    clear ha hb
    rcases hs with rfl | rfl | rfl
    · rw [txt_whole k]
      clear k
      go_enter Tryd.func10, Tryd.ntmps10
      go_wp2_with (first | (refine (ImplOk_any _ _ _ _).mono ?_; rw [k'.out]; rintro e w' ⟨rfl, rfl⟩) | (refine (CA _).mono ?_; rintro e w' ⟨rfl, rfl⟩))
      go_ret
      exact ⟨rfl, ((Below.refl _ _).alloc (Nat.le_refl _) _).alloc (by simp) _⟩
    · rw [txt_up k]
      clear k
      have za := dgt_size a
      have zb := dgt_size b
      generalize dgt a = ta at CA za ⊢
      generalize dgt b = tb at CB zb ⊢
      go_enter Tryd.func10, Tryd.ntmps10
      go_wp2_with (refine (ImplOk_any _ _ _ _).mono ?_; rw [k'.out]; rintro e w' ⟨rfl, rfl⟩)
      go_quiet (first | (go_at_call 17; first | exact Calls.quiet_of_same (CA _) | exact Calls.quiet_of_same (CB _)))
      go_wp2_with fail
      go_ret
      exact ⟨rfl, bel_drewN (((Below.refl _ _).alloc (Nat.le_refl _) _).alloc (by simp) _) _⟩
    · rw [txt_down k]
      clear k
      have za := dgt_size a
      have zb := dgt_size b
      generalize dgt a = ta at CA za ⊢
      generalize dgt b = tb at CB zb ⊢
      go_enter Tryd.func10, Tryd.ntmps10
      go_wp2_with (refine (ImplOk_any _ _ _ _).mono ?_; rw [k'.out]; rintro e w' ⟨rfl, rfl⟩)
      go_quiet (first | (go_at_call 17; first | exact Calls.quiet_of_same (CA _) | exact Calls.quiet_of_same (CB _)))
      go_wp2_with fail
      go_ret
      exact ⟨rfl, bel_drewN (((Below.refl _ _).alloc (Nat.le_refl _) _).alloc (by simp) _) _⟩
  · rw [txt_bad k]
    have k' := Lib.hid (decide_eq_false k)
    clear k
    go_enter Tryd.func10, Tryd.ntmps10
    go_wp2_with (refine (ImplOk_any _ _ _ _).mono ?_; rw [k'.out]; rintro e w' ⟨rfl, rfl⟩)
    go_ret
    exact ⟨rfl, ((Below.refl _ _).alloc (Nat.le_refl _) _).alloc (by simp) _⟩

theorem SpecText_any (s a b : Int) (w : World) :
    Calls Tryd.prog 13 #[.agg #[.int .i64 s, .int .i64 a, .int .i64 b]] w fun e w' => e = .returned (.string (cellTxt s a b)) ∧ Below w.heap.size w w' := by
  by_cases k : OkC s a b
  · have k' := Lib.hid (decide_eq_true k)
    have hs : s = 0 ∨ s = 1 ∨ s = 2 := by unfold OkC at k; omega
    have ha : 0 ≤ a ∧ a ≤ 5 := by unfold OkC at k; omega
    have hb : 0 ≤ b ∧ b ≤ 5 := by unfold OkC at k; omega
    have CF : ∀ (n : Int) (w : World), 0 ≤ n ∧ n ≤ 9 → Calls Tryd.prog 20 #[.int .i64 n] w fun e w' => e = .returned (.string (dgt n)) ∧ Below w.heap.size w w' := fun n w h => SpecDigit_any n w h.1 h.2
    have ha' : 0 ≤ a ∧ a ≤ 9 := by omega
    have hb' : 0 ≤ b ∧ b ≤ 9 := by omega
    clear ha hb
    rcases hs with rfl | rfl | rfl
    · rw [txt_whole k]
      clear k
      go_enter Tryd.func13, Tryd.ntmps13
      go_wp2_with (first | (refine (SpecOk_any _ _ _ _).mono ?_; rw [k'.out]; rintro e w' ⟨rfl, rfl⟩) | fail)
      refine (CF _ _ ha').mono ?_
      rintro e w1 ⟨rfl, hb1⟩
      go_wp2_with fail
      go_ret
      exact ⟨rfl, bel_call' (((Below.refl _ _).alloc (Nat.le_refl _) _).alloc (by simp) _) (Nat.le_refl _) hb1⟩
    · rw [txt_up k]
      clear k
      have za := dgt_size a
      have zb := dgt_size b
      generalize dgt = f at CF za zb ⊢
      have KP : ∀ u v, Below u.heap.size u v → (u.cell? ⟨w.heap.size, 1, none⟩ = some (.int .i64 a) ∧ u.cell? ⟨w.heap.size, 2, none⟩ = some (.int .i64 b)) → (v.cell? ⟨w.heap.size, 1, none⟩ = some (.int .i64 a) ∧ v.cell? ⟨w.heap.size, 2, none⟩ = some (.int .i64 b)) := fun u v hb h => ⟨keep_cell hb h.1, keep_cell hb h.2⟩
      go_enter Tryd.func13, Tryd.ntmps13
      go_wp2_with (refine (SpecOk_any _ _ _ _).mono ?_; rw [k'.out]; rintro e w' ⟨rfl, rfl⟩)
      go_region_held3 (fun w' => w'.cell? ⟨w.heap.size, 1, none⟩ = some (.int .i64 a) ∧ w'.cell? ⟨w.heap.size, 2, none⟩ = some (.int .i64 b)) (first | (refine KP _ _ (by assumption) ?_; assumption) | go_keep)
        (first | (go_at_call 20; refine (CF _ _ (by assumption)).mono ?_; rintro e w1 ⟨rfl, hb1⟩))
      all_goals
        go_wp2_with fail
        go_ret
        exact ⟨rfl, bel_call' (bel_call' (bel_drewN (((Below.refl _ _).alloc (Nat.le_refl _) _).alloc (by simp) _) 1) (Nat.le_refl _) (by assumption)) (Nat.le_refl _) hb1⟩
    · rw [txt_down k]
      clear k
      have za := dgt_size a
      have zb := dgt_size b
      generalize dgt = f at CF za zb ⊢
      have KP : ∀ u v, Below u.heap.size u v → (u.cell? ⟨w.heap.size, 1, none⟩ = some (.int .i64 a) ∧ u.cell? ⟨w.heap.size, 2, none⟩ = some (.int .i64 b)) → (v.cell? ⟨w.heap.size, 1, none⟩ = some (.int .i64 a) ∧ v.cell? ⟨w.heap.size, 2, none⟩ = some (.int .i64 b)) := fun u v hb h => ⟨keep_cell hb h.1, keep_cell hb h.2⟩
      go_enter Tryd.func13, Tryd.ntmps13
      go_wp2_with (refine (SpecOk_any _ _ _ _).mono ?_; rw [k'.out]; rintro e w' ⟨rfl, rfl⟩)
      go_region_held3 (fun w' => w'.cell? ⟨w.heap.size, 1, none⟩ = some (.int .i64 a) ∧ w'.cell? ⟨w.heap.size, 2, none⟩ = some (.int .i64 b)) (first | (refine KP _ _ (by assumption) ?_; assumption) | go_keep)
        (first | (go_at_call 20; refine (CF _ _ (by assumption)).mono ?_; rintro e w1 ⟨rfl, hb1⟩))
      all_goals
        go_wp2_with fail
        go_ret
        exact ⟨rfl, bel_call' (bel_call' (bel_drewN (((Below.refl _ _).alloc (Nat.le_refl _) _).alloc (by simp) _) 1) (Nat.le_refl _) (by assumption)) (Nat.le_refl _) hb1⟩
  · rw [txt_bad k]
    have k' := Lib.hid (decide_eq_false k)
    clear k
    go_enter Tryd.func13, Tryd.ntmps13
    go_wp2_with (refine (SpecOk_any _ _ _ _).mono ?_; rw [k'.out]; rintro e w' ⟨rfl, rfl⟩)
    go_ret
    exact ⟨rfl, ((Below.refl _ _).alloc (Nat.le_refl _) _).alloc (by simp) _⟩

end Go.Proofs.YtbfkpjciphkbeaaDoor
