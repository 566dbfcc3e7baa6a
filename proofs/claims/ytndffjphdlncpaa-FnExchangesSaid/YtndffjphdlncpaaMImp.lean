/- Blocks: the model's ColorsOf. Cells: the program's CellOk. Cells: the program's WholeCell. Cells: the program's SplitCell. Areas: how much of a row of cells has a color. Cells: DrawCell. Cells: a small helper of the laws. Blocks: the program's BlockOk. -/
import Derived.Test.YtndffjphdlncpaaMBlm
import Derived.Test.YtndffjphdlncpaaMInt
import Derived.Deep.AppendLies
import Derived.OwnWalk
import Derived.Test.YtndffjphdlncpaaMCel
import Derived.WalkArith
import Derived.Test.YtndffjphdlncpaaMDrw

namespace Go.Proofs.Ytndffjphdlncpaa
open Go.ChangeShapes Go.WideShapes Go.ChangeAt Go.RowKit

/-- The color c is used in the first k cells. -/
def usd (xs : List C3) (c : Int) (k : Nat) : Bool := (xs.take k).any fun x => (x.a == c) || (x.b == c)
theorem usd_succ (xs : List C3) (c : Int) (k : Nat) (h : k < xs.length) : usd xs c (k + 1) = (usd xs c k || ((xs.getD k C3.zero).a == c) || ((xs.getD k C3.zero).b == c)) := by
  unfold usd
  rw [List.take_succ_eq_append_getElem h, List.any_append]
  simp [List.getD, h, Bool.or_assoc]
/-- The used ones of the first colors. -/
def cols (xs : List C3) (c : Nat) : List Int := ((List.range c).filter (fun d : Nat => usd xs (d : Int) xs.length)).map (fun d : Nat => (d : Int))
theorem cols_succ (xs : List C3) (c : Nat) : cols xs (c + 1) = cols xs c ++ (if usd xs (c : Int) xs.length then [(c : Int)] else []) := by
  unfold cols
  rw [List.range_succ, List.filter_append, List.map_append]
  congr 1
  by_cases h : usd xs (c : Int) xs.length <;> simp [h]
theorem cols_le (xs : List C3) (c : Nat) : (cols xs c).length ≤ c := by
  unfold cols
  rw [List.length_map]
  have := List.length_filter_le (fun d : Nat => usd xs (d : Int) xs.length) (List.range c)
  simpa using this
noncomputable def colorsOf (n : Int) (xs : List C3) : List Int := @ite _ (BlkOk n xs) (Classical.propDecidable _) (cols xs 6) []
theorem colors_yes {n : Int} {xs : List C3} (h : BlkOk n xs) : colorsOf n xs = cols xs 6 := if_pos h
theorem colors_no {n : Int} {xs : List C3} (h : ¬ BlkOk n xs) : colorsOf n xs = [] := if_neg h

theorem info_int : (Try.prog.info? 3).map (fun i => (i.zero, i.size, i.bytes)) = some (some (.int .i64 0), 1, 8) := by kernel_rfl
theorem own_new1 (W : World) (q e : Nat) (h : W.heap.size = q) : (W.alloc (.cells #[] e)).ownsRow q e 1 (.slice (some ⟨q, 0, none⟩) 0 0) 0 [] := by
  subst h
  exact ⟨by simp, .inr ⟨_, 0, #[], rfl, Nat.le_refl _, heap_alloc_new _ _, by simp, by simp, rfl, rfl⟩⟩
theorem news_one (W : World) (q : Nat) (c : Value) (t : TypeId) (h : W.heap.size = q) : ∀ (j : Nat) u, ([c] : List Value)[j]? = some u → (W.alloc (.cells #[c] t)).cell? ((⟨q, 0, none⟩ : Addr).add j) = some u := by
  subst h
  exact World.news_of_block (cs := #[c]) (fr := (0, 0)) (heap_alloc_new W _)
theorem own_ge1 {w : World} {base e size n : Nat} {v : Value} {xs : List Value} (h : w.ownsRow base e size v n xs) : ∀ k, v.ownBlock = some k → base ≤ k := by
  intro k hk
  obtain ⟨_, h | ⟨g, cap, cur, hv, hg, _⟩⟩ := h
  · rw [h.1] at hk; cases hk
  · rw [hv] at hk; simp [Value.ownBlock] at hk; omega
theorem owns_below1 {w w' : World} {b e size n : Nat} {v : Value} {xs : List Value} (h : w.ownsRow b e size v n xs) (hb : Below w.heap.size w w') : w'.ownsRow b e size v n xs := by
  obtain ⟨h1, h2 | ⟨g, cap, cur, hv, hg, hh, r⟩⟩ := h
  · exact ⟨h1, .inl h2⟩
  · exact ⟨h1, .inr ⟨g, cap, cur, hv, hg, by rw [hb.block g (lt_of_heapI hh)]; exact hh, r⟩⟩

end Go.Proofs.Ytndffjphdlncpaa

namespace Go.Proofs.Ytndffjphdlncpaa
open Go.ChangeShapes Go.WideShapes Go.ChangeAt Go.RowKit

theorem Color_yes (x : Int) (w : World) (h0 : 0 ≤ x) (h1 : x ≤ 5) :
    Calls Try.prog 52 #[.int .i64 x] w fun e w' => e = .returned (.bool true) ∧ w' = w := by
  have h2 : x < 6 := by omega
  go_enter Try.func52, Try.ntmps52
  go_wp2
  go_ret
  exact ⟨rfl, rfl⟩

theorem Color_no (x : Int) (w : World) (h : x < 0 ∨ 5 < x) :
    Calls Try.prog 52 #[.int .i64 x] w fun e w' => e = .returned (.bool false) ∧ w' = w := by
  by_cases h0 : 0 ≤ x
  · have h1 : ¬ x < 6 := by omega
    clear h
    go_enter Try.func52, Try.ntmps52
    go_wp2
    go_ret
    exact ⟨ret_bool (by simp), rfl⟩
  · clear h
    go_enter Try.func52, Try.ntmps52
    go_wp2
    go_ret
    exact ⟨rfl, rfl⟩

theorem ImplOk_any (s a b : Int) (w : World) :
    Calls Try.prog 55 #[.agg #[.int .i64 s, .int .i64 a, .int .i64 b]] w fun e w' => e = .returned (.bool (decide (OkC s a b))) ∧ w' = w.alloc (.cells #[.int .i64 s, .int .i64 a, .int .i64 b] 41) := by
  by_cases s0 : s < 0
  · go_enter Try.func55, Try.ntmps55
    go_wp2_with fail
    go_ret
    exact ⟨ret_bool (decide_eq_false (by unfold OkC; omega)).symm, rfl⟩
  by_cases s1 : 2 < s
  · go_enter Try.func55, Try.ntmps55
    go_wp2_with fail
    go_ret
    exact ⟨ret_bool (decide_eq_false (by unfold OkC; omega)).symm, rfl⟩
  by_cases h2 : 0 ≤ a ∧ a ≤ 5
  · obtain ⟨a0, a1⟩ := h2
    by_cases h3 : 0 ≤ b ∧ b ≤ 5
    · obtain ⟨b0, b1⟩ := h3
      go_enter Try.func55, Try.ntmps55
      go_wp2_with (refine (Color_yes _ _ (by assumption) (by assumption)).mono ?_; rintro e w' ⟨rfl, rfl⟩)
      go_ret
      exact ⟨ret_bool (okB (by omega) (by omega) a0 a1 b0 b1).symm, rfl⟩
    · have h3' : b < 0 ∨ 5 < b := by omega
      clear h3
      go_enter Try.func55, Try.ntmps55
      go_wp2_with (first | (refine (Color_yes _ _ (by assumption) (by assumption)).mono ?_; rintro e w' ⟨rfl, rfl⟩) | (refine (Color_no _ _ (by assumption)).mono ?_; rintro e w' ⟨rfl, rfl⟩))
      go_ret
      exact ⟨ret_bool (decide_eq_false (by unfold OkC; omega)).symm, rfl⟩
  · have h2' : a < 0 ∨ 5 < a := by omega
    clear h2
    go_enter Try.func55, Try.ntmps55
    go_wp2_with (first | (refine (Color_yes _ _ (by assumption) (by assumption)).mono ?_; rintro e w' ⟨rfl, rfl⟩) | (refine (Color_no _ _ (by assumption)).mono ?_; rintro e w' ⟨rfl, rfl⟩))
    go_ret
    exact ⟨ret_bool (decide_eq_false (by unfold OkC; omega)).symm, rfl⟩

end Go.Proofs.Ytndffjphdlncpaa

namespace Go.Proofs.Ytndffjphdlncpaa
open Go.ChangeShapes Go.WideShapes Go.ChangeAt Go.RowKit

theorem ImplWhole_any (a : Int) (w : World) :
    Calls Try.prog 71 #[.int .i64 a] w fun e w' => e = .returned (.agg #[.int .i64 0, .int .i64 (wh a), .int .i64 (wh a)]) ∧ w' = w.alloc (.cells #[.int .i64 0, .int .i64 (wh a), .int .i64 (wh a)] 41) := by
  by_cases h : 0 ≤ a ∧ a ≤ 5
  · rw [wh_yes h]
    obtain ⟨a0, a1⟩ := h
    go_enter Try.func71, Try.ntmps71
    go_wp2_with (refine (Color_yes _ _ (by assumption) (by assumption)).mono ?_; rintro e w' ⟨rfl, rfl⟩)
    exact bodyPost_ret (v := .agg #[.int .i64 0, .int .i64 a, .int .i64 a]) (by simp [results, Try.results71, go_sem]) rfl ⟨rfl, rfl⟩
  · rw [wh_no h]
    have h' : a < 0 ∨ 5 < a := by omega
    clear h
    go_enter Try.func71, Try.ntmps71
    go_wp2_with (refine (Color_no _ _ (by assumption)).mono ?_; rintro e w' ⟨rfl, rfl⟩)
    exact bodyPost_ret (v := .agg #[.int .i64 0, .int .i64 0, .int .i64 0]) (by simp [results, Try.results71, go_sem]) rfl ⟨rfl, rfl⟩

end Go.Proofs.Ytndffjphdlncpaa

namespace Go.Proofs.Ytndffjphdlncpaa
open Go.ChangeShapes Go.WideShapes Go.ChangeAt Go.RowKit

theorem ImplSplit_any (s a b : Int) (w : World) :
    Calls Try.prog 56 #[.int .i64 s, .int .i64 a, .int .i64 b] w fun e w' => e = .returned (.agg #[.int .i64 (spS s a b), .int .i64 (spA s a b), .int .i64 (spB s a b)]) ∧ Below w.heap.size w w' := by
  by_cases h : a = b
  · subst h
    obtain ⟨e1, e2, e3⟩ := sp_same s a
    rw [e1, e2, e3]
    clear e1 e2 e3
    go_enter Try.func56, Try.ntmps56
    go_wp2_with (refine (ImplWhole_any _ _).mono ?_; rintro e w' ⟨rfl, rfl⟩)
    exact bodyPost_ret (v := .agg #[.int .i64 0, .int .i64 (wh a), .int .i64 (wh a)]) (by simp [results, Try.results56, go_sem]) rfl ⟨rfl, ((Below.refl _ _).alloc (Nat.le_refl _) _).alloc (by simp) _⟩
  · by_cases k : OkC s a b
    · obtain ⟨e1, e2, e3⟩ := sp_ok h k
      rw [e1, e2, e3]
      clear e1 e2 e3
      have k' := Lib.hid (decide_eq_true k)
      clear k
      go_enter Try.func56, Try.ntmps56
      go_wp2_with (refine (ImplOk_any _ _ _ _).mono ?_; rw [k'.out]; rintro e w' ⟨rfl, rfl⟩)
      exact bodyPost_ret (v := .agg #[.int .i64 s, .int .i64 a, .int .i64 b]) (by simp [results, Try.results56, go_sem]) rfl ⟨rfl, (((Below.refl _ _).alloc (Nat.le_refl _) _).alloc (by simp) _).alloc (by simp; omega) _⟩
    · obtain ⟨e1, e2, e3⟩ := sp_no h k
      rw [e1, e2, e3]
      clear e1 e2 e3
      have k' := Lib.hid (decide_eq_false k)
      clear k
      go_enter Try.func56, Try.ntmps56
      go_wp2_with (refine (ImplOk_any _ _ _ _).mono ?_; rw [k'.out]; rintro e w' ⟨rfl, rfl⟩)
      exact bodyPost_ret (v := .agg #[.int .i64 0, .int .i64 0, .int .i64 0]) (by simp [results, Try.results56, go_sem]) rfl ⟨rfl, (((Below.refl _ _).alloc (Nat.le_refl _) _).alloc (by simp) _).alloc (by simp; omega) _⟩

end Go.Proofs.Ytndffjphdlncpaa

namespace Go.Proofs.Ytndffjphdlncpaa
open Go.ChangeShapes Go.WideShapes Go.ChangeAt Go.RowKit

theorem wf_small {k : Int} (h0 : 0 ≤ k) (h1 : k ≤ 1000000) : (Lit.int .i64 k).wf = true := WalkArith.wf_i64 (by omega)
/-- How much of a valid cell has the color k. -/
def ar2 (c : C3) (k : Int) : Int := (if c.a = k then 2 else 0) + (if c.b = k then 2 else 0)
theorem ar2_bound (c : C3) (k : Int) : 0 ≤ ar2 c k ∧ ar2 c k ≤ 4 := by unfold ar2; split <;> split <;> omega
/-- .. of any cell. -/
noncomputable def arC (c : C3) (k : Int) : Int := @ite _ (OkC c.s c.a c.b) (Classical.propDecidable _) (ar2 c k) 0
theorem arC_yes {c : C3} (k : Int) (h : OkC c.s c.a c.b) : arC c k = ar2 c k := if_pos h
theorem arC_no {c : C3} (k : Int) (h : ¬ OkC c.s c.a c.b) : arC c k = 0 := if_neg h
/-- .. of the first m cells. -/
def arL (xs : List C3) (k : Int) (m : Nat) : Int := ((xs.take m).map (fun c => ar2 c k)).sum
theorem arL_zero (xs : List C3) (k : Int) : arL xs k 0 = 0 := by simp [arL]
theorem arL_succ (xs : List C3) (k : Int) {m : Nat} (h : m < xs.length) : arL xs k (m + 1) = arL xs k m + ar2 (xs.getD m C3.zero) k := by
  unfold arL
  rw [List.take_succ_eq_append_getElem h, List.map_append, List.sum_append]
  simp [List.getD, h]
theorem arL_bound (xs : List C3) (k : Int) : ∀ m : Nat, m ≤ xs.length → 0 ≤ arL xs k m ∧ arL xs k m ≤ 4 * m
  | 0, _ => by rw [arL_zero]; omega
  | m + 1, h => by
    have ih := arL_bound xs k m (by omega)
    rw [arL_succ xs k (by omega)]
    have := ar2_bound (xs.getD m C3.zero) k
    omega
noncomputable def areaOf (n : Int) (xs : List C3) (k : Int) : Int := @ite _ (BlkOk n xs) (Classical.propDecidable _) (arL xs k xs.length) 0
theorem area_yes {n : Int} {xs : List C3} (k : Int) (h : BlkOk n xs) : areaOf n xs k = arL xs k xs.length := if_pos h
theorem area_no {n : Int} {xs : List C3} (k : Int) (h : ¬ BlkOk n xs) : areaOf n xs k = 0 := if_neg h
theorem blk_len {n : Int} {xs : List C3} (h : BlkOk n xs) : 1 ≤ xs.length ∧ xs.length ≤ 16 := by
  have h1 := h.2.1
  have := sq_wrap h.1.1 h.1.2
  omega
/-- The areas of the first c colors. -/
def tab (xs : List C3) (c : Nat) : List Int := (List.range c).map (fun d : Nat => arL xs (d : Int) xs.length)
theorem tab_succ (xs : List C3) (c : Nat) : tab xs (c + 1) = tab xs c ++ [arL xs (c : Int) xs.length] := by
  unfold tab
  rw [List.range_succ, List.map_append]
  rfl
theorem tab_length (xs : List C3) (c : Nat) : (tab xs c).length = c := by simp [tab]
theorem tab_at (xs : List C3) {c k : Nat} (h : k < c) : (tab xs c).getD k 0 = arL xs (k : Int) xs.length := by simp [tab, List.getD, h]
noncomputable def areaTable (n : Int) (xs : List C3) : List Int := @ite _ (BlkOk n xs) (Classical.propDecidable _) (tab xs 6) []
theorem table_yes {n : Int} {xs : List C3} (h : BlkOk n xs) : areaTable n xs = tab xs 6 := if_pos h
theorem table_no {n : Int} {xs : List C3} (h : ¬ BlkOk n xs) : areaTable n xs = [] := if_neg h
/-- The place of the greatest of the first k numbers, the first of several. -/
def bst (t : List Int) : Nat → Int
  | 0 => -1
  | k + 1 => if bst t k < 0 ∨ t.getD (bst t k).toNat 0 < t.getD k 0 then k else bst t k
theorem bst_range (t : List Int) : ∀ k : Nat, -1 ≤ bst t k ∧ bst t k < k ∧ (0 < k → 0 ≤ bst t k)
  | 0 => by simp [bst]
  | k + 1 => by
    have ih := bst_range t k
    unfold bst
    split
    · omega
    · omega
noncomputable def mainOf (n : Int) (xs : List C3) : Int := bst (areaTable n xs) (areaTable n xs).length
/-- All used colors have one area. -/
def BalP (n : Int) (xs : List C3) : Prop := BlkOk n xs ∧ ∀ k, k < (cols xs 6).length → arL xs ((cols xs 6).getD k 0) xs.length = arL xs ((cols xs 6).getD 0 0) xs.length
noncomputable def balB (n : Int) (xs : List C3) : Bool := @decide (BalP n xs) (Classical.propDecidable _)
theorem bal_yes {n : Int} {xs : List C3} (h : BalP n xs) : true = balB n xs := by unfold balB; simp [h]
theorem bal_no {n : Int} {xs : List C3} (h : ¬ BalP n xs) : false = balB n xs := by unfold balB; simp [h]
/-- Twice the number of split cells among the first m. -/
def tri (xs : List C3) (m : Nat) : Int := ((xs.take m).map (fun c => if c.s = 0 then (0 : Int) else 2)).sum
theorem tri_zero (xs : List C3) : tri xs 0 = 0 := by simp [tri]
theorem tri_succ (xs : List C3) {m : Nat} (h : m < xs.length) : tri xs (m + 1) = tri xs m + (if (xs.getD m C3.zero).s = 0 then 0 else 2) := by
  unfold tri
  rw [List.take_succ_eq_append_getElem h, List.map_append, List.sum_append]
  simp [List.getD, h]
theorem tri_bound (xs : List C3) : ∀ m : Nat, m ≤ xs.length → 0 ≤ tri xs m ∧ tri xs m ≤ 2 * m
  | 0, _ => by rw [tri_zero]; omega
  | m + 1, h => by
    have ih := tri_bound xs m (by omega)
    rw [tri_succ xs (by omega)]
    split <;> omega
noncomputable def trisOf (n : Int) (xs : List C3) : Int := @ite _ (BlkOk n xs) (Classical.propDecidable _) (tri xs xs.length) (-1)
theorem tris_yes {n : Int} {xs : List C3} (h : BlkOk n xs) : trisOf n xs = tri xs xs.length := if_pos h
theorem tris_no {n : Int} {xs : List C3} (h : ¬ BlkOk n xs) : trisOf n xs = -1 := if_neg h
/-- A valid block has a color. -/
theorem cols_pos {n : Int} {xs : List C3} (h : BlkOk n xs) : 0 < (cols xs 6).length := by
  have hk : 0 < xs.length := (blk_len h).1
  have ho : (xs.getD 0 C3.zero).Ok := h.2.2 _ (by simp [List.getD, hk])
  have hu : usd xs (xs.getD 0 C3.zero).a xs.length = true := by
    unfold usd
    rw [List.take_length, List.any_eq_true]
    exact ⟨xs[0], List.getElem_mem hk, by simp [List.getD, hk]⟩
  generalize xs.getD 0 C3.zero = x at hu ho
  obtain ⟨x1, x2, x3⟩ := x
  change OkC x1 x2 x3 at ho
  unfold OkC at ho
  obtain ⟨j, rfl⟩ : ∃ j : Nat, x2 = j := ⟨x2.toNat, by omega⟩
  have : ((j : Nat) : Int) ∈ cols xs 6 := by
    unfold cols
    rw [List.mem_map]
    exact ⟨j, List.mem_filter.2 ⟨List.mem_range.2 (by omega), hu⟩, rfl⟩
  exact List.length_pos_of_mem this
theorem cols_at {xs : List C3} {k : Nat} (h : k < (cols xs 6).length) : ∃ j : Nat, (cols xs 6).getD k 0 = j ∧ j < 6 := by
  have hm : (cols xs 6).getD k 0 ∈ cols xs 6 := by simp [List.getD, h]
  unfold cols at hm ⊢
  rw [List.mem_map] at hm
  obtain ⟨j, hj, he⟩ := hm
  exact ⟨j, he.symm, by have := (List.mem_filter.1 hj).1; simpa using this⟩

end Go.Proofs.Ytndffjphdlncpaa

namespace Go.Proofs.Ytndffjphdlncpaa
open Go.ChangeShapes Go.WideShapes Go.ChangeAt Go.RowKit

theorem Src.up {w : World} {b b' : Nat} {a : Option Addr} {len : Nat} (h : Src w b a len) (hb : b ≤ b') : Src w b' a len := by
  obtain ⟨hm, h | ⟨xb, xo, ha, hlt, hc⟩⟩ := h
  · exact ⟨hm, .inl h⟩
  · exact ⟨hm, .inr ⟨xb, xo, ha, Nat.lt_of_lt_of_le hlt hb, hc⟩⟩

/-- A valid cell is handed back. -/
def GivenC (w : World) (e : Ending) (w' : World) : Prop :=
  ∃ s x y : Int, OkC s x y ∧ e = .returned (.agg #[.int .i64 s, .int .i64 x, .int .i64 y]) ∧ Below w.heap.size w w'

end Go.Proofs.Ytndffjphdlncpaa

namespace Go.Proofs.Ytndffjphdlncpaa
open Go.ChangeShapes Go.WideShapes Go.ChangeAt Go.RowKit

end Go.Proofs.Ytndffjphdlncpaa

namespace Go.Proofs.Ytndffjphdlncpaa
open Go.ChangeShapes Go.WideShapes Go.ChangeAt Go.RowKit

theorem Size_yes (x : Int) (w : World) (h0 : 1 ≤ x) (h1 : x ≤ 4) :
    Calls Try.prog 69 #[.int .i64 x] w fun e w' => e = .returned (.bool true) ∧ w' = w := by
  go_enter Try.func69, Try.ntmps69
  go_wp2
  go_ret
  exact ⟨rfl, rfl⟩
theorem Size_no (x : Int) (w : World) (h : x < 1 ∨ 4 < x) :
    Calls Try.prog 69 #[.int .i64 x] w fun e w' => e = .returned (.bool false) ∧ w' = w := by
  by_cases h0 : 1 ≤ x
  · have h1 : ¬ x ≤ 4 := by omega
    clear h
    go_enter Try.func69, Try.ntmps69
    go_wp2
    go_ret
    exact ⟨ret_bool (by simp), rfl⟩
  · clear h
    go_enter Try.func69, Try.ntmps69
    go_wp2
    go_ret
    exact ⟨rfl, rfl⟩

set_option maxHeartbeats 400000 in
theorem ImplBlockOk_any (lo hi : Nat) (n : Int) (v : Value) (xs : List C3) (w : World) (r : CellIn lo hi w v xs) (hhi : hi ≤ w.heap.size) :
    Calls Try.prog 46 #[.agg #[.int .i64 n, v]] w fun e w' => e = .returned (.bool (blkB n xs)) ∧ Below w.heap.size w w' := by
  obtain ⟨a, cap, rfl⟩ := r.form
  have R := Lib.hid r
  have hl := r.1
  clear r
  by_cases h1 : 1 ≤ n ∧ n ≤ 4
  · obtain ⟨n0, n1⟩ := h1
    obtain ⟨hw, s0, s1⟩ := sq_wrap n0 n1
    by_cases h2 : (xs.length : Int) = n * n
    · have e2 := eq_bool h2
      have H2 := Lib.hid h2
      have S := Lib.hid (And.intro s0 s1)
      clear h2 s0 s1
      go_enter Try.func46, Try.ntmps46
      go_wp2_with fail
      refine (Size_yes _ _ n0 n1).mono ?_
      rintro e w' ⟨rfl, rfl⟩
      go_wp2_with fail
      go_loopw [23] (fun i wr => ∃ k : Nat, k ≤ xs.length ∧ i = .int .i64 k ∧ Hid (∀ j, j < k → (xs.getD j C3.zero).Ok) ∧ Below (w.heap.size + 1) (w.alloc (.cells #[.int .i64 n, .slice a xs.length cap] 26)) wr) (fun i _ => xs.length - (intOf i).toNat)
      case atStart => exact ⟨0, Nat.zero_le _, rfl, fun j hj => by omega, Below.refl _ _⟩
      case round =>
        obtain ⟨k, hk, rfl, hok, hbel⟩ := hrel
        by_cases hlt : k < xs.length
        · obtain ⟨g, rfl, hg, hg1, hel, _⟩ := R.out.at ((bel_new0 w _).trans (hbel.mono (by omega)) |>.mono hhi) hlt
          obtain ⟨e0, e1, e3⟩ := hel
          obtain ⟨c, hc⟩ : ∃ c, c = xs.getD k C3.zero := ⟨_, rfl⟩
          rw [← hc] at e0 e1 e3
          have HC := Lib.hid hc
          clear hc
          have hs1 : w.heap.size + 1 ≤ wr.heap.size := by have := hbel.size; simpa using this
          have HB := Lib.hid ((hbel.alloc hs1 (.cells #[.int .i64 c.s, .int .i64 c.a, .int .i64 c.b] 41)).alloc (by simp; omega) (.cells #[.int .i64 c.s, .int .i64 c.a, .int .i64 c.b] 41))
          clear hbel
          go_wp2_with fail
          refine (ImplOk_any _ _ _ _).mono ?_
          by_cases ho : OkC c.s c.a c.b
          · have ho' := Lib.hid (decide_eq_true ho)
            rw [ho'.out]
            rintro e w1 ⟨rfl, rfl⟩
            have HN : Hid (∀ j, j < k + 1 → (xs.getD j C3.zero).Ok) := Lib.hid (fun j hj => by
              rcases Nat.lt_succ_iff_lt_or_eq.1 hj with h | rfl
              · exact hok.out j h
              · rw [← HC.out]; exact ho)
            clear HC ho ho'
            go_wp2_with fail
            go_roundw
            case rel => exact ⟨k + 1, by omega, by go_num, HN, HB.out⟩
            case measure => simp [intOf] <;> omega
          · have ho' := Lib.hid (decide_eq_false ho)
            rw [ho'.out]
            rintro e w1 ⟨rfl, rfl⟩
            have HN := Lib.hid (blk_no_cell (n := n) hlt (by rw [← HC.out]; exact ho))
            clear HC ho ho'
            go_wp2_with fail
            go_ret
            exact ⟨ret_bool HN.out, (bel_new0 w _).trans (HB.out.mono (by omega))⟩
        · obtain rfl : k = xs.length := by omega
          have HN := Lib.hid (blk_all (n := n) ⟨n0, n1⟩ H2.out hok.out)
          go_wp2_with fail
          go_ret
          exact ⟨ret_bool HN.out, (bel_new0 w _).trans (hbel.mono (by omega))⟩
    · have e2 := ne_bool h2
      have H2 := Lib.hid (blk_no_len h2)
      clear h2 s0 s1
      go_enter Try.func46, Try.ntmps46
      go_wp2_with fail
      refine (Size_yes _ _ n0 n1).mono ?_
      rintro e w' ⟨rfl, rfl⟩
      go_wp2_with fail
      go_ret
      exact ⟨by rw [← H2.out]; rfl, (Below.refl _ _).alloc (Nat.le_refl _) _⟩
  · have h1' : n < 1 ∨ 4 < n := by omega
    have H1 := Lib.hid (blk_no_size (xs := xs) h1)
    clear h1
    go_enter Try.func46, Try.ntmps46
    go_wp2_with fail
    refine (Size_no _ _ h1').mono ?_
    rintro e w' ⟨rfl, rfl⟩
    go_wp2_with fail
    go_ret
    exact ⟨ret_bool H1.out, (Below.refl _ _).alloc (Nat.le_refl _) _⟩

theorem ImplBlockOk_yes (lo hi : Nat) (n : Int) (v : Value) (xs : List C3) (w : World) (r : CellIn lo hi w v xs) (hhi : hi ≤ w.heap.size) (h : BlkOk n xs) :
    Calls Try.prog 46 #[.agg #[.int .i64 n, v]] w fun e w' => e = .returned (.bool true) ∧ Below w.heap.size w w' := by
  have hc := ImplBlockOk_any lo hi n v xs w r hhi
  rw [← blk_yes h] at hc
  exact hc
theorem ImplBlockOk_no (lo hi : Nat) (n : Int) (v : Value) (xs : List C3) (w : World) (r : CellIn lo hi w v xs) (hhi : hi ≤ w.heap.size) (h : ¬ BlkOk n xs) :
    Calls Try.prog 46 #[.agg #[.int .i64 n, v]] w fun e w' => e = .returned (.bool false) ∧ Below w.heap.size w w' := by
  have hc := ImplBlockOk_any lo hi n v xs w r hhi
  rw [← blk_no h] at hc
  exact hc

/-- The block has a cell there, as a Boolean. -/
noncomputable def hasC (n : Int) (xs : List C3) (x y : Int) : Bool := @decide (BlkOk n xs ∧ InB n x y) (Classical.propDecidable _)
theorem hasC_yes {n : Int} {xs : List C3} {x y : Int} (h : BlkOk n xs) (k : InB n x y) : true = hasC n xs x y := by unfold hasC; simp [h, k]
theorem hasC_no {n : Int} {xs : List C3} {x y : Int} (h : ¬ (BlkOk n xs ∧ InB n x y)) : false = hasC n xs x y := by unfold hasC; simp [h]
end Go.Proofs.Ytndffjphdlncpaa
