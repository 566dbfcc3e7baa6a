/- Rows of integers that begin anywhere in a block. Exchanges: the model's ListOk. Exchanges: the model's IsExchange. Exchanges: the model's SwapList and UndoList. -/
import Derived.Test.YtbnokmlmajcibaaM02
import Derived.Test.YtbnokmlmajcibaaM04
import Derived.Test.YtbnokmlmajcibaaM00
import Derived.Test.YtbnokmlmajcibaaM01
import Derived.BigQuiet
import Derived.Deep.QuietTactic
import Derived.Deep.AppendLies
import Derived.OwnWalk

namespace Go.Proofs.Ytbnokmlmajcibaa
open Go.ChangeShapes Go.WideShapes Go.ChangeAt Go.RowKit

/-- A slice of ints in a block from lo on, below hi, from some place on. -/
def IntO (lo hi : Nat) (w : World) (v : Value) (zs : List Int) : Prop :=
  zs.length ≤ 1048576 ∧ ((zs = [] ∧ ∃ a c, v = .slice a 0 c) ∨
    ∃ g o cap, v = .slice (some ⟨g, o, none⟩) zs.length cap ∧ lo ≤ g ∧ g < hi ∧ ∀ i, i < zs.length → w.cell? ⟨g, o + i, none⟩ = some (.int .i64 (zs.getD i 0)) ∧ w.frozen? ⟨g, o + i, none⟩ = false)
theorem IntO.below {lo hi : Nat} {w w' : World} {v : Value} {zs : List Int} (h : IntO lo hi w v zs) (hb : Below hi w w') : IntO lo hi w' v zs := by
  obtain ⟨hl, h | ⟨g, o, cap, hv, hg, hlt, hc⟩⟩ := h
  · exact ⟨hl, .inl h⟩
  · exact ⟨hl, .inr ⟨g, o, cap, hv, hg, hlt, fun i hi => ⟨(hb.cell (p := ⟨g, o + i, none⟩) hlt).trans (hc i hi).1, (hb.frozen (p := ⟨g, o + i, none⟩) hlt).trans (hc i hi).2⟩⟩⟩
theorem IntO.wide {lo hi lo' hi' : Nat} {w : World} {v : Value} {zs : List Int} (h : IntO lo hi w v zs) (h1 : lo' ≤ lo) (h2 : hi ≤ hi') : IntO lo' hi' w v zs := by
  obtain ⟨hl, h | ⟨g, o, cap, hv, hg, hlt, hc⟩⟩ := h
  · exact ⟨hl, .inl h⟩
  · exact ⟨hl, .inr ⟨g, o, cap, hv, by omega, by omega, hc⟩⟩
theorem IntO.form {lo hi : Nat} {w : World} {v : Value} {zs : List Int} (h : IntO lo hi w v zs) : ∃ a cap, v = .slice a zs.length cap := by
  obtain ⟨_, ⟨rfl, a, c, hv⟩ | ⟨g, o, cap, hv, _⟩⟩ := h
  · exact ⟨a, c, hv⟩
  · exact ⟨_, _, hv⟩
theorem IntO.at {lo hi : Nat} {w w' : World} {a : Option Addr} {n cap : Nat} {zs : List Int} (h : IntO lo hi w (.slice a n cap) zs) (hb : Below hi w w') {i : Nat} (hi' : i < zs.length) :
    ∃ g o, a = some ⟨g, o, none⟩ ∧ lo ≤ g ∧ g < hi ∧ w'.cell? ⟨g, o + i, none⟩ = some (.int .i64 (zs.getD i 0)) ∧ w'.frozen? ⟨g, o + i, none⟩ = false := by
  obtain ⟨_, ⟨rfl, _⟩ | ⟨g, o, cap, hv, hg, hlt, hc⟩⟩ := h
  · simp at hi'
  · simp only [Value.slice.injEq] at hv
    exact ⟨g, o, hv.1, hg, hlt, (hb.cell (p := ⟨g, o + i, none⟩) hlt).trans (hc i hi').1, (hb.frozen (p := ⟨g, o + i, none⟩) hlt).trans (hc i hi').2⟩
theorem IntIn.o {lo hi : Nat} {w : World} {v : Value} {zs : List Int} (h : IntIn lo hi w v zs) : IntO lo hi w v zs := by
  obtain ⟨hl, h | ⟨g, cap, hv, hg, hlt, hc⟩⟩ := h
  · exact ⟨hl, .inl h⟩
  · exact ⟨hl, .inr ⟨g, 0, cap, hv, hg, hlt, fun i hi => by rw [Nat.zero_add]; exact hc i hi⟩⟩

end Go.Proofs.Ytbnokmlmajcibaa

namespace Go.Proofs.Ytbnokmlmajcibaa
open Go.ChangeShapes Go.WideShapes Go.ChangeAt Go.RowKit

/-- As Booleans. -/
noncomputable def lstB (zs : List Int) : Bool := @decide (LstOk zs) (Classical.propDecidable _)
theorem lst_yes {zs : List Int} (h : LstOk zs) : true = lstB zs := by unfold lstB; simp [h]
theorem lst_no {zs : List Int} (h : ¬ LstOk zs) : false = lstB zs := by unfold lstB; simp [h]
noncomputable def exB (zs : List Int) : Bool := @decide (Exch zs) (Classical.propDecidable _)
theorem ex_yes {zs : List Int} (h : Exch zs) : true = exB zs := by unfold exB; simp [h]
theorem ex_no {zs : List Int} (h : ¬ Exch zs) : false = exB zs := by unfold exB; simp [h]
set_option maxHeartbeats 400000 in
theorem SpecListOk_any (lo hi : Nat) (v : Value) (zs : List Int) (w : World) (r : IntO lo hi w v zs) :
    Calls Try.prog 95 #[v] w fun e w' => e = .returned (.bool (lstB zs)) ∧ w' = w := by
  obtain ⟨a, cap, rfl⟩ := r.form
  have R := Lib.hid r
  have hl := r.1
  clear r
  go_enter Try.func95, Try.ntmps95
  go_wp2_with fail
  go_loop [3] (fun i => ∃ k : Nat, k ≤ zs.length ∧ i = .int .i64 k ∧ Hid (∀ j, j < k → 0 ≤ zs.getD j 0 ∧ zs.getD j 0 ≤ 5)) (fun i => zs.length - (intOf i).toNat)
  case atStart => exact ⟨0, Nat.zero_le _, rfl, Lib.hid (fun j hj => by omega)⟩
  case round =>
    obtain ⟨k, hk, rfl, hall⟩ := hrel
    by_cases hlt : k < zs.length
    · obtain ⟨g, o, rfl, _, _, e0, _⟩ := R.out.at (Below.refl _ _) hlt
      by_cases hz : 0 ≤ zs.getD k 0 ∧ zs.getD k 0 ≤ 5
      · obtain ⟨z0, z5⟩ := hz
        have HN : Hid (∀ j, j < k + 1 → 0 ≤ zs.getD j 0 ∧ zs.getD j 0 ≤ 5) := Lib.hid (fun j hj => by
          rcases Nat.lt_succ_iff_lt_or_eq.1 hj with h | rfl
          · exact hall.out j h
          · exact ⟨z0, z5⟩)
        generalize zs.getD k 0 = z at e0 z0 z5
        clear hall
        go_wp2_with fail
        refine (In_yes _ _ _ _ z0 z5).mono ?_
        rintro e w' ⟨rfl, rfl⟩
        go_wp2_with fail
        go_round
        case rel => exact ⟨k + 1, by omega, by go_num, HN⟩
        case measure => simp [intOf] <;> omega
      · have HF := Lib.hid (lst_no (zs := zs) (fun h => hz (h.2 _ (by simp [List.getD, hlt]))))
        have hz' : zs.getD k 0 < 0 ∨ 5 < zs.getD k 0 := by omega
        generalize zs.getD k 0 = z at e0 hz'
        clear hall hz
        go_wp2_with fail
        refine (In_no _ _ _ _ hz').mono ?_
        rintro e w' ⟨rfl, rfl⟩
        go_wp2_with fail
        go_ret
        exact ⟨ret_bool HF.out, rfl⟩
    · obtain rfl : k = zs.length := by omega
      have HA : Hid (LstOk zs ↔ zs.length = 6) := Lib.hid ⟨fun h => h.1, fun h => ⟨h, fun z hz => by
        obtain ⟨j, hj, rfl⟩ := List.getElem_of_mem hz
        have := hall.out j hj
        simpa [List.getD, hj] using this⟩⟩
      clear hall
      by_cases h6 : zs.length = 6
      · have hb : ((zs.length : Int) == 6) = true := by simp; omega
        have HF := Lib.hid (lst_yes (HA.out.2 h6))
        clear h6
        go_wp2_with fail
        go_ret
        exact ⟨ret_bool HF.out, rfl⟩
      · have hb : ((zs.length : Int) == 6) = false := by simp; omega
        have HF := Lib.hid (lst_no (fun h => h6 (HA.out.1 h)))
        clear h6
        go_wp2_with fail
        go_ret
        exact ⟨ret_bool HF.out, rfl⟩

end Go.Proofs.Ytbnokmlmajcibaa

namespace Go.Proofs.Ytbnokmlmajcibaa
open Go.ChangeShapes Go.WideShapes Go.ChangeAt Go.RowKit

theorem bel_q {b : Nat} {w u : World} (h : Below b w u) (n : Nat) : Below b w (u.drewN n) := ⟨h.os, h.tape, h.output, h.size, h.block⟩
end Go.Proofs.Ytbnokmlmajcibaa

namespace Go.Proofs.Ytbnokmlmajcibaa
open Go.ChangeShapes Go.WideShapes Go.ChangeAt Go.RowKit

theorem info_int6 : (Try.prog.info? 3).map (fun i => (i.zero, i.size, i.bytes)) = some (some (.int .i64 0), 1, 8) := by kernel_rfl
theorem idL_take : ∀ k : Fin 6, idL.take (k.val + 1) = idL.take k.val ++ [(k.val : Int)] := by decide
theorem own_fresh (W : World) (e : Nat) : (W.alloc (.cells #[] e)).ownsRow W.heap.size e 1 (.slice (some ⟨W.heap.size, 0, none⟩) 0 0) 0 [] :=
  ⟨by simp, .inr ⟨_, 0, #[], rfl, Nat.le_refl _, heap_alloc_new _ _, by simp, by simp, rfl, rfl⟩⟩
theorem news1 (W : World) (c : Value) (t : TypeId) : ∀ (j : Nat) u, ([c] : List Value)[j]? = some u → (W.alloc (.cells #[c] t)).cell? ((⟨W.heap.size, 0, none⟩ : Addr).add j) = some u :=
  World.news_of_block (cs := #[c]) (fr := (0, 0)) (heap_alloc_new W _)
theorem own_ge6 {w : World} {base e size n : Nat} {v : Value} {xs : List Value} (h : w.ownsRow base e size v n xs) : ∀ k, v.ownBlock = some k → base ≤ k := by
  intro k hk
  obtain ⟨_, h | ⟨g, cap, cur, hv, hg, _⟩⟩ := h
  · rw [h.1] at hk; cases hk
  · rw [hv] at hk; simp [Value.ownBlock] at hk; omega
theorem owns_bel6 {w w' : World} {b e size n : Nat} {v : Value} {xs : List Value} (h : w.ownsRow b e size v n xs) (hb : Below w.heap.size w w') : w'.ownsRow b e size v n xs := by
  obtain ⟨h1, h2 | ⟨g, cap, cur, hv, hg, hh, r⟩⟩ := h
  · exact ⟨h1, .inl h2⟩
  · exact ⟨h1, .inr ⟨g, cap, cur, hv, hg, by rw [hb.block g (lt_of_heapI hh)]; exact hh, r⟩⟩
/-- What SwapList answers. -/
noncomputable def swapAns (a b : Int) : List Int := @ite _ (Col a ∧ Col b) (Classical.propDecidable _) (swpL a b) []
theorem swap_yes {a b : Int} (h : Col a ∧ Col b) : swapAns a b = swpL a b := if_pos h
theorem swap_no {a b : Int} (h : ¬ (Col a ∧ Col b)) : swapAns a b = [] := if_neg h
theorem fresh_nil (w : World) (c : Nat) : FreshI [] w (.returned (.slice (some ⟨w.heap.size, 0, none⟩) 0 c)) (w.alloc (.cells #[] 3)) := ⟨_, rfl, ⟨by simp, .inl ⟨rfl, _, _, rfl⟩⟩, bel0 w _⟩
/-- What UndoList answers. -/
noncomputable def undoAns (zs : List Int) : List Int := @ite _ (Exch zs) (Classical.propDecidable _) (undL zs) []
theorem undo_yes {zs : List Int} (h : Exch zs) : undoAns zs = undL zs := if_pos h
theorem undo_no {zs : List Int} (h : ¬ Exch zs) : undoAns zs = [] := if_neg h
theorem atL_set {ys : List Int} {i : Nat} {a z : Int} (hi : i < ys.length) (ha : 0 ≤ a) : atL (ys.set i z) a = if a = i then z else atL ys a := by
  unfold atL
  by_cases e : a = i
  · subst e
    simp [List.getD, hi]
  · rw [if_neg e]
    simp [List.getD, show ¬ i = a.toNat by omega]
theorem made_zero (n : Nat) : (madeCells (Value.int .i64 0).cells (n * 1)).toList = ivals (List.replicate n 0) := by
  apply List.ext_getElem
  · simp [madeCells, ivals]
  · intro i a b
    simp [madeCells, ivals, Value.cells, Nat.mod_one]
end Go.Proofs.Ytbnokmlmajcibaa
