/- Exchanges: the model's ListOk. Exchanges: the model's IsExchange. Exchanges: the model's SwapList and UndoList. Exchanges: the program's ListOk, appendNew and IsExchange. -/
import Derived.Test.YtahbadokkljoaaaDoorM04
import Derived.Test.YtahbadokkljoaaaDoorM10
import Derived.Test.YtahbadokkljoaaaDoorM00
import Derived.Test.YtahbadokkljoaaaDoorM01
import Derived.BigQuiet
import Derived.Deep.QuietTactic
import Derived.Deep.AppendLies
import Derived.OwnWalk
import Derived.Test.YtahbadokkljoaaaDoorM13
import Derived.Test.YtahbadokkljoaaaDoorM05

namespace Go.Proofs.YtahbadokkljoaaaDoor
open Go.ChangeShapes Go.WideShapes Go.ChangeAt Go.RowKit

/-- As Booleans. -/
noncomputable def lstB (zs : List Int) : Bool := @decide (LstOk zs) (Classical.propDecidable _)
theorem lst_yes {zs : List Int} (h : LstOk zs) : true = lstB zs := by unfold lstB; simp [h]
theorem lst_no {zs : List Int} (h : ¬ LstOk zs) : false = lstB zs := by unfold lstB; simp [h]
noncomputable def exB (zs : List Int) : Bool := @decide (Exch zs) (Classical.propDecidable _)
theorem ex_yes {zs : List Int} (h : Exch zs) : true = exB zs := by unfold exB; simp [h]
theorem ex_no {zs : List Int} (h : ¬ Exch zs) : false = exB zs := by unfold exB; simp [h]
set_option maxHeartbeats 400000 in
theorem SpecListOk_any (lo hi : Nat) (v : Value) (zs : List Int) (w : World) (r : IntO lo hi w v zs) :
    Calls Tryd.prog 78 #[v] w fun e w' => e = .returned (.bool (lstB zs)) ∧ w' = w := by
  obtain ⟨a, cap, rfl⟩ := r.form
  have R := Lib.hid r
  have hl := r.1
  clear r
  go_enter Tryd.func78, Tryd.ntmps78
  go_wp2_with fail
  go_loop [3] (fun i => ∃ k : Nat, k ≤ zs.length ∧ i = .int .i64 k ∧ Hid (∀ j, j < k → 0 ≤ zs.getD j 0 ∧ zs.getD j 0 ≤ 5)) (fun i => zs.length - (intOf i).toNat)
  case atStart => exact ⟨0, Nat.zero_le _, rfl, Lib.hid (fun j hj => by omega)⟩
  case round =>
    obtain ⟨k, hk, rfl, hall⟩ := hrel
    by_cases hlt : k < zs.length
    · obtain ⟨g, o, rfl, _, _, e0, _⟩ := R.out.at (Below.refl _ _) hlt
      by_cases hz : 0 ≤ zs.getD k 0 ∧ zs.getD k 0 ≤ 5
      · obtain ⟨z0, z5⟩ := hz
        have HN : Hid (∀ j, j < k + 1 → 0 ≤ zs.getD j 0 ∧ zs.getD j 0 ≤ 5) := Lib.hid (fun j hj => by
          rcases Nat.lt_succ_iff_lt_or_eq.1 hj with h | rfl
          · exact hall.out j h
          · exact ⟨z0, z5⟩)
        generalize zs.getD k 0 = z at e0 z0 z5
        clear hall
        go_wp2_with fail
        refine (In_yes _ _ _ _ z0 z5).mono ?_
        rintro e w' ⟨rfl, rfl⟩
        go_wp2_with fail
        go_round
        case rel => exact ⟨k + 1, by omega, by go_num, HN⟩
        case measure => simp [intOf] <;> omega
      · have HF := Lib.hid (lst_no (zs := zs) (fun h => hz (h.2 _ (by simp [List.getD, hlt]))))
        have hz' : zs.getD k 0 < 0 ∨ 5 < zs.getD k 0 := by omega
        generalize zs.getD k 0 = z at e0 hz'
        clear hall hz
        go_wp2_with fail
        refine (In_no _ _ _ _ hz').mono ?_
        rintro e w' ⟨rfl, rfl⟩
        go_wp2_with fail
        go_ret
        exact ⟨ret_bool HF.out, rfl⟩
    · obtain rfl : k = zs.length := by omega
      have HA : Hid (LstOk zs ↔ zs.length = 6) := Lib.hid ⟨fun h => h.1, fun h => ⟨h, fun z hz => by
        obtain ⟨j, hj, rfl⟩ := List.getElem_of_mem hz
        have := hall.out j hj
        simpa [List.getD, hj] using this⟩⟩
      clear hall
      by_cases h6 : zs.length = 6
      · have hb : ((zs.length : Int) == 6) = true := by simp; omega
        have HF := Lib.hid (lst_yes (HA.out.2 h6))
        clear h6
        go_wp2_with fail
        go_ret
        exact ⟨ret_bool HF.out, rfl⟩
      · have hb : ((zs.length : Int) == 6) = false := by simp; omega
        have HF := Lib.hid (lst_no (fun h => h6 (HA.out.1 h)))
        clear h6
        go_wp2_with fail
        go_ret
        exact ⟨ret_bool HF.out, rfl⟩

end Go.Proofs.YtahbadokkljoaaaDoor

namespace Go.Proofs.YtahbadokkljoaaaDoor
open Go.ChangeShapes Go.WideShapes Go.ChangeAt Go.RowKit

theorem bel_q {b : Nat} {w u : World} (h : Below b w u) (n : Nat) : Below b w (u.drewN n) := ⟨h.os, h.tape, h.output, h.size, h.block⟩
end Go.Proofs.YtahbadokkljoaaaDoor

namespace Go.Proofs.YtahbadokkljoaaaDoor
open Go.ChangeShapes Go.WideShapes Go.ChangeAt Go.RowKit

theorem info_int6 : (Tryd.prog.info? 3).map (fun i => (i.zero, i.size, i.bytes)) = some (some (.int .i64 0), 1, 8) := by kernel_rfl
theorem idL_take : ∀ k : Fin 6, idL.take (k.val + 1) = idL.take k.val ++ [(k.val : Int)] := by decide
theorem own_fresh (W : World) (e : Nat) : (W.alloc (.cells #[] e)).ownsRow W.heap.size e 1 (.slice (some ⟨W.heap.size, 0, none⟩) 0 0) 0 [] :=
  ⟨by simp, .inr ⟨_, 0, #[], rfl, Nat.le_refl _, heap_alloc_new _ _, by simp, by simp, rfl, rfl⟩⟩
theorem news1 (W : World) (c : Value) (t : TypeId) : ∀ (j : Nat) u, ([c] : List Value)[j]? = some u → (W.alloc (.cells #[c] t)).cell? ((⟨W.heap.size, 0, none⟩ : Addr).add j) = some u :=
  World.news_of_block (cs := #[c]) (fr := (0, 0)) (heap_alloc_new W _)
theorem own_ge6 {w : World} {base e size n : Nat} {v : Value} {xs : List Value} (h : w.ownsRow base e size v n xs) : ∀ k, v.ownBlock = some k → base ≤ k := by
  intro k hk
  obtain ⟨_, h | ⟨g, cap, cur, hv, hg, _⟩⟩ := h
  · rw [h.1] at hk; cases hk
  · rw [hv] at hk; simp [Value.ownBlock] at hk; omega
theorem owns_bel6 {w w' : World} {b e size n : Nat} {v : Value} {xs : List Value} (h : w.ownsRow b e size v n xs) (hb : Below w.heap.size w w') : w'.ownsRow b e size v n xs := by
  obtain ⟨h1, h2 | ⟨g, cap, cur, hv, hg, hh, r⟩⟩ := h
  · exact ⟨h1, .inl h2⟩
  · exact ⟨h1, .inr ⟨g, cap, cur, hv, hg, by rw [hb.block g (lt_of_heapI hh)]; exact hh, r⟩⟩
/-- What SwapList answers. -/
noncomputable def swapAns (a b : Int) : List Int := @ite _ (Col a ∧ Col b) (Classical.propDecidable _) (swpL a b) []
theorem swap_yes {a b : Int} (h : Col a ∧ Col b) : swapAns a b = swpL a b := if_pos h
theorem swap_no {a b : Int} (h : ¬ (Col a ∧ Col b)) : swapAns a b = [] := if_neg h
theorem fresh_nil (w : World) (c : Nat) : FreshI [] w (.returned (.slice (some ⟨w.heap.size, 0, none⟩) 0 c)) (w.alloc (.cells #[] 3)) := ⟨_, rfl, ⟨by simp, .inl ⟨rfl, _, _, rfl⟩⟩, bel0 w _⟩
/-- What UndoList answers. -/
noncomputable def undoAns (zs : List Int) : List Int := @ite _ (Exch zs) (Classical.propDecidable _) (undL zs) []
theorem undo_yes {zs : List Int} (h : Exch zs) : undoAns zs = undL zs := if_pos h
theorem undo_no {zs : List Int} (h : ¬ Exch zs) : undoAns zs = [] := if_neg h
theorem atL_set {ys : List Int} {i : Nat} {a z : Int} (hi : i < ys.length) (ha : 0 ≤ a) : atL (ys.set i z) a = if a = i then z else atL ys a := by
  unfold atL
  by_cases e : a = i
  · subst e
    simp [List.getD, hi]
  · rw [if_neg e]
    simp [List.getD, show ¬ i = a.toNat by omega]
theorem made_zero (n : Nat) : (madeCells (Value.int .i64 0).cells (n * 1)).toList = ivals (List.replicate n 0) := by
  apply List.ext_getElem
  · simp [madeCells, ivals]
  · intro i a b
    simp [madeCells, ivals, Value.cells, Nat.mod_one]
end Go.Proofs.YtahbadokkljoaaaDoor

namespace Go.Proofs.YtahbadokkljoaaaDoor
open Go.ChangeShapes Go.WideShapes Go.ChangeAt Go.RowKit

/-! ### Numbers -/
theorem dd_sub : ∀ (t d : List Int), ∃ r, t.foldl ddStep d = d ++ r ∧ r.Sublist t
  | [], d => ⟨[], by simp, List.Sublist.refl _⟩
  | a :: t, d => by
    obtain ⟨r, hr, hs⟩ := dd_sub t (ddStep d a)
    rw [List.foldl_cons, hr]
    unfold ddStep
    split
    · exact ⟨r, rfl, hs.cons a⟩
    · exact ⟨a :: r, by simp, hs.cons_cons a⟩
theorem dd_len (t d : List Int) : d.length ≤ (t.foldl ddStep d).length ∧ (t.foldl ddStep d).length ≤ d.length + t.length := by
  obtain ⟨r, hr, hs⟩ := dd_sub t d
  rw [hr, List.length_append]
  have := hs.length_le
  omega
theorem dd_id : ∀ (t d : List Int), (d ++ t).Nodup → t.foldl ddStep d = d ++ t
  | [], d, _ => by simp
  | a :: t, d, h => by
    have hm : a ∉ d := fun hm => by
      have := (List.nodup_append.1 h).2.2 a hm a (by simp)
      exact this rfl
    rw [List.foldl_cons]
    have e : ddStep d a = d ++ [a] := if_neg hm
    rw [e, dd_id t (d ++ [a]) (by simpa using h)]
    simp
theorem dd_full {zs : List Int} : (dd zs).length = zs.length ↔ zs.Nodup := by
  constructor
  · intro h
    obtain ⟨r, hr, hs⟩ := dd_sub zs []
    have e : dd zs = r := by unfold dd; rw [hr]; rfl
    rw [e] at h
    rw [← hs.eq_of_length h, ← e]
    exact dd_nodup zs [] List.nodup_nil
  · intro h
    have e : dd zs = zs := by
      unfold dd
      rw [dd_id zs [] (by simpa using h)]
      rfl
    rw [e]
theorem dd_snoc (d t : List Int) (a : Int) : (t ++ [a]).foldl ddStep d = ddStep (t.foldl ddStep d) a := by rw [List.foldl_append]; rfl
theorem take_snocI {zs : List Int} {k : Nat} (h : k < zs.length) : zs.take (k + 1) = zs.take k ++ [zs.getD k 0] := by
  rw [List.take_succ_eq_append_getElem h]
  simp [List.getD, h]

/-! ### ListOk -/
set_option maxHeartbeats 400000 in
theorem ImplListOk_eq (lo hi : Nat) (v : Value) (zs : List Int) (w : World) (r : IntO lo hi w v zs) : Calls Tryd.prog 80 #[v] w fun e w' => e = .returned (.bool (lstB zs)) ∧ w' = w := by
  obtain ⟨a, cap, rfl⟩ := r.form
  have R := Lib.hid r
  have hl := r.1
  clear r
  by_cases h6 : zs.length = 6
  · have hb : ((zs.length : Int) != 6) = false := by simp; omega
    have H6 := Lib.hid h6
    clear h6
    go_enter Tryd.func80, Tryd.ntmps80
    go_wp2_with fail
    go_loop [10] (fun i => ∃ k : Nat, k ≤ zs.length ∧ i = .int .i64 k ∧ Hid (∀ j, j < k → 0 ≤ zs.getD j 0 ∧ zs.getD j 0 ≤ 5)) (fun i => zs.length - (intOf i).toNat)
    case atStart => exact ⟨0, Nat.zero_le _, rfl, Lib.hid (fun j hj => by omega)⟩
    case round =>
      obtain ⟨k, hk, rfl, hall⟩ := hrel
      by_cases hlt : k < zs.length
      · obtain ⟨g, o, rfl, _, _, e0, _⟩ := R.out.at (Below.refl _ _) hlt
        by_cases hz : 0 ≤ zs.getD k 0 ∧ zs.getD k 0 ≤ 5
        · obtain ⟨z0, z5⟩ := hz
          have HN : Hid (∀ j, j < k + 1 → 0 ≤ zs.getD j 0 ∧ zs.getD j 0 ≤ 5) := Lib.hid (fun j hj => by
            rcases Nat.lt_succ_iff_lt_or_eq.1 hj with h | rfl
            · exact hall.out j h
            · exact ⟨z0, z5⟩)
          generalize zs.getD k 0 = z at e0 z0 z5
          clear hall
          go_wp2_with fail
          refine (Color_yes _ _ z0 z5).mono ?_
          rintro e w' ⟨rfl, rfl⟩
          go_wp2_with fail
          go_round
          case rel => exact ⟨k + 1, by omega, by go_num, HN⟩
          case measure => simp [intOf] <;> omega
        · have HF := Lib.hid (lst_no (zs := zs) (fun h => hz (h.2 _ (by simp [List.getD, hlt]))))
          have hz' : zs.getD k 0 < 0 ∨ 5 < zs.getD k 0 := by omega
          generalize zs.getD k 0 = z at e0 hz'
          clear hall hz
          go_wp2_with fail
          refine (Color_no _ _ hz').mono ?_
          rintro e w' ⟨rfl, rfl⟩
          go_wp2_with fail
          go_ret
          exact ⟨ret_bool HF.out, rfl⟩
      · obtain rfl : k = zs.length := by omega
        have HF := Lib.hid (lst_yes (zs := zs) ⟨H6.out, fun z hz => by
          obtain ⟨j, hj, rfl⟩ := List.getElem_of_mem hz
          have := hall.out j hj
          simpa [List.getD, hj] using this⟩)
        clear hall
        go_wp2_with fail
        go_ret
        exact ⟨ret_bool HF.out, rfl⟩
  · have hb : ((zs.length : Int) != 6) = true := by simp; omega
    have HF := Lib.hid (lst_no (zs := zs) (fun h => h6 h.1))
    clear h6
    go_enter Tryd.func80, Tryd.ntmps80
    go_wp2_with fail
    go_ret
    exact ⟨ret_bool HF.out, rfl⟩

theorem ImplListOk_any (lo hi : Nat) (v : Value) (zs : List Int) (w : World) (r : IntO lo hi w v zs) (_hhi : hi ≤ w.heap.size) : Calls Tryd.prog 80 #[v] w fun e w' => e = .returned (.bool (lstB zs)) ∧ Below w.heap.size w w' := by
  refine (ImplListOk_eq lo hi v zs w r).mono ?_
  rintro e w' ⟨rfl, rfl⟩
  exact ⟨rfl, Below.refl _ _⟩

/-! ### slices.Contains -/
theorem ret_int6 {p q : Int} (h : p = q) : Ending.returned (.int .i64 p) = .returned (.int .i64 q) := by rw [h]
set_option maxHeartbeats 400000 in
theorem Index_any (lo hi : Nat) (v : Value) (zs : List Int) (x : Int) (w : World) (r : IntO lo hi w v zs) :
    Calls Tryd.prog 110 #[v, .int .i64 x] w fun e w' => e = .returned (.int .i64 (pos zs x)) ∧ w' = w := by
  obtain ⟨a, cap, rfl⟩ := r.form
  have R := Lib.hid r
  have hl := r.1
  clear r
  go_enter Tryd.func110, Tryd.ntmps110
  go_wp2_with fail
  go_loop [8] (fun i => ∃ k : Nat, k ≤ zs.length ∧ i = .int .i64 k ∧ Hid (∀ j, j < k → ¬ x = zs.getD j 0)) (fun i => zs.length - (intOf i).toNat)
  case atStart => exact ⟨0, Nat.zero_le _, rfl, Lib.hid (fun j hj => by omega)⟩
  case round =>
    obtain ⟨k, hk, rfl, hall⟩ := hrel
    by_cases hlt : k < zs.length
    · obtain ⟨g, o, rfl, _, _, e0, _⟩ := R.out.at (Below.refl _ _) hlt
      by_cases he : x = zs.getD k 0
      · have HF : Hid (pos zs x = (k : Int)) := Lib.hid (by
          have hm : x ∈ zs := by rw [he]; simp [List.getD, hlt]
          have e : zs.idxOf x = k := by
            have h1 : zs.idxOf x ≤ k := by
              rcases Nat.lt_or_ge k (zs.idxOf x) with h | h
              · exact absurd (by rw [he]; simp [List.getD, hlt] : zs[k] = x) (by simpa using List.not_of_lt_findIdx (p := (· == x)) (by simpa [List.idxOf] using h))
              · exact h
            have h2 : zs[zs.idxOf x]'(List.idxOf_lt_length_iff.2 hm) = x := List.getElem_idxOf _
            rcases Nat.lt_or_ge (zs.idxOf x) k with h | h
            · exact absurd (by rw [List.getD, List.getElem?_eq_getElem (List.idxOf_lt_length_iff.2 hm)]; exact h2.symm) (hall.out _ h)
            · omega
          unfold pos
          rw [if_pos hm, e])
        have hb : (x == zs.getD k 0) = true := by simpa using he
        generalize zs.getD k 0 = z at e0 hb
        clear hall he
        go_wp2_with fail
        go_ret
        exact ⟨ret_int6 HF.out.symm, rfl⟩
      · have HN : Hid (∀ j, j < k + 1 → ¬ x = zs.getD j 0) := Lib.hid (fun j hj => by
          rcases Nat.lt_succ_iff_lt_or_eq.1 hj with h | rfl
          · exact hall.out j h
          · exact he)
        have hb : (x == zs.getD k 0) = false := by simpa using he
        generalize zs.getD k 0 = z at e0 hb
        clear hall he
        go_wp2_with fail
        go_round
        case rel => exact ⟨k + 1, by omega, by go_num, HN⟩
        case measure => simp [intOf] <;> omega
    · obtain rfl : k = zs.length := by omega
      have HF : Hid (pos zs x = -1) := Lib.hid (by
        unfold pos
        rw [if_neg (fun hm => by
          obtain ⟨j, hj, e⟩ := List.getElem_of_mem hm
          exact hall.out j hj (by simp [List.getD, hj, e]))])
      clear hall
      go_wp2_with fail
      go_ret
      exact ⟨ret_int6 HF.out.symm, rfl⟩
theorem Contains_any (lo hi : Nat) (v : Value) (zs : List Int) (x : Int) (w : World) (r : IntO lo hi w v zs) :
    Calls Tryd.prog 101 #[v, .int .i64 x] w fun e w' => e = .returned (.bool (decide (x ∈ zs))) ∧ w' = w := by
  have C := Lib.hid (Index_any lo hi v zs x w r)
  have HP : Hid (decide (0 ≤ pos zs x) = decide (x ∈ zs)) := Lib.hid (by
    unfold pos
    by_cases h : x ∈ zs
    · rw [if_pos h]; simp [h]
    · rw [if_neg h]; simp [h])
  clear r
  generalize pos zs x = p at C HP
  go_enter Tryd.func101, Tryd.ntmps101
  go_wp2_with fail
  refine C.out.mono ?_
  rintro e w' ⟨rfl, rfl⟩
  go_wp2_with fail
  go_ret
  exact ⟨ret_bool HP.out, rfl⟩

end Go.Proofs.YtahbadokkljoaaaDoor
