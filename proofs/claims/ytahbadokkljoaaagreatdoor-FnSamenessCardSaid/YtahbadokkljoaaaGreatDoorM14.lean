/- Exchanges: the model's ListOk. Exchanges: the model's IsExchange. Exchanges: the model's SwapList and UndoList. Exchanges: the program's ListOk, appendNew and IsExchange. -/
import Derived.Test.YtahbadokkljoaaaGreatDoorM04
import Derived.Test.YtahbadokkljoaaaGreatDoorM10
import Derived.Test.YtahbadokkljoaaaGreatDoorM00
import Derived.Test.YtahbadokkljoaaaGreatDoorM01
import Derived.BigQuiet
import Derived.Deep.QuietTactic
import Derived.Deep.AppendLies
import Derived.OwnWalk
import Derived.Test.YtahbadokkljoaaaGreatDoorM13
import Derived.Test.YtahbadokkljoaaaGreatDoorM05

namespace Go.Proofs.YtahbadokkljoaaaGreatDoor
open Go.ChangeShapes Go.WideShapes Go.ChangeAt Go.RowKit

/-- As Booleans. -/
noncomputable def lstB (zs : List Int) : Bool := @decide (LstOk zs) (Classical.propDecidable _)
theorem lst_yes {zs : List Int} (h : LstOk zs) : true = lstB zs := by unfold lstB; simp [h]
theorem lst_no {zs : List Int} (h : ¬ LstOk zs) : false = lstB zs := by unfold lstB; simp [h]
noncomputable def exB (zs : List Int) : Bool := @decide (Exch zs) (Classical.propDecidable _)
theorem ex_yes {zs : List Int} (h : Exch zs) : true = exB zs := by unfold exB; simp [h]
theorem ex_no {zs : List Int} (h : ¬ Exch zs) : false = exB zs := by unfold exB; simp [h]
set_option maxHeartbeats 400000 in
theorem SpecListOk_any (lo hi : Nat) (v : Value) (zs : List Int) (w : World) (r : IntO lo hi w v zs) :
    Calls Tryz.prog 30 #[v] w fun e w' => e = .returned (.bool (lstB zs)) ∧ w' = w := by
  obtain ⟨a, cap, rfl⟩ := r.form
  have R := Lib.hid r
  have hl := r.1
  clear r
  go_enter Tryz.func30, Tryz.ntmps30
  go_wp2_with fail
  go_loop [3] (fun i => ∃ k : Nat, k ≤ zs.length ∧ i = .int .i64 k ∧ Hid (∀ j, j < k → 0 ≤ zs.getD j 0 ∧ zs.getD j 0 ≤ 5)) (fun i => zs.length - (intOf i).toNat)
  case atStart => exact ⟨0, Nat.zero_le _, rfl, Lib.hid (fun j hj => by omega)⟩
  case round =>
    obtain ⟨k, hk, rfl, hall⟩ := hrel
    by_cases hlt : k < zs.length
    · obtain ⟨g, o, rfl, _, _, e0, _⟩ := R.out.at (Below.refl _ _) hlt
      by_cases hz : 0 ≤ zs.getD k 0 ∧ zs.getD k 0 ≤ 5
      · obtain ⟨z0, z5⟩ := hz
        have HN : Hid (∀ j, j < k + 1 → 0 ≤ zs.getD j 0 ∧ zs.getD j 0 ≤ 5) := Lib.hid (fun j hj => by
          rcases Nat.lt_succ_iff_lt_or_eq.1 hj with h | rfl
          · exact hall.out j h
          · exact ⟨z0, z5⟩)
        generalize zs.getD k 0 = z at e0 z0 z5
        clear hall
        go_wp2_with fail
        refine (In_yes _ _ _ _ z0 z5).mono ?_
        rintro e w' ⟨rfl, rfl⟩
        go_wp2_with fail
        go_round
        case rel => exact ⟨k + 1, by omega, by go_num, HN⟩
        case measure => simp [intOf] <;> omega
      · have HF := Lib.hid (lst_no (zs := zs) (fun h => hz (h.2 _ (by simp [List.getD, hlt]))))
        have hz' : zs.getD k 0 < 0 ∨ 5 < zs.getD k 0 := by omega
        generalize zs.getD k 0 = z at e0 hz'
        clear hall hz
        go_wp2_with fail
        refine (In_no _ _ _ _ hz').mono ?_
        rintro e w' ⟨rfl, rfl⟩
        go_wp2_with fail
        go_ret
        exact ⟨ret_bool HF.out, rfl⟩
    · obtain rfl : k = zs.length := by omega
      have HA : Hid (LstOk zs ↔ zs.length = 6) := Lib.hid ⟨fun h => h.1, fun h => ⟨h, fun z hz => by
        obtain ⟨j, hj, rfl⟩ := List.getElem_of_mem hz
        have := hall.out j hj
        simpa [List.getD, hj] using this⟩⟩
      clear hall
      by_cases h6 : zs.length = 6
      · have hb : ((zs.length : Int) == 6) = true := by simp; omega
        have HF := Lib.hid (lst_yes (HA.out.2 h6))
        clear h6
        go_wp2_with fail
        go_ret
        exact ⟨ret_bool HF.out, rfl⟩
      · have hb : ((zs.length : Int) == 6) = false := by simp; omega
        have HF := Lib.hid (lst_no (fun h => h6 (HA.out.1 h)))
        clear h6
        go_wp2_with fail
        go_ret
        exact ⟨ret_bool HF.out, rfl⟩

end Go.Proofs.YtahbadokkljoaaaGreatDoor

namespace Go.Proofs.YtahbadokkljoaaaGreatDoor
open Go.ChangeShapes Go.WideShapes Go.ChangeAt Go.RowKit

theorem bel_q {b : Nat} {w u : World} (h : Below b w u) (n : Nat) : Below b w (u.drewN n) := ⟨h.os, h.tape, h.output, h.size, h.block⟩
end Go.Proofs.YtahbadokkljoaaaGreatDoor

namespace Go.Proofs.YtahbadokkljoaaaGreatDoor
open Go.ChangeShapes Go.WideShapes Go.ChangeAt Go.RowKit

theorem info_int6 : (Tryz.prog.info? 3).map (fun i => (i.zero, i.size, i.bytes)) = some (some (.int .i64 0), 1, 8) := by kernel_rfl
theorem idL_take : ∀ k : Fin 6, idL.take (k.val + 1) = idL.take k.val ++ [(k.val : Int)] := by decide
theorem own_fresh (W : World) (e : Nat) : (W.alloc (.cells #[] e)).ownsRow W.heap.size e 1 (.slice (some ⟨W.heap.size, 0, none⟩) 0 0) 0 [] :=
  ⟨by simp, .inr ⟨_, 0, #[], rfl, Nat.le_refl _, heap_alloc_new _ _, by simp, by simp, rfl, rfl⟩⟩
theorem news1 (W : World) (c : Value) (t : TypeId) : ∀ (j : Nat) u, ([c] : List Value)[j]? = some u → (W.alloc (.cells #[c] t)).cell? ((⟨W.heap.size, 0, none⟩ : Addr).add j) = some u :=
  World.news_of_block (cs := #[c]) (fr := (0, 0)) (heap_alloc_new W _)
theorem own_ge6 {w : World} {base e size n : Nat} {v : Value} {xs : List Value} (h : w.ownsRow base e size v n xs) : ∀ k, v.ownBlock = some k → base ≤ k := by
  intro k hk
  obtain ⟨_, h | ⟨g, cap, cur, hv, hg, _⟩⟩ := h
  · rw [h.1] at hk; cases hk
  · rw [hv] at hk; simp [Value.ownBlock] at hk; omega
theorem owns_bel6 {w w' : World} {b e size n : Nat} {v : Value} {xs : List Value} (h : w.ownsRow b e size v n xs) (hb : Below w.heap.size w w') : w'.ownsRow b e size v n xs := by
  obtain ⟨h1, h2 | ⟨g, cap, cur, hv, hg, hh, r⟩⟩ := h
  · exact ⟨h1, .inl h2⟩
  · exact ⟨h1, .inr ⟨g, cap, cur, hv, hg, by rw [hb.block g (lt_of_heapI hh)]; exact hh, r⟩⟩
set_option maxRecDepth 100000 in
set_option maxHeartbeats 1000000 in
theorem SpecSame6_cap (w : World) : Calls Tryz.prog 29 #[] w (fun e w' => ∃ g cp, e = .returned (.slice (some ⟨g, 0, none⟩) 6 cp) ∧ 6 ≤ cp ∧ IntIn w.heap.size w'.heap.size w' (.slice (some ⟨g, 0, none⟩) 6 cp) idL ∧ Below w.heap.size w w') := by
  obtain ⟨i0, hi0, hz0, hz1, hz2⟩ : ∃ i, Tryz.prog.info? 3 = some i ∧ i.zero = some (.int .i64 0) ∧ i.size = 1 ∧ i.bytes = 8 := info_parts3 info_int6
  go_enter Tryz.func29, Tryz.ntmps29
  go_wp2_with fail
  go_loopw [1, 2] (fun q i wr => ∃ k : Nat, k ≤ 6 ∧ i = .int .i64 k ∧ Hid (wr.ownsRow w.heap.size 3 1 q k (ivals (idL.take k))) ∧ Hid (Below w.heap.size w wr)) (fun _ i _ => 6 - (intOf i).toNat)
  case atStart => exact ⟨0, Nat.zero_le _, rfl, Lib.hid (own_fresh w 3), Lib.hid (bel0 w _)⟩
  case round =>
    obtain ⟨k, hk, rfl, hown, hbel⟩ := hrel
    by_cases hlt : k < 6
    · have HT := Lib.hid (idL_take ⟨k, hlt⟩)
      have HO1 := Lib.hid (owns_bel6 hown.out (bel0 wr (.cells #[.int .i64 k] 3)))
      have HNW := Lib.hid (news1 wr (.int .i64 k) 3)
      have HB1 := Lib.hid (bel_n hbel.out (Nat.le_refl _) (.cells #[.int .i64 k] 3))
      have HB2 : Hid (w.heap.size ≤ (wr.alloc (.cells #[.int .i64 k] 3)).heap.size) := Lib.hid HB1.out.size
      clear hown hbel
      go_wp2_with (at_builtin; refine wpList_append_lies _ rfl _ _ 31 rfl w.heap.size 3 i0 (.int .i64 0) 1 8 Tryz.underlying31 hi0 hz0 hz1 hz2 rfl (by decide) _ _ _ rfl HO1.out ⟨wr.heap.size, 0, none⟩ 1 1 [.int .i64 k] rfl rfl HNW.out (by simp [Value.oneCell']) (by omega) (by unfold maxLen; omega) (by omega) HB2.out (wr.heap.size + 1) (by simp) ?_; intro gg cc w2 hown2 hgrow hat hlt2)
      have hbw := (Below.refl w.heap.size _).grown hgrow HB2.out (own_ge6 HO1.out)
      have HN2 : Hid (w2.ownsRow w.heap.size 3 1 (.slice (some ⟨gg, 0, none⟩) (k + 1) cc) (k + 1) (ivals (idL.take (k + 1)))) := Lib.hid (by rw [show idL.take (k + 1) = idL.take k ++ [(k : Int)] from HT.out]; unfold ivals at hown2 ⊢; rw [List.map_append]; exact hown2)
      have HB4 := Lib.hid (HB1.out.trans hbw)
      clear hown2 hgrow hat hlt2 hbw HO1 HNW
      go_wp2_with fail
      go_roundw
      case rel => exact ⟨k + 1, by omega, by go_num, HN2, HB4⟩
      case measure => simp [intOf] <;> omega
    · obtain rfl : k = 6 := by omega
      have hin := IntIn.of_owns (zs := idL) hown.out (by decide)
      have HI := Lib.hid hin
      obtain ⟨_, ⟨_, h6⟩ | ⟨g, cp, _, rfl, _, _, hcap, _⟩⟩ := hown.out
      · omega
      have HK := Lib.hid hcap
      clear hin hown hcap
      go_wp2_with fail
      go_ret
      exact ⟨g, cp, rfl, HK.out, HI.out, hbel.out⟩
theorem SpecSame6_any (w : World) : Calls Tryz.prog 29 #[] w (FreshI idL w) := by
  refine (SpecSame6_cap w).mono ?_
  rintro e w' ⟨g, cp, rfl, _, R, hb⟩
  exact ⟨_, rfl, R, hb⟩
/-- What SwapList answers. -/
noncomputable def swapAns (a b : Int) : List Int := @ite _ (Col a ∧ Col b) (Classical.propDecidable _) (swpL a b) []
theorem swap_yes {a b : Int} (h : Col a ∧ Col b) : swapAns a b = swpL a b := if_pos h
theorem swap_no {a b : Int} (h : ¬ (Col a ∧ Col b)) : swapAns a b = [] := if_neg h
theorem fresh_nil (w : World) (c : Nat) : FreshI [] w (.returned (.slice (some ⟨w.heap.size, 0, none⟩) 0 c)) (w.alloc (.cells #[] 3)) := ⟨_, rfl, ⟨by simp, .inl ⟨rfl, _, _, rfl⟩⟩, bel0 w _⟩
set_option maxHeartbeats 1000000 in
theorem SpecSwapList_any (a b : Int) (w : World) : Calls Tryz.prog 10 #[.int .i64 a, .int .i64 b] w (FreshI (swapAns a b) w) := by
  by_cases ha : Col a
  · by_cases hb : Col b
    · rw [swap_yes ⟨ha, hb⟩]
      have HSW : Hid (swpL a b = (idL.set a.toNat b).set b.toNat a) := Lib.hid rfl
      unfold Col at ha hb
      obtain ⟨i, rfl⟩ : ∃ j : Nat, a = j := ⟨a.toNat, by omega⟩
      obtain ⟨j, rfl⟩ : ∃ j : Nat, b = j := ⟨b.toNat, by omega⟩
      rw [HSW.out, Int.toNat_natCast, Int.toNat_natCast]
      obtain ⟨a0, a5⟩ := ha
      obtain ⟨b0, b5⟩ := hb
      go_enter Tryz.func10, Tryz.ntmps10
      go_wp2_with fail
      refine (In_yes _ _ _ _ a0 a5).mono ?_
      rintro e w' ⟨rfl, rfl⟩
      go_wp2_with fail
      refine (In_yes _ _ _ _ b0 b5).mono ?_
      rintro e w' ⟨rfl, rfl⟩
      go_wp2_with fail
      refine (SpecSame6_any _).mono ?_
      rintro e w1 ⟨v, rfl, R, hb1⟩
      have hl6 : idL.length = 6 := rfl
      obtain ⟨av, cv, rfl⟩ := R.form
      obtain ⟨g, rfl, hg1, hg2, e0, f0⟩ := R.at (Below.refl _ _) (i := i) (by omega)
      have R2 := R.set i (by omega) (j : Int)
      obtain ⟨g2, hg, _, _, e1, f1⟩ := R2.at (Below.refl _ _) (i := j) (by simp; omega)
      simp only [Option.some.injEq, Addr.mk.injEq, and_true] at hg
      subst hg
      have R3 := R2.set j (by simp; omega) (i : Int)
      have HR := Lib.hid R3
      have HB := Lib.hid (Below.setCell (Below.setCell hb1 (p := ⟨g, i, none⟩) hg1 (.int .i64 j)) (p := ⟨g, j, none⟩) hg1 (.int .i64 i))
      have hil : (i : Int) < 6 := by omega
      have hjl : (j : Int) < 6 := by omega
      generalize idL.getD i 0 = y0 at e0
      generalize (idL.set i (j : Int)).getD j 0 = y1 at e1
      clear R R2 R3 hb1
      go_wp2_with fail
      go_ret
      exact ⟨_, rfl, HR.out.wide (Nat.le_refl _) (by simp [World.setCell]), HB.out⟩
    · rw [swap_no (fun h => hb h.2)]
      have hb' : b < 0 ∨ 5 < b := by unfold Col at hb; omega
      unfold Col at ha
      obtain ⟨a0, a5⟩ := ha
      go_enter Tryz.func10, Tryz.ntmps10
      go_wp2_with fail
      refine (In_yes _ _ _ _ a0 a5).mono ?_
      rintro e w' ⟨rfl, rfl⟩
      go_wp2_with fail
      refine (In_no _ _ _ _ hb').mono ?_
      rintro e w' ⟨rfl, rfl⟩
      go_wp2_with fail
      go_ret
      exact fresh_nil _ _
  · rw [swap_no (fun h => ha h.1)]
    have ha' : a < 0 ∨ 5 < a := by unfold Col at ha; omega
    go_enter Tryz.func10, Tryz.ntmps10
    go_wp2_with fail
    refine (In_no _ _ _ _ ha').mono ?_
    rintro e w' ⟨rfl, rfl⟩
    go_wp2_with fail
    go_ret
    exact fresh_nil _ _
/-- What UndoList answers. -/
noncomputable def undoAns (zs : List Int) : List Int := @ite _ (Exch zs) (Classical.propDecidable _) (undL zs) []
theorem undo_yes {zs : List Int} (h : Exch zs) : undoAns zs = undL zs := if_pos h
theorem undo_no {zs : List Int} (h : ¬ Exch zs) : undoAns zs = [] := if_neg h
theorem atL_set {ys : List Int} {i : Nat} {a z : Int} (hi : i < ys.length) (ha : 0 ≤ a) : atL (ys.set i z) a = if a = i then z else atL ys a := by
  unfold atL
  by_cases e : a = i
  · subst e
    simp [List.getD, hi]
  · rw [if_neg e]
    simp [List.getD, show ¬ i = a.toNat by omega]
theorem made_zero (n : Nat) : (madeCells (Value.int .i64 0).cells (n * 1)).toList = ivals (List.replicate n 0) := by
  apply List.ext_getElem
  · simp [madeCells, ivals]
  · intro i a b
    simp [madeCells, ivals, Value.cells, Nat.mod_one]
end Go.Proofs.YtahbadokkljoaaaGreatDoor

namespace Go.Proofs.YtahbadokkljoaaaGreatDoor
open Go.ChangeShapes Go.WideShapes Go.ChangeAt Go.RowKit

/-! ### Numbers -/
theorem dd_sub : ∀ (t d : List Int), ∃ r, t.foldl ddStep d = d ++ r ∧ r.Sublist t
  | [], d => ⟨[], by simp, List.Sublist.refl _⟩
  | a :: t, d => by
    obtain ⟨r, hr, hs⟩ := dd_sub t (ddStep d a)
    rw [List.foldl_cons, hr]
    unfold ddStep
    split
    · exact ⟨r, rfl, hs.cons a⟩
    · exact ⟨a :: r, by simp, hs.cons_cons a⟩
theorem dd_len (t d : List Int) : d.length ≤ (t.foldl ddStep d).length ∧ (t.foldl ddStep d).length ≤ d.length + t.length := by
  obtain ⟨r, hr, hs⟩ := dd_sub t d
  rw [hr, List.length_append]
  have := hs.length_le
  omega
theorem dd_id : ∀ (t d : List Int), (d ++ t).Nodup → t.foldl ddStep d = d ++ t
  | [], d, _ => by simp
  | a :: t, d, h => by
    have hm : a ∉ d := fun hm => by
      have := (List.nodup_append.1 h).2.2 a hm a (by simp)
      exact this rfl
    rw [List.foldl_cons]
    have e : ddStep d a = d ++ [a] := if_neg hm
    rw [e, dd_id t (d ++ [a]) (by simpa using h)]
    simp
theorem dd_full {zs : List Int} : (dd zs).length = zs.length ↔ zs.Nodup := by
  constructor
  · intro h
    obtain ⟨r, hr, hs⟩ := dd_sub zs []
    have e : dd zs = r := by unfold dd; rw [hr]; rfl
    rw [e] at h
    rw [← hs.eq_of_length h, ← e]
    exact dd_nodup zs [] List.nodup_nil
  · intro h
    have e : dd zs = zs := by
      unfold dd
      rw [dd_id zs [] (by simpa using h)]
      rfl
    rw [e]
theorem dd_snoc (d t : List Int) (a : Int) : (t ++ [a]).foldl ddStep d = ddStep (t.foldl ddStep d) a := by rw [List.foldl_append]; rfl
theorem take_snocI {zs : List Int} {k : Nat} (h : k < zs.length) : zs.take (k + 1) = zs.take k ++ [zs.getD k 0] := by
  rw [List.take_succ_eq_append_getElem h]
  simp [List.getD, h]

/-! ### ListOk -/
set_option maxHeartbeats 400000 in
theorem ImplListOk_eq (lo hi : Nat) (v : Value) (zs : List Int) (w : World) (r : IntO lo hi w v zs) : Calls Tryz.prog 63 #[v] w fun e w' => e = .returned (.bool (lstB zs)) ∧ w' = w := by
  obtain ⟨a, cap, rfl⟩ := r.form
  have R := Lib.hid r
  have hl := r.1
  clear r
  by_cases h6 : zs.length = 6
  · have hb : ((zs.length : Int) != 6) = false := by simp; omega
    have H6 := Lib.hid h6
    clear h6
    go_enter Tryz.func63, Tryz.ntmps63
    go_wp2_with fail
    go_loop [10] (fun i => ∃ k : Nat, k ≤ zs.length ∧ i = .int .i64 k ∧ Hid (∀ j, j < k → 0 ≤ zs.getD j 0 ∧ zs.getD j 0 ≤ 5)) (fun i => zs.length - (intOf i).toNat)
    case atStart => exact ⟨0, Nat.zero_le _, rfl, Lib.hid (fun j hj => by omega)⟩
    case round =>
      obtain ⟨k, hk, rfl, hall⟩ := hrel
      by_cases hlt : k < zs.length
      · obtain ⟨g, o, rfl, _, _, e0, _⟩ := R.out.at (Below.refl _ _) hlt
        by_cases hz : 0 ≤ zs.getD k 0 ∧ zs.getD k 0 ≤ 5
        · obtain ⟨z0, z5⟩ := hz
          have HN : Hid (∀ j, j < k + 1 → 0 ≤ zs.getD j 0 ∧ zs.getD j 0 ≤ 5) := Lib.hid (fun j hj => by
            rcases Nat.lt_succ_iff_lt_or_eq.1 hj with h | rfl
            · exact hall.out j h
            · exact ⟨z0, z5⟩)
          generalize zs.getD k 0 = z at e0 z0 z5
          clear hall
          go_wp2_with fail
          refine (Color_yes _ _ z0 z5).mono ?_
          rintro e w' ⟨rfl, rfl⟩
          go_wp2_with fail
          go_round
          case rel => exact ⟨k + 1, by omega, by go_num, HN⟩
          case measure => simp [intOf] <;> omega
        · have HF := Lib.hid (lst_no (zs := zs) (fun h => hz (h.2 _ (by simp [List.getD, hlt]))))
          have hz' : zs.getD k 0 < 0 ∨ 5 < zs.getD k 0 := by omega
          generalize zs.getD k 0 = z at e0 hz'
          clear hall hz
          go_wp2_with fail
          refine (Color_no _ _ hz').mono ?_
          rintro e w' ⟨rfl, rfl⟩
          go_wp2_with fail
          go_ret
          exact ⟨ret_bool HF.out, rfl⟩
      · obtain rfl : k = zs.length := by omega
        have HF := Lib.hid (lst_yes (zs := zs) ⟨H6.out, fun z hz => by
          obtain ⟨j, hj, rfl⟩ := List.getElem_of_mem hz
          have := hall.out j hj
          simpa [List.getD, hj] using this⟩)
        clear hall
        go_wp2_with fail
        go_ret
        exact ⟨ret_bool HF.out, rfl⟩
  · have hb : ((zs.length : Int) != 6) = true := by simp; omega
    have HF := Lib.hid (lst_no (zs := zs) (fun h => h6 h.1))
    clear h6
    go_enter Tryz.func63, Tryz.ntmps63
    go_wp2_with fail
    go_ret
    exact ⟨ret_bool HF.out, rfl⟩

theorem ImplListOk_any (lo hi : Nat) (v : Value) (zs : List Int) (w : World) (r : IntO lo hi w v zs) (_hhi : hi ≤ w.heap.size) : Calls Tryz.prog 63 #[v] w fun e w' => e = .returned (.bool (lstB zs)) ∧ Below w.heap.size w w' := by
  refine (ImplListOk_eq lo hi v zs w r).mono ?_
  rintro e w' ⟨rfl, rfl⟩
  exact ⟨rfl, Below.refl _ _⟩

/-! ### slices.Contains -/
theorem ret_int6 {p q : Int} (h : p = q) : Ending.returned (.int .i64 p) = .returned (.int .i64 q) := by rw [h]
set_option maxHeartbeats 400000 in
theorem Index_any (lo hi : Nat) (v : Value) (zs : List Int) (x : Int) (w : World) (r : IntO lo hi w v zs) :
    Calls Tryz.prog 92 #[v, .int .i64 x] w fun e w' => e = .returned (.int .i64 (pos zs x)) ∧ w' = w := by
  obtain ⟨a, cap, rfl⟩ := r.form
  have R := Lib.hid r
  have hl := r.1
  clear r
  go_enter Tryz.func92, Tryz.ntmps92
  go_wp2_with fail
  go_loop [8] (fun i => ∃ k : Nat, k ≤ zs.length ∧ i = .int .i64 k ∧ Hid (∀ j, j < k → ¬ x = zs.getD j 0)) (fun i => zs.length - (intOf i).toNat)
  case atStart => exact ⟨0, Nat.zero_le _, rfl, Lib.hid (fun j hj => by omega)⟩
  case round =>
    obtain ⟨k, hk, rfl, hall⟩ := hrel
    by_cases hlt : k < zs.length
    · obtain ⟨g, o, rfl, _, _, e0, _⟩ := R.out.at (Below.refl _ _) hlt
      by_cases he : x = zs.getD k 0
      · have HF : Hid (pos zs x = (k : Int)) := Lib.hid (by
          have hm : x ∈ zs := by rw [he]; simp [List.getD, hlt]
          have e : zs.idxOf x = k := by
            have h1 : zs.idxOf x ≤ k := by
              rcases Nat.lt_or_ge k (zs.idxOf x) with h | h
              · exact absurd (by rw [he]; simp [List.getD, hlt] : zs[k] = x) (by simpa using List.not_of_lt_findIdx (p := (· == x)) (by simpa [List.idxOf] using h))
              · exact h
            have h2 : zs[zs.idxOf x]'(List.idxOf_lt_length_iff.2 hm) = x := List.getElem_idxOf _
            rcases Nat.lt_or_ge (zs.idxOf x) k with h | h
            · exact absurd (by rw [List.getD, List.getElem?_eq_getElem (List.idxOf_lt_length_iff.2 hm)]; exact h2.symm) (hall.out _ h)
            · omega
          unfold pos
          rw [if_pos hm, e])
        have hb : (x == zs.getD k 0) = true := by simpa using he
        generalize zs.getD k 0 = z at e0 hb
        clear hall he
        go_wp2_with fail
        go_ret
        exact ⟨ret_int6 HF.out.symm, rfl⟩
      · have HN : Hid (∀ j, j < k + 1 → ¬ x = zs.getD j 0) := Lib.hid (fun j hj => by
          rcases Nat.lt_succ_iff_lt_or_eq.1 hj with h | rfl
          · exact hall.out j h
          · exact he)
        have hb : (x == zs.getD k 0) = false := by simpa using he
        generalize zs.getD k 0 = z at e0 hb
        clear hall he
        go_wp2_with fail
        go_round
        case rel => exact ⟨k + 1, by omega, by go_num, HN⟩
        case measure => simp [intOf] <;> omega
    · obtain rfl : k = zs.length := by omega
      have HF : Hid (pos zs x = -1) := Lib.hid (by
        unfold pos
        rw [if_neg (fun hm => by
          obtain ⟨j, hj, e⟩ := List.getElem_of_mem hm
          exact hall.out j hj (by simp [List.getD, hj, e]))])
      clear hall
      go_wp2_with fail
      go_ret
      exact ⟨ret_int6 HF.out.symm, rfl⟩
theorem Contains_any (lo hi : Nat) (v : Value) (zs : List Int) (x : Int) (w : World) (r : IntO lo hi w v zs) :
    Calls Tryz.prog 84 #[v, .int .i64 x] w fun e w' => e = .returned (.bool (decide (x ∈ zs))) ∧ w' = w := by
  have C := Lib.hid (Index_any lo hi v zs x w r)
  have HP : Hid (decide (0 ≤ pos zs x) = decide (x ∈ zs)) := Lib.hid (by
    unfold pos
    by_cases h : x ∈ zs
    · rw [if_pos h]; simp [h]
    · rw [if_neg h]; simp [h])
  clear r
  generalize pos zs x = p at C HP
  go_enter Tryz.func84, Tryz.ntmps84
  go_wp2_with fail
  refine C.out.mono ?_
  rintro e w' ⟨rfl, rfl⟩
  go_wp2_with fail
  go_ret
  exact ⟨ret_bool HP.out, rfl⟩

end Go.Proofs.YtahbadokkljoaaaGreatDoor
