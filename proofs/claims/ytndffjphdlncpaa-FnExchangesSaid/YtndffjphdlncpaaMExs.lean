/- Exchanges: the model's SwapList and UndoList. Exchanges: the model's ExchangeCell. -/
import Derived.Test.YtndffjphdlncpaaMExf
import Derived.Test.YtndffjphdlncpaaMBlk
import Derived.Deep.AppendLies
import Derived.OwnWalk
import Derived.Test.YtndffjphdlncpaaMTur

namespace Go.Proofs.Ytndffjphdlncpaa
open Go.ChangeShapes Go.WideShapes Go.ChangeAt Go.RowKit

theorem info_int6 : (Try.prog.info? 3).map (fun i => (i.zero, i.size, i.bytes)) = some (some (.int .i64 0), 1, 8) := by kernel_rfl
theorem idL_take : ∀ k : Fin 6, idL.take (k.val + 1) = idL.take k.val ++ [(k.val : Int)] := by decide
theorem own_fresh (W : World) (e : Nat) : (W.alloc (.cells #[] e)).ownsRow W.heap.size e 1 (.slice (some ⟨W.heap.size, 0, none⟩) 0 0) 0 [] :=
  ⟨by simp, .inr ⟨_, 0, #[], rfl, Nat.le_refl _, heap_alloc_new _ _, by simp, by simp, rfl, rfl⟩⟩
theorem news1 (W : World) (c : Value) (t : TypeId) : ∀ (j : Nat) u, ([c] : List Value)[j]? = some u → (W.alloc (.cells #[c] t)).cell? ((⟨W.heap.size, 0, none⟩ : Addr).add j) = some u :=
  World.news_of_block (cs := #[c]) (fr := (0, 0)) (heap_alloc_new W _)
theorem own_ge6 {w : World} {base e size n : Nat} {v : Value} {xs : List Value} (h : w.ownsRow base e size v n xs) : ∀ k, v.ownBlock = some k → base ≤ k := by
  intro k hk
  obtain ⟨_, h | ⟨g, cap, cur, hv, hg, _⟩⟩ := h
  · rw [h.1] at hk; cases hk
  · rw [hv] at hk; simp [Value.ownBlock] at hk; omega
theorem owns_bel6 {w w' : World} {b e size n : Nat} {v : Value} {xs : List Value} (h : w.ownsRow b e size v n xs) (hb : Below w.heap.size w w') : w'.ownsRow b e size v n xs := by
  obtain ⟨h1, h2 | ⟨g, cap, cur, hv, hg, hh, r⟩⟩ := h
  · exact ⟨h1, .inl h2⟩
  · exact ⟨h1, .inr ⟨g, cap, cur, hv, hg, by rw [hb.block g (lt_of_heapI hh)]; exact hh, r⟩⟩
set_option maxRecDepth 100000 in
set_option maxHeartbeats 1000000 in
theorem SpecSame6_cap (w : World) : Calls Try.prog 64 #[] w (fun e w' => ∃ g cp, e = .returned (.slice (some ⟨g, 0, none⟩) 6 cp) ∧ 6 ≤ cp ∧ IntIn w.heap.size w'.heap.size w' (.slice (some ⟨g, 0, none⟩) 6 cp) idL ∧ Below w.heap.size w w') := by
  obtain ⟨i0, hi0, hz0, hz1, hz2⟩ : ∃ i, Try.prog.info? 3 = some i ∧ i.zero = some (.int .i64 0) ∧ i.size = 1 ∧ i.bytes = 8 := info_parts3 info_int6
  go_enter Try.func64, Try.ntmps64
  go_wp2_with fail
  go_loopw [1, 2] (fun q i wr => ∃ k : Nat, k ≤ 6 ∧ i = .int .i64 k ∧ Hid (wr.ownsRow w.heap.size 3 1 q k (ivals (idL.take k))) ∧ Hid (Below w.heap.size w wr)) (fun _ i _ => 6 - (intOf i).toNat)
  case atStart => exact ⟨0, Nat.zero_le _, rfl, Lib.hid (own_fresh w 3), Lib.hid (bel0 w _)⟩
  case round =>
    obtain ⟨k, hk, rfl, hown, hbel⟩ := hrel
    by_cases hlt : k < 6
    · have HT := Lib.hid (idL_take ⟨k, hlt⟩)
      have HO1 := Lib.hid (owns_bel6 hown.out (bel0 wr (.cells #[.int .i64 k] 3)))
      have HNW := Lib.hid (news1 wr (.int .i64 k) 3)
      have HB1 := Lib.hid (bel_n hbel.out (Nat.le_refl _) (.cells #[.int .i64 k] 3))
      have HB2 : Hid (w.heap.size ≤ (wr.alloc (.cells #[.int .i64 k] 3)).heap.size) := Lib.hid HB1.out.size
      clear hown hbel
      go_wp2_with (at_builtin; refine wpList_append_lies _ rfl _ _ 27 rfl w.heap.size 3 i0 (.int .i64 0) 1 8 Try.underlying27 hi0 hz0 hz1 hz2 rfl (by decide) _ _ _ rfl HO1.out ⟨wr.heap.size, 0, none⟩ 1 1 [.int .i64 k] rfl rfl HNW.out (by simp [Value.oneCell']) (by omega) (by unfold maxLen; omega) (by omega) HB2.out (wr.heap.size + 1) (by simp) ?_; intro gg cc w2 hown2 hgrow hat hlt2)
      have hbw := (Below.refl w.heap.size _).grown hgrow HB2.out (own_ge6 HO1.out)
      have HN2 : Hid (w2.ownsRow w.heap.size 3 1 (.slice (some ⟨gg, 0, none⟩) (k + 1) cc) (k + 1) (ivals (idL.take (k + 1)))) := Lib.hid (by rw [show idL.take (k + 1) = idL.take k ++ [(k : Int)] from HT.out]; unfold ivals at hown2 ⊢; rw [List.map_append]; exact hown2)
      have HB4 := Lib.hid (HB1.out.trans hbw)
      clear hown2 hgrow hat hlt2 hbw HO1 HNW
      go_wp2_with fail
      go_roundw
      case rel => exact ⟨k + 1, by omega, by go_num, HN2, HB4⟩
      case measure => simp [intOf] <;> omega
    · obtain rfl : k = 6 := by omega
      have hin := IntIn.of_owns (zs := idL) hown.out (by decide)
      have HI := Lib.hid hin
      obtain ⟨_, ⟨_, h6⟩ | ⟨g, cp, _, rfl, _, _, hcap, _⟩⟩ := hown.out
      · omega
      have HK := Lib.hid hcap
      clear hin hown hcap
      go_wp2_with fail
      go_ret
      exact ⟨g, cp, rfl, HK.out, HI.out, hbel.out⟩
theorem SpecSame6_any (w : World) : Calls Try.prog 64 #[] w (FreshI idL w) := by
  refine (SpecSame6_cap w).mono ?_
  rintro e w' ⟨g, cp, rfl, _, R, hb⟩
  exact ⟨_, rfl, R, hb⟩
/-- What SwapList answers. -/
noncomputable def swapAns (a b : Int) : List Int := @ite _ (Col a ∧ Col b) (Classical.propDecidable _) (swpL a b) []
theorem swap_yes {a b : Int} (h : Col a ∧ Col b) : swapAns a b = swpL a b := if_pos h
theorem swap_no {a b : Int} (h : ¬ (Col a ∧ Col b)) : swapAns a b = [] := if_neg h
theorem fresh_nil (w : World) (c : Nat) : FreshI [] w (.returned (.slice (some ⟨w.heap.size, 0, none⟩) 0 c)) (w.alloc (.cells #[] 3)) := ⟨_, rfl, ⟨by simp, .inl ⟨rfl, _, _, rfl⟩⟩, bel0 w _⟩
set_option maxHeartbeats 1000000 in
theorem SpecSwapList_any (a b : Int) (w : World) : Calls Try.prog 40 #[.int .i64 a, .int .i64 b] w (FreshI (swapAns a b) w) := by
  by_cases ha : Col a
  · by_cases hb : Col b
    · rw [swap_yes ⟨ha, hb⟩]
      have HSW : Hid (swpL a b = (idL.set a.toNat b).set b.toNat a) := Lib.hid rfl
      unfold Col at ha hb
      obtain ⟨i, rfl⟩ : ∃ j : Nat, a = j := ⟨a.toNat, by omega⟩
      obtain ⟨j, rfl⟩ : ∃ j : Nat, b = j := ⟨b.toNat, by omega⟩
      rw [HSW.out, Int.toNat_natCast, Int.toNat_natCast]
      obtain ⟨a0, a5⟩ := ha
      obtain ⟨b0, b5⟩ := hb
      go_enter Try.func40, Try.ntmps40
      go_wp2_with fail
      refine (In_yes _ _ _ _ a0 a5).mono ?_
      rintro e w' ⟨rfl, rfl⟩
      go_wp2_with fail
      refine (In_yes _ _ _ _ b0 b5).mono ?_
      rintro e w' ⟨rfl, rfl⟩
      go_wp2_with fail
      refine (SpecSame6_any _).mono ?_
      rintro e w1 ⟨v, rfl, R, hb1⟩
      have hl6 : idL.length = 6 := rfl
      obtain ⟨av, cv, rfl⟩ := R.form
      obtain ⟨g, rfl, hg1, hg2, e0, f0⟩ := R.at (Below.refl _ _) (i := i) (by omega)
      have R2 := R.set i (by omega) (j : Int)
      obtain ⟨g2, hg, _, _, e1, f1⟩ := R2.at (Below.refl _ _) (i := j) (by simp; omega)
      simp only [Option.some.injEq, Addr.mk.injEq, and_true] at hg
      subst hg
      have R3 := R2.set j (by simp; omega) (i : Int)
      have HR := Lib.hid R3
      have HB := Lib.hid (Below.setCell (Below.setCell hb1 (p := ⟨g, i, none⟩) hg1 (.int .i64 j)) (p := ⟨g, j, none⟩) hg1 (.int .i64 i))
      have hil : (i : Int) < 6 := by omega
      have hjl : (j : Int) < 6 := by omega
      generalize idL.getD i 0 = y0 at e0
      generalize (idL.set i (j : Int)).getD j 0 = y1 at e1
      clear R R2 R3 hb1
      go_wp2_with fail
      go_ret
      exact ⟨_, rfl, HR.out.wide (Nat.le_refl _) (by simp [World.setCell]), HB.out⟩
    · rw [swap_no (fun h => hb h.2)]
      have hb' : b < 0 ∨ 5 < b := by unfold Col at hb; omega
      unfold Col at ha
      obtain ⟨a0, a5⟩ := ha
      go_enter Try.func40, Try.ntmps40
      go_wp2_with fail
      refine (In_yes _ _ _ _ a0 a5).mono ?_
      rintro e w' ⟨rfl, rfl⟩
      go_wp2_with fail
      refine (In_no _ _ _ _ hb').mono ?_
      rintro e w' ⟨rfl, rfl⟩
      go_wp2_with fail
      go_ret
      exact fresh_nil _ _
  · rw [swap_no (fun h => ha h.1)]
    have ha' : a < 0 ∨ 5 < a := by unfold Col at ha; omega
    go_enter Try.func40, Try.ntmps40
    go_wp2_with fail
    refine (In_no _ _ _ _ ha').mono ?_
    rintro e w' ⟨rfl, rfl⟩
    go_wp2_with fail
    go_ret
    exact fresh_nil _ _
/-- What UndoList answers. -/
noncomputable def undoAns (zs : List Int) : List Int := @ite _ (Exch zs) (Classical.propDecidable _) (undL zs) []
theorem undo_yes {zs : List Int} (h : Exch zs) : undoAns zs = undL zs := if_pos h
theorem undo_no {zs : List Int} (h : ¬ Exch zs) : undoAns zs = [] := if_neg h
theorem atL_set {ys : List Int} {i : Nat} {a z : Int} (hi : i < ys.length) (ha : 0 ≤ a) : atL (ys.set i z) a = if a = i then z else atL ys a := by
  unfold atL
  by_cases e : a = i
  · subst e
    simp [List.getD, hi]
  · rw [if_neg e]
    simp [List.getD, show ¬ i = a.toNat by omega]
theorem made_zero (n : Nat) : (madeCells (Value.int .i64 0).cells (n * 1)).toList = ivals (List.replicate n 0) := by
  apply List.ext_getElem
  · simp [madeCells, ivals]
  · intro i a b
    simp [madeCells, ivals, Value.cells, Nat.mod_one]
set_option maxHeartbeats 1000000 in
theorem SpecUndoList_any (lo hi : Nat) (v : Value) (zs : List Int) (w : World) (r : IntO lo hi w v zs) (hhi : hi ≤ w.heap.size) :
    Calls Try.prog 42 #[v] w (FreshI (undoAns zs) w) := by
  obtain ⟨i0, hi0, hz0, hz1, hz2⟩ : ∃ i, Try.prog.info? 3 = some i ∧ i.zero = some (.int .i64 0) ∧ i.size = 1 ∧ i.bytes = 8 := info_parts3 info_int6
  obtain ⟨a, cap, rfl⟩ := r.form
  have HR := Lib.hid (fun W (hb : Below w.heap.size w W) => r.below (hb.mono hhi))
  have HR0 := Lib.hid r
  have hl := r.1
  clear r
  by_cases hx : Exch zs
  · rw [undo_yes hx]
    have HX := Lib.hid hx
    have hl6 : zs.length ≤ 6 := by rw [hx.1.1]; exact Nat.le_refl _
    have hl6' : 6 ≤ zs.length := by rw [hx.1.1]; exact Nat.le_refl _
    clear hx
    go_enter Try.func42, Try.ntmps42
    go_wp2_with fail
    refine (SpecIsExchange_any lo hi _ zs _ HR0.out hhi).mono ?_
    rw [← ex_yes HX.out]
    rintro e w1 ⟨rfl, hb1⟩
    have HB1 := Lib.hid hb1
    clear hb1
    go_wp2_with (at_make; refine wpList_make_full _ rfl _ _ 27 rfl w1.heap.size 3 i0 _ 1 Try.underlying27 hi0 hz0 hz1 .i64 .i64 _ _ zs.length rfl rfl rfl rfl (by rw [hz2]; omega) (by unfold maxLen; omega) (Nat.le_refl _) ?_; intro w0 hown0 hgrow0)
    have hb0 := own_none hgrow0
    rw [made_zero] at hown0
    have hin0 := IntIn.of_owns (zs := List.replicate zs.length 0) (by rw [List.length_replicate]; exact hown0) (by simpa using hl)
    have HB0 := Lib.hid (bel_c HB1.out (Nat.le_refl _) hb0)
    have HW : Hid (IntIn w1.heap.size w0.heap.size w0 (.slice (some ⟨w1.heap.size, 0, none⟩) zs.length zs.length) (List.replicate zs.length 0)) := Lib.hid hin0
    have hsz1 := HB1.out.size
    clear hb0 hown0 hgrow0 hin0
    go_loopw [4] (fun i wr => ∃ (k : Nat) (ys : List Int), k ≤ zs.length ∧ i = .int .i64 k ∧ Hid (ys.length = zs.length ∧ ∀ j, j < k → atL ys (zs.getD j 0) = j) ∧ Hid (IntIn w1.heap.size w0.heap.size wr (.slice (some ⟨w1.heap.size, 0, none⟩) zs.length zs.length) ys) ∧ Hid (Below w.heap.size w wr) ∧ w0.heap.size ≤ wr.heap.size) (fun i _ => zs.length - (intOf i).toNat)
    case atStart => exact ⟨0, _, Nat.zero_le _, rfl, Lib.hid ⟨by simp, fun j hj => by omega⟩, HW, HB0, Nat.le_refl _⟩
    case round =>
      obtain ⟨k, ys, hk, rfl, hup, hin, hbel, hsz⟩ := hrel
      by_cases hlt : k < zs.length
      · obtain ⟨g, o, rfl, _, _, e0, _⟩ := (HR.out _ hbel.out).at (Below.refl _ _) hlt
        have hz : 0 ≤ zs.getD k 0 ∧ zs.getD k 0 ≤ 5 := HX.out.1.2 _ (by simp [List.getD, hlt])
        obtain ⟨z, hzz⟩ : ∃ z : Nat, zs.getD k 0 = z := ⟨(zs.getD k 0).toNat, by omega⟩
        rw [hzz] at e0 hz
        have hyl := hup.out.1
        have hzl : z < zs.length := by omega
        have hzl2 : (z : Int) < (zs.length : Int) := by omega
        obtain ⟨g2, hg2, hq1, _, e1, f1⟩ := hin.out.at (Below.refl _ _) (i := z) (by omega)
        simp only [Option.some.injEq, Addr.mk.injEq, and_true] at hg2
        subst hg2
        have HN := Lib.hid (hin.out.set z (by omega) (k : Int))
        have HU : Hid ((ys.set z (k : Int)).length = zs.length ∧ ∀ j, j < k + 1 → atL (ys.set z (k : Int)) (zs.getD j 0) = j) := Lib.hid ⟨by rw [List.length_set]; exact hyl, fun j hj => by
          have hjz : 0 ≤ zs.getD j 0 := (HX.out.1.2 _ (by simp [List.getD, show j < zs.length by omega])).1
          rw [atL_set (by omega) hjz]
          by_cases e : zs.getD j 0 = z
          · rw [if_pos e]
            have h1 : zs.getD j 0 = zs[j]'(by omega) := by simp [List.getD, show j < zs.length by omega]
            have h2 : zs.getD k 0 = zs[k] := by simp [List.getD, hlt]
            have h3 : zs[j]'(by omega) = zs[k] := by rw [← h1, ← h2, e, hzz]
            have := (List.getElem_inj HX.out.2).1 h3
            omega
          · rw [if_neg e]
            have hjk : j ≠ k := fun h => e (by rw [h, hzz])
            exact hup.out.2 j (by omega)⟩
        have HB2 := Lib.hid (Below.setCell hbel.out (p := ⟨w1.heap.size, z, none⟩) hsz1 (.int .i64 k))
        generalize ys.getD z 0 = y at e1
        clear hup hin hbel hzz
        go_wp2_with fail
        go_roundw
        case rel => exact ⟨k + 1, _, by omega, by go_num, HU, HN, HB2, by simp [World.setCell]; exact hsz⟩
        case measure => simp [intOf] <;> omega
      · obtain rfl : k = zs.length := by omega
        have HYS := Lib.hid (und_is HX.out (by rw [hup.out.1]; exact HX.out.1.1) (fun j hj => hup.out.2 j (by omega)))
        have hyl := hup.out.1
        have HI := Lib.hid (show IntIn w.heap.size wr.heap.size wr (.slice (some ⟨w1.heap.size, 0, none⟩) zs.length zs.length) (undL zs) by rw [← HYS.out]; exact hin.out.wide hsz1 hsz)
        clear hup hin hyl
        go_wp2_with fail
        go_ret
        exact ⟨_, rfl, HI.out, hbel.out⟩
  · rw [undo_no hx]
    have HX := Lib.hid hx
    clear hx
    go_enter Try.func42, Try.ntmps42
    go_wp2_with fail
    refine (SpecIsExchange_any lo hi _ zs _ HR0.out hhi).mono ?_
    rw [← ex_no HX.out]
    rintro e w1 ⟨rfl, hb1⟩
    go_wp2_with fail
    go_ret
    exact ⟨_, rfl, ⟨by simp, .inl ⟨rfl, _, _, rfl⟩⟩, bel_n hb1 (Nat.le_refl _) _⟩

end Go.Proofs.Ytndffjphdlncpaa

namespace Go.Proofs.Ytndffjphdlncpaa
open Go.ChangeShapes Go.WideShapes Go.ChangeAt Go.RowKit

theorem bel_set3 (u : World) (p : Nat) (x y z : Value) : Below p u (((u.setCell ⟨p, 0, none⟩ x).setCell ⟨p, 1, none⟩ y).setCell ⟨p, 2, none⟩ z) := (((Below.refl p u).setCell (p := ⟨p, 0, none⟩) (Nat.le_refl _) x).setCell (p := ⟨p, 1, none⟩) (Nat.le_refl _) y).setCell (p := ⟨p, 2, none⟩) (Nat.le_refl _) z
set_option maxRecDepth 100000 in
set_option maxHeartbeats 2000000 in
theorem SpecExchangeCell_any (lo hi : Nat) (s a b : Int) (v : Value) (zs : List Int) (w : World) (r : IntO lo hi w v zs) (hhi : hi ≤ w.heap.size) :
    Calls Try.prog 23 #[.agg #[.int .i64 s, .int .i64 a, .int .i64 b], v] w fun e w' => e = .returned (.agg #[.int .i64 (exZ zs ⟨s, a, b⟩).s, .int .i64 (exZ zs ⟨s, a, b⟩).a, .int .i64 (exZ zs ⟨s, a, b⟩).b]) ∧ Below w.heap.size w w' := by
  obtain ⟨al, cap, rfl⟩ := r.form
  have HR := Lib.hid (fun W (hb : Below w.heap.size w W) => r.below (hb.mono hhi))
  have hl := r.1
  clear r
  have HK := Lib.hid (SpecTurnCell_keep s a b w)
  by_cases hc : OkC s a b
  · have HC := Lib.hid hc
    by_cases hz : LstOk zs
    · have HL := Lib.hid hz
      have hl6 : zs.length ≤ 6 := by rw [hz.1]; exact Nat.le_refl _
      have hl6' : 6 ≤ zs.length := by rw [hz.1]; exact Nat.le_refl _
      rw [exZ_yes (c := ⟨s, a, b⟩) hc hz]
      obtain ⟨sp1, sp2, sp3⟩ := sp_exC (c := ⟨s, a, b⟩) hz hc
      have ha : 0 ≤ a ∧ a ≤ 5 := by unfold OkC at hc; omega
      have hb5 : 0 ≤ b ∧ b ≤ 5 := by unfold OkC at hc; omega
      obtain ⟨i, rfl⟩ : ∃ i : Nat, a = i := ⟨a.toNat, by omega⟩
      obtain ⟨j, rfl⟩ : ∃ j : Nat, b = j := ⟨b.toNat, by omega⟩
      have CS := Lib.hid (fun u => SpecSplit_any s (zs.getD i 0) (zs.getD j 0) u)
      dsimp only [atL, Int.toNat_natCast] at sp1 sp2 sp3
      rw [sp1, sp2, sp3] at CS
      clear sp1 sp2 sp3 hc hz
      generalize exC zs ⟨s, i, j⟩ = z at CS ⊢
      have hi5 : i < 6 := by omega
      have hj5 : j < 6 := by omega
      go_enter Try.func23, Try.ntmps23
      go_wp2_with fail
      refine (SpecOk_yes _ _ _ _ HC.out).mono ?_
      rintro e w1 ⟨rfl, hb⟩
      obtain ⟨⟨c0, c1, c2⟩, ⟨d0, d1, d2⟩, ⟨f0, f1, f2⟩, B⟩ := HK.out w1 hb
      clear hb HK
      go_wp2_with fail
      refine (SpecListOk_any lo hi _ zs _ (HR.out _ B)).mono ?_
      rw [← lst_yes HL.out]
      rintro e w' ⟨rfl, hw⟩
      have hw' := hw.symm
      subst hw'
      clear hw
      obtain ⟨g, o, rfl, hg1, hg2, e0, _⟩ := (HR.out _ B).at (Below.refl _ _) (i := i) (by omega)
      obtain ⟨g2, o2, hge, _, _, e1, _⟩ := (HR.out _ B).at (Below.refl _ _) (i := j) (by omega)
      simp only [Option.some.injEq, Addr.mk.injEq, and_true] at hge
      obtain ⟨rfl, rfl⟩ := hge
      generalize zs.getD i 0 = x at e0 CS
      generalize zs.getD j 0 = y at e1 CS
      have hil : (i : Int) < (zs.length : Int) := by omega
      have hjl : (j : Int) < (zs.length : Int) := by omega
      have hS0 : Hid (w1.drew.cell? ⟨w.heap.size, 0, none⟩ = some (.int .i64 s) ∧ w1.drew.cell? ⟨w.heap.size, 1, none⟩ = some (.int .i64 (i : Nat)) ∧ w1.drew.cell? ⟨w.heap.size, 2, none⟩ = some (.int .i64 (j : Nat)) ∧ w1.drew.cell? ⟨g, o + i, none⟩ = some (.int .i64 x) ∧ w1.drew.cell? ⟨g, o + j, none⟩ = some (.int .i64 y)) := Lib.hid ⟨c0, c1, c2, e0, e1⟩
      have HB := Lib.hid (bel_draw B)
      have KP : Hid (∀ u v, Below (w.heap.size + 1) u v → (u.cell? ⟨w.heap.size, 0, none⟩ = some (.int .i64 s) ∧ u.cell? ⟨w.heap.size, 1, none⟩ = some (.int .i64 (i : Nat)) ∧ u.cell? ⟨w.heap.size, 2, none⟩ = some (.int .i64 (j : Nat)) ∧ u.cell? ⟨g, o + i, none⟩ = some (.int .i64 x) ∧ u.cell? ⟨g, o + j, none⟩ = some (.int .i64 y)) → (v.cell? ⟨w.heap.size, 0, none⟩ = some (.int .i64 s) ∧ v.cell? ⟨w.heap.size, 1, none⟩ = some (.int .i64 (i : Nat)) ∧ v.cell? ⟨w.heap.size, 2, none⟩ = some (.int .i64 (j : Nat)) ∧ v.cell? ⟨g, o + i, none⟩ = some (.int .i64 x) ∧ v.cell? ⟨g, o + j, none⟩ = some (.int .i64 y))) := Lib.hid (fun u v hb h => ⟨(hb.cell (p := ⟨w.heap.size, 0, none⟩) (Nat.lt_succ_self _)).trans h.1, (hb.cell (p := ⟨w.heap.size, 1, none⟩) (Nat.lt_succ_self _)).trans h.2.1, (hb.cell (p := ⟨w.heap.size, 2, none⟩) (Nat.lt_succ_self _)).trans h.2.2.1, (hb.cell (p := ⟨g, o + i, none⟩) (by show g < _; omega)).trans h.2.2.2.1, (hb.cell (p := ⟨g, o + j, none⟩) (by show g < _; omega)).trans h.2.2.2.2⟩)
      have HD := Lib.hid (⟨⟨d0, d1, d2⟩, f0, f1, f2⟩ : (_ ∧ _ ∧ _) ∧ _ ∧ _ ∧ _)
      have hsz : w.heap.size + 1 ≤ w1.drew.heap.size := by have := lt_of_cell d0; simp at this; show _ ≤ w1.heap.size; omega
      clear c0 c1 c2 e0 e1 d0 d1 d2 f0 f1 f2 B
      go_wp2_with fail
      (try simp only [List.append_eq, List.cons_append, List.nil_append])
      have hS := hS0.out
      clear hS0
      refine reg_begin (fun u => u.cell? ⟨w.heap.size, 0, none⟩ = some (.int .i64 s) ∧ u.cell? ⟨w.heap.size, 1, none⟩ = some (.int .i64 (i : Nat)) ∧ u.cell? ⟨w.heap.size, 2, none⟩ = some (.int .i64 (j : Nat)) ∧ u.cell? ⟨g, o + i, none⟩ = some (.int .i64 x) ∧ u.cell? ⟨g, o + j, none⟩ = some (.int .i64 y)) (by kernel_rfl) hS ?_
      refine reg_take 0 (v := ?_) rfl (by kernel_rfl) (by kernel_rfl) (by kernel_rfl) (fun _ _ _ h => h) (by rfl) (by intro w hSw; (try dsimp only at hSw); go_simp; first | done | with_reducible rfl) hS ?_
      (try simp only [Act.put, List.setIfInBounds_toArray, List.set_cons_zero, List.set_cons_succ])
      refine reg_take 1 (v := ?_) rfl (by kernel_rfl) (by kernel_rfl) (by kernel_rfl) (fun _ _ _ h => h) (by rfl) (by intro w hSw; (try dsimp only at hSw); go_simp; first | done | with_reducible rfl) hS ?_
      (try simp only [Act.put, List.setIfInBounds_toArray, List.set_cons_zero, List.set_cons_succ])
      refine reg_take 2 (v := ?_) rfl (by kernel_rfl) (by kernel_rfl) (by kernel_rfl) (fun _ _ _ h => h) (by rfl) (by intro w hSw; (try dsimp only at hSw); go_simp; first | done | with_reducible rfl) hS ?_
      (try simp only [Act.put, List.setIfInBounds_toArray, List.set_cons_zero, List.set_cons_succ])
      refine reg_take 3 (v := ?_) rfl (by kernel_rfl) (by kernel_rfl) (by kernel_rfl) (fun _ _ _ h => h) (by rfl) (by intro w hSw; (try dsimp only at hSw); go_simp; first | done | with_reducible rfl) hS ?_
      (try simp only [Act.put, List.setIfInBounds_toArray, List.set_cons_zero, List.set_cons_succ])
      refine reg_take 4 (v := ?_) rfl (by kernel_rfl) (by kernel_rfl) (by kernel_rfl) (fun _ _ _ h => h) (by rfl) (by intro w hSw; (try dsimp only at hSw); go_simp; first | done | with_reducible rfl) hS ?_
      (try simp only [Act.put, List.setIfInBounds_toArray, List.set_cons_zero, List.set_cons_succ])
      refine reg_take 5 (v := ?_) rfl (by kernel_rfl) (by kernel_rfl) (by kernel_rfl) (fun _ _ _ h => h) (by rfl) (by intro w hSw; (try dsimp only at hSw); go_simp; first | done | with_reducible rfl) hS ?_
      (try simp only [Act.put, List.setIfInBounds_toArray, List.set_cons_zero, List.set_cons_succ])
      refine reg_take 6 (v := ?_) rfl (by kernel_rfl) (by kernel_rfl) (by kernel_rfl) (fun _ _ _ h => h) (by rfl) (by intro w hSw; (try dsimp only at hSw); go_simp; first | done | with_reducible rfl) hS ?_
      (try simp only [Act.put, List.setIfInBounds_toArray, List.set_cons_zero, List.set_cons_succ])
      refine reg_take 7 (v := ?_) rfl (by kernel_rfl) (by kernel_rfl) (by kernel_rfl) (fun _ _ _ h => h) (by rfl) (by intro w hSw; (try dsimp only at hSw); go_simp; first | done | with_reducible rfl) hS ?_
      (try simp only [Act.put, List.setIfInBounds_toArray, List.set_cons_zero, List.set_cons_succ])
      refine reg_take 8 (v := ?_) rfl (by kernel_rfl) (by kernel_rfl) (by kernel_rfl) (fun _ _ _ h => h) (by rfl) (by intro w hSw; (try dsimp only at hSw); go_simp; first | done | with_reducible rfl) hS ?_
      (try simp only [Act.put, List.setIfInBounds_toArray, List.set_cons_zero, List.set_cons_succ])
      refine reg_take 9 (v := ?_) rfl (by kernel_rfl) (by kernel_rfl) (by kernel_rfl) (fun _ _ _ h => h) (by rfl) (by intro w hSw; (try dsimp only at hSw); go_simp; first | done | with_reducible rfl) hS ?_
      (try simp only [Act.put, List.setIfInBounds_toArray, List.set_cons_zero, List.set_cons_succ])
      refine reg_take 10 (v := ?_) rfl (by kernel_rfl) (by kernel_rfl) (by kernel_rfl) (fun _ _ _ h => h) (by rfl) (by intro w hSw; (try dsimp only at hSw); go_simp; first | done | with_reducible rfl) hS ?_
      (try simp only [Act.put, List.setIfInBounds_toArray, List.set_cons_zero, List.set_cons_succ])
      refine reg_take 11 (v := ?_) rfl (by kernel_rfl) (by kernel_rfl) (by kernel_rfl) (fun _ _ _ h => h) (by rfl) (by intro w hSw; (try dsimp only at hSw); go_simp; first | done | with_reducible rfl) hS ?_
      (try simp only [Act.put, List.setIfInBounds_toArray, List.set_cons_zero, List.set_cons_succ])
      refine reg_call 12 rfl (by kernel_rfl) (by rfl) (fun K hK => ?_)
      go_simp
      go_at_call 57
      refine (CS.out _).mono ?_
      rintro e w2 ⟨rfl, hb2⟩
      have HB2 := Lib.hid (bel_c HB.out (Nat.le_refl _) hb2)
      obtain ⟨⟨d0, d1, d2⟩, f0, f1, f2⟩ := HD.out
      have q0 := kept (p := ⟨w.heap.size + 1, 0, none⟩) hb2 d0
      have q1 := kept (p := ⟨w.heap.size + 1, 1, none⟩) hb2 d1
      have q2 := kept (p := ⟨w.heap.size + 1, 2, none⟩) hb2 d2
      have r0 := keptF (p := ⟨w.heap.size + 1, 0, none⟩) hb2 d0 f0
      have r1 := keptF (p := ⟨w.heap.size + 1, 1, none⟩) hb2 d1 f1
      have r2 := keptF (p := ⟨w.heap.size + 1, 2, none⟩) hb2 d2 f2
      have HS := Lib.hid (KP.out _ _ (hb2.mono hsz) hS)
      clear hb2 d0 d1 d2 f0 f1 f2 HD
      refine hK.out _ _ HS.out (fun hS' => ?_)
      clear HS
      clear hK K
      replace hS := hS'
      clear hS'
      (try simp only [Act.put, List.setIfInBounds_toArray, List.set_cons_zero, List.set_cons_succ])
      refine reg_call 13 rfl (by kernel_rfl) (by rfl) (fun K hK => ?_)
      have HS := Lib.hid (KP.out w2 (((w2.setCell ⟨w.heap.size + 1, 0, none⟩ (.int .i64 z.s)).setCell ⟨w.heap.size + 1, 1, none⟩ (.int .i64 z.a)).setCell ⟨w.heap.size + 1, 2, none⟩ (.int .i64 z.b)) (bel_set3 w2 (w.heap.size + 1) _ _ _) hS)
      go_simp
      refine hK.out _ _ HS.out (fun hS' => ?_)
      clear HS hS' hK K hS
      (try simp only [Act.put, List.setIfInBounds_toArray, List.set_cons_zero, List.set_cons_succ])
      refine wpAnyH_done (by kernel_rfl) ?_ _
      go_wp2_with fail
      refine bodyPost_ret (v := .agg #[.int .i64 z.s, .int .i64 z.a, .int .i64 z.b]) (by simp [results, Try.results23, go_sem, q0, q1, q2]) rfl ⟨rfl, ?_⟩
      refine Below.setCell (Below.setCell (Below.setCell HB2.out ?_ _) ?_ _) ?_ _ <;> (simp <;> omega)
    · have HL := Lib.hid hz
      rw [exZ_no (c := ⟨s, a, b⟩) (fun h => hz h.2)]
      clear hc hz
      show Calls _ _ _ _ fun e w' => e = .returned (.agg #[.int .i64 0, .int .i64 0, .int .i64 0]) ∧ _
      go_enter Try.func23, Try.ntmps23
      go_wp2_with fail
      refine (SpecOk_yes _ _ _ _ HC.out).mono ?_
      rintro e w1 ⟨rfl, hb⟩
      obtain ⟨⟨c0, c1, c2⟩, ⟨d0, d1, d2⟩, ⟨f0, f1, f2⟩, B⟩ := HK.out w1 hb
      clear hb HK
      go_wp2_with fail
      refine (SpecListOk_any lo hi _ zs _ (HR.out _ B)).mono ?_
      rw [← lst_no HL.out]
      rintro e w' ⟨rfl, rfl⟩
      go_wp2_with fail
      refine bodyPost_ret (v := .agg #[.int .i64 0, .int .i64 0, .int .i64 0]) (by simp [results, Try.results23, go_sem, d0, d1, d2]) rfl ⟨rfl, ?_⟩
      refine Below.setCell (Below.setCell (Below.setCell B ?_ _) ?_ _) ?_ _ <;> (simp <;> omega)
  · have HC := Lib.hid hc
    rw [exZ_no (c := ⟨s, a, b⟩) (fun h => hc h.1)]
    clear hc
    show Calls _ _ _ _ fun e w' => e = .returned (.agg #[.int .i64 0, .int .i64 0, .int .i64 0]) ∧ _
    go_enter Try.func23, Try.ntmps23
    go_wp2_with fail
    refine (SpecOk_no _ _ _ _ HC.out).mono ?_
    rintro e w1 ⟨rfl, hb⟩
    obtain ⟨⟨c0, c1, c2⟩, ⟨d0, d1, d2⟩, ⟨f0, f1, f2⟩, B⟩ := HK.out w1 hb
    clear hb HK
    go_wp2_with fail
    refine bodyPost_ret (v := .agg #[.int .i64 0, .int .i64 0, .int .i64 0]) (by simp [results, Try.results23, go_sem, d0, d1, d2]) rfl ⟨rfl, ?_⟩
    refine Below.setCell (Below.setCell (Below.setCell B ?_ _) ?_ _) ?_ _ <;> (simp <;> omega)

end Go.Proofs.Ytndffjphdlncpaa
