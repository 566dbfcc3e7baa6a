/- Exchanges: the program's ListOk, appendNew and IsExchange. Exchanges: the program's appendNew and IsExchange. Exchanges: the program's SwapList and UndoList. Exchanges: the model's FirstUse. -/
import Derived.Test.YtfidnhhlcdbaeaaGreatDoorM11
import Derived.Test.YtfidnhhlcdbaeaaGreatDoorM10
import Derived.Test.YtfidnhhlcdbaeaaGreatDoorM07
import Derived.Test.YtfidnhhlcdbaeaaGreatDoorM09
import Derived.Test.YtfidnhhlcdbaeaaGreatDoorM03

namespace Go.Proofs.YtfidnhhlcdbaeaaGreatDoor
open Go.ChangeShapes Go.WideShapes Go.ChangeAt Go.RowKit

/-! ### Numbers -/
theorem dd_sub : ∀ (t d : List Int), ∃ r, t.foldl ddStep d = d ++ r ∧ r.Sublist t
  | [], d => ⟨[], by simp, List.Sublist.refl _⟩
  | a :: t, d => by
    obtain ⟨r, hr, hs⟩ := dd_sub t (ddStep d a)
    rw [List.foldl_cons, hr]
    unfold ddStep
    split
    · exact ⟨r, rfl, hs.cons a⟩
    · exact ⟨a :: r, by simp, hs.cons_cons a⟩
theorem dd_len (t d : List Int) : d.length ≤ (t.foldl ddStep d).length ∧ (t.foldl ddStep d).length ≤ d.length + t.length := by
  obtain ⟨r, hr, hs⟩ := dd_sub t d
  rw [hr, List.length_append]
  have := hs.length_le
  omega
theorem dd_id : ∀ (t d : List Int), (d ++ t).Nodup → t.foldl ddStep d = d ++ t
  | [], d, _ => by simp
  | a :: t, d, h => by
    have hm : a ∉ d := fun hm => by
      have := (List.nodup_append.1 h).2.2 a hm a (by simp)
      exact this rfl
    rw [List.foldl_cons]
    have e : ddStep d a = d ++ [a] := if_neg hm
    rw [e, dd_id t (d ++ [a]) (by simpa using h)]
    simp
theorem dd_full {zs : List Int} : (dd zs).length = zs.length ↔ zs.Nodup := by
  constructor
  · intro h
    obtain ⟨r, hr, hs⟩ := dd_sub zs []
    have e : dd zs = r := by unfold dd; rw [hr]; rfl
    rw [e] at h
    rw [← hs.eq_of_length h, ← e]
    exact dd_nodup zs [] List.nodup_nil
  · intro h
    have e : dd zs = zs := by
      unfold dd
      rw [dd_id zs [] (by simpa using h)]
      rfl
    rw [e]
theorem dd_snoc (d t : List Int) (a : Int) : (t ++ [a]).foldl ddStep d = ddStep (t.foldl ddStep d) a := by rw [List.foldl_append]; rfl
theorem take_snocI {zs : List Int} {k : Nat} (h : k < zs.length) : zs.take (k + 1) = zs.take k ++ [zs.getD k 0] := by
  rw [List.take_succ_eq_append_getElem h]
  simp [List.getD, h]

/-! ### ListOk -/
set_option maxHeartbeats 400000 in
theorem ImplListOk_eq (lo hi : Nat) (v : Value) (zs : List Int) (w : World) (r : IntO lo hi w v zs) : Calls Tryz.prog 65 #[v] w fun e w' => e = .returned (.bool (lstB zs)) ∧ w' = w := by
  obtain ⟨a, cap, rfl⟩ := r.form
  have R := Lib.hid r
  have hl := r.1
  clear r
  by_cases h6 : zs.length = 6
  · have hb : ((zs.length : Int) != 6) = false := by simp; omega
    have H6 := Lib.hid h6
    clear h6
    go_enter Tryz.func65, Tryz.ntmps65
    go_wp2_with fail
    go_loop [10] (fun i => ∃ k : Nat, k ≤ zs.length ∧ i = .int .i64 k ∧ Hid (∀ j, j < k → 0 ≤ zs.getD j 0 ∧ zs.getD j 0 ≤ 5)) (fun i => zs.length - (intOf i).toNat)
    case atStart => exact ⟨0, Nat.zero_le _, rfl, Lib.hid (fun j hj => by omega)⟩
    case round =>
      obtain ⟨k, hk, rfl, hall⟩ := hrel
      by_cases hlt : k < zs.length
      · obtain ⟨g, o, rfl, _, _, e0, _⟩ := R.out.at (Below.refl _ _) hlt
        by_cases hz : 0 ≤ zs.getD k 0 ∧ zs.getD k 0 ≤ 5
        · obtain ⟨z0, z5⟩ := hz
          have HN : Hid (∀ j, j < k + 1 → 0 ≤ zs.getD j 0 ∧ zs.getD j 0 ≤ 5) := Lib.hid (fun j hj => by
            rcases Nat.lt_succ_iff_lt_or_eq.1 hj with h | rfl
            · exact hall.out j h
            · exact ⟨z0, z5⟩)
          generalize zs.getD k 0 = z at e0 z0 z5
          clear hall
          go_wp2_with fail
          refine (Color_yes _ _ z0 z5).mono ?_
          rintro e w' ⟨rfl, rfl⟩
          go_wp2_with fail
          go_round
          case rel => exact ⟨k + 1, by omega, by go_num, HN⟩
          case measure => simp [intOf] <;> omega
        · have HF := Lib.hid (lst_no (zs := zs) (fun h => hz (h.2 _ (by simp [List.getD, hlt]))))
          have hz' : zs.getD k 0 < 0 ∨ 5 < zs.getD k 0 := by omega
          generalize zs.getD k 0 = z at e0 hz'
          clear hall hz
          go_wp2_with fail
          refine (Color_no _ _ hz').mono ?_
          rintro e w' ⟨rfl, rfl⟩
          go_wp2_with fail
          go_ret
          exact ⟨ret_bool HF.out, rfl⟩
      · obtain rfl : k = zs.length := by omega
        have HF := Lib.hid (lst_yes (zs := zs) ⟨H6.out, fun z hz => by
          obtain ⟨j, hj, rfl⟩ := List.getElem_of_mem hz
          have := hall.out j hj
          simpa [List.getD, hj] using this⟩)
        clear hall
        go_wp2_with fail
        go_ret
        exact ⟨ret_bool HF.out, rfl⟩
  · have hb : ((zs.length : Int) != 6) = true := by simp; omega
    have HF := Lib.hid (lst_no (zs := zs) (fun h => h6 h.1))
    clear h6
    go_enter Tryz.func65, Tryz.ntmps65
    go_wp2_with fail
    go_ret
    exact ⟨ret_bool HF.out, rfl⟩

theorem ImplListOk_any (lo hi : Nat) (v : Value) (zs : List Int) (w : World) (r : IntO lo hi w v zs) (_hhi : hi ≤ w.heap.size) : Calls Tryz.prog 65 #[v] w fun e w' => e = .returned (.bool (lstB zs)) ∧ Below w.heap.size w w' := by
  refine (ImplListOk_eq lo hi v zs w r).mono ?_
  rintro e w' ⟨rfl, rfl⟩
  exact ⟨rfl, Below.refl _ _⟩

/-! ### slices.Contains -/
theorem ret_int6 {p q : Int} (h : p = q) : Ending.returned (.int .i64 p) = .returned (.int .i64 q) := by rw [h]
set_option maxHeartbeats 400000 in
theorem Index_any (lo hi : Nat) (v : Value) (zs : List Int) (x : Int) (w : World) (r : IntO lo hi w v zs) :
    Calls Tryz.prog 94 #[v, .int .i64 x] w fun e w' => e = .returned (.int .i64 (pos zs x)) ∧ w' = w := by
  obtain ⟨a, cap, rfl⟩ := r.form
  have R := Lib.hid r
  have hl := r.1
  clear r
  go_enter Tryz.func94, Tryz.ntmps94
  go_wp2_with fail
  go_loop [8] (fun i => ∃ k : Nat, k ≤ zs.length ∧ i = .int .i64 k ∧ Hid (∀ j, j < k → ¬ x = zs.getD j 0)) (fun i => zs.length - (intOf i).toNat)
  case atStart => exact ⟨0, Nat.zero_le _, rfl, Lib.hid (fun j hj => by omega)⟩
  case round =>
    obtain ⟨k, hk, rfl, hall⟩ := hrel
    by_cases hlt : k < zs.length
    · obtain ⟨g, o, rfl, _, _, e0, _⟩ := R.out.at (Below.refl _ _) hlt
      by_cases he : x = zs.getD k 0
      · have HF : Hid (pos zs x = (k : Int)) := Lib.hid (by
          have hm : x ∈ zs := by rw [he]; simp [List.getD, hlt]
          have e : zs.idxOf x = k := by
            have h1 : zs.idxOf x ≤ k := by
              rcases Nat.lt_or_ge k (zs.idxOf x) with h | h
              · exact absurd (by rw [he]; simp [List.getD, hlt] : zs[k] = x) (by simpa using List.not_of_lt_findIdx (p := (· == x)) (by simpa [List.idxOf] using h))
              · exact h
            have h2 : zs[zs.idxOf x]'(List.idxOf_lt_length_iff.2 hm) = x := List.getElem_idxOf _
            rcases Nat.lt_or_ge (zs.idxOf x) k with h | h
            · exact absurd (by rw [List.getD, List.getElem?_eq_getElem (List.idxOf_lt_length_iff.2 hm)]; exact h2.symm) (hall.out _ h)
            · omega
          unfold pos
          rw [if_pos hm, e])
        have hb : (x == zs.getD k 0) = true := by simpa using he
        generalize zs.getD k 0 = z at e0 hb
        clear hall he
        go_wp2_with fail
        go_ret
        exact ⟨ret_int6 HF.out.symm, rfl⟩
      · have HN : Hid (∀ j, j < k + 1 → ¬ x = zs.getD j 0) := Lib.hid (fun j hj => by
          rcases Nat.lt_succ_iff_lt_or_eq.1 hj with h | rfl
          · exact hall.out j h
          · exact he)
        have hb : (x == zs.getD k 0) = false := by simpa using he
        generalize zs.getD k 0 = z at e0 hb
        clear hall he
        go_wp2_with fail
        go_round
        case rel => exact ⟨k + 1, by omega, by go_num, HN⟩
        case measure => simp [intOf] <;> omega
    · obtain rfl : k = zs.length := by omega
      have HF : Hid (pos zs x = -1) := Lib.hid (by
        unfold pos
        rw [if_neg (fun hm => by
          obtain ⟨j, hj, e⟩ := List.getElem_of_mem hm
          exact hall.out j hj (by simp [List.getD, hj, e]))])
      clear hall
      go_wp2_with fail
      go_ret
      exact ⟨ret_int6 HF.out.symm, rfl⟩
theorem Contains_any (lo hi : Nat) (v : Value) (zs : List Int) (x : Int) (w : World) (r : IntO lo hi w v zs) :
    Calls Tryz.prog 86 #[v, .int .i64 x] w fun e w' => e = .returned (.bool (decide (x ∈ zs))) ∧ w' = w := by
  have C := Lib.hid (Index_any lo hi v zs x w r)
  have HP : Hid (decide (0 ≤ pos zs x) = decide (x ∈ zs)) := Lib.hid (by
    unfold pos
    by_cases h : x ∈ zs
    · rw [if_pos h]; simp [h]
    · rw [if_neg h]; simp [h])
  clear r
  generalize pos zs x = p at C HP
  go_enter Tryz.func86, Tryz.ntmps86
  go_wp2_with fail
  refine C.out.mono ?_
  rintro e w' ⟨rfl, rfl⟩
  go_wp2_with fail
  go_ret
  exact ⟨ret_bool HP.out, rfl⟩

end Go.Proofs.YtfidnhhlcdbaeaaGreatDoor

namespace Go.Proofs.YtfidnhhlcdbaeaaGreatDoor
open Go.ChangeShapes Go.WideShapes Go.ChangeAt Go.RowKit

theorem IntO.grown {lo hi : Nat} {w w' : World} {row : Option Nat} {v : Value} {zs : List Int} (h : IntO lo hi w v zs) (hg : w.grownBy w' row) (hhi : hi ≤ w.heap.size) (hr : ∀ k, row = some k → k < lo ∨ hi ≤ k) : IntO lo hi w' v zs := by
  obtain ⟨hl, h | ⟨g, o, cap, hv, h1, h2, hc⟩⟩ := h
  · exact ⟨hl, .inl h⟩
  · have hb := hg.block g (by omega) (fun e => by have := hr g e.symm; omega)
    exact ⟨hl, .inr ⟨g, o, cap, hv, h1, h2, fun i hi => ⟨(World.cell?_of_block (w := w) (a := ⟨g, o + i, none⟩) hb).trans (hc i hi).1, (World.frozen?_of_block (w := w) (a := ⟨g, o + i, none⟩) hb).trans (hc i hi).2⟩⟩⟩
/-- The row lies elsewhere. -/
def Far (lo hi : Nat) (v : Value) : Prop := ∀ k, v.ownBlock = some k → k < lo ∨ hi ≤ k
theorem Far.after {lo hi H g n c : Nat} {v : Value} (h : Far lo hi v) (hat : v.ownBlock = some g ∨ g = H) (hH : hi ≤ H) : Far lo hi (.slice (some ⟨g, 0, none⟩) n c) := by
  intro k hk
  simp only [Value.ownBlock, Option.some.injEq] at hk
  subst hk
  rcases hat with e | e
  · exact h _ e
  · exact .inr (by omega)
/-- A row that the caller owns. -/
def OwnI (b : Nat) (w : World) (v : Value) (ds : List Int) : Prop := w.ownsRow b 3 1 v ds.length (ivals ds)
theorem OwnI.none (b : Nat) (w : World) : OwnI b w (.slice none 0 0) [] := ⟨rfl, .inl ⟨rfl, rfl⟩⟩
theorem OwnI.below {b : Nat} {w w' : World} {v : Value} {ds : List Int} (h : OwnI b w v ds) (hb : Below w.heap.size w w') : OwnI b w' v ds := owns_bel6 h hb
theorem OwnI.eq {b : Nat} {w : World} {v : Value} {ds es : List Int} (h : OwnI b w v ds) (e : es = ds) : OwnI b w v es := by rw [e]; exact h
theorem OwnI.row {b : Nat} {w : World} {v : Value} {ds : List Int} (h : OwnI b w v ds) (hl : ds.length ≤ 1048576) : IntIn b w.heap.size w v ds := IntIn.of_owns h hl
theorem OwnI.lt {b : Nat} {w : World} {v : Value} {ds : List Int} (h : OwnI b w v ds) : ∀ k, v.ownBlock = some k → k < w.heap.size := by
  intro k hk
  obtain ⟨_, h | ⟨g, cap, cur, hv, hg, hh, _⟩⟩ := h
  · rw [h.1] at hk; cases hk
  · rw [hv] at hk
    simp only [Value.ownBlock, Option.some.injEq] at hk
    subst hk
    exact lt_of_heapI hh
/-- What appendNew answers. -/
def GrewI (b : Nat) (ds : List Int) (w : World) (e : Ending) (w' : World) : Prop := ∃ v, e = .returned v ∧ OwnI b w' v ds ∧ Below b w w'
set_option maxRecDepth 100000 in
set_option maxHeartbeats 1000000 in
theorem AppendNew_any (b lo hi : Nat) (v vl : Value) (ds zs : List Int) (w : World) (hown : OwnI b w v ds) (r : IntO lo hi w vl zs) (hhi : hi ≤ w.heap.size) (hb : b ≤ w.heap.size) (hfar : Far lo hi v) (hlen : ds.length + zs.length ≤ 100000) :
    Calls Tryz.prog 67 #[v, vl] w (GrewI b (zs.foldl ddStep ds) w) := by
  obtain ⟨i0, hi0, hz0, hz1, hz2⟩ : ∃ i, Tryz.prog.info? 3 = some i ∧ i.zero = some (.int .i64 0) ∧ i.size = 1 ∧ i.bytes = 8 := info_parts3 info_int6
  obtain ⟨al, capl, rfl⟩ := r.form
  have hl := r.1
  have HI0 := Lib.hid r
  have HO0 := Lib.hid hown
  have HF0 := Lib.hid hfar
  clear r hown hfar
  go_enter Tryz.func67, Tryz.ntmps67
  go_wp2_with fail
  go_loopw [0, 9] (fun q i wr => ∃ k : Nat, k ≤ zs.length ∧ i = .int .i64 k ∧ Hid (OwnI b wr q ((zs.take k).foldl ddStep ds)) ∧ Hid (IntO lo hi wr (.slice al zs.length capl) zs) ∧ Hid (Far lo hi q) ∧ Hid (Below b w wr) ∧ w.heap.size ≤ wr.heap.size) (fun _ i _ => zs.length - (intOf i).toNat)
  case atStart => exact ⟨0, Nat.zero_le _, rfl, HO0, HI0, HF0, Lib.hid (Below.refl _ _), Nat.le_refl _⟩
  case round =>
    clear HI0 HO0 HF0
    obtain ⟨k, hk, rfl, hown, hin, hfar, hbel, hsz⟩ := hrel
    by_cases hlt : k < zs.length
    · have hcl := (dd_len (zs.take k) ds).2
      rw [List.length_take] at hcl
      have HN := Lib.hid (show (zs.take (k + 1)).foldl ddStep ds = ddStep ((zs.take k).foldl ddStep ds) (zs.getD k 0) by rw [take_snocI hlt, dd_snoc])
      obtain ⟨g, o, rfl, _, _, e0, _⟩ := hin.out.at (Below.refl _ _) hlt
      generalize (zs.take k).foldl ddStep ds = cs at hown hcl HN
      generalize zs.getD k 0 = z at e0 HN
      have hcl' : cs.length + 1 ≤ 100000 := by omega
      have hcl2 : cs.length ≤ 1048576 := by omega
      have hsm : b ≤ wr.heap.size := by omega
      have HC := Lib.hid (Contains_any b wr.heap.size _ cs z wr (hown.out.row hcl2).o)
      have hiw : hi ≤ wr.heap.size := by omega
      clear hcl
      by_cases hm : z ∈ cs
      · rw [show decide (z ∈ cs) = true from decide_eq_true hm] at HC
        have HE := Lib.hid (hown.out.eq (show (zs.take (k + 1)).foldl ddStep ds = cs by rw [HN.out, show ddStep cs z = cs from if_pos hm]))
        clear hown HN hm
        go_wp2_with fail
        refine HC.out.mono ?_
        rintro e w' ⟨rfl, rfl⟩
        clear HC
        go_wp2_with fail
        go_roundw
        case rel => exact ⟨k + 1, by omega, by go_num, HE, hin, hfar, hbel, hsz⟩
        case measure => simp [intOf] <;> omega
      · rw [show decide (z ∈ cs) = false from decide_eq_false hm] at HC
        have HNX : Hid ((zs.take (k + 1)).foldl ddStep ds = cs ++ [z]) := Lib.hid (by rw [HN.out]; exact if_neg hm)
        have hbb := bel0 wr (.cells #[.int .i64 z] 3)
        have HO1 := Lib.hid (hown.out.below hbb)
        have HNW := Lib.hid (news1 wr (.int .i64 z) 3)
        have HB1 := Lib.hid (hbel.out.trans (hbb.mono hsm))
        have HI1 := Lib.hid (hin.out.below (hbb.mono hiw))
        have HB2 : Hid (b ≤ (wr.alloc (.cells #[.int .i64 z] 3)).heap.size ∧ hi ≤ (wr.alloc (.cells #[.int .i64 z] 3)).heap.size ∧ w.heap.size ≤ (wr.alloc (.cells #[.int .i64 z] 3)).heap.size) := Lib.hid (by have := hbb.size; exact ⟨by omega, by omega, by omega⟩)
        clear hown hin hbel HN hm hbb
        go_wp2_with fail
        refine HC.out.mono ?_
        rintro e w' ⟨rfl, hw⟩
        have hw' := hw.symm
        subst hw'
        clear hw HC
        go_wp2_with (at_builtin; refine wpList_append_lies _ rfl _ _ 31 rfl b 3 i0 (.int .i64 0) 1 8 Tryz.underlying31 hi0 hz0 hz1 hz2 rfl (by decide) _ _ _ rfl HO1.out ⟨wr.heap.size, 0, none⟩ 1 1 [.int .i64 z] rfl rfl HNW.out (by simp [Value.oneCell']) (by omega) (by unfold maxLen; omega) (by omega) HB2.out.1 (wr.heap.size + 1) (by simp) ?_; intro gg cc w2 hown2 hgrow hat hlt2)
        have hbw := (Below.refl b _).grown hgrow HB2.out.1 (own_ge6 HO1.out)
        have HE : Hid (OwnI b w2 (.slice (some ⟨gg, 0, none⟩) (cs.length + 1) cc) ((zs.take (k + 1)).foldl ddStep ds)) := Lib.hid (by rw [HNX.out]; unfold OwnI ivals at *; rw [List.map_append, List.length_append]; exact hown2)
        have HI2 := Lib.hid (HI1.out.grown hgrow HB2.out.2.1 hfar.out)
        have HF2 : Hid (Far lo hi (.slice (some ⟨gg, 0, none⟩) (cs.length + 1) cc)) := Lib.hid (hfar.out.after hat (by omega))
        have HB4 := Lib.hid (HB1.out.trans hbw)
        have hsz2 := Nat.le_trans HB2.out.2.2 hbw.size
        clear hown2 hgrow hat hlt2 hbw HO1 HNW HNX HI1 HB1 HB2 hfar hsz
        go_wp2_with fail
        go_roundw
        case rel => exact ⟨k + 1, by omega, by go_num, HE, HI2, HF2, HB4, hsz2⟩
        case measure => simp [intOf] <;> omega
    · obtain rfl : k = zs.length := by omega
      rw [List.take_length] at hown
      go_wp2_with fail
      go_ret
      exact ⟨_, rfl, hown.out, hbel.out⟩

/-! ### IsExchange -/
theorem ImplListOk_yes (lo hi : Nat) (v : Value) (zs : List Int) (w : World) (r : IntO lo hi w v zs) (hhi : hi ≤ w.heap.size) (h : LstOk zs) : Calls Tryz.prog 65 #[v] w fun e w' => e = .returned (.bool true) ∧ Below w.heap.size w w' := by
  have := ImplListOk_any lo hi v zs w r hhi
  rw [← lst_yes h] at this
  exact this
theorem ImplListOk_no (lo hi : Nat) (v : Value) (zs : List Int) (w : World) (r : IntO lo hi w v zs) (hhi : hi ≤ w.heap.size) (h : ¬ LstOk zs) : Calls Tryz.prog 65 #[v] w fun e w' => e = .returned (.bool false) ∧ Below w.heap.size w w' := by
  have := ImplListOk_any lo hi v zs w r hhi
  rw [← lst_no h] at this
  exact this
theorem far_none (lo hi : Nat) : Far lo hi (.slice none 0 0) := fun k hk => by cases hk
end Go.Proofs.YtfidnhhlcdbaeaaGreatDoor

namespace Go.Proofs.YtfidnhhlcdbaeaaGreatDoor
open Go.ChangeShapes Go.WideShapes Go.ChangeAt Go.RowKit

theorem idL_at {k : Nat} (h : k < 6) : (k : Int) = idL.getD k 0 := by
  have : ∀ i : Fin 6, ((i.val : Nat) : Int) = idL.getD i.val 0 := by decide
  exact this ⟨k, h⟩
theorem rep6 : (List.replicate 6 (0 : Int)).length = 6 := by simp
set_option maxRecDepth 100000 in
set_option maxHeartbeats 1000000 in
theorem Kept_any (w : World) : Calls Tryz.prog 68 #[] w (FreshI idL w) := by
  obtain ⟨i0, hi0, hz0, hz1, hz2⟩ : ∃ i, Tryz.prog.info? 3 = some i ∧ i.zero = some (.int .i64 0) ∧ i.size = 1 ∧ i.bytes = 8 := info_parts3 info_int6
  go_enter Tryz.func68, Tryz.ntmps68
  go_wp2_with (at_make; refine wpList_make_full _ rfl _ _ 31 rfl w.heap.size 3 i0 _ 1 Tryz.underlying31 hi0 hz0 hz1 .i64 .i64 _ _ 6 rfl rfl rfl rfl (by rw [hz2]; omega) (by unfold maxLen; omega) (Nat.le_refl _) ?_; intro w0 hown0 hgrow0)
  have hb0 := own_none hgrow0
  rw [made_zero] at hown0
  have hin0 := IntIn.of_owns (zs := List.replicate 6 0) (by rw [rep6]; exact hown0) (by simp)
  have HB0 := Lib.hid hb0
  have HW := Lib.hid hin0
  clear hb0 hown0 hgrow0 hin0
  go_loopw [6] (fun i wr => ∃ (k : Nat) (ys : List Int), k ≤ 6 ∧ i = .int .i64 k ∧ Hid (UpToI k idL ys) ∧ Hid (IntIn w.heap.size w0.heap.size wr (.slice (some ⟨w.heap.size, 0, none⟩) 6 6) ys) ∧ Hid (Below w.heap.size w wr) ∧ w0.heap.size ≤ wr.heap.size) (fun i _ => 6 - (intOf i).toNat)
  case atStart => exact ⟨0, List.replicate 6 0, Nat.zero_le _, rfl, Lib.hid ⟨rfl, fun j hj => by omega⟩, HW, HB0, Nat.le_refl _⟩
  case round =>
    obtain ⟨k, ys, hk, rfl, hup, hin, hbel, hsz⟩ := hrel
    by_cases hlt : k < 6
    · have hyl : ys.length = 6 := hup.out.1
      obtain ⟨g2, hg2, hq1, _, e1, f1⟩ := hin.out.at (Below.refl _ _) (i := k) (by omega)
      simp only [Option.some.injEq, Addr.mk.injEq, and_true] at hg2
      subst hg2
      have HN := Lib.hid (hin.out.set k (by omega) (k : Int))
      have HU := Lib.hid (hup.out.set (by show k < 6; exact hlt) (idL_at hlt))
      have HB2 := Lib.hid (Below.setCell hbel.out (p := ⟨w.heap.size, k, none⟩) hq1 (.int .i64 k))
      generalize ys.getD k 0 = y at e1
      clear hup hin hbel hyl
      go_wp2_with fail
      go_roundw
      case rel => exact ⟨k + 1, _, by omega, by go_num, HU, HN, HB2, by simp [World.setCell]; exact hsz⟩
      case measure => simp [intOf] <;> omega
    · obtain rfl : k = 6 := by omega
      have HE := Lib.hid (UpToI.all hup.out)
      have HI := Lib.hid (show IntIn w.heap.size wr.heap.size wr (.slice (some ⟨w.heap.size, 0, none⟩) 6 6) idL by rw [← HE.out]; exact hin.out.wide (Nat.le_refl _) hsz)
      clear hup hin
      go_wp2_with fail
      go_ret
      exact ⟨_, rfl, HI.out, hbel.out⟩

/-! ### SwapList -/
/-! ### UndoList -/
set_option maxRecDepth 100000 in
set_option maxHeartbeats 1000000 in
theorem Number_any (lo hi : Nat) (v : Value) (zs : List Int) (w : World) (r : IntO lo hi w v zs) (hhi : hi ≤ w.heap.size) (hx : Exch zs) :
    Calls Tryz.prog 69 #[v] w (FreshI (undL zs) w) := by
  obtain ⟨i0, hi0, hz0, hz1, hz2⟩ : ∃ i, Tryz.prog.info? 3 = some i ∧ i.zero = some (.int .i64 0) ∧ i.size = 1 ∧ i.bytes = 8 := info_parts3 info_int6
  obtain ⟨a, cap, rfl⟩ := r.form
  have HR := Lib.hid (fun W (hb : Below w.heap.size w W) => r.below (hb.mono hhi))
  have hl := r.1
  have HX := Lib.hid hx
  have H6 := Lib.hid hx.1.1
  clear r hx
  go_enter Tryz.func69, Tryz.ntmps69
  go_wp2_with (at_make; refine wpList_make_full _ rfl _ _ 31 rfl w.heap.size 3 i0 _ 1 Tryz.underlying31 hi0 hz0 hz1 .i64 .i64 _ _ 6 rfl rfl rfl rfl (by rw [hz2]; omega) (by unfold maxLen; omega) (Nat.le_refl _) ?_; intro w0 hown0 hgrow0)
  have hb0 := own_none hgrow0
  rw [made_zero] at hown0
  have hin0 := IntIn.of_owns (zs := List.replicate 6 0) (by rw [rep6]; exact hown0) (by simp)
  have HB0 := Lib.hid hb0
  have HW := Lib.hid hin0
  clear hb0 hown0 hgrow0 hin0
  go_loopw [9] (fun i wr => ∃ (k : Nat) (ys : List Int), k ≤ zs.length ∧ i = .int .i64 k ∧ Hid (ys.length = 6 ∧ ∀ j, j < k → atL ys (zs.getD j 0) = j) ∧ Hid (IntIn w.heap.size w0.heap.size wr (.slice (some ⟨w.heap.size, 0, none⟩) 6 6) ys) ∧ Hid (Below w.heap.size w wr) ∧ w0.heap.size ≤ wr.heap.size) (fun i _ => zs.length - (intOf i).toNat)
  case atStart => exact ⟨0, _, Nat.zero_le _, rfl, Lib.hid ⟨by simp, fun j hj => by omega⟩, HW, HB0, Nat.le_refl _⟩
  case round =>
    obtain ⟨k, ys, hk, rfl, hup, hin, hbel, hsz⟩ := hrel
    by_cases hlt : k < zs.length
    · obtain ⟨g, o, rfl, _, _, e0, _⟩ := (HR.out _ hbel.out).at (Below.refl _ _) hlt
      have hz : 0 ≤ zs.getD k 0 ∧ zs.getD k 0 ≤ 5 := HX.out.1.2 _ (by simp [List.getD, hlt])
      obtain ⟨z, hzz⟩ : ∃ z : Nat, zs.getD k 0 = z := ⟨(zs.getD k 0).toNat, by omega⟩
      rw [hzz] at e0 hz
      have hyl := hup.out.1
      have hzl : z < 6 := by omega
      have hzl2 : (z : Int) < 6 := by omega
      obtain ⟨g2, hg2, hq1, _, e1, f1⟩ := hin.out.at (Below.refl _ _) (i := z) (by omega)
      simp only [Option.some.injEq, Addr.mk.injEq, and_true] at hg2
      subst hg2
      have HN := Lib.hid (hin.out.set z (by omega) (k : Int))
      have HU : Hid ((ys.set z (k : Int)).length = 6 ∧ ∀ j, j < k + 1 → atL (ys.set z (k : Int)) (zs.getD j 0) = j) := Lib.hid ⟨by rw [List.length_set]; exact hyl, fun j hj => by
        have hjz : 0 ≤ zs.getD j 0 := (HX.out.1.2 _ (by simp [List.getD, show j < zs.length by omega])).1
        rw [atL_set (by omega) hjz]
        by_cases e : zs.getD j 0 = z
        · rw [if_pos e]
          have h1 : zs.getD j 0 = zs[j]'(by omega) := by simp [List.getD, show j < zs.length by omega]
          have h2 : zs.getD k 0 = zs[k] := by simp [List.getD, hlt]
          have h3 : zs[j]'(by omega) = zs[k] := by rw [← h1, ← h2, e, hzz]
          have := (List.getElem_inj HX.out.2).1 h3
          omega
        · rw [if_neg e]
          have hjk : j ≠ k := fun h => e (by rw [h, hzz])
          exact hup.out.2 j (by omega)⟩
      have HB2 := Lib.hid (Below.setCell hbel.out (p := ⟨w.heap.size, z, none⟩) hq1 (.int .i64 k))
      generalize ys.getD z 0 = y at e1
      clear hup hin hbel hzz hyl
      go_wp2_with fail
      go_roundw
      case rel => exact ⟨k + 1, _, by omega, by go_num, HU, HN, HB2, by simp [World.setCell]; exact hsz⟩
      case measure => simp [intOf] <;> omega
    · obtain rfl : k = zs.length := by omega
      have HYS := Lib.hid (und_is HX.out hup.out.1 (fun j hj => hup.out.2 j (by rw [H6.out]; exact hj)))
      have HI := Lib.hid (show IntIn w.heap.size wr.heap.size wr (.slice (some ⟨w.heap.size, 0, none⟩) 6 6) (undL zs) by rw [← HYS.out]; exact hin.out.wide (Nat.le_refl _) hsz)
      clear hup hin
      go_wp2_with fail
      go_ret
      exact ⟨_, rfl, HI.out, hbel.out⟩
end Go.Proofs.YtfidnhhlcdbaeaaGreatDoor

namespace Go.Proofs.YtfidnhhlcdbaeaaGreatDoor
open Go.ChangeShapes Go.WideShapes Go.ChangeAt Go.RowKit

theorem fu_n : ∀ (t : List Int) (st : List Int × Int), 0 ≤ st.2 → 0 ≤ (t.foldl fuStep st).2 ∧ (t.foldl fuStep st).2 ≤ st.2 + t.length
  | [], st, h => by simp [h]
  | a :: t, st, h => by
    have h1 : 0 ≤ (fuStep st a).2 ∧ (fuStep st a).2 ≤ st.2 + 1 := by unfold fuStep; split <;> (constructor <;> (try simp only) <;> omega)
    have ih := fu_n t (fuStep st a) h1.1
    rw [List.foldl_cons, List.length_cons]
    omega
theorem fu_nb (t : List Int) : 0 ≤ (fuFold t).2 ∧ (fuFold t).2 ≤ t.length := by
  have := fu_n t ([-1, -1, -1, -1, -1, -1], 0) (by decide)
  simpa [fuFold] using this
theorem fu_l : ∀ (t : List Int) (st : List Int × Int), (t.foldl fuStep st).1.length = st.1.length
  | [], _ => rfl
  | a :: t, st => by
    rw [List.foldl_cons, fu_l t]
    unfold fuStep
    split <;> simp
theorem fu_len (t : List Int) : (fuFold t).1.length = 6 := fu_l t _
theorem seq_length (xs : List C3) : (fuSeq xs).length = 2 * xs.length := by
  induction xs with
  | nil => rfl
  | cons c r ih =>
    unfold fuSeq at ih ⊢
    simp only [List.flatMap_cons, List.length_append, List.length_cons, List.length_nil]
    omega
theorem seq_at : ∀ (xs : List C3) (j : Nat), j < xs.length → (fuSeq xs)[2 * j]? = some (xs.getD j C3.zero).a ∧ (fuSeq xs)[2 * j + 1]? = some (xs.getD j C3.zero).b
  | [], j, h => by simp at h
  | c :: r, 0, _ => by simp [fuSeq]
  | c :: r, j + 1, h => by
    have ih := seq_at r j (by simpa using h)
    have e : fuSeq (c :: r) = c.a :: c.b :: fuSeq r := by simp [fuSeq]
    rw [e, show 2 * (j + 1) = 2 * j + 1 + 1 by omega]
    simpa [List.getD] using ih
theorem seq_next {xs : List C3} {k : Nat} {a : Int} (h : (fuSeq xs)[k]? = some a) : (fuSeq xs).take (k + 1) = (fuSeq xs).take k ++ [a] := by
  have hk : k < (fuSeq xs).length := by
    rcases Nat.lt_or_ge k (fuSeq xs).length with h1 | h1
    · exact h1
    · rw [List.getElem?_eq_none h1] at h; cases h
  rw [List.take_succ_eq_append_getElem hk]
  rw [List.getElem?_eq_getElem hk] at h
  rw [Option.some.inj h]
theorem fu_more (t : List Int) {i : Nat} (h : ¬ (fuFold t).1.getD i 0 < 0) : fuFold (t ++ [(i : Int)]) = fuFold t := by
  rw [fuFold_snoc]
  unfold fuStep atL
  rw [Int.toNat_natCast, if_neg h]
theorem fu_new (t : List Int) {i : Nat} (h : (fuFold t).1.getD i 0 < 0) : fuFold (t ++ [(i : Int)]) = ((fuFold t).1.set i (fuFold t).2, (fuFold t).2 + 1) := by
  rw [fuFold_snoc]
  unfold fuStep atL
  rw [Int.toNat_natCast, if_pos h]
/-- What FirstUse answers. -/
noncomputable def fuAns (n : Int) (xs : List C3) : List Int := @ite _ (BlkOk n xs) (Classical.propDecidable _) (fuL xs) []
theorem fu_yes {n : Int} {xs : List C3} (h : BlkOk n xs) : fuAns n xs = fuL xs := if_pos h
theorem fu_no {n : Int} {xs : List C3} (h : ¬ BlkOk n xs) : fuAns n xs = [] := if_neg h
theorem rep_more (k : Nat) : List.replicate (k + 1) (-1 : Int) = List.replicate k (-1) ++ [-1] := List.replicate_succ'

end Go.Proofs.YtfidnhhlcdbaeaaGreatDoor
