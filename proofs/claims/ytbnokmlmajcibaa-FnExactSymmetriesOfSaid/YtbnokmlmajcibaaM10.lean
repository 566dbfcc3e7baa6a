/- Cells: the program's CellOk. Exchanges: the program's ListOk, appendNew and IsExchange. Symmetries: the program's ProductOf, InverseOf, areViews and IsClosed. What a walk keeps: a list of facts that the blocks of the world at hand decide. -/
import Derived.Test.YtbnokmlmajcibaaM00
import Derived.Test.YtbnokmlmajcibaaM06
import Derived.Test.YtbnokmlmajcibaaM09
import Derived.Test.YtbnokmlmajcibaaM05
import Derived.Test.YtbnokmlmajcibaaM08
import Derived.Test.YtbnokmlmajcibaaM04

namespace Go.Proofs.Ytbnokmlmajcibaa
open Go.ChangeShapes Go.WideShapes Go.ChangeAt Go.RowKit

theorem Color_yes (x : Int) (w : World) (h0 : 0 ≤ x) (h1 : x ≤ 5) :
    Calls Try.prog 78 #[.int .i64 x] w fun e w' => e = .returned (.bool true) ∧ w' = w := by
  have h2 : x < 6 := by omega
  go_enter Try.func78, Try.ntmps78
  go_wp2
  go_ret
  exact ⟨rfl, rfl⟩

theorem Color_no (x : Int) (w : World) (h : x < 0 ∨ 5 < x) :
    Calls Try.prog 78 #[.int .i64 x] w fun e w' => e = .returned (.bool false) ∧ w' = w := by
  by_cases h0 : 0 ≤ x
  · have h1 : ¬ x < 6 := by omega
    clear h
    go_enter Try.func78, Try.ntmps78
    go_wp2
    go_ret
    exact ⟨ret_bool (by simp), rfl⟩
  · clear h
    go_enter Try.func78, Try.ntmps78
    go_wp2
    go_ret
    exact ⟨rfl, rfl⟩

theorem ImplOk_any (s a b : Int) (w : World) :
    Calls Try.prog 77 #[.agg #[.int .i64 s, .int .i64 a, .int .i64 b]] w fun e w' => e = .returned (.bool (decide (OkC s a b))) ∧ w' = w.alloc (.cells #[.int .i64 s, .int .i64 a, .int .i64 b] 58) := by
  by_cases s0 : s < 0
  · go_enter Try.func77, Try.ntmps77
    go_wp2_with fail
    go_ret
    exact ⟨ret_bool (decide_eq_false (by unfold OkC; omega)).symm, rfl⟩
  by_cases s1 : 2 < s
  · go_enter Try.func77, Try.ntmps77
    go_wp2_with fail
    go_ret
    exact ⟨ret_bool (decide_eq_false (by unfold OkC; omega)).symm, rfl⟩
  by_cases h2 : 0 ≤ a ∧ a ≤ 5
  · obtain ⟨a0, a1⟩ := h2
    by_cases h3 : 0 ≤ b ∧ b ≤ 5
    · obtain ⟨b0, b1⟩ := h3
      go_enter Try.func77, Try.ntmps77
      go_wp2_with (refine (Color_yes _ _ (by assumption) (by assumption)).mono ?_; rintro e w' ⟨rfl, rfl⟩)
      go_ret
      exact ⟨ret_bool (okB (by omega) (by omega) a0 a1 b0 b1).symm, rfl⟩
    · have h3' : b < 0 ∨ 5 < b := by omega
      clear h3
      go_enter Try.func77, Try.ntmps77
      go_wp2_with (first | (refine (Color_yes _ _ (by assumption) (by assumption)).mono ?_; rintro e w' ⟨rfl, rfl⟩) | (refine (Color_no _ _ (by assumption)).mono ?_; rintro e w' ⟨rfl, rfl⟩))
      go_ret
      exact ⟨ret_bool (decide_eq_false (by unfold OkC; omega)).symm, rfl⟩
  · have h2' : a < 0 ∨ 5 < a := by omega
    clear h2
    go_enter Try.func77, Try.ntmps77
    go_wp2_with (first | (refine (Color_yes _ _ (by assumption) (by assumption)).mono ?_; rintro e w' ⟨rfl, rfl⟩) | (refine (Color_no _ _ (by assumption)).mono ?_; rintro e w' ⟨rfl, rfl⟩))
    go_ret
    exact ⟨ret_bool (decide_eq_false (by unfold OkC; omega)).symm, rfl⟩

end Go.Proofs.Ytbnokmlmajcibaa

namespace Go.Proofs.Ytbnokmlmajcibaa
open Go.ChangeShapes Go.WideShapes Go.ChangeAt Go.RowKit

/-! ### Numbers -/
theorem dd_sub : ∀ (t d : List Int), ∃ r, t.foldl ddStep d = d ++ r ∧ r.Sublist t
  | [], d => ⟨[], by simp, List.Sublist.refl _⟩
  | a :: t, d => by
    obtain ⟨r, hr, hs⟩ := dd_sub t (ddStep d a)
    rw [List.foldl_cons, hr]
    unfold ddStep
    split
    · exact ⟨r, rfl, hs.cons a⟩
    · exact ⟨a :: r, by simp, hs.cons_cons a⟩
theorem dd_len (t d : List Int) : d.length ≤ (t.foldl ddStep d).length ∧ (t.foldl ddStep d).length ≤ d.length + t.length := by
  obtain ⟨r, hr, hs⟩ := dd_sub t d
  rw [hr, List.length_append]
  have := hs.length_le
  omega
theorem dd_id : ∀ (t d : List Int), (d ++ t).Nodup → t.foldl ddStep d = d ++ t
  | [], d, _ => by simp
  | a :: t, d, h => by
    have hm : a ∉ d := fun hm => by
      have := (List.nodup_append.1 h).2.2 a hm a (by simp)
      exact this rfl
    rw [List.foldl_cons]
    have e : ddStep d a = d ++ [a] := if_neg hm
    rw [e, dd_id t (d ++ [a]) (by simpa using h)]
    simp
theorem dd_full {zs : List Int} : (dd zs).length = zs.length ↔ zs.Nodup := by
  constructor
  · intro h
    obtain ⟨r, hr, hs⟩ := dd_sub zs []
    have e : dd zs = r := by unfold dd; rw [hr]; rfl
    rw [e] at h
    rw [← hs.eq_of_length h, ← e]
    exact dd_nodup zs [] List.nodup_nil
  · intro h
    have e : dd zs = zs := by
      unfold dd
      rw [dd_id zs [] (by simpa using h)]
      rfl
    rw [e]
theorem dd_snoc (d t : List Int) (a : Int) : (t ++ [a]).foldl ddStep d = ddStep (t.foldl ddStep d) a := by rw [List.foldl_append]; rfl
theorem take_snocI {zs : List Int} {k : Nat} (h : k < zs.length) : zs.take (k + 1) = zs.take k ++ [zs.getD k 0] := by
  rw [List.take_succ_eq_append_getElem h]
  simp [List.getD, h]

/-! ### ListOk -/
set_option maxHeartbeats 400000 in
theorem ImplListOk_eq (lo hi : Nat) (v : Value) (zs : List Int) (w : World) (r : IntO lo hi w v zs) : Calls Try.prog 90 #[v] w fun e w' => e = .returned (.bool (lstB zs)) ∧ w' = w := by
  obtain ⟨a, cap, rfl⟩ := r.form
  have R := Lib.hid r
  have hl := r.1
  clear r
  by_cases h6 : zs.length = 6
  · have hb : ((zs.length : Int) != 6) = false := by simp; omega
    have H6 := Lib.hid h6
    clear h6
    go_enter Try.func90, Try.ntmps90
    go_wp2_with fail
    go_loop [10] (fun i => ∃ k : Nat, k ≤ zs.length ∧ i = .int .i64 k ∧ Hid (∀ j, j < k → 0 ≤ zs.getD j 0 ∧ zs.getD j 0 ≤ 5)) (fun i => zs.length - (intOf i).toNat)
    case atStart => exact ⟨0, Nat.zero_le _, rfl, Lib.hid (fun j hj => by omega)⟩
    case round =>
      obtain ⟨k, hk, rfl, hall⟩ := hrel
      by_cases hlt : k < zs.length
      · obtain ⟨g, o, rfl, _, _, e0, _⟩ := R.out.at (Below.refl _ _) hlt
        by_cases hz : 0 ≤ zs.getD k 0 ∧ zs.getD k 0 ≤ 5
        · obtain ⟨z0, z5⟩ := hz
          have HN : Hid (∀ j, j < k + 1 → 0 ≤ zs.getD j 0 ∧ zs.getD j 0 ≤ 5) := Lib.hid (fun j hj => by
            rcases Nat.lt_succ_iff_lt_or_eq.1 hj with h | rfl
            · exact hall.out j h
            · exact ⟨z0, z5⟩)
          generalize zs.getD k 0 = z at e0 z0 z5
          clear hall
          go_wp2_with fail
          refine (Color_yes _ _ z0 z5).mono ?_
          rintro e w' ⟨rfl, rfl⟩
          go_wp2_with fail
          go_round
          case rel => exact ⟨k + 1, by omega, by go_num, HN⟩
          case measure => simp [intOf] <;> omega
        · have HF := Lib.hid (lst_no (zs := zs) (fun h => hz (h.2 _ (by simp [List.getD, hlt]))))
          have hz' : zs.getD k 0 < 0 ∨ 5 < zs.getD k 0 := by omega
          generalize zs.getD k 0 = z at e0 hz'
          clear hall hz
          go_wp2_with fail
          refine (Color_no _ _ hz').mono ?_
          rintro e w' ⟨rfl, rfl⟩
          go_wp2_with fail
          go_ret
          exact ⟨ret_bool HF.out, rfl⟩
      · obtain rfl : k = zs.length := by omega
        have HF := Lib.hid (lst_yes (zs := zs) ⟨H6.out, fun z hz => by
          obtain ⟨j, hj, rfl⟩ := List.getElem_of_mem hz
          have := hall.out j hj
          simpa [List.getD, hj] using this⟩)
        clear hall
        go_wp2_with fail
        go_ret
        exact ⟨ret_bool HF.out, rfl⟩
  · have hb : ((zs.length : Int) != 6) = true := by simp; omega
    have HF := Lib.hid (lst_no (zs := zs) (fun h => h6 h.1))
    clear h6
    go_enter Try.func90, Try.ntmps90
    go_wp2_with fail
    go_ret
    exact ⟨ret_bool HF.out, rfl⟩

theorem ImplListOk_any (lo hi : Nat) (v : Value) (zs : List Int) (w : World) (r : IntO lo hi w v zs) (_hhi : hi ≤ w.heap.size) : Calls Try.prog 90 #[v] w fun e w' => e = .returned (.bool (lstB zs)) ∧ Below w.heap.size w w' := by
  refine (ImplListOk_eq lo hi v zs w r).mono ?_
  rintro e w' ⟨rfl, rfl⟩
  exact ⟨rfl, Below.refl _ _⟩

/-! ### slices.Contains -/
theorem ret_int6 {p q : Int} (h : p = q) : Ending.returned (.int .i64 p) = .returned (.int .i64 q) := by rw [h]
set_option maxHeartbeats 400000 in
theorem Index_any (lo hi : Nat) (v : Value) (zs : List Int) (x : Int) (w : World) (r : IntO lo hi w v zs) :
    Calls Try.prog 75 #[v, .int .i64 x] w fun e w' => e = .returned (.int .i64 (pos zs x)) ∧ w' = w := by
  obtain ⟨a, cap, rfl⟩ := r.form
  have R := Lib.hid r
  have hl := r.1
  clear r
  go_enter Try.func75, Try.ntmps75
  go_wp2_with fail
  go_loop [8] (fun i => ∃ k : Nat, k ≤ zs.length ∧ i = .int .i64 k ∧ Hid (∀ j, j < k → ¬ x = zs.getD j 0)) (fun i => zs.length - (intOf i).toNat)
  case atStart => exact ⟨0, Nat.zero_le _, rfl, Lib.hid (fun j hj => by omega)⟩
  case round =>
    obtain ⟨k, hk, rfl, hall⟩ := hrel
    by_cases hlt : k < zs.length
    · obtain ⟨g, o, rfl, _, _, e0, _⟩ := R.out.at (Below.refl _ _) hlt
      by_cases he : x = zs.getD k 0
      · have HF : Hid (pos zs x = (k : Int)) := Lib.hid (by
          have hm : x ∈ zs := by rw [he]; simp [List.getD, hlt]
          have e : zs.idxOf x = k := by
            have h1 : zs.idxOf x ≤ k := by
              rcases Nat.lt_or_ge k (zs.idxOf x) with h | h
              · exact absurd (by rw [he]; simp [List.getD, hlt] : zs[k] = x) (by simpa using List.not_of_lt_findIdx (p := (· == x)) (by simpa [List.idxOf] using h))
              · exact h
            have h2 : zs[zs.idxOf x]'(List.idxOf_lt_length_iff.2 hm) = x := List.getElem_idxOf _
            rcases Nat.lt_or_ge (zs.idxOf x) k with h | h
            · exact absurd (by rw [List.getD, List.getElem?_eq_getElem (List.idxOf_lt_length_iff.2 hm)]; exact h2.symm) (hall.out _ h)
            · omega
          unfold pos
          rw [if_pos hm, e])
        have hb : (x == zs.getD k 0) = true := by simpa using he
        generalize zs.getD k 0 = z at e0 hb
        clear hall he
        go_wp2_with fail
        go_ret
        exact ⟨ret_int6 HF.out.symm, rfl⟩
      · have HN : Hid (∀ j, j < k + 1 → ¬ x = zs.getD j 0) := Lib.hid (fun j hj => by
          rcases Nat.lt_succ_iff_lt_or_eq.1 hj with h | rfl
          · exact hall.out j h
          · exact he)
        have hb : (x == zs.getD k 0) = false := by simpa using he
        generalize zs.getD k 0 = z at e0 hb
        clear hall he
        go_wp2_with fail
        go_round
        case rel => exact ⟨k + 1, by omega, by go_num, HN⟩
        case measure => simp [intOf] <;> omega
    · obtain rfl : k = zs.length := by omega
      have HF : Hid (pos zs x = -1) := Lib.hid (by
        unfold pos
        rw [if_neg (fun hm => by
          obtain ⟨j, hj, e⟩ := List.getElem_of_mem hm
          exact hall.out j hj (by simp [List.getD, hj, e]))])
      clear hall
      go_wp2_with fail
      go_ret
      exact ⟨ret_int6 HF.out.symm, rfl⟩
theorem Contains_any (lo hi : Nat) (v : Value) (zs : List Int) (x : Int) (w : World) (r : IntO lo hi w v zs) :
    Calls Try.prog 52 #[v, .int .i64 x] w fun e w' => e = .returned (.bool (decide (x ∈ zs))) ∧ w' = w := by
  have C := Lib.hid (Index_any lo hi v zs x w r)
  have HP : Hid (decide (0 ≤ pos zs x) = decide (x ∈ zs)) := Lib.hid (by
    unfold pos
    by_cases h : x ∈ zs
    · rw [if_pos h]; simp [h]
    · rw [if_neg h]; simp [h])
  clear r
  generalize pos zs x = p at C HP
  go_enter Try.func52, Try.ntmps52
  go_wp2_with fail
  refine C.out.mono ?_
  rintro e w' ⟨rfl, rfl⟩
  go_wp2_with fail
  go_ret
  exact ⟨ret_bool HP.out, rfl⟩

end Go.Proofs.Ytbnokmlmajcibaa

namespace Go.Proofs.Ytbnokmlmajcibaa
open Go.ChangeShapes Go.WideShapes Go.ChangeAt Go.RowKit

set_option maxHeartbeats 2000000 in
theorem ImplProd_any (i k : Int) (w : World) :
    Calls Try.prog 15 #[.int .i64 i, .int .i64 k] w fun e w' => e = .returned (.int .i64 (prodI i k)) ∧ w' = w := by
  by_cases hi : 0 ≤ i ∧ i ≤ 7
  · by_cases hk : 0 ≤ k ∧ k ≤ 7
    · have C1 := Lib.hid (ViewOk_yes i w hi.1 hi.2)
      have C2 := Lib.hid (ViewOk_yes k w hk.1 hk.2)
      have M1 := Lib.hid (MirV_any i w)
      have M2 := Lib.hid (MirV_any k w)
      obtain ⟨a, rfl, ha⟩ := nat8 hi
      obtain ⟨b, rfl, hb⟩ := nat8 hk
      clear hi hk
      by_cases h4 : 4 ≤ (a : Int) <;> by_cases h5 : 4 ≤ (b : Int)
      all_goals
        first
          | rw [decide_eq_true h4] at M1
          | rw [decide_eq_false h4] at M1
        first
          | rw [decide_eq_true h5] at M2
          | rw [decide_eq_false h5] at M2
        go_enter Try.func15, Try.ntmps15
        go_wp2_with fail
        refine C1.out.mono ?_
        rintro e uu ⟨rfl, huu⟩
        have huu := huu.symm
        subst huu
        go_wp2_with fail
        refine C2.out.mono ?_
        rintro e uu ⟨rfl, huu⟩
        have huu := huu.symm
        subst huu
        go_wp2_with fail
        refine M2.out.mono ?_
        rintro e uu ⟨rfl, huu⟩
        have huu := huu.symm
        subst huu
        go_wp2_with fail
        refine M1.out.mono ?_
        rintro e uu ⟨rfl, huu⟩
        have huu := huu.symm
        subst huu
        go_wp2_with fail
        refine M2.out.mono ?_
        rintro e uu ⟨rfl, huu⟩
        have huu := huu.symm
        subst huu
        go_wp2_with fail
        go_ret
        refine ⟨ret_intG ?_, rfl⟩
        rw [prod_yes ha hb]
        unfold mulV
        split <;> split <;> omega
    · have C1 := Lib.hid (ViewOk_yes i w hi.1 hi.2)
      have C2 := Lib.hid (ViewOk_no k w (by omega))
      rw [prod_no (fun h => hk h.2)]
      clear hi hk
      go_enter Try.func15, Try.ntmps15
      go_wp2_with fail
      refine C1.out.mono ?_
      rintro e uu ⟨rfl, huu⟩
      have huu := huu.symm
      subst huu
      go_wp2_with fail
      refine C2.out.mono ?_
      rintro e uu ⟨rfl, huu⟩
      have huu := huu.symm
      subst huu
      go_wp2_with fail
      go_ret
      exact ⟨rfl, rfl⟩
  · have C1 := Lib.hid (ViewOk_no i w (by omega))
    rw [prod_no (fun h => hi h.1)]
    clear hi
    go_enter Try.func15, Try.ntmps15
    go_wp2_with fail
    refine C1.out.mono ?_
    rintro e uu ⟨rfl, huu⟩
    have huu := huu.symm
    subst huu
    go_wp2_with fail
    go_ret
    exact ⟨rfl, rfl⟩
theorem ImplInv_any (k : Int) (w : World) :
    Calls Try.prog 18 #[.int .i64 k] w fun e w' => e = .returned (.int .i64 (invI k)) ∧ w' = w := by
  have CP := Lib.hid (fun m : Int => ImplProd_any k m w)
  go_enter Try.func18, Try.ntmps18
  go_wp2_with fail
  go_loop [4] (fun i => ∃ m : Nat, m ≤ 8 ∧ i = .int .i64 m ∧ Hid (∀ j : Nat, j < m → ¬ prodI k j = 0)) (fun i => 8 - (intOf i).toNat)
  case atStart => exact ⟨0, Nat.zero_le _, rfl, Lib.hid (fun j hj => by omega)⟩
  case round =>
    obtain ⟨m, hm, rfl, hno⟩ := hrel
    by_cases hlt : m < 8
    · have CM := Lib.hid (CP.out (m : Int))
      by_cases hp : prodI k m = 0
      · have HF : Hid (invI k = (m : Int)) := Lib.hid (inv_first hlt hp)
        rw [hp] at CM
        clear hp hno CP
        go_wp2_with fail
        refine CM.out.mono ?_
        rintro e uu ⟨rfl, huu⟩
        have huu := huu.symm
        subst huu
        go_wp2_with fail
        go_ret
        exact ⟨ret_intG HF.out.symm, rfl⟩
      · have HN : Hid (∀ j : Nat, j < m + 1 → ¬ prodI k j = 0) := Lib.hid (fun j hj => by
          rcases Nat.lt_succ_iff_lt_or_eq.1 hj with h | rfl
          · exact hno.out j h
          · exact hp)
        have hpb : (prodI k m == 0) = false := by simpa using hp
        generalize prodI k m = p at CM hpb
        clear hp hno CP
        go_wp2_with fail
        refine CM.out.mono ?_
        rintro e uu ⟨rfl, huu⟩
        have huu := huu.symm
        subst huu
        go_wp2_with fail
        go_round
        case rel => exact ⟨m + 1, by omega, by go_num, HN⟩
        case measure => simp [intOf] <;> omega
    · obtain rfl : m = 8 := by omega
      have HF : Hid (invI k = -1) := Lib.hid (inv_none (fun m hm => hno.out m hm))
      clear hno CP
      go_wp2_with fail
      go_ret
      exact ⟨ret_intG HF.out.symm, rfl⟩

end Go.Proofs.Ytbnokmlmajcibaa

namespace Go.Proofs.Ytbnokmlmajcibaa
open Go.ChangeShapes Go.WideShapes Go.ChangeAt Go.RowKit

/-- The facts Ps hold, and go on to hold while no block of u changes; since w no block of w has changed. -/
def Kp (w : World) (Ps : List (World → Prop)) (u : World) : Prop := Below w.heap.size w u ∧ ∀ P ∈ Ps, ∀ v, Below u.heap.size u v → P v
theorem Kp.nil {w u : World} (h : Below w.heap.size w u) : Kp w [] u := ⟨h, fun P hP => by cases hP⟩
theorem Kp.keep {w u v : World} {Ps : List (World → Prop)} (h : Kp w Ps u) (hb : Below u.heap.size u v) : Kp w Ps v := ⟨bel_c h.1 (Nat.le_refl _) hb, fun P hP x hx => h.2 P hP x (bel_c hb (Nat.le_refl _) hx)⟩
theorem Kp.drew {w u : World} {Ps : List (World → Prop)} (h : Kp w Ps u) : Kp w Ps u.drew := h.keep ⟨rfl, rfl, rfl, Nat.le_refl _, fun _ _ => rfl⟩
theorem Kp.get {w u : World} {Ps : List (World → Prop)} (h : Kp w Ps u) (i : Nat) {P : World → Prop} (hP : Ps[i]? = some P) : P u := h.2 P (List.mem_of_getElem? hP) u (Below.refl _ _)
theorem Kp.cons {w u : World} {Ps : List (World → Prop)} {P : World → Prop} (h : Kp w Ps u) (hP : ∀ v, Below u.heap.size u v → P v) : Kp w (P :: Ps) u :=
  ⟨h.1, fun Q hQ => by
    rcases List.mem_cons.1 hQ with rfl | hQ
    · exact hP
    · exact h.2 Q hQ⟩
theorem Kp.two {w u : World} {Ps : List (World → Prop)} (h : Kp w Ps u) (x y : Value) (T : TypeId) : Kp w (Two u.heap.size x y :: Ps) (u.alloc (.cells #[x, y] T)) :=
  (h.keep (bel0 _ _)).cons fun _ hv => (Two.new u x y T).keep hv
theorem Kp.three {w u : World} {Ps : List (World → Prop)} (h : Kp w Ps u) (c : C3) (T : TypeId) : Kp w (Three u.heap.size c :: Ps) (u.alloc (.cells #[.int .i64 c.s, .int .i64 c.a, .int .i64 c.b] T)) :=
  (h.keep (bel0 _ _)).cons fun _ hv => (Three.new u c T).keep hv
/-- A row of cells, of ints, below the world's end. -/
def Rk (lo hi : Nat) (v : Value) (xs : List C3) (u : World) : Prop := CellIn lo hi u v xs ∧ hi ≤ u.heap.size
def Ik (lo hi : Nat) (v : Value) (zs : List Int) (u : World) : Prop := IntIn lo hi u v zs ∧ hi ≤ u.heap.size
def Ok (lo hi : Nat) (v : Value) (zs : List Int) (u : World) : Prop := IntO lo hi u v zs ∧ hi ≤ u.heap.size
theorem Rk.keep {lo hi : Nat} {v : Value} {xs : List C3} {u x : World} (h : Rk lo hi v xs u) (hb : Below u.heap.size u x) : Rk lo hi v xs x := ⟨h.1.below (hb.mono h.2), Nat.le_trans h.2 hb.size⟩
theorem Ik.keep {lo hi : Nat} {v : Value} {zs : List Int} {u x : World} (h : Ik lo hi v zs u) (hb : Below u.heap.size u x) : Ik lo hi v zs x := ⟨h.1.below (hb.mono h.2), Nat.le_trans h.2 hb.size⟩
theorem Ok.keep {lo hi : Nat} {v : Value} {zs : List Int} {u x : World} (h : Ok lo hi v zs u) (hb : Below u.heap.size u x) : Ok lo hi v zs x := ⟨h.1.below (hb.mono h.2), Nat.le_trans h.2 hb.size⟩
theorem Kp.row {w u x : World} {Ps : List (World → Prop)} {v : Value} {xs : List C3} (h : Kp w Ps u) (hb : Below u.heap.size u x) (r : CellIn u.heap.size x.heap.size x v xs) : Kp w (Rk u.heap.size x.heap.size v xs :: Ps) x :=
  (h.keep hb).cons fun _ hv => Rk.keep ⟨r, Nat.le_refl _⟩ hv
theorem Kp.ints {w u x : World} {Ps : List (World → Prop)} {v : Value} {zs : List Int} (h : Kp w Ps u) (hb : Below u.heap.size u x) (r : IntIn u.heap.size x.heap.size x v zs) : Kp w (Ik u.heap.size x.heap.size v zs :: Ps) x :=
  (h.keep hb).cons fun _ hv => Ik.keep ⟨r, Nat.le_refl _⟩ hv
theorem bel0_lt (w : World) (o : Obj) : w.heap.size < (w.alloc o).heap.size := by simp
theorem args_eq {P : Program} {f : Nat} {xs bs : Array Value} {w : World} {Q : Ending → World → Prop} (h : Calls P f xs w Q) (e : bs = xs) : Calls P f bs w Q := e ▸ h
/-- Equal blocks. -/
theorem sameB_yes (n : Int) (xs : List C3) : sameB n n xs xs = true := by unfold sameB; simp
theorem lit6 (W : World) (x0 x1 x2 x3 x4 x5 : Int) (T : TypeId) : IntIn W.heap.size (W.heap.size + 1) (W.alloc (.cells #[.int .i64 x0, .int .i64 x1, .int .i64 x2, .int .i64 x3, .int .i64 x4, .int .i64 x5] T)) (.slice (some ⟨W.heap.size, 0, none⟩) 6 6) [x0, x1, x2, x3, x4, x5] :=
  ⟨by simp, .inr ⟨W.heap.size, 6, rfl, Nat.le_refl _, Nat.lt_succ_self _, fun i hi => by
    have : i = 0 ∨ i = 1 ∨ i = 2 ∨ i = 3 ∨ i = 4 ∨ i = 5 := by simp at hi; omega
    rcases this with rfl | rfl | rfl | rfl | rfl | rfl <;> exact ⟨by simp, by simp⟩⟩⟩

end Go.Proofs.Ytbnokmlmajcibaa
