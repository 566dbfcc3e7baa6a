/- Joins: the joins of a layout make the whole of it: the numbers. Layouts: DrawLayout. Layouts: what stays in view in the walks of the laws. Cuts: what stays in view in the walks of the laws. -/
import Derived.Test.YtboahceibeeifaaM7
import Derived.Test.YtboahceibeeifaaLayD
import Derived.Test.YtboahceibeeifaaLayZ
import Derived.Test.YtboahceibeeifaaCutP
import Derived.Test.YtboahceibeeifaaLayIk
import Derived.Test.YtboahceibeeifaaLayB

set_option linter.unusedSimpArgs false
set_option linter.unusedVariables false
namespace Go.Proofs.Ytboahceibeeifaa

/-- The units with these numbers are the patches of the part. -/
def St (l t : Int) (xs : List P5) (ns : List Int) (us : List U6) : Prop :=
  ns.length = xs.length ∧ (∀ k, k < xs.length → ∃ i : Nat, ns.getD k 0 = i ∧ i < us.length ∧ (un us i).j = false ∧ mv l t (un us i).p = pat xs k) ∧
    ∀ k k', k < xs.length → k' < xs.length → ns.getD k 0 = ns.getD k' 0 → k = k'
theorem mem_num {c : C2} {b : Bool} {xs : List P5} {ns : List Int} {z : Int} (h : z ∈ numK c b xs ns xs.length) : ∃ i, i ∈ idxs c b xs xs.length ∧ z = ns.getD i 0 := by
  unfold numK at h
  obtain ⟨i, hi, rfl⟩ := List.mem_map.1 h
  exact ⟨i, hi, rfl⟩
theorem mem_getD {ns : List Int} {k : Nat} (h : k < ns.length) : ns.getD k 0 ∈ ns := by
  simp only [List.getD, List.getElem?_eq_getElem h, Option.getD_some]; exact List.getElem_mem h
theorem num_sub {c : C2} {b : Bool} {xs : List P5} {ns : List Int} (hn : ns.length = xs.length) {z : Int} (h : z ∈ numK c b xs ns xs.length) : z ∈ ns := by
  obtain ⟨i, hi, rfl⟩ := mem_num h
  exact mem_getD (by rw [hn]; exact idxs_lt hi)
variable {m n l t : Int} {xs : List P5} {c : C2} {ns : List Int} {us : List U6}
theorem St.apart (h : St l t xs ns us) {z : Int} (h1 : z ∈ numK c false xs ns xs.length) (h2 : z ∈ numK c true xs ns xs.length) : False := by
  obtain ⟨i, hi, rfl⟩ := mem_num h1
  obtain ⟨j, hj, e⟩ := mem_num h2
  have := h.2.2 i j (idxs_lt hi) (idxs_lt hj) e
  subst this
  have a := (List.mem_filter.1 hi).2
  have b := (List.mem_filter.1 hj).2
  rw [beq_iff_eq] at a b
  rw [a] at b; cases b
theorem num_inj (h : St l t xs ns us) {b : Bool} {k k' : Nat} (hk : k < (idxs c b xs xs.length).length) (hk' : k' < (idxs c b xs xs.length).length) (e : (numK c b xs ns xs.length).getD k 0 = (numK c b xs ns xs.length).getD k' 0) : k = k' := by
  have e1 : (numK c b xs ns xs.length).getD k 0 = ns.getD (idxs c b xs xs.length)[k] 0 := getD_map_int _ hk
  have e2 : (numK c b xs ns xs.length).getD k' 0 = ns.getD (idxs c b xs xs.length)[k'] 0 := getD_map_int _ hk'
  rw [e1, e2] at e
  have := h.2.2 _ _ (idxs_lt (List.getElem_mem hk)) (idxs_lt (List.getElem_mem hk')) e
  have nd : (idxs c b xs xs.length).Nodup := List.Pairwise.filter _ List.nodup_range
  exact (List.getElem_inj nd).1 this
theorem St.left (h : St l t xs ns us) (lay : LayOk m n xs) (hc : hasC m n xs c = true) : St l t (pL1 m n c xs) (numK c false xs ns xs.length) us := by
  have hl : (pL1 m n c xs).length = (idxs c false xs xs.length).length := by rw [pL1_idx lay hc]; simp
  refine ⟨num1_len lay hc ns, fun k hk => ?_, fun k k' hk hk' e => num_inj h (by omega) (by omega) e⟩
  rw [hl] at hk
  obtain ⟨i, e1, hi, hj, e2⟩ := h.2.1 _ (idxs_lt (List.getElem_mem hk))
  refine ⟨i, ?_, hi, hj, ?_⟩
  · rw [← e1]; exact getD_map_int _ hk
  · rw [e2, pL1_idx lay hc]; exact (pat_mapI _ hk).symm
theorem St.right (h : St l t xs ns us) (lay : LayOk m n xs) (hc : hasC m n xs c = true) : St (l + pX2 c) (t + pY2 c) (pL2 m n c xs) (numK c true xs ns xs.length) us := by
  have hl : (pL2 m n c xs).length = (idxs c true xs xs.length).length := by rw [pL2_idx lay hc]; simp
  refine ⟨num2_len lay hc ns, fun k hk => ?_, fun k k' hk hk' e => num_inj h (by omega) (by omega) e⟩
  rw [hl] at hk
  obtain ⟨i, e1, hi, hj, e2⟩ := h.2.1 _ (idxs_lt (List.getElem_mem hk))
  refine ⟨i, ?_, hi, hj, ?_⟩
  · rw [← e1]; exact getD_map_int _ hk
  · rw [pL2_idx lay hc, List.map_map]
    refine Eq.trans ?_ (pat_mapI _ hk).symm
    show _ = mv (pX2 c) (pY2 c) (pat xs _)
    rw [← e2]; unfold mv; congr 1 <;> simp only <;> omega
theorem St.keep {us' : List U6} (h : St l t xs ns us) (hl : us.length ≤ us'.length) (hk : ∀ i : Nat, i < us.length → (i : Int) ∈ ns → un us' i = un us i) : St l t xs ns us' := by
  refine ⟨h.1, fun k hk' => ?_, h.2.2⟩
  obtain ⟨i, e1, hi, hj, e2⟩ := h.2.1 k hk'
  have e : un us' i = un us i := hk i hi (by rw [← e1]; exact mem_getD (by rw [h.1]; exact hk'))
  exact ⟨i, e1, by omega, by rw [e]; exact hj, by rw [e]; exact e2⟩
/-- The unit is the whole part. -/
def Whole (l t m n : Int) (p : P5) : Prop := p.x = l ∧ p.y = t ∧ p.w = m ∧ p.h = n
theorem one_whole (lay : LayOk m n xs) (hl : xs.length = 1) : (pat xs 0).x = 0 ∧ (pat xs 0).y = 0 ∧ (pat xs 0).w = m ∧ (pat xs 0).h = n := by
  have hm := lay.1
  have hn := lay.2.1
  have f := lay.fit (show 0 < xs.length by omega)
  obtain ⟨⟨f0, f01⟩, ⟨f1, f11⟩, ⟨f2, f21⟩, ⟨f3, f31⟩, _⟩ := f
  obtain ⟨k, hk, hc⟩ := some_at lay (x := 0) (y := 0) (by omega) (by omega) (by omega) (by omega)
  obtain rfl : k = 0 := by omega
  obtain ⟨⟨c0, c1⟩, c2, c3⟩ := hc
  obtain ⟨k, hk, hc⟩ := some_at lay (x := m - 1) (y := n - 1) (by omega) (by omega) (by omega) (by omega)
  obtain rfl : k = 0 := by omega
  obtain ⟨⟨d0, d1⟩, d2, d3⟩ := hc
  omega
theorem unF_one {us : List U6} {j : J3} {r : List J3} (h : FitJ us j) : unF us (j :: r) = unF (putJ us j) r := by rw [unF, if_pos h]
theorem part_whole {l t : Int} {c : C2} {a b : P5} (h1 : Whole l t (pM1 m c) (pN1 n c) a) (h2 : Whole (l + pX2 c) (t + pY2 c) (pM2 m c) (pN2 n c) b) : Side c.up a b ∧ Whole l t m n (sewP c.up a b) := by
  obtain ⟨up, z⟩ := c
  unfold Whole at *
  cases up <;> simp [Side, sewP, pM1, pN1, pM2, pN2, pX2, pY2] at * <;> omega
theorem part_flip {l t : Int} {c : C2} {a b : P5} (h1 : Whole l t (pM1 m c) (pN1 n c) a) (h2 : Whole (l + pX2 c) (t + pY2 c) (pM2 m c) (pN2 n c) b) (hm : 1 ≤ m) (hn : 1 ≤ n) : ¬ Side (!c.up) a b := by
  obtain ⟨up, z⟩ := c
  unfold Whole at *
  cases up <;> simp [Side, pM1, pN1, pM2, pN2, pX2, pY2] at * <;> omega
/-- What the joins of a part do to the units. -/
def Made (l t m n : Int) (xs : List P5) (ns : List Int) (us : List U6) (js : List J3) (u : Int) (us' : List U6) : Prop :=
  (∀ r, unF us (js ++ r) = unF us' r) ∧ us'.length = us.length + js.length ∧ (∃ A : Nat, u = A ∧ A < us'.length ∧ (un us' A).j = false ∧ Whole l t m n (un us' A).p ∧ ((A : Int) ∈ ns ∨ us.length ≤ A) ∧ (xs.length = 1 ∨ A + 1 = us'.length)) ∧
    ∀ i : Nat, i < us.length → (i : Int) ∉ ns → un us' i = un us i
/-- The last join. -/
theorem made_two {j1 j2 : List J3} {u1 u2 : Int} {us1 us2 : List U6} (h : St l t xs ns us) (lay : LayOk m n xs) (hc : hasC m n xs c = true)
    (m1 : Made l t (pM1 m c) (pN1 n c) (pL1 m n c xs) (numK c false xs ns xs.length) us j1 u1 us1) (m2 : Made (l + pX2 c) (t + pY2 c) (pM2 m c) (pN2 n c) (pL2 m n c xs) (numK c true xs ns xs.length) us1 j2 u2 us2) :
    ∃ A1 A2 : Nat, u1 = A1 ∧ u2 = A2 ∧ (∀ r, unF us (j1 ++ j2 ++ r) = unF us2 r) ∧ us2.length = us.length + (j1.length + j2.length) ∧ FitJ us2 ⟨c.up, A1, A2⟩ ∧ ¬ FitJ us2 ⟨!c.up, A1, A2⟩ ∧ Whole l t m n (sewP c.up (un us2 A1).p (un us2 A2).p) ∧
      ∀ i : Nat, i < us.length → (i : Int) ∉ ns → un us2 i = un us i ∧ i ≠ A1 ∧ i ≠ A2 := by
  obtain ⟨f1, l1, ⟨A1, rfl, a1, ha1, w1, in1, _⟩, k1⟩ := m1
  obtain ⟨f2, l2, ⟨A2, rfl, a2, ha2, w2, in2, _⟩, k2⟩ := m2
  have hns := h.1
  have ns2 : ∀ z : Int, z ∈ numK c true xs ns xs.length → z < us.length := fun z hz => by
    obtain ⟨i, hi, rfl⟩ := mem_num hz
    obtain ⟨q, e1, hq, _⟩ := h.2.1 i (idxs_lt hi)
    rw [e1]; omega
  have not2 : (A1 : Int) ∉ numK c true xs ns xs.length := fun hz => by
    rcases in1 with k | k
    · exact h.apart k hz
    · have := ns2 _ hz; omega
  have e1 : un us2 A1 = un us1 A1 := k2 A1 (by omega) not2
  have hne : A1 ≠ A2 := fun e => by
    subst e
    rcases in2 with k | k
    · exact not2 k
    · omega
  have hw1 : Whole l t (pM1 m c) (pN1 n c) (un us2 A1).p := by rw [e1]; exact w1
  obtain ⟨hs, hw⟩ := part_whole hw1 w2
  have hm := lay.1
  have hn := lay.2.1
  refine ⟨A1, A2, rfl, rfl, fun r => by rw [List.append_assoc, f1, f2], by omega, ?_, ?_, hw, fun i hi hz => ⟨?_, ?_, ?_⟩⟩
  · unfold FitJ InU
    simp only [Int.toNat_natCast]
    exact ⟨by omega, by omega, by omega, by rw [e1]; exact ha1, ha2, hs⟩
  · intro k
    have k6 := k.2.2.2.2.2
    simp only [Int.toNat_natCast] at k6
    exact part_flip hw1 w2 hm.1 hn.1 k6
  · have hz1 : (i : Int) ∉ numK c false xs ns xs.length := fun k => hz (num_sub hns k)
    have hz2 : (i : Int) ∉ numK c true xs ns xs.length := fun k => hz (num_sub hns k)
    rw [k2 i (by omega) hz2, k1 i hi hz1]
  · intro e
    subst e
    rcases in1 with k | k
    · exact hz (num_sub hns k)
    · omega
  · intro e
    subst e
    rcases in2 with k | k
    · exact hz (num_sub hns k)
    · omega
theorem tree_made {T : Int} {js : List J3} {u : Int} {b : Bool} (h : TreeIs m n xs ns T js u b) : b = true → ∀ (l t : Int) (us : List U6), T = us.length → St l t xs ns us → ∃ us', Made l t m n xs ns us js u us' := by
  induction h with
  | @one m n xs ns T h hl hn =>
    intro _ l t us hT hs
    obtain ⟨i, e1, hi, hj, e2⟩ := hs.2.1 0 (by omega)
    obtain ⟨g0, g1, g2, g3⟩ := one_whole h hl
    rw [← e2] at g0 g1 g2 g3
    simp only [mv] at g0 g1 g2 g3
    refine ⟨us, fun r => rfl, by simp, ⟨i, e1, hi, hj, ⟨by omega, by omega, g2, g3⟩, .inl ?_, .inl hl⟩, fun _ _ _ => rfl⟩
    rw [← e1]; exact mem_getD (by omega)
  | knot => intro k; cases k
  | @join m n xs ns T c r j1 j2 u1 u2 b1 b2 h hl hn hc t1 t2 ih1 ih2 =>
    intro k l t us hT hs
    rw [Bool.and_eq_true] at k
    obtain ⟨rfl, rfl⟩ := k
    have hh := first_cut hc
    obtain ⟨us1, m1⟩ := ih1 rfl l t us hT (hs.left h hh)
    have hl1 := m1.2.1
    have hs2 : St (l + pX2 c) (t + pY2 c) (pL2 m n c xs) (numK c true xs ns xs.length) us1 := (hs.right h hh).keep (by omega) (fun i hi hz => m1.2.2.2 i hi (fun k => hs.apart k hz))
    obtain ⟨us2, m2⟩ := ih2 rfl _ _ us1 (by omega) hs2
    obtain ⟨A1, A2, e1, e2, hf, hlen, hfit, _, hw, hk⟩ := made_two hs h hh m1 m2
    subst e1 e2
    simp only [Bool.and_self, if_true]
    refine ⟨putJ us2 ⟨c.up, A1, A2⟩, fun r => ?_, ?_, ⟨us2.length, by omega, by rw [putJ_len]; omega, ?_, ?_, .inr (by omega), .inr (by rw [putJ_len])⟩, fun i hi hz => ?_⟩
    · rw [List.append_assoc, hf]; exact unF_one hfit
    · rw [putJ_len]; simp; omega
    · rw [un_new]; rfl
    · rw [un_new, mkU_p]; simpa using hw
    · obtain ⟨q1, q2, q3⟩ := hk i hi hz
      rw [un_put hfit (by omega)]
      simp only [Int.toNat_natCast]
      rw [if_neg (by omega), q1]
theorem St.all (h : LayOk m n xs) : St 0 0 xs (numsN xs.length) (xs.map mkU) := by
  refine ⟨numsN_len _, fun k hk => ⟨k, numsN_at hk, by simpa using hk, ?_, ?_⟩, fun k k' hk hk' e => ?_⟩
  · rw [un_get (by simpa using hk), List.getElem_map]; rfl
  · rw [un_get (by simpa using hk), List.getElem_map, mkU_p, mv_zero, ← pat_get hk]
  · rw [numsN_at hk, numsN_at hk'] at e; omega
/-- The last join turned the other way. -/
def flipL (js : List J3) : List J3 := js.set (js.length - 1) ⟨!(jn js (js.length - 1)).up, (jn js (js.length - 1)).a, (jn js (js.length - 1)).b⟩
theorem flip_end (js : List J3) (up : Bool) (a b : Int) : flipL (js ++ [⟨up, a, b⟩]) = js ++ [⟨!up, a, b⟩] := by
  have e : jn (js ++ [⟨up, a, b⟩]) ((js ++ [(⟨up, a, b⟩ : J3)]).length - 1) = ⟨up, a, b⟩ := by simp [jn]
  unfold flipL
  rw [e]
  simp
theorem joins_len (h : sewB m n xs = true) : (joinsL m n xs).length + 1 = xs.length := (joins_tree h).full rfl
/-- They make the whole. -/
theorem joins_whole (h : sewB m n xs = true) : areJ m n xs (joinsL m n xs) = true ∧ boxB m n xs (joinsL m n xs) (xs.length + (joinsL m n xs).length - 1) = true ∧
    Whole 0 0 m n (boxP m n xs (joinsL m n xs) (xs.length + (joinsL m n xs).length - 1)) ∧ boxB m n xs (joinsL m n xs) (xs.length + (joinsL m n xs).length) = false := by
  have hl := sew_layB h
  have lay := lay_of hl
  have h1 := lay.2.2.1.1
  have hjl := joins_len h
  obtain ⟨us', f, hlen, ⟨A, hA, hA2, _, hw, hin, hend⟩, _⟩ := tree_made (joins_tree h) rfl 0 0 (xs.map mkU) (by simp) (St.all lay)
  have hu : unL m n xs (joinsL m n xs) = us' := by
    rw [unL_yes hl]; have := f []; simpa [unF] using this
  rw [List.length_map] at hlen
  have hAe : (A : Int) = xs.length + (joinsL m n xs).length - 1 := by
    rcases hend with k | k
    · omega
    · omega
  refine ⟨?_, ?_, ?_, ?_⟩
  · unfold areJ
    rw [hl, hu, hlen]
    simp only [Bool.true_and, Bool.and_eq_true, beq_iff_eq]
    omega
  · unfold boxB; rw [hu]; apply decide_eq_true; unfold InU; omega
  · unfold boxP; rw [hu, if_pos (by unfold InU; omega), ← hAe]; simpa using hw
  · unfold boxB; rw [hu]; apply decide_eq_false; unfold InU; omega
theorem joins_flip (h : sewB m n xs = true) (h1 : xs.length ≠ 1) : areJ m n xs (flipL (joinsL m n xs)) = false := by
  have hl := sew_layB h
  have lay := lay_of hl
  have tr := joins_tree h
  obtain ⟨J, hJ⟩ : ∃ J, J = joinsL m n xs := ⟨_, rfl⟩
  obtain ⟨b, hb⟩ : ∃ b, b = true := ⟨_, rfl⟩
  obtain ⟨T, hT⟩ : ∃ T : Int, T = xs.length := ⟨_, rfl⟩
  obtain ⟨u, hu⟩ : ∃ u, u = (treeR m n xs).2.1 := ⟨_, rfl⟩
  rw [← hJ] at tr ⊢
  rw [← hb, ← hT, ← hu] at tr
  clear hJ hu
  cases tr with
  | one _ hl1 => exact absurd hl1 h1
  | knot => cases hb
  | @join _ _ _ _ _ c r j1 j2 u1 u2 b1 b2 h' hl' hn hc t1 t2 =>
    rw [Bool.and_eq_true] at hb
    obtain ⟨rfl, rfl⟩ := hb
    have hh := first_cut hc
    have hs := St.all lay
    obtain ⟨us1, m1⟩ := tree_made t1 rfl 0 0 (xs.map mkU) (by simp [hT]) (hs.left lay hh)
    have hl1 := m1.2.1
    have hs2 : St (0 + pX2 c) (0 + pY2 c) (pL2 m n c xs) (numK c true xs (numsN xs.length) xs.length) us1 := (hs.right lay hh).keep (by omega) (fun i hi hz => m1.2.2.2 i hi (fun k => hs.apart k hz))
    obtain ⟨us2, m2⟩ := tree_made t2 rfl _ _ us1 (by rw [hl1, hT]; simp) hs2
    obtain ⟨A1, A2, e1, e2, hf, hlen, _, hno, _⟩ := made_two hs lay hh m1 m2
    subst e1 e2
    simp only [Bool.and_self, if_true]
    rw [flip_end]
    have hu : unL m n xs (j1 ++ j2 ++ [⟨!c.up, A1, A2⟩]) = us2 := by
      rw [unL_yes hl, hf, unF, if_neg hno]
    unfold areJ
    rw [hu, hlen]
    simp
    omega
theorem joins_drop (h : sewB m n xs = true) (h1 : xs.length ≠ 1) : areJ m n xs ((joinsL m n xs).drop 1) = false := by
  have hjl := joins_len h
  unfold areJ
  have : (((joinsL m n xs).drop 1).length : Int) ≠ (xs.length : Int) - 1 := by simp; omega
  rw [beq_eq_false_iff_ne.2 this]; simp
theorem are_nil (h : sewB m n xs = false) : areJ m n xs [] = false := by
  cases e : areJ m n xs [] with
  | false => rfl
  | true =>
    have hl := are_lay e
    have h1 := (are_len e).1
    simp at h1
    have k := knotR_is hl
    have hs := sew_lay hl
    rw [h] at hs
    exfalso
    cases hq : knotR m n xs with
    | none => rw [hq] at hs; cases hs
    | some q =>
      rw [hq] at k
      cases k with
      | knot _ h2 => omega
      | left _ h2 => omega
      | right _ h2 => omega

/-- Depths: what the joins of a part do. -/
theorem pow_two {a b : Nat} {x y : Nat} (hx : x ≤ 2 ^ a) (hy : y ≤ 2 ^ b) : x + y ≤ 2 ^ (1 + max a b) := by
  have h1 : 2 ^ a ≤ 2 ^ max a b := Nat.pow_le_pow_right (by decide) (Nat.le_max_left _ _)
  have h2 : 2 ^ b ≤ 2 ^ max a b := Nat.pow_le_pow_right (by decide) (Nat.le_max_right _ _)
  rw [Nat.pow_add]; omega
theorem dp_old {ds es : List Int} {i : Nat} (h : i < ds.length) : dp (ds ++ es) i = dp ds i := by
  unfold dp; rw [List.getD_eq_getElem?_getD, List.getElem?_append_left h, ← List.getD_eq_getElem?_getD]
theorem tree_depth {T : Int} {js : List J3} {u : Int} {b : Bool} (h : TreeIs m n xs ns T js u b) : b = true → ∀ (ds : List Int), T = ds.length → (∀ k, k < xs.length → ∃ i : Nat, ns.getD k 0 = i ∧ i < ds.length ∧ dp ds i = 0) →
    ∃ (ds' : List Int) (A d : Nat), (∀ r, dpF ds (js ++ r) = dpF ds' r) ∧ ds'.length = ds.length + js.length ∧ u = A ∧ A < ds'.length ∧ dp ds' A = d ∧ d + 1 ≤ xs.length ∧ xs.length ≤ 2 ^ d ∧ (xs.length = 1 ∨ A + 1 = ds'.length) ∧ ∀ i, i < ds.length → dp ds' i = dp ds i := by
  induction h with
  | @one m n xs ns T h hl hn =>
    intro _ ds hT hs
    obtain ⟨i, e1, hi, e2⟩ := hs 0 (by omega)
    exact ⟨ds, i, 0, fun r => rfl, by simp, e1, hi, by rw [e2]; rfl, by omega, by rw [hl]; decide, .inl hl, fun _ _ => rfl⟩
  | knot => intro k; cases k
  | @join m n xs ns T c r j1 j2 u1 u2 b1 b2 h hl hn hc t1 t2 ih1 ih2 =>
    intro k ds hT hs
    rw [Bool.and_eq_true] at k
    obtain ⟨rfl, rfl⟩ := k
    have hh := first_cut hc
    have hpl := part_len h hh
    have sub : ∀ (b : Bool) (k : Nat), k < (idxs c b xs xs.length).length → ∃ i : Nat, (numK c b xs ns xs.length).getD k 0 = i ∧ i < ds.length ∧ dp ds i = 0 := fun b k hk => by
      obtain ⟨i, e1, hi, e2⟩ := hs _ (idxs_lt (List.getElem_mem hk))
      exact ⟨i, by rw [← e1]; exact getD_map_int _ hk, hi, e2⟩
    have q1 : (pL1 m n c xs).length = (idxs c false xs xs.length).length := by rw [pL1_idx h hh]; simp
    have q2 : (pL2 m n c xs).length = (idxs c true xs xs.length).length := by rw [pL2_idx h hh]; simp
    obtain ⟨d1, A1, x1, f1, l1, rfl, a1, e1, b1, p1, _, k1⟩ := ih1 rfl ds hT (fun k hk => sub false k (by omega))
    obtain ⟨d2, A2, x2, f2, l2, rfl, a2, e2, b2, p2, _, k2⟩ := ih2 rfl d1 (by omega) (fun k hk => by
      obtain ⟨i, g1, g2, g3⟩ := sub true k (by omega)
      exact ⟨i, g1, by omega, by rw [k1 i g2]; exact g3⟩)
    simp only [Bool.and_self, if_true]
    have hok : DpOk d2 ⟨c.up, A1, A2⟩ := by unfold DpOk InU; simp only; omega
    refine ⟨d2 ++ [dpJ d2 ⟨c.up, A1, A2⟩], d2.length, 1 + max x1 x2, fun r => ?_, by simp; omega, by omega, by simp, ?_, by omega, ?_, .inr (by simp), fun i hi => ?_⟩
    · rw [List.append_assoc, List.append_assoc, f1, f2]
      show dpF d2 (⟨c.up, A1, A2⟩ :: r) = _
      rw [dpF, if_pos hok]
    · have : dp (d2 ++ [dpJ d2 ⟨c.up, A1, A2⟩]) d2.length = dpJ d2 ⟨c.up, A1, A2⟩ := by simp [dp]
      rw [this]
      unfold dpJ
      simp only [Int.toNat_natCast]
      rw [k2 A1 a1, e1, e2]; omega
    · rw [← hpl]; exact pow_two p1 p2
    · rw [dp_old (by omega), k2 i (by omega), k1 i hi]
theorem joins_depth (h : sewB m n xs = true) : ∃ d : Nat, depJ (joinsL m n xs) xs.length = d ∧ d + 1 ≤ xs.length ∧ xs.length ≤ 2 ^ d := by
  have hl := sew_layB h
  have lay := lay_of hl
  have hx := lay.2.2.1
  have hjl := joins_len h
  obtain ⟨ds', A, d, f, hlen, hA, hA2, e, b1, b2, hend, _⟩ := tree_depth (joins_tree h) rfl (List.replicate xs.length 0) (by simp) (fun k hk => ⟨k, numsN_at hk, by simpa using hk, by
    unfold dp; rw [List.getD_eq_getElem?_getD, List.getElem?_replicate]; split <;> rfl⟩)
  refine ⟨d, ?_, b1, b2⟩
  unfold depJ
  rw [if_pos ⟨by omega, by omega⟩, Int.toNat_natCast]
  have := f []
  rw [List.append_nil] at this
  rw [this, dpF]
  rw [List.length_replicate] at hlen
  have hAe : A = ds'.length - 1 := by
    rcases hend with k | k
    · omega
    · omega
  rw [← hAe]; exact e
/-- The longest seam. -/
theorem lon_bd {us : List U6} {js : List J3} (hf : ∀ k, k < js.length → 1 ≤ lenJ us (jn js k) ∧ lenJ us (jn js k) ≤ max m n) (hmn : 0 ≤ max m n) : ∀ k, k ≤ js.length → 0 ≤ lonK us js k ∧ lonK us js k ≤ max m n ∧ (0 < k → 1 ≤ lonK us js k)
  | 0, _ => ⟨Int.le_refl _, hmn, fun h => by omega⟩
  | k + 1, h => by
    obtain ⟨h1, h2, _⟩ := lon_bd hf hmn k (by omega)
    obtain ⟨g1, g2⟩ := hf k (by omega)
    show 0 ≤ max _ _ ∧ max _ _ ≤ _ ∧ (0 < k + 1 → 1 ≤ max _ _)
    omega
theorem joins_longest (h : sewB m n xs = true) : 0 ≤ lonJ m n xs (joinsL m n xs) ∧ lonJ m n xs (joinsL m n xs) ≤ max m n ∧ (lonJ m n xs (joinsL m n xs) = 0 ↔ xs.length = 1) := by
  have hl := sew_layB h
  have lay := lay_of hl
  have hm := lay.1
  have hn := lay.2.1
  have hjl := joins_len h
  have ha := (joins_whole h).1
  rw [← lon_yes ha]
  obtain ⟨h1, h2, h3⟩ := lon_bd (m := m) (n := n) (us := unL m n xs (joinsL m n xs)) (js := joinsL m n xs) (fun k hk => by
    have hi := are_in ha hk
    obtain ⟨i0, i1⟩ := hi
    have f := unL_fit (m := m) (n := n) (xs := xs) (js := joinsL m n xs) (i := (jn (joinsL m n xs) k).a.toNat) (by omega)
    obtain ⟨⟨f0, _⟩, ⟨f1, _⟩, ⟨f2, f3⟩, ⟨f4, f5⟩, _⟩ := f
    rw [show lenJ (unL m n xs (joinsL m n xs)) (jn (joinsL m n xs) k) = if (jn (joinsL m n xs) k).up then (un (unL m n xs (joinsL m n xs)) (jn (joinsL m n xs) k).a.toNat).p.h else (un (unL m n xs (joinsL m n xs)) (jn (joinsL m n xs) k).a.toNat).p.w from rfl]
    split <;> omega) (by omega) _ (Nat.le_refl _)
  refine ⟨h1, h2, fun e => ?_, fun e => ?_⟩
  · rcases Nat.eq_zero_or_pos (joinsL m n xs).length with z | z
    · omega
    · have := h3 z; omega
  · have : (joinsL m n xs).length = 0 := by omega
    rw [this]; rfl

end Go.Proofs.Ytboahceibeeifaa

set_option linter.unusedSimpArgs false
set_option linter.unusedVariables false
namespace Go.Proofs.Ytboahceibeeifaa
open Go.ChangeShapes Go.WideShapes Go.ChangeAt Go.RowKit

theorem Src.up9 {w : World} {b b' : Nat} {a : Option Addr} {len : Nat} (h : Src w b a len) (hb : b ≤ b') : Src w b' a len := by
  obtain ⟨hm, h | ⟨xb, xo, ha, hlt, hc⟩⟩ := h
  · exact ⟨hm, .inl h⟩
  · exact ⟨hm, .inr ⟨xb, xo, ha, Nat.lt_of_lt_of_le hlt hb, hc⟩⟩

/-- A valid layout is handed back. -/
def GivenL (w : World) (e : Ending) (w' : World) : Prop :=
  ∃ (m n : Int) (v : Value) (xs : List P5), LayOk m n xs ∧ e = .returned (.agg #[.int .i64 m, .int .i64 n, v]) ∧ PatIn w.heap.size w'.heap.size w' v xs ∧ Below w.heap.size w w'

set_option maxHeartbeats 400000 in
theorem DrawLayout_any (a : Option Addr) (len cap : Nat) (w : World) (hs : Src w w.heap.size a len) (hlen : len ≤ 1048576) :
    Calls Try.prog 10 #[.slice a len cap] w (GivenL w) := by
  have HS := Lib.hid (fun o => (hs.but ((But.refl _ _).alloc o)).up9 (b' := w.heap.size + 1) (by omega))
  clear hs
  go_enter Try.func10, Try.ntmps10
  go_wp2_with fail
  refine (New_any a len cap _ (by simpa using HS.out _) hlen).mono ?_
  rintro e w1 ⟨rfl, hc1, hb1⟩
  go_wp2_with fail
  refine (LayoutDraw_any _ a len cap _ (by simpa using hc1)).mono ?_
  rintro e w2 ⟨m, n, v, xs, hv, rfl, hin, hc2, hb2⟩
  obtain ⟨av, cv, rfl⟩ := hin.form
  have z1 : w.heap.size + 1 ≤ w1.heap.size := by have := hb1.size; simpa using this
  have hb3 : Below (w.heap.size + 1) (w.alloc (.cells #[.int .i64 0, .int .i64 0, .slice none 0 0] 26)) w2 := (hb1.mono (by simp)).trans (hb2.below (Nat.le_refl _) z1)
  have P := (BoxL.new w (.int .i64 0) (.int .i64 0) (.slice none 0 0) 26).below hb3 (Nat.lt_succ_self _)
  obtain ⟨p0, p1, p2, f0, f1, f2⟩ := P
  have hb5 : Below w.heap.size w w2 := (bel0 w _).trans (hb3.mono (by omega))
  have HI := Lib.hid hin
  have HV := Lib.hid hv
  clear hb1 hb2 hb3 hc1 hc2 hin hv
  go_wp2_with fail
  refine bodyPost_ret (v := .agg #[.int .i64 m, .int .i64 n, .slice av xs.length cv]) (by simp [results, Try.results10, go_sem, p0, p1, p2]) rfl ⟨m, n, _, xs, HV.out, rfl, ?_, ?_⟩
  · refine PatIn.wide (lo := w1.heap.size) (hi := w2.heap.size) ?_ (by omega) (by simp [World.setCell])
    refine PatIn.set_far (PatIn.set_far (PatIn.set_far HI.out ?_ _) ?_ _) ?_ _ <;> (simp <;> omega)
  · refine Below.setCell (Below.setCell (Below.setCell hb5 ?_ _) ?_ _) ?_ _ <;> exact Nat.le_refl _

end Go.Proofs.Ytboahceibeeifaa

set_option linter.unusedSimpArgs false
set_option linter.unusedVariables false
namespace Go.Proofs.Ytboahceibeeifaa
open Go.ChangeShapes Go.WideShapes Go.ChangeAt Go.RowKit

/-- Three places of a layout. -/
def Tri (p : Nat) (x y z : Value) (u : World) : Prop := u.cell? ⟨p, 0, none⟩ = some x ∧ u.cell? ⟨p, 1, none⟩ = some y ∧ u.cell? ⟨p, 2, none⟩ = some z
theorem Tri.keep {p : Nat} {x y z : Value} {u v : World} (h : Tri p x y z u) (hb : Below u.heap.size u v) : Tri p x y z v := ⟨kept hb h.1, kept hb h.2.1, kept hb h.2.2⟩
theorem Tri.new (w : World) (x y z : Value) (T : TypeId) : Tri w.heap.size x y z (w.alloc (.cells #[x, y, z] T)) := ⟨by simp, by simp, by simp⟩
theorem Tri.within {p lo hi : Nat} {x y z : Value} {u v : World} (h : Tri p x y z u) (hb : Within lo hi u v) (ho : p < lo ∨ hi ≤ p) : Tri p x y z v := ⟨hb.cell h.1 ho, hb.cell h.2.1 ho, hb.cell h.2.2 ho⟩
theorem bel_wL {b lo hi : Nat} {w u v : World} (h : Below b w u) (hb : b ≤ w.heap.size) (k : Within lo hi u v) (hl : b ≤ lo) : Below b w v :=
  ⟨k.os.trans h.os, k.tape.trans h.tape, k.output.trans h.output, Nat.le_trans h.size k.size, fun i hi => (k.block i (by have := h.size; omega) (.inl (by omega))).trans (h.block i hi)⟩

end Go.Proofs.Ytboahceibeeifaa

set_option linter.unusedSimpArgs false
set_option linter.unusedVariables false
namespace Go.Proofs.Ytboahceibeeifaa
open Go.ChangeShapes Go.WideShapes Go.ChangeAt Go.RowKit

/-- Two places of a cut. -/
def Duo (p : Nat) (x y : Value) (u : World) : Prop := u.cell? ⟨p, 0, none⟩ = some x ∧ u.cell? ⟨p, 1, none⟩ = some y
theorem Duo.keep {p : Nat} {x y : Value} {u v : World} (h : Duo p x y u) (hb : Below u.heap.size u v) : Duo p x y v := ⟨kept hb h.1, kept hb h.2⟩
theorem Duo.new (w : World) (x y : Value) (T : TypeId) : Duo w.heap.size x y (w.alloc (.cells #[x, y] T)) := ⟨by simp, by simp⟩
theorem Duo.within {p lo hi : Nat} {x y : Value} {u v : World} (h : Duo p x y u) (hb : Within lo hi u v) (ho : p < lo ∨ hi ≤ p) : Duo p x y v := ⟨hb.cell h.1 ho, hb.cell h.2 ho⟩
theorem Tri.lt {p : Nat} {x y z : Value} {u : World} (h : Tri p x y z u) : p < u.heap.size := lt_of_cell h.1
theorem Tri.of_box {p : Nat} {x y z : Value} {u : World} (h : BoxL p x y z u) : Tri p x y z u := ⟨h.1, h.2.1, h.2.2.1⟩
/-- The marks from any number on. -/
theorem MarkLayoutK (lo hi : Nat) (m n : Int) (v : Value) (xs : List P5) (k : Nat) (kk : Int) (w : World) (r : PatIn lo hi w v xs) (hhi : hi ≤ w.heap.size) (hk : k ≤ 100000000) (e : kk = k) :
    Calls Try.prog 22 #[.agg #[.int .i64 m, .int .i64 n, v], .int .i64 kk] w fun e w' => e = .returned (.int .i64 ((k + 5 * xs.length : Nat) : Int)) ∧ PatIn lo hi w' v (markPat k xs.length) ∧ Within lo hi w w' := by
  subst e
  obtain ⟨a1, c1, rfl⟩ := r.form
  have R : ∀ o, Hid (PatIn lo hi (w.alloc o) (.slice a1 xs.length c1) xs) := fun o => Lib.hid (r.below ((bel0 w o).mono hhi))
  clear r
  go_enter Try.func22, Try.ntmps22
  go_wp2_with fail
  refine (MarkPatS_any lo hi _ xs k _ (R _).out hk).mono ?_
  rintro e w1 ⟨rfl, hin, hb1⟩
  go_wp2_with fail
  go_ret
  exact ⟨rfl, hin, (Within.of_below (bel0 w _)).trans hb1⟩
end Go.Proofs.Ytboahceibeeifaa
