/- Layouts: the program's LayoutOk. Joins: sizes and marks. Orders of sewing: numbers. -/
import Derived.Test.YtlkiacgpiodkiaaM10
import Derived.Test.YtlkiacgpiodkiaaM03
import Derived.Test.YtlkiacgpiodkiaaM04
import Derived.Test.YtlkiacgpiodkiaaM06
import Derived.Test.YtlkiacgpiodkiaaM09
import Derived.Test.YtlkiacgpiodkiaaM08

set_option linter.unusedSimpArgs false
set_option linter.unusedVariables false
namespace Go.Proofs.Ytlkiacgpiodkiaa
open Go.ChangeShapes Go.WideShapes Go.ChangeAt Go.RowKit

theorem lay_is0 {m n : Int} {xs : List P5} (h1 : 1 ≤ m ∧ m ≤ 12) (h2 : 1 ≤ n ∧ n ≤ 12) (h3 : xs.length ≤ 12) (h4 : LayK m n xs xs.length) : decide (ar xs xs.length = m * n) = layB m n xs := by
  rcases Nat.eq_zero_or_pos xs.length with h | h
  · have hb := (mul_bd h1.1 h1.2 h2.1 h2.2).1
    have e : ar xs xs.length = 0 := by rw [h]; rfl
    rw [e, ← lay_no_l (m := m) (n := n) (xs := xs) (by omega)]
    exact decide_eq_false (by omega)
  · exact lay_is h1 h2 (by omega) h4
theorem take_pat {xs : List P5} {k i : Nat} (hi : i < k) : pat (xs.take k) i = pat xs i := by simp [pat, List.getD, hi]
theorem args_eqL {P : Program} {f : FuncId} {xs ys : Array Value} {w : World} {Q : Ending → World → Prop} (h : Calls P f xs w Q) (e : xs = ys) : Calls P f ys w Q := e ▸ h
theorem bel_dr9 {w u : World} {b : Nat} (h : Below b w u) : Below b w u.drew := ⟨h.os, h.tape, h.output, h.size, h.block⟩

end Go.Proofs.Ytlkiacgpiodkiaa

set_option linter.unusedSimpArgs false
set_option linter.unusedVariables false
namespace Go.Proofs.Ytlkiacgpiodkiaa
open Go.ChangeShapes Go.WideShapes Go.ChangeAt Go.RowKit

theorem SzJ_no (a : Option Addr) (len cap : Nat) (left : Int) (w : World) (h0 : 0 ≤ left) (h1 : left ≤ 1048576) (hm : len ≤ 9223372036854775807) (h : left < len) :
    Calls Try.prog 17 #[.slice a len cap, .int .i64 left] w fun e w' => e = .returned (.int .i64 (-1)) ∧ w' = w := by
  have h2 : left - (len : Int) < 0 := by omega
  go_enter Try.func17, Try.ntmps17
  go_wp2_with fail
  go_ret
  exact ⟨rfl, rfl⟩
theorem SzJ_yes (a : Option Addr) (len cap : Nat) (left : Int) (w : World) (h1 : left ≤ 1048576) (h : (len : Int) ≤ left) :
    Calls Try.prog 17 #[.slice a len cap, .int .i64 left] w fun e w' => e = .returned (.int .i64 (left - len)) ∧ w' = w := by
  have h2 : ¬ left - (len : Int) < 0 := by omega
  go_enter Try.func17, Try.ntmps17
  go_wp2_with fail
  go_ret
  exact ⟨rfl, rfl⟩
/-- The number behind the last mark. -/
def mkJ (zs : List J3) : Int := ((1 + 3 * zs.length : Nat) : Int)
theorem mkJ_pos (zs : List J3) : ¬ mkJ zs < 0 := by unfold mkJ; omega
theorem MarkJOne (lo hi : Nat) (v : Value) (zs : List J3) (w : World) (r : JnIn lo hi w v zs) :
    Calls Try.prog 25 #[v, .int .i64 1] w fun e w' => e = .returned (.int .i64 (mkJ zs)) ∧ JnIn lo hi w' v (markJn 1 zs.length) ∧ Within lo hi w w' :=
  MarkJnS_any lo hi v zs 1 w r (by omega)
end Go.Proofs.Ytlkiacgpiodkiaa

set_option linter.unusedSimpArgs false
set_option linter.unusedVariables false
namespace Go.Proofs.Ytlkiacgpiodkiaa

/-- A row of Booleans by a function. -/
def rowB (M : Nat) (U : Nat → Bool) : List Bool := (List.range M).map U
theorem rowB_len (M : Nat) (U : Nat → Bool) : (rowB M U).length = M := by simp [rowB]
theorem rowB_get {M : Nat} {U : Nat → Bool} {i : Nat} (h : i < M) : (rowB M U).getD i false = U i := by
  simp [rowB, List.getD_eq_getElem?_getD, List.getElem?_map, List.getElem?_range h]
theorem rowB_ext {M : Nat} {U V : Nat → Bool} (h : ∀ i, i < M → U i = V i) : rowB M U = rowB M V := by
  unfold rowB
  exact List.map_congr_left fun i hi => h i (List.mem_range.1 hi)
theorem rowB_set {M : Nat} {U : Nat → Bool} (k : Nat) (b : Bool) : (rowB M U).set k b = rowB M (fun i => if i = k then b else U i) := by
  apply List.ext_getElem?
  intro i
  rw [List.getElem?_set]
  by_cases h : i < M
  · by_cases e : k = i
    · subst e; simp [rowB, h]
    · simp [rowB, List.getElem?_map, List.getElem?_range h, e, Ne.symm e]
  · have h1 : (rowB M U).length ≤ i := by rw [rowB_len]; omega
    have h2 : (rowB M (fun i => if i = k then b else U i)).length ≤ i := by rw [rowB_len]; omega
    rw [List.getElem?_eq_none h1, List.getElem?_eq_none h2]
    split
    · split
      · rename_i e h3; subst e; omega
      · rfl
    · rfl
theorem rowB_false (M : Nat) : rowB M (fun _ => false) = List.replicate M false := by
  apply List.ext_getElem?
  intro i
  by_cases h : i < M <;> simp [rowB, h]

/-- Used by a join before the k-th. -/
def usedJ (js : List J3) (k : Nat) (i : Nat) : Bool := (js.take k).any fun j => j.a.toNat == i || j.b.toNat == i
theorem usedJ_zero (js : List J3) (i : Nat) : usedJ js 0 i = false := by simp [usedJ]
theorem usedJ_succ {js : List J3} {k : Nat} (hk : k < js.length) (i : Nat) : usedJ js (k + 1) i = (usedJ js k i || ((jn js k).a.toNat == i || (jn js k).b.toNat == i)) := by
  unfold usedJ
  rw [List.take_succ_eq_append_getElem hk, List.any_append, jn_get hk]
  simp
theorem used_put {js : List J3} {k : Nat} (hk : k < js.length) (M : Nat) : ((rowB M (usedJ js k)).set (jn js k).a.toNat true).set (jn js k).b.toNat true = rowB M (usedJ js (k + 1)) := by
  rw [rowB_set, rowB_set]
  apply rowB_ext
  intro i _
  rw [usedJ_succ hk]
  by_cases h1 : i = (jn js k).b.toNat
  · simp [h1]
  · by_cases h2 : i = (jn js k).a.toNat
    · simp [h2]
    · have h3 : ((jn js k).a.toNat == i) = false := by simpa using fun e => h2 e.symm
      have h4 : ((jn js k).b.toNat == i) = false := by simpa using fun e => h1 e.symm
      simp only [h1, h2, h3, h4, if_false, Bool.or_false]
/-- No unit is used twice by the first k joins. -/
def ApJ (js : List J3) (i : Nat) : Prop := (jn js i).a ≠ (jn js i).b ∧ usedJ js i (jn js i).a.toNat = false ∧ usedJ js i (jn js i).b.toNat = false
instance (js : List J3) (i : Nat) : Decidable (ApJ js i) := by unfold ApJ; infer_instance
def Aps (js : List J3) (k : Nat) : Prop := ∀ i, i < k → ApJ js i
instance (js : List J3) (k : Nat) : Decidable (Aps js k) := by unfold Aps; infer_instance
theorem Aps.zero (js : List J3) : Aps js 0 := fun i h => by omega
theorem Aps.succ {js : List J3} {k : Nat} (h : Aps js k) (h1 : ApJ js k) : Aps js (k + 1) := fun i hi => by
  rcases Nat.lt_or_ge i k with h2 | h2
  · exact h i h2
  · obtain rfl : i = k := by omega
    exact h1
/-- They make a tree. -/
def treeB (js : List J3) (n : Int) : Bool := decide (0 ≤ depJ js n ∧ Aps js js.length)
theorem tree_dep {js : List J3} {n : Int} (h : depJ js n < 0) : treeB js n = false := by
  unfold treeB; exact decide_eq_false fun h1 => by omega
theorem tree_no {js : List J3} {n : Int} {k : Nat} (hk : k < js.length) (h : ¬ ApJ js k) : treeB js n = false := by
  unfold treeB; exact decide_eq_false fun h1 => h (h1.2 k hk)
theorem tree_yes {js : List J3} {n : Int} (h : 0 ≤ depJ js n) (h1 : Aps js js.length) : treeB js n = true := by
  unfold treeB; exact decide_eq_true ⟨h, h1⟩
theorem dep_n {js : List J3} {n : Int} (h : 0 ≤ depJ js n) : (1 ≤ n ∧ n ≤ 12) ∧ (js.length : Int) = n - 1 := by
  unfold depJ at h; split at h
  · assumption
  · omega

/-- A row that grows by a number for each join. -/
def grow (f : List Int → J3 → Int) (js : List J3) (N : Nat) : Nat → List Int
  | 0 => List.replicate N 0
  | k + 1 => grow f js N k ++ [f (grow f js N k) (jn js k)]
section
variable {f : List Int → J3 → Int} {js : List J3} {N : Nat}
theorem grow_len : ∀ k, (grow f js N k).length = N + k
  | 0 => by simp [grow]
  | k + 1 => by rw [grow]; simp [grow_len k]; omega
theorem grow_new (k : Nat) : dp (grow f js N (k + 1)) (N + k) = f (grow f js N k) (jn js k) := by
  rw [grow]
  have := grow_len (f := f) (js := js) (N := N) k
  unfold dp
  rw [← this]; simp
theorem grow_succ (k : Nat) {i : Nat} (h : i < N + k) : dp (grow f js N (k + 1)) i = dp (grow f js N k) i := by
  rw [grow]
  have := grow_len (f := f) (js := js) (N := N) k
  unfold dp
  rw [List.getD_eq_getElem?_getD, List.getElem?_append_left (by omega), ← List.getD_eq_getElem?_getD]
theorem grow_old {k : Nat} {i : Nat} (h : i < N + k) : ∀ m, dp (grow f js N (k + m)) i = dp (grow f js N k) i
  | 0 => rfl
  | m + 1 => by rw [← Nat.add_assoc, grow_succ _ (by omega)]; exact grow_old h m
theorem grow_zero {k i : Nat} (h : i < N) : dp (grow f js N k) i = 0 := by
  have := grow_old (f := f) (js := js) (N := N) (k := 0) (i := i) (by omega) k
  rw [Nat.zero_add] at this
  rw [this, grow]
  simp [dp, h]
theorem grow_at {k m : Nat} (h : k < m) : dp (grow f js N m) (N + k) = f (grow f js N k) (jn js k) := by
  have := grow_old (f := f) (js := js) (N := N) (k := k + 1) (i := N + k) (by omega) (m - (k + 1))
  rw [show k + 1 + (m - (k + 1)) = m by omega] at this
  rw [this, grow_new]
end
/-- Depths and sizes. -/
def szJ (ss : List Int) (j : J3) : Int := dp ss j.a.toNat + dp ss j.b.toNat + 1

theorem dep_all {js : List J3} {N : Nat} (h : 0 ≤ depJ js N) : ∀ k, k ≤ js.length → dpF (grow dpJ js N k) (js.drop k) = depJ js N ∧ ∀ i, i < k → DpOk (grow dpJ js N i) (jn js i)
  | 0, _ => by
    refine ⟨?_, fun i hi => by omega⟩
    have := dep_n h
    conv => rhs; unfold depJ
    rw [if_pos this]; simp [grow]
  | k + 1, hk => by
    obtain ⟨h1, h2⟩ := dep_all h k (by omega)
    by_cases hf : DpOk (grow dpJ js N k) (jn js k)
    · refine ⟨dpF_yes (by omega) h1 hf, fun i hi => ?_⟩
      rcases Nat.lt_or_ge i k with h3 | h3
      · exact h2 i h3
      · obtain rfl : i = k := by omega
        exact hf
    · have := dpF_no (by omega) h1 hf
      omega
theorem dep_rng {js : List J3} {N : Nat} (h : 0 ≤ depJ js N) {k : Nat} (hk : k < js.length) : InU (N + k) (jn js k).a ∧ InU (N + k) (jn js k).b := by
  have := (dep_all h _ (Nat.le_refl _)).2 k hk
  unfold DpOk at this
  rw [grow_len] at this; exact this
theorem dep_last {js : List J3} {N : Nat} (h : 0 ≤ depJ js N) : depJ js N = dp (grow dpJ js N js.length) (N + js.length - 1) := by
  have := dpF_all (dep_all h _ (Nat.le_refl _)).1
  rw [grow_len] at this; exact this.symm

/-- What a tree is. -/
structure TreeJ (js : List J3) (N : Nat) : Prop where
  n1 : 1 ≤ N
  n12 : N ≤ 12
  len : js.length + 1 = N
  rng : ∀ k, k < js.length → InU (N + k) (jn js k).a ∧ InU (N + k) (jn js k).b
  aps : ∀ k, k < js.length → ApJ js k
  dep : depJ js N = dp (grow dpJ js N js.length) (N + js.length - 1)
theorem tree_is {js : List J3} {n : Int} (h : treeB js n = true) : ∃ N : Nat, n = N ∧ TreeJ js N := by
  obtain ⟨h1, h2⟩ := of_decide_eq_true h
  obtain ⟨⟨n1, n2⟩, n3⟩ := dep_n h1
  obtain ⟨N, rfl⟩ : ∃ N : Nat, n = N := ⟨n.toNat, by omega⟩
  exact ⟨N, rfl, by omega, by omega, by omega, fun k hk => dep_rng h1 hk, h2, dep_last h1⟩
theorem TreeJ.nat {js : List J3} {N : Nat} (h : TreeJ js N) {k : Nat} (hk : k < js.length) : ∃ a b : Nat, (jn js k).a = a ∧ (jn js k).b = b ∧ a < N + k ∧ b < N + k ∧ a ≠ b ∧ usedJ js k a = false ∧ usedJ js k b = false := by
  obtain ⟨⟨a0, a1⟩, b0, b1⟩ := h.rng k hk
  obtain ⟨h1, h2, h3⟩ := h.aps k hk
  exact ⟨(jn js k).a.toNat, (jn js k).b.toNat, by omega, by omega, by omega, by omega, by omega, h2, h3⟩

theorem dpJ_eq (ds : List Int) (j : J3) : dpJ ds j = 1 + max (dp ds j.a.toNat) (dp ds j.b.toNat) := rfl
theorem szJ_eq (ds : List Int) (j : J3) : szJ ds j = dp ds j.a.toNat + dp ds j.b.toNat + 1 := rfl
theorem TreeJ.far {js : List J3} {N : Nat} (h : TreeJ js N) {k v : Nat} (hk : k ≤ js.length) (hv : N + k ≤ v + 1) : usedJ js k v = false := by
  unfold usedJ
  rw [List.any_eq_false]
  intro j hj
  obtain ⟨i, hi, rfl⟩ := List.mem_iff_getElem.1 hj
  have hi' := hi
  rw [List.length_take] at hi'
  obtain ⟨⟨a0, a1⟩, b0, b1⟩ := h.rng i (by omega)
  rw [List.getElem_take, ← jn_get (by omega)]
  generalize jn js i = j at a0 a1 b0 b1
  simp only [Bool.or_eq_true, beq_iff_eq]
  omega
/-! Depths. -/
theorem dp_nn {js : List J3} {N : Nat} : ∀ k, DpB k (grow dpJ js N k)
  | 0 => by
    have := DpB.start N
    exact this
  | k + 1 => (dp_nn k).put _
section
variable {js : List J3} {N : Nat}
/-- The depth of a join's unit. -/
def dpK (js : List J3) (N k : Nat) : Int := dp (grow dpJ js N js.length) (N + k)
theorem dpK_is (h : TreeJ js N) {k : Nat} (hk : k < js.length) : dpK js N k = 1 + max (dp (grow dpJ js N js.length) (jn js k).a.toNat) (dp (grow dpJ js N js.length) (jn js k).b.toNat) := by
  obtain ⟨a, b, ha, hb, la, lb, _⟩ := h.nat hk
  unfold dpK
  rw [grow_at hk, dpJ_eq, ha, hb]
  simp only [Int.toNat_natCast]
  have e1 := grow_old (f := dpJ) (js := js) (N := N) (k := k) (i := a) la (js.length - k)
  have e2 := grow_old (f := dpJ) (js := js) (N := N) (k := k) (i := b) lb (js.length - k)
  rw [show k + (js.length - k) = js.length by omega] at e1 e2
  rw [e1, e2]
theorem dpK_pos (h : TreeJ js N) {k : Nat} (hk : k < js.length) : 1 ≤ dpK js N k := by
  rw [dpK_is h hk]
  have := dp_nn (js := js) (N := N) js.length (jn js k).a.toNat
  omega
/-- Each unit is as deep at the most as one that is not used. -/
theorem dp_up (h : TreeJ js N) : ∀ k, k ≤ js.length → ∀ u, u < N + k → ∃ v, v < N + k ∧ usedJ js k v = false ∧ dp (grow dpJ js N k) u ≤ dp (grow dpJ js N k) v
  | 0, _, u, hu => ⟨u, hu, usedJ_zero js u, Int.le_refl _⟩
  | k + 1, hk, u, hu => by
    obtain ⟨a, b, ha, hb, la, lb, hab, ua, ub⟩ := h.nat (k := k) (by omega)
    have hd : dp (grow dpJ js N (k + 1)) (N + k) = 1 + max (dp (grow dpJ js N k) a) (dp (grow dpJ js N k) b) := by
      rw [grow_new, dpJ_eq, ha, hb]; rfl
    have hnew : usedJ js (k + 1) (N + k) = false := h.far hk (by omega)
    by_cases e : u = N + k
    · subst e
      exact ⟨N + k, by omega, hnew, Int.le_refl _⟩
    · obtain ⟨v, hv, hv1, hv2⟩ := dp_up h k (by omega) u (by omega)
      rw [grow_succ k (by omega)]
      by_cases e1 : v = a ∨ v = b
      · refine ⟨N + k, by omega, hnew, ?_⟩
        rw [hd]
        rcases e1 with rfl | rfl <;> omega
      · refine ⟨v, by omega, ?_, ?_⟩
        · rw [usedJ_succ (by omega), hv1, ha, hb]
          simp; omega
        · rw [grow_succ k (by omega)]; exact hv2
/-! How many are not used. -/
theorem sm_upd (f : Nat → Int) (a : Int) {i : Nat} : ∀ {k : Nat}, i < k → sm k (fun j => if j = i then a else f j) = sm k f - f i + a
  | 0, h => by omega
  | k + 1, h => by
    simp only [sm]
    by_cases e : k = i
    · subst e
      have : sm k (fun j => if j = k then a else f j) = sm k f := sm_congr fun j hj => if_neg (by omega)
      rw [this, if_pos rfl]; omega
    · rw [sm_upd f a (k := k) (by omega), if_neg e]; omega
theorem sm_nn {f : Nat → Int} : ∀ {k : Nat}, (∀ i, i < k → 0 ≤ f i) → 0 ≤ sm k f
  | 0, _ => Int.le_refl _
  | k + 1, h => by
    have := sm_nn (k := k) fun i hi => h i (by omega)
    have := h k (by omega)
    simp only [sm]; omega
theorem sm_ge {f : Nat → Int} {i : Nat} : ∀ {k : Nat}, (∀ i, i < k → 0 ≤ f i) → i < k → f i ≤ sm k f
  | 0, _, h => by omega
  | k + 1, h, hi => by
    simp only [sm]
    have h1 := h k (by omega)
    by_cases e : i = k
    · subst e
      have := sm_nn (k := i) fun j hj => h j (by omega)
      omega
    · have := sm_ge (i := i) (k := k) (fun j hj => h j (by omega)) (by omega)
      omega
/-- The sum over what is not used, when a join is made. -/
theorem sm_use (h : TreeJ js N) {k : Nat} (hk : k < js.length) (g g' : Nat → Int) (he : ∀ i, i < N + k → g' i = g i) :
    ∃ a b : Nat, (jn js k).a = a ∧ (jn js k).b = b ∧ a < N + k ∧ b < N + k ∧ a ≠ b ∧ usedJ js k a = false ∧ usedJ js k b = false ∧
      sm (N + (k + 1)) (fun i => if usedJ js (k + 1) i then 0 else g' i) = sm (N + k) (fun i => if usedJ js k i then 0 else g i) - g a - g b + g' (N + k) := by
  obtain ⟨a, b, ha, hb, la, lb, hab, ua, ub⟩ := h.nat hk
  refine ⟨a, b, ha, hb, la, lb, hab, ua, ub, ?_⟩
  rw [show N + (k + 1) = N + k + 1 by omega, sm]
  have hnew : usedJ js (k + 1) (N + k) = false := h.far (by omega) (by omega)
  rw [hnew]
  have e1 : sm (N + k) (fun i => if usedJ js (k + 1) i then 0 else g' i) = sm (N + k) (fun i => if i = b then 0 else (fun i => if i = a then 0 else (fun i => if usedJ js k i then 0 else g i) i) i) := by
    apply sm_congr
    intro i hi
    rw [usedJ_succ hk, ha, hb]
    simp only [Int.toNat_natCast]
    by_cases e1 : i = b
    · subst e1; simp
    · by_cases e2 : i = a
      · subst e2; simp [e1]
      · have e3 : (a == i) = false := by simpa using fun e => e2 e.symm
        have e4 : (b == i) = false := by simpa using fun e => e1 e.symm
        simp only [e1, e2, e3, e4, Bool.or_false, if_false, he i hi]
  rw [e1, sm_upd _ _ lb, sm_upd _ _ la]
  simp only [ub, ua, hab.symm, if_false, Bool.false_eq_true]
  omega
theorem free_count (h : TreeJ js N) : ∀ k, k ≤ js.length → sm (N + k) (fun i => if usedJ js k i then 0 else 1) = N - k
  | 0, _ => by
    have : sm (N + 0) (fun i => if usedJ js 0 i then (0 : Int) else 1) = sm N fun _ => 1 := sm_congr fun i _ => by rw [usedJ_zero]; rfl
    rw [this, sm_const]; simp
  | k + 1, hk => by
    obtain ⟨a, b, _, _, _, _, _, _, _, e⟩ := sm_use h (k := k) (by omega) (fun _ => 1) (fun _ => 1) (fun _ _ => rfl)
    rw [e, free_count h k (by omega)]
    simp; omega
theorem last_free (h : TreeJ js N) {v : Nat} (hv : v < N + js.length) (hu : usedJ js js.length v = false) : v = N + js.length - 1 := by
  have hc := free_count h js.length (Nat.le_refl _)
  have hlen := h.len
  have hlast : usedJ js js.length (N + js.length - 1) = false := h.far (Nat.le_refl _) (by omega)
  rcases Nat.lt_or_ge v (N + js.length - 1) with h1 | h1
  · exfalso
    obtain ⟨L, hL⟩ : ∃ L, L = N + js.length - 1 := ⟨_, rfl⟩
    rw [← hL] at hlast h1
    rw [show N + js.length = L + 1 by omega, sm, hlast] at hc
    have := sm_ge (f := fun i => if usedJ js js.length i then (0 : Int) else 1) (i := v) (k := L) (fun i _ => by split <;> omega) h1
    simp only [hu] at this
    simp at hc this
    omega
  · omega
/-- No unit is deeper than the last one. -/
theorem dp_le (h : TreeJ js N) {u : Nat} (hu : u < N + js.length) : dp (grow dpJ js N js.length) u ≤ depJ js N := by
  obtain ⟨v, hv, hv1, hv2⟩ := dp_up h js.length (Nat.le_refl _) u hu
  rw [last_free h hv hv1] at hv2
  rw [h.dep]; exact hv2

/-! Sizes. -/
theorem sz_sum (h : TreeJ js N) : ∀ k, k ≤ js.length → (∀ i, i < N + k → 0 ≤ dp (grow szJ js N k) i) ∧ sm (N + k) (fun i => if usedJ js k i then 0 else dp (grow szJ js N k) i) = k
  | 0, _ => by
    refine ⟨fun i hi => by rw [grow_zero (by omega)]; omega, ?_⟩
    have : sm (N + 0) (fun i => if usedJ js 0 i then (0 : Int) else dp (grow szJ js N 0) i) = sm (N + 0) fun _ => 0 := sm_congr fun i hi => by
      rw [usedJ_zero, grow_zero (by omega)]; rfl
    rw [this, sm_zero]; rfl
  | k + 1, hk => by
    obtain ⟨h1, h2⟩ := sz_sum h k (by omega)
    obtain ⟨a, b, ha, hb, la, lb, _, _, _, e⟩ := sm_use h (k := k) (by omega) (dp (grow szJ js N k)) (dp (grow szJ js N (k + 1))) (fun i hi => grow_succ k hi)
    have hn : dp (grow szJ js N (k + 1)) (N + k) = dp (grow szJ js N k) a + dp (grow szJ js N k) b + 1 := by
      rw [grow_new, szJ_eq, ha, hb]; rfl
    refine ⟨fun i hi => ?_, ?_⟩
    · by_cases e1 : i = N + k
      · subst e1
        have := h1 a la
        have := h1 b lb
        omega
      · rw [grow_succ k (by omega)]; exact h1 i (by omega)
    · rw [e, h2, hn]; push_cast; omega
theorem sz_le (h : TreeJ js N) {k : Nat} (hk : k < js.length) : 1 ≤ szJ (grow szJ js N k) (jn js k) ∧ szJ (grow szJ js N k) (jn js k) ≤ k + 1 ∧ (∀ i, 0 ≤ dp (grow szJ js N k) i ∧ dp (grow szJ js N k) i ≤ k) := by
  obtain ⟨h1, h2⟩ := sz_sum h k (by omega)
  obtain ⟨h3, h4⟩ := sz_sum h (k + 1) (by omega)
  obtain ⟨a, b, ha, hb, la, lb, _, _, _, e⟩ := sm_use h (k := k) hk (dp (grow szJ js N k)) (dp (grow szJ js N k)) (fun i hi => rfl)
  have hnn : 0 ≤ sm (N + (k + 1)) (fun i => if usedJ js (k + 1) i then 0 else dp (grow szJ js N k) i) := sm_nn fun i _ => by
    split
    · omega
    · by_cases h5 : i < N + k
      · exact h1 i h5
      · have : dp (grow szJ js N k) i = 0 := by
          unfold dp; rw [List.getD_eq_getElem?_getD, List.getElem?_eq_none (by rw [grow_len]; omega)]; rfl
        omega
  have h0 : dp (grow szJ js N k) (N + k) = 0 := by
    unfold dp; rw [List.getD_eq_getElem?_getD, List.getElem?_eq_none (by rw [grow_len]; omega)]; rfl
  rw [e, h2, h0] at hnn
  have pa := h1 a la
  have pb := h1 b lb
  have hs : szJ (grow szJ js N k) (jn js k) = dp (grow szJ js N k) a + dp (grow szJ js N k) b + 1 := by rw [szJ_eq, ha, hb]; rfl
  refine ⟨by omega, by omega, ?_⟩
  have hall : ∀ m, m ≤ js.length → ∀ i, 0 ≤ dp (grow szJ js N m) i ∧ dp (grow szJ js N m) i ≤ m := by
    intro m
    induction m with
    | zero => intro _ i; have : dp (grow szJ js N 0) i = 0 := by
                unfold dp grow; rw [List.getD_eq_getElem?_getD, List.getElem?_replicate]; split <;> rfl
              omega
    | succ m ih =>
      intro hm i
      obtain ⟨g1, g2⟩ := sz_sum h m (by omega)
      obtain ⟨a, b, ha, hb, la, lb, _, _, _, e⟩ := sm_use h (k := m) (by omega) (dp (grow szJ js N m)) (dp (grow szJ js N m)) (fun i hi => rfl)
      have hnn : 0 ≤ sm (N + (m + 1)) (fun i => if usedJ js (m + 1) i then 0 else dp (grow szJ js N m) i) := sm_nn fun i _ => by
        split
        · omega
        · exact (ih (by omega) i).1
      have h0 : dp (grow szJ js N m) (N + m) = 0 := by
        unfold dp; rw [List.getD_eq_getElem?_getD, List.getElem?_eq_none (by rw [grow_len]; omega)]; rfl
      rw [e, g2, h0] at hnn
      have pa := g1 a la
      have pb := g1 b lb
      by_cases e1 : i < N + m
      · rw [grow_succ m e1]; have := ih (by omega) i; omega
      · by_cases e2 : i = N + m
        · subst e2; rw [grow_new, szJ_eq, ha, hb]; simp only [Int.toNat_natCast]; omega
        · have : dp (grow szJ js N (m + 1)) i = 0 := by
            unfold dp; rw [List.getD_eq_getElem?_getD, List.getElem?_eq_none (by rw [grow_len]; omega)]; rfl
          omega
  exact hall k (by omega)
/-- The numbers whose quotient is the count. -/
def facN : Nat → Int
  | 0 => 1
  | k + 1 => facN k * (k + 1)
def prdN (js : List J3) (N : Nat) : Nat → Int
  | 0 => 1
  | k + 1 => prdN js N k * szJ (grow szJ js N k) (jn js k)
def cntB (js : List J3) (n : Int) : Int := if treeB js n then (facN js.length).tdiv (prdN js n.toNat js.length) else -1
theorem fac_bd : ∀ k, k ≤ 11 → 1 ≤ facN k ∧ facN k ≤ 39916800 := by decide
theorem fac_mono {k : Nat} (h : k ≤ 10) : facN k ≤ 3628800 := by
  have : ∀ k, k ≤ 10 → facN k ≤ 3628800 := by decide
  exact this k h
theorem prd_bd (h : TreeJ js N) : ∀ k, k ≤ js.length → 1 ≤ prdN js N k ∧ prdN js N k ≤ facN k
  | 0, _ => by simp [prdN, facN]
  | k + 1, hk => by
    obtain ⟨h1, h2⟩ := prd_bd h k (by omega)
    obtain ⟨s1, s2, _⟩ := sz_le h (k := k) (by omega)
    have f0 : 0 ≤ facN k := by have := (fac_bd k (by have := h.len; have := h.n12; omega)).1; omega
    simp only [prdN, facN]
    constructor
    · have := Int.mul_le_mul h1 s1 (by omega) (by omega)
      simpa using this
    · exact Int.mul_le_mul h2 s2 (by omega) f0
theorem cnt_pos {js : List J3} {n : Int} (h : treeB js n = true) : 1 ≤ cntB js n := by
  obtain ⟨N, rfl, hT⟩ := tree_is h
  unfold cntB
  rw [if_pos h]
  obtain ⟨h1, h2⟩ := prd_bd hT js.length (Nat.le_refl _)
  simp only [Int.toNat_natCast]
  rw [Int.tdiv_eq_ediv_of_nonneg (by omega)]
  exact (Int.le_ediv_iff_mul_le (by omega)).2 (by omega)
/-- If the second join does not need the first one, there are two orders. -/
theorem cnt_two {js : List J3} {n : Int} (h : treeB js n = true) (hl : 2 ≤ js.length) (ha : (jn js 1).a ≠ n) (hb : (jn js 1).b ≠ n) : 2 ≤ cntB js n := by
  obtain ⟨N, rfl, hT⟩ := tree_is h
  have hp : ∀ k, 2 ≤ k → k ≤ js.length → 2 * prdN js N k ≤ facN k := by
    intro k
    induction k with
    | zero => omega
    | succ k ih =>
      intro h2 hk
      by_cases e : k = 1
      · subst e
        obtain ⟨a, b, ea, eb, la, lb, _⟩ := hT.nat (k := 1) (by omega)
        obtain ⟨a0, b0, ea0, eb0, la0, lb0, _⟩ := hT.nat (k := 0) (by omega)
        have s0 : szJ (grow szJ js N 0) (jn js 0) = 1 := by
          rw [szJ_eq, ea0, eb0]; simp only [Int.toNat_natCast]
          rw [grow_zero (by omega), grow_zero (by omega)]; rfl
        have s1 : szJ (grow szJ js N 1) (jn js 1) = 1 := by
          rw [szJ_eq, ea, eb]; simp only [Int.toNat_natCast]
          rw [grow_zero (by rw [ea] at ha; omega), grow_zero (by rw [eb] at hb; omega)]; rfl
        simp only [prdN, facN, s0, s1]; decide
      · obtain ⟨s1, s2, _⟩ := sz_le hT (k := k) (by omega)
        have ih' := ih (by omega) (by omega)
        obtain ⟨p1, _⟩ := prd_bd hT k (by omega)
        simp only [prdN, facN]
        rw [← Int.mul_assoc]
        exact Int.mul_le_mul ih' s2 (by omega) (by omega)
  have h1 := hp js.length hl (Nat.le_refl _)
  obtain ⟨h2, _⟩ := prd_bd hT js.length (Nat.le_refl _)
  unfold cntB
  rw [if_pos h]
  simp only [Int.toNat_natCast]
  rw [Int.tdiv_eq_ediv_of_nonneg (by omega)]
  exact (Int.le_ediv_iff_mul_le (by omega)).2 (by omega)
end
end Go.Proofs.Ytlkiacgpiodkiaa
