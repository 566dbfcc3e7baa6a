/- Cuts: a knot has five patches or more; the sample is a knot. -/
import Derived.Test.YtboahceibeeifaaCutN
import Derived.Test.YtboahceibeeifaaLayD1

set_option linter.unusedSimpArgs false
set_option linter.unusedVariables false
namespace Go.Proofs.Ytboahceibeeifaa

variable {m n : Int} {xs : List P5}
theorem at_most (h : LayOk m n xs) {i j : Nat} (hi : i < xs.length) (hj : j < xs.length) {x y : Int} (a : Cov (pat xs i) x y) (b : Cov (pat xs j) x y) : i = j := by
  apply Classical.byContradiction
  intro hne
  exact lay_apart h hi hj hne (cov_hit a b)
theorem some_at (h : LayOk m n xs) {x y : Int} (x0 : 0 ≤ x) (x1 : x < m) (y0 : 0 ≤ y) (y1 : y < n) : ∃ k, k < xs.length ∧ Cov (pat xs k) x y := by
  obtain ⟨k, hk, hc⟩ := sm_ex (fun i _ => cv_01 (pat xs i) x.toNat y.toNat) (one_each h x.toNat y.toNat (by omega) (by omega))
  refine ⟨k, hk, ?_⟩
  have := cv_1.1 hc
  rwa [show ((x.toNat : Nat) : Int) = x by omega, show ((y.toNat : Nat) : Int) = y by omega] at this
theorem no_cut (hc : ∀ c, hasC m n xs c = false) {c : C2} (h0 : 0 < c.a) (h1 : c.a < endC m n c) (h : ∀ i, i < xs.length → thr c (pat xs i) = false) : False := by
  have := has_yes (m := m) (n := n) h0 h1 h
  rw [hc c] at this; cases this
theorem no_whole (h : LayOk m n xs) (hl : xs.length ≠ 1) {i : Nat} (hi : i < xs.length) (e0 : (pat xs i).x = 0) (e1 : (pat xs i).w = m) (e2 : (pat xs i).y = 0) (e3 : (pat xs i).h = n) : False := by
  obtain ⟨j, hj, hne⟩ : ∃ j, j < xs.length ∧ i ≠ j := by
    by_cases z : i = 0
    · exact ⟨1, by omega, by omega⟩
    · exact ⟨0, by omega, by omega⟩
  obtain ⟨⟨f00, f01⟩, ⟨f10, f11⟩, ⟨f20, f21⟩, ⟨f30, f31⟩, _⟩ := h.fit hj
  exact lay_apart h hi hj hne (by unfold Hit; omega)
theorem no_wide (h : LayOk m n xs) (hl : xs.length ≠ 1) (hc : ∀ c, hasC m n xs c = false) {i : Nat} (hi : i < xs.length) (e0 : (pat xs i).x = 0) (e1 : (pat xs i).w = m) : False := by
  obtain ⟨⟨f00, f01⟩, ⟨f10, f11⟩, ⟨f20, f21⟩, ⟨f30, f31⟩, _⟩ := h.fit hi
  have key : ∀ j, j < xs.length → j ≠ i → (pat xs j).y + (pat xs j).h ≤ (pat xs i).y ∨ (pat xs i).y + (pat xs i).h ≤ (pat xs j).y := fun j hj hne => by
    obtain ⟨⟨g00, g01⟩, ⟨g10, g11⟩, ⟨g20, g21⟩, ⟨g30, g31⟩, _⟩ := h.fit hj
    have := lay_apart h hi hj (Ne.symm hne)
    unfold Hit at this; omega
  by_cases z : 0 < (pat xs i).y
  · refine no_cut hc (c := ⟨false, (pat xs i).y⟩) (by show 0 < (pat xs i).y; omega) (by show (pat xs i).y < n; omega) (fun j hj => thr_f.2 ?_)
    by_cases e : j = i
    · subst e; omega
    · have := key j hj e; omega
  · by_cases z2 : (pat xs i).h < n
    · refine no_cut hc (c := ⟨false, (pat xs i).h⟩) (by show 0 < (pat xs i).h; omega) (by show (pat xs i).h < n; omega) (fun j hj => thr_f.2 ?_)
      by_cases e : j = i
      · subst e; omega
      · obtain ⟨⟨g00, g01⟩, ⟨g10, g11⟩, ⟨g20, g21⟩, ⟨g30, g31⟩, _⟩ := h.fit hj
        have := key j hj e; omega
    · exact no_whole h hl hi e0 e1 (by omega) (by omega)
theorem no_tall (h : LayOk m n xs) (hl : xs.length ≠ 1) (hc : ∀ c, hasC m n xs c = false) {i : Nat} (hi : i < xs.length) (e0 : (pat xs i).y = 0) (e1 : (pat xs i).h = n) : False := by
  obtain ⟨⟨f00, f01⟩, ⟨f10, f11⟩, ⟨f20, f21⟩, ⟨f30, f31⟩, _⟩ := h.fit hi
  have key : ∀ j, j < xs.length → j ≠ i → (pat xs j).x + (pat xs j).w ≤ (pat xs i).x ∨ (pat xs i).x + (pat xs i).w ≤ (pat xs j).x := fun j hj hne => by
    obtain ⟨⟨g00, g01⟩, ⟨g10, g11⟩, ⟨g20, g21⟩, ⟨g30, g31⟩, _⟩ := h.fit hj
    have := lay_apart h hi hj (Ne.symm hne)
    unfold Hit at this; omega
  by_cases z : 0 < (pat xs i).x
  · refine no_cut hc (c := ⟨true, (pat xs i).x⟩) (by show 0 < (pat xs i).x; omega) (by show (pat xs i).x < m; omega) (fun j hj => thr_t.2 ?_)
    by_cases e : j = i
    · subst e; omega
    · have := key j hj e; omega
  · by_cases z2 : (pat xs i).w < m
    · refine no_cut hc (c := ⟨true, (pat xs i).w⟩) (by show 0 < (pat xs i).w; omega) (by show (pat xs i).w < m; omega) (fun j hj => thr_t.2 ?_)
      by_cases e : j = i
      · subst e; omega
      · obtain ⟨⟨g00, g01⟩, ⟨g10, g11⟩, ⟨g20, g21⟩, ⟨g30, g31⟩, _⟩ := h.fit hj
        have := key j hj e; omega
    · exact no_whole h hl hi (by omega) (by omega) e0 e1
/-- A layout of several patches without cuts has five or more. -/
theorem five (h : LayOk m n xs) (hl : xs.length ≠ 1) (hc : ∀ c, hasC m n xs c = false) : 5 ≤ xs.length := by
  apply Classical.byContradiction
  intro h5
  have hm := h.1
  have hn := h.2.1
  obtain ⟨i, hi, ci⟩ := some_at h (x := 0) (y := 0) (by omega) (by omega) (by omega) (by omega)
  obtain ⟨j, hj, cj⟩ := some_at h (x := m - 1) (y := 0) (by omega) (by omega) (by omega) (by omega)
  obtain ⟨k, hk, ck⟩ := some_at h (x := 0) (y := n - 1) (by omega) (by omega) (by omega) (by omega)
  obtain ⟨l, hl', cl⟩ := some_at h (x := m - 1) (y := n - 1) (by omega) (by omega) (by omega) (by omega)
  have fi := h.fit hi
  have fj := h.fit hj
  have fk := h.fit hk
  have fl := h.fit hl'
  unfold Cov at ci cj ck cl
  unfold Fit at fi fj fk fl
  have nij : i ≠ j := by rintro rfl; exact no_wide h hl hc hi (by omega) (by omega)
  have nkl : k ≠ l := by rintro rfl; exact no_wide h hl hc hk (by omega) (by omega)
  have nik : i ≠ k := by rintro rfl; exact no_tall h hl hc hi (by omega) (by omega)
  have njl : j ≠ l := by rintro rfl; exact no_tall h hl hc hj (by omega) (by omega)
  have nil' : i ≠ l := by rintro rfl; exact no_wide h hl hc hi (by omega) (by omega)
  have njk : j ≠ k := by rintro rfl; exact no_wide h hl hc hj (by omega) (by omega)
  have all : ∀ q, q < xs.length → q = i ∨ q = j ∨ q = k ∨ q = l := fun q hq => by omega
  have wi : (pat xs i).w < m := by
    apply Classical.byContradiction; intro z
    exact no_wide h hl hc hi (by omega) (by omega)
  have hi2 : (pat xs i).h < n := by
    apply Classical.byContradiction; intro z
    exact no_tall h hl hc hi (by omega) (by omega)
  have wk : (pat xs k).w < m := by
    apply Classical.byContradiction; intro z
    exact no_wide h hl hc hk (by omega) (by omega)
  have hj2 : (pat xs j).h < n := by
    apply Classical.byContradiction; intro z
    exact no_tall h hl hc hj (by omega) (by omega)
  have aij := lay_apart h hi hj nij
  have aik := lay_apart h hi hk nik
  have ail := lay_apart h hi hl' nil'
  have ajk := lay_apart h hj hk njk
  have ajl := lay_apart h hj hl' njl
  have akl := lay_apart h hk hl' nkl
  unfold Hit at aij aik ail ajk ajl akl
  have e1 : (pat xs j).x = (pat xs i).w := by
    obtain ⟨q, hq, cq⟩ := some_at h (x := (pat xs i).w) (y := 0) (by omega) (by omega) (by omega) (by omega)
    unfold Cov at cq
    rcases all q hq with rfl | rfl | rfl | rfl <;> omega
  have e2 : (pat xs k).y = (pat xs i).h := by
    obtain ⟨q, hq, cq⟩ := some_at h (x := 0) (y := (pat xs i).h) (by omega) (by omega) (by omega) (by omega)
    unfold Cov at cq
    rcases all q hq with rfl | rfl | rfl | rfl <;> omega
  have e3 : (pat xs l).x = (pat xs k).w := by
    obtain ⟨q, hq, cq⟩ := some_at h (x := (pat xs k).w) (y := n - 1) (by omega) (by omega) (by omega) (by omega)
    unfold Cov at cq
    rcases all q hq with rfl | rfl | rfl | rfl <;> omega
  have e4 : (pat xs l).y = (pat xs j).h := by
    obtain ⟨q, hq, cq⟩ := some_at h (x := m - 1) (y := (pat xs j).h) (by omega) (by omega) (by omega) (by omega)
    unfold Cov at cq
    rcases all q hq with rfl | rfl | rfl | rfl <;> omega
  by_cases z1 : (pat xs i).w = (pat xs k).w
  · refine no_cut hc (c := ⟨true, (pat xs i).w⟩) (by show 0 < (pat xs i).w; omega) (by show (pat xs i).w < m; omega) (fun q hq => thr_t.2 ?_)
    rcases all q hq with rfl | rfl | rfl | rfl <;> omega
  · by_cases z2 : (pat xs i).h = (pat xs j).h
    · refine no_cut hc (c := ⟨false, (pat xs i).h⟩) (by show 0 < (pat xs i).h; omega) (by show (pat xs i).h < n; omega) (fun q hq => thr_f.2 ?_)
      rcases all q hq with rfl | rfl | rfl | rfl <;> omega
    · by_cases z3 : (pat xs k).w < (pat xs i).w
      · obtain ⟨q, hq, cq⟩ := some_at h (x := (pat xs k).w) (y := (pat xs i).h) (by omega) (by omega) (by omega) (by omega)
        unfold Cov at cq
        rcases all q hq with rfl | rfl | rfl | rfl <;> omega
      · obtain ⟨q, hq, cq⟩ := some_at h (x := (pat xs i).w) (y := (pat xs j).h) (by omega) (by omega) (by omega) (by omega)
        unfold Cov at cq
        rcases all q hq with rfl | rfl | rfl | rfl <;> omega
theorem cuts_none (h : LayOk m n xs) (hc : cutsL m n xs = []) : ∀ c, hasC m n xs c = false := fun c => by
  cases e : hasC m n xs c with
  | false => rfl
  | true => have := mem_cuts h.1.2 h.2.1.2 e; rw [hc] at this; cases this
/-- What is found is a knot. -/
theorem knot_is {q : Option (Int × Int × List P5)} (h : KnotIs m n xs q) : ∀ {M N : Int} {ys : List P5}, q = some (M, N, ys) → LayOk M N ys ∧ cutsL M N ys = [] ∧ 5 ≤ ys.length := by
  induction h with
  | one => intro M N ys e; cases e
  | knot h hl hc => intro M N ys e; cases e; exact ⟨h, hc, five h hl (cuts_none h hc)⟩
  | left h hl hc h1 ih => intro M N ys e; exact ih e
  | right h hl hc h1 h2 ih1 ih2 => intro M N ys e; exact ih2 e
theorem smp_knot : KnotIs 3 3 smpL (some (3, 3, smpL)) := .knot smp_ok (by decide) (by decide)
theorem smp_no : sewB 3 3 smpL = false := by
  cases e : sewB 3 3 smpL with
  | false => rfl
  | true => have := knot_of_sew smp_knot (sewB_iff.1 e); cases this

end Go.Proofs.Ytboahceibeeifaa
