/- Joins: units, joins that fit, depths: the numbers. -/
import Derived.Test.YtboahceibeeifaaJnF
import Derived.Test.YtboahceibeeifaaUnF
import Derived.Test.YtboahceibeeifaaCutN

set_option linter.unusedSimpArgs false
set_option linter.unusedVariables false
namespace Go.Proofs.Ytboahceibeeifaa

/-- A patch as a unit; a unit's rectangle; used. -/
def mkU (p : P5) : U6 := ⟨p.x, p.y, p.w, p.h, p.c, false⟩
def U6.p (u : U6) : P5 := ⟨u.x, u.y, u.w, u.h, u.c⟩
def U6.u (u : U6) : U6 := ⟨u.x, u.y, u.w, u.h, u.c, true⟩
theorem mkU_p (p : P5) : (mkU p).p = p := rfl
theorem U6.u_p (u : U6) : u.u.p = u.p := rfl
abbrev un (us : List U6) (i : Nat) : U6 := us.getD i U6.zero
abbrev jn (js : List J3) (i : Nat) : J3 := js.getD i J3.zero
theorem un_get {us : List U6} {i : Nat} (h : i < us.length) : un us i = us[i] := by simp [un, List.getD, h]
theorem jn_get {js : List J3} {i : Nat} (h : i < js.length) : jn js i = js[i] := by simp [jn, List.getD, h]
/-- A whole side in common, the first one on the left or above. -/
def Side (up : Bool) (a b : P5) : Prop := if up then a.x + a.w = b.x ∧ a.y = b.y ∧ a.h = b.h else a.y + a.h = b.y ∧ a.x = b.x ∧ a.w = b.w
instance (up : Bool) (a b : P5) : Decidable (Side up a b) := by unfold Side; infer_instance
def sewP (up : Bool) (a b : P5) : P5 := if up then ⟨a.x, a.y, a.w + b.w, a.h, a.c⟩ else ⟨a.x, a.y, a.w, a.h + b.h, a.c⟩
/-- It is one of the first k. -/
def InU (k : Nat) (a : Int) : Prop := 0 ≤ a ∧ a < k
instance (k : Nat) (a : Int) : Decidable (InU k a) := by unfold InU; infer_instance
def FitJ (us : List U6) (j : J3) : Prop := InU us.length j.a ∧ InU us.length j.b ∧ j.a ≠ j.b ∧ (un us j.a.toNat).j = false ∧ (un us j.b.toNat).j = false ∧ Side j.up (un us j.a.toNat).p (un us j.b.toNat).p
instance (us : List U6) (j : J3) : Decidable (FitJ us j) := by unfold FitJ; infer_instance
def useJ (us : List U6) (j : J3) : List U6 := (us.set j.a.toNat (un us j.a.toNat).u).set j.b.toNat (un us j.b.toNat).u
def putJ (us : List U6) (j : J3) : List U6 := useJ us j ++ [mkU (sewP j.up (un us j.a.toNat).p (un us j.b.toNat).p)]
/-- The units, as far as the joins are valid. -/
def unF : List U6 → List J3 → List U6
  | us, [] => us
  | us, j :: r => if FitJ us j then unF (putJ us j) r else us
theorem drop_jn {js : List J3} {k : Nat} (h : k < js.length) : js.drop k = jn js k :: js.drop (k + 1) := by
  rw [jn_get h]; exact List.drop_eq_getElem_cons h
theorem unF_yes {us U : List U6} {js : List J3} {k : Nat} (hk : k < js.length) (h : unF us (js.drop k) = U) (hf : FitJ us (jn js k)) : unF (putJ us (jn js k)) (js.drop (k + 1)) = U := by
  rw [drop_jn hk, unF, if_pos hf] at h; exact h
theorem unF_no {us U : List U6} {js : List J3} {k : Nat} (hk : k < js.length) (h : unF us (js.drop k) = U) (hf : ¬ FitJ us (jn js k)) : us = U := by
  rw [drop_jn hk, unF, if_neg hf] at h; exact h
theorem unF_all {us U : List U6} {js : List J3} (h : unF us (js.drop js.length) = U) : us = U := by
  rw [List.drop_length] at h; exact h
theorem useJ_len (us : List U6) (j : J3) : (useJ us j).length = us.length := by simp [useJ]
theorem putJ_len (us : List U6) (j : J3) : (putJ us j).length = us.length + 1 := by simp [putJ, useJ]

/-- How many are not used. -/
def cnU (us : List U6) : Nat := (us.filter fun u => !u.j).length
theorem cnU_set : ∀ (us : List U6) (i : Nat) (x : U6), i < us.length → (un us i).j = false → x.j = true → cnU (us.set i x) + 1 = cnU us
  | [], i, _, h, _, _ => by simp at h
  | u :: r, 0, x, _, h, hx => by
    have h' : u.j = false := h
    simp [cnU, h', hx]
  | u :: r, i + 1, x, hi, h, hx => by
    have ih := cnU_set r i x (by simpa using hi) (by simpa [un] using h) hx
    by_cases z : u.j
    · simpa [cnU, z] using ih
    · simp only [cnU, List.set_cons_succ, List.filter_cons] at ih ⊢
      simp [z]; omega
theorem cnU_put {us : List U6} {j : J3} (h : FitJ us j) : cnU (putJ us j) + 1 = cnU us := by
  obtain ⟨⟨a0, a1⟩, ⟨b0, b1⟩, hne, ha, hb, _⟩ := h
  have h1 := cnU_set us j.a.toNat (un us j.a.toNat).u (by omega) ha rfl
  have e : un (us.set j.a.toNat (un us j.a.toNat).u) j.b.toNat = un us j.b.toNat := by
    unfold un; rw [List.getD_eq_getElem?_getD, List.getElem?_set_ne (by omega), ← List.getD_eq_getElem?_getD]
  have h2 := cnU_set (us.set j.a.toNat (un us j.a.toNat).u) j.b.toNat (un us j.b.toNat).u (by simp; omega) (by rw [e]; exact hb) rfl
  have h3 : cnU (putJ us j) = cnU (useJ us j) + 1 := by simp [cnU, putJ, mkU]
  rw [h3]; unfold useJ; omega
/-- What stays: all lie within the layout; the unused ones are counted. -/
def UOk (m n : Int) (N : Nat) (us : List U6) : Prop := (∀ i, i < us.length → Fit m n (un us i).p) ∧ cnU us + us.length = 2 * N ∧ N ≤ us.length
theorem UOk.le {m n : Int} {N : Nat} {us : List U6} (h : UOk m n N us) (hN : N ≤ 12) : us.length ≤ 24 := by have := h.2.1; omega
theorem UOk.start {m n : Int} {xs : List P5} (h : LayOk m n xs) : UOk m n xs.length (xs.map mkU) := by
  refine ⟨fun i hi => ?_, ?_, by simp⟩
  · rw [List.length_map] at hi
    rw [un_get (by simpa using hi), List.getElem_map, mkU_p, ← pat_get hi]; exact h.fit hi
  · have : (xs.map mkU).filter (fun u => !u.j) = xs.map mkU := List.filter_eq_self.2 (fun u hu => by
      obtain ⟨p, _, rfl⟩ := List.mem_map.1 hu; rfl)
    unfold cnU; rw [this, List.length_map]; omega
theorem un_set {us : List U6} {i k : Nat} {x : U6} (hk : k < us.length) : un (us.set k x) i = if k = i then x else un us i := by
  unfold un; rw [List.getD_eq_getElem?_getD, List.getElem?_set]
  by_cases e : k = i
  · subst e; simp [hk]
  · simp [e, List.getD_eq_getElem?_getD]
theorem un_use {us : List U6} {j : J3} (h : FitJ us j) (i : Nat) : un (useJ us j) i = if j.b.toNat = i ∨ j.a.toNat = i then (un us i).u else un us i := by
  obtain ⟨⟨a0, a1⟩, ⟨b0, b1⟩, _⟩ := h
  unfold useJ
  rw [un_set (by simp; omega), un_set (by omega)]
  by_cases e : j.b.toNat = i
  · simp [e]
  · by_cases e2 : j.a.toNat = i
    · simp [e, e2]
    · simp [e, e2]
theorem un_old {us vs : List U6} {i : Nat} (hi : i < us.length) : un (us ++ vs) i = un us i := by
  unfold un; rw [List.getD_eq_getElem?_getD, List.getElem?_append_left hi, ← List.getD_eq_getElem?_getD]
theorem un_last (us : List U6) (u : U6) : un (us ++ [u]) us.length = u := by simp [un]
theorem un_put {us : List U6} {j : J3} (h : FitJ us j) {i : Nat} (hi : i < us.length) : un (putJ us j) i = if j.b.toNat = i ∨ j.a.toNat = i then (un us i).u else un us i := by
  unfold putJ; rw [un_old (by rw [useJ_len]; exact hi), un_use h]
theorem un_new (us : List U6) (j : J3) : un (putJ us j) us.length = mkU (sewP j.up (un us j.a.toNat).p (un us j.b.toNat).p) := by
  have := un_last (useJ us j) (mkU (sewP j.up (un us j.a.toNat).p (un us j.b.toNat).p))
  rwa [useJ_len] at this
theorem p_put {us : List U6} {j : J3} (h : FitJ us j) {i : Nat} (hi : i < us.length) : (un (putJ us j) i).p = (un us i).p := by
  rw [un_put h hi]; split <;> rfl
theorem sew_fit {m n : Int} {up : Bool} {a b : P5} (ha : Fit m n a) (hb : Fit m n b) (h : Side up a b) : Fit m n (sewP up a b) := by
  obtain ⟨a0, a1, a2, a3, a4⟩ := ha
  obtain ⟨b0, b1, b2, b3, b4⟩ := hb
  cases up <;> simp only [Side, sewP, if_true, if_false, Bool.false_eq_true] at h ⊢ <;> refine ⟨?_, ?_, ?_, ?_, a4⟩ <;> simp only <;> omega
theorem UOk.put {m n : Int} {N : Nat} {us : List U6} {j : J3} (h : UOk m n N us) (hf : FitJ us j) : UOk m n N (putJ us j) := by
  obtain ⟨h1, h2, h3⟩ := h
  have hc := cnU_put hf
  refine ⟨fun i hi => ?_, by rw [putJ_len]; omega, by rw [putJ_len]; omega⟩
  rw [putJ_len] at hi
  by_cases e : i < us.length
  · rw [p_put hf e]; exact h1 i e
  · obtain rfl : i = us.length := by omega
    rw [un_new, mkU_p]
    obtain ⟨⟨a0, a1⟩, ⟨b0, b1⟩, _, _, _, hs⟩ := hf
    exact sew_fit (h1 _ (by omega)) (h1 _ (by omega)) hs

/-- The units of a layout. -/
noncomputable def unL (m n : Int) (xs : List P5) (js : List J3) : List U6 := if layB m n xs then unF (xs.map mkU) js else []
theorem unL_no {m n : Int} {xs : List P5} {js : List J3} (h : layB m n xs = false) : unL m n xs js = [] := by simp [unL, h]
theorem unL_yes {m n : Int} {xs : List P5} {js : List J3} (h : layB m n xs = true) : unL m n xs js = unF (xs.map mkU) js := by simp [unL, h]
theorem unF_ok {m n : Int} {N : Nat} : ∀ (js : List J3) (us : List U6), UOk m n N us → UOk m n N (unF us js)
  | [], us, h => h
  | j :: r, us, h => by
    unfold unF; split
    · next hf => exact unF_ok r _ (h.put hf)
    · exact h
theorem unF_len : ∀ (js : List J3) (us : List U6), us.length ≤ (unF us js).length ∧ (unF us js).length ≤ us.length + js.length
  | [], us => by simp [unF]
  | j :: r, us => by
    unfold unF; split
    · have := unF_len r (putJ us j)
      rw [putJ_len] at this
      simp; omega
    · simp
theorem unL_len {m n : Int} {xs : List P5} {js : List J3} : (unL m n xs js).length ≤ 24 := by
  by_cases h : layB m n xs = true
  · rw [unL_yes h]
    have hl := lay_of h
    exact (unF_ok js _ (UOk.start hl)).le hl.2.2.1.2
  · rw [unL_no (by simpa using h)]; simp
theorem unL_fit {m n : Int} {xs : List P5} {js : List J3} {i : Nat} (hi : i < (unL m n xs js).length) : Fit m n (un (unL m n xs js) i).p := by
  by_cases h : layB m n xs = true
  · rw [unL_yes h] at hi ⊢
    exact (unF_ok js _ (UOk.start (lay_of h))).1 i hi
  · rw [unL_no (by simpa using h)] at hi; simp at hi
/-- What UnitBox answers. -/
noncomputable def boxP (m n : Int) (xs : List P5) (js : List J3) (u : Int) : P5 := if InU (unL m n xs js).length u then (un (unL m n xs js) u.toNat).p else P5.zero
noncomputable def boxB (m n : Int) (xs : List P5) (js : List J3) (u : Int) : Bool := decide (InU (unL m n xs js).length u)
/-- They are joins. -/
noncomputable def areJ (m n : Int) (xs : List P5) (js : List J3) : Bool := layB m n xs && ((js.length : Int) == (xs.length : Int) - 1) && (((unL m n xs js).length : Int) == (xs.length : Int) + js.length)
theorem are_lay {m n : Int} {xs : List P5} {js : List J3} (h : areJ m n xs js = true) : layB m n xs = true := by
  simp only [areJ, Bool.and_eq_true] at h; exact h.1.1
theorem are_len {m n : Int} {xs : List P5} {js : List J3} (h : areJ m n xs js = true) : js.length + 1 = xs.length ∧ (unL m n xs js).length = xs.length + js.length := by
  simp only [areJ, Bool.and_eq_true, beq_iff_eq] at h; omega
theorem unF_in : ∀ (js : List J3) (us : List U6), (unF us js).length = us.length + js.length → ∀ j ∈ js, InU (unF us js).length j.a
  | [], _, _, j, h => by simp at h
  | i :: r, us, h, j, hj => by
    unfold unF at h ⊢
    by_cases hf : FitJ us i
    · rw [if_pos hf] at h ⊢
      have hl := unF_len r (putJ us i)
      rw [putJ_len] at hl
      rcases List.mem_cons.1 hj with rfl | hj
      · obtain ⟨⟨a0, a1⟩, _⟩ := hf
        exact ⟨a0, by omega⟩
      · exact unF_in r _ (by rw [h, putJ_len]; simp; omega) j hj
    · rw [if_neg hf] at h; simp at h
theorem are_in {m n : Int} {xs : List P5} {js : List J3} (h : areJ m n xs js = true) {k : Nat} (hk : k < js.length) : InU (unL m n xs js).length (jn js k).a := by
  have h2 := are_len h
  rw [unL_yes (are_lay h)] at h2 ⊢
  exact unF_in js _ (by rw [h2.2]; simp) _ (by rw [jn_get hk]; exact List.getElem_mem hk)
/-- The length of a seam; the longest one. -/
def lenJ (us : List U6) (j : J3) : Int := if j.up then (un us j.a.toNat).h else (un us j.a.toNat).w
def lonK (us : List U6) (js : List J3) : Nat → Int
  | 0 => 0
  | k + 1 => max (lonK us js k) (lenJ us (jn js k))
noncomputable def lonJ (m n : Int) (xs : List P5) (js : List J3) : Int := if areJ m n xs js then lonK (unL m n xs js) js js.length else -1
theorem lon_no {m n : Int} {xs : List P5} {js : List J3} (h : areJ m n xs js = false) : -1 = lonJ m n xs js := by simp [lonJ, h]
theorem lon_yes {m n : Int} {xs : List P5} {js : List J3} (h : areJ m n xs js = true) : lonK (unL m n xs js) js js.length = lonJ m n xs js := by simp [lonJ, h]

/-- Depths. -/
abbrev dp (ds : List Int) (i : Nat) : Int := ds.getD i 0
def DpOk (ds : List Int) (j : J3) : Prop := InU ds.length j.a ∧ InU ds.length j.b
instance (ds : List Int) (j : J3) : Decidable (DpOk ds j) := by unfold DpOk; infer_instance
def dpJ (ds : List Int) (j : J3) : Int := 1 + max (dp ds j.a.toNat) (dp ds j.b.toNat)
def dpF : List Int → List J3 → Int
  | ds, [] => dp ds (ds.length - 1)
  | ds, j :: r => if DpOk ds j then dpF (ds ++ [dpJ ds j]) r else -1
def depJ (js : List J3) (n : Int) : Int := if (1 ≤ n ∧ n ≤ 12) ∧ (js.length : Int) = n - 1 then dpF (List.replicate n.toNat 0) js else -1
theorem dpF_yes {ds : List Int} {d : Int} {js : List J3} {k : Nat} (hk : k < js.length) (h : dpF ds (js.drop k) = d) (hf : DpOk ds (jn js k)) : dpF (ds ++ [dpJ ds (jn js k)]) (js.drop (k + 1)) = d := by
  rw [drop_jn hk, dpF, if_pos hf] at h; exact h
theorem dpF_no {ds : List Int} {d : Int} {js : List J3} {k : Nat} (hk : k < js.length) (h : dpF ds (js.drop k) = d) (hf : ¬ DpOk ds (jn js k)) : -1 = d := by
  rw [drop_jn hk, dpF, if_neg hf] at h; exact h
theorem dpF_all {ds : List Int} {d : Int} {js : List J3} (h : dpF ds (js.drop js.length) = d) : dp ds (ds.length - 1) = d := by
  rw [List.drop_length] at h; exact h
/-- All depths are small. -/
def DpB (k : Nat) (ds : List Int) : Prop := ∀ i, 0 ≤ dp ds i ∧ dp ds i ≤ k
theorem DpB.start (n : Nat) : DpB 0 (List.replicate n 0) := fun i => by
  have : dp (List.replicate n (0 : Int)) i = 0 := by
    unfold dp; rw [List.getD_eq_getElem?_getD, List.getElem?_replicate]; split <;> rfl
  rw [this]; omega
theorem DpB.put {k : Nat} {ds : List Int} (h : DpB k ds) (j : J3) : DpB (k + 1) (ds ++ [dpJ ds j]) := fun i => by
  have ha := h j.a.toNat
  have hb := h j.b.toNat
  have hi := h i
  rcases Nat.lt_trichotomy i ds.length with e | e | e
  · have : dp (ds ++ [dpJ ds j]) i = dp ds i := by
      unfold dp; rw [List.getD_eq_getElem?_getD, List.getElem?_append_left e, ← List.getD_eq_getElem?_getD]
    rw [this]; omega
  · subst e
    have : dp (ds ++ [dpJ ds j]) ds.length = dpJ ds j := by simp [dp]
    rw [this]; unfold dpJ; omega
  · have : dp (ds ++ [dpJ ds j]) i = 0 := by
      unfold dp; rw [List.getD_eq_getElem?_getD, List.getElem?_eq_none (by simp; omega)]; rfl
    rw [this]; omega

end Go.Proofs.Ytboahceibeeifaa
