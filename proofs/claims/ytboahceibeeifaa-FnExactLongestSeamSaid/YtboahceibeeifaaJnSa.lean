/- Joins: rows for the model's l11Boxes. -/
import Derived.Test.YtboahceibeeifaaJnN
import Derived.Test.YtboahceibeeifaaLayB
import Derived.Test.YtboahceibeeifaaPatR
import Derived.Test.YtboahceibeeifaaLayIk
import Derived.Test.YtboahceibeeifaaBase
import Derived.OneCell
set_option linter.unusedSimpArgs false
set_option linter.unusedVariables false
namespace Go.Proofs.Ytboahceibeeifaa
open Go.ChangeShapes Go.WideShapes Go.ChangeAt Go.RowKit

theorem info_boolJ : (Try.prog.info? 4).map (fun i => (i.zero, i.size, i.bytes)) = some (some (.bool false), 1, 1) := by kernel_rfl
/-- A row of patches that is owned; one of Booleans. -/
def OwnP (b : Nat) (w : World) (v : Value) (ps : List P5) : Prop := w.ownsRow b 34 5 v ps.length (placesPat ps)
theorem OwnP.row {b : Nat} {w : World} {v : Value} {ps : List P5} (h : OwnP b w v ps) (hl : ps.length ≤ 1048576) : PatIn b w.heap.size w v ps := PatIn.of_owns h hl
theorem OwnP.below {b : Nat} {w w' : World} {v : Value} {ps : List P5} (h : OwnP b w v ps) (hb : Below w.heap.size w w') : OwnP b w' v ps := owL h hb
theorem OwnP.more {b g n c : Nat} {w : World} {ps : List P5} {p : P5} (h : w.ownsRow b 34 5 (.slice (some ⟨g, 0, none⟩) n c) n (placesPat ps ++ [.int .i64 p.x, .int .i64 p.y, .int .i64 p.w, .int .i64 p.h, .int .i64 p.c])) : OwnP b w (.slice (some ⟨g, 0, none⟩) n c) (ps ++ [p]) := by
  have h1 := h.1
  simp [placesPat_length] at h1
  unfold OwnP
  rw [placesPat_more, show (ps ++ [p]).length = n by simp; omega]
  exact h
theorem OwnP.far {b : Nat} {w : World} {v : Value} {ps : List P5} (h : OwnP b w v ps) {a : Addr} (ha : v.ownBlock ≠ some a.block) (u : Value) : OwnP b (w.setCell a u) v ps := ownsRow_setCell_other h ha u
def bvals (bs : List Bool) : List Value := bs.map (.bool ·)
def OwnF (b : Nat) (w : World) (v : Value) (bs : List Bool) : Prop := w.ownsRow b 4 1 v bs.length (bvals bs)
theorem OwnF.below {b : Nat} {w w' : World} {v : Value} {bs : List Bool} (h : OwnF b w v bs) (hb : Below w.heap.size w w') : OwnF b w' v bs := owL h hb
theorem OwnF.at {b g c : Nat} {w : World} {bs : List Bool} (h : OwnF b w (.slice (some ⟨g, 0, none⟩) bs.length c) bs) {i : Nat} (hi : i < bs.length) : w.cell? ⟨g, i, none⟩ = some (.bool (bs.getD i false)) ∧ w.frozen? ⟨g, i, none⟩ = false := by
  refine ⟨?_, World.ownsRow.frozenAt h i⟩
  rw [World.ownsRow.cellAt h i (by omega)]
  simp [bvals, List.getD, hi]
theorem OwnF.set {b g c : Nat} {w : World} {bs : List Bool} (h : OwnF b w (.slice (some ⟨g, 0, none⟩) bs.length c) bs) (i : Nat) : OwnF b (w.setCell ⟨g, i, none⟩ (.bool true)) (.slice (some ⟨g, 0, none⟩) bs.length c) (bs.set i true) := by
  have := (World.ownsRow.stored h i (.bool true)).1
  unfold OwnF bvals at *
  rw [List.map_set, List.length_set]
  exact this
theorem OwnF.far {b : Nat} {w : World} {v : Value} {bs : List Bool} (h : OwnF b w v bs) {a : Addr} (ha : v.ownBlock ≠ some a.block) (u : Value) : OwnF b (w.setCell a u) v bs := ownsRow_setCell_other h ha u
theorem OwnF.grown {b g n c : Nat} {w w' : World} {row : Option Nat} {bs : List Bool} (h : OwnF b w (.slice (some ⟨g, 0, none⟩) n c) bs) (hg : w.grownBy w' row) (hr : row ≠ some g) : OwnF b w' (.slice (some ⟨g, 0, none⟩) n c) bs := by
  obtain ⟨h1, h2 | ⟨g', cap, cur, hv, hge, hh, r⟩⟩ := h
  · exact ⟨h1, .inl h2⟩
  · simp only [Value.slice.injEq, Option.some.injEq, Addr.mk.injEq, and_true] at hv
    obtain ⟨rfl, rfl, rfl⟩ := hv
    exact ⟨h1, .inr ⟨g, _, cur, rfl, hge, by rw [hg.block g (lt_of_heap hh) (fun e => hr e.symm)]; exact hh, r⟩⟩
theorem OwnF.lt {b g n c : Nat} {w : World} {bs : List Bool} (h : OwnF b w (.slice (some ⟨g, 0, none⟩) n c) bs) : g < w.heap.size ∧ b ≤ g := by
  obtain ⟨h1, h2 | ⟨g', cap, cur, hv, hge, hh, r⟩⟩ := h
  · simp at h2
  · simp only [Value.slice.injEq, Option.some.injEq, Addr.mk.injEq, and_true] at hv
    obtain ⟨rfl, rfl, rfl⟩ := hv
    exact ⟨lt_of_heap hh, hge⟩
theorem OwnF.zero {b n : Nat} {w : World} {v : Value} (h : w.ownsRow b 4 1 v n (madeCells (Value.bool false).cells (n * 1)).toList) : OwnF b w v (List.replicate n false) := by
  have e : (madeCells (Value.bool false).cells (n * 1)).toList = bvals (List.replicate n false) := by
    apply List.ext_getElem?
    intro i
    by_cases hi : i < n
    · simp [madeCells, Value.cells, bvals, hi, Nat.mod_one]
    · simp [madeCells, Value.cells, bvals, hi]
  unfold OwnF
  rw [List.length_replicate, ← e]; exact h
/-- The Booleans tell what is used. -/
def UsedIs (us : List U6) (bs : List Bool) : Prop := ∀ i, bs.getD i false = (un us i).j
theorem UsedIs.start (xs : List P5) (n : Nat) : UsedIs (xs.map mkU) (List.replicate n false) := fun i => by
  have e1 : (List.replicate n false).getD i false = false := by
    rw [List.getD_eq_getElem?_getD, List.getElem?_replicate]; split <;> rfl
  rw [e1]
  by_cases h : i < xs.length
  · rw [un_get (by simpa using h), List.getElem_map]; rfl
  · unfold un; rw [List.getD_eq_getElem?_getD, List.getElem?_eq_none (by simp; omega)]; rfl
theorem getD_set {bs : List Bool} {i k : Nat} (hk : k < bs.length) : (bs.set k true).getD i false = if k = i then true else bs.getD i false := by
  rw [List.getD_eq_getElem?_getD, List.getElem?_set]
  by_cases e : k = i
  · subst e; simp [hk]
  · simp [e, List.getD_eq_getElem?_getD]
theorem UsedIs.put {us : List U6} {bs : List Bool} {up : Bool} {A B : Nat} (h : UsedIs us bs) (hf : FitJ us ⟨up, A, B⟩) (hl : us.length ≤ bs.length) : UsedIs (putJ us ⟨up, A, B⟩) ((bs.set A true).set B true) := fun i => by
  have hA : A < us.length := by have := hf.1.2; simp only at this; omega
  have hB : B < us.length := by have := hf.2.1.2; simp only at this; omega
  rw [getD_set (by simp; omega), getD_set (by omega), h i]
  rcases Nat.lt_trichotomy i us.length with e | e | e
  · rw [un_put hf e]
    simp only [Int.toNat_natCast]
    by_cases e1 : B = i
    · simp [e1, U6.u]
    · by_cases e2 : A = i
      · simp [e1, e2, U6.u]
      · simp [e1, e2]
  · subst e
    rw [un_new, if_neg (by omega), if_neg (by omega)]
    have : un us us.length = U6.zero := by unfold un; rw [List.getD_eq_getElem?_getD, List.getElem?_eq_none (by omega)]; rfl
    rw [this]; rfl
  · have e1 : un us i = U6.zero := by unfold un; rw [List.getD_eq_getElem?_getD, List.getElem?_eq_none (by omega)]; rfl
    have e2 : un (putJ us ⟨up, A, B⟩) i = U6.zero := by unfold un; rw [List.getD_eq_getElem?_getD, List.getElem?_eq_none (by rw [putJ_len]; omega)]; rfl
    rw [if_neg (by omega), if_neg (by omega), e1, e2]
theorem map_useJ {us : List U6} {j : J3} (h : FitJ us j) : (useJ us j).map U6.p = us.map U6.p := by
  apply List.ext_getElem (by simp [useJ_len])
  intro i h1 h2
  simp only [List.length_map] at h1 h2
  simp only [List.getElem_map]
  have h3 : un (useJ us j) i = (useJ us j)[i] := un_get h1
  have h4 : un us i = us[i] := un_get h2
  rw [← h3, ← h4, un_use h]; split <;> rfl
theorem map_putJ {us : List U6} {j : J3} (h : FitJ us j) : (putJ us j).map U6.p = us.map U6.p ++ [sewP j.up (un us j.a.toNat).p (un us j.b.toNat).p] := by
  unfold putJ; rw [List.map_append, map_useJ h]; rfl
theorem map_mkU (xs : List P5) : (xs.map mkU).map U6.p = xs := by
  rw [List.map_map, show U6.p ∘ mkU = id from rfl, List.map_id]
theorem pat_map {us : List U6} {i : Nat} (h : i < us.length) : pat (us.map U6.p) i = (un us i).p := by
  rw [pat_get (by simpa using h), List.getElem_map, un_get h]
theorem onePl (xs : List P5) : ∀ u ∈ placesPat xs, u.oneCell' = true := by
  intro u hu
  simp only [placesPat, List.mem_flatMap] at hu
  obtain ⟨c, _, hc⟩ := hu
  simp only [List.mem_cons, List.not_mem_nil, or_false] at hc
  rcases hc with rfl | rfl | rfl | rfl | rfl <;> rfl
/-- The places of a row that is not empty, read one by one. -/
theorem PatIn.newsP {lo hi : Nat} {w : World} {a : Option Addr} {n cap : Nat} {xs : List P5} (h : PatIn lo hi w (.slice a n cap) xs) (h0 : 0 < xs.length) :
    ∃ g, a = some ⟨g, 0, none⟩ ∧ lo ≤ g ∧ g < hi ∧ ∀ w', Below hi w w' → ∀ (j : Nat) u, (placesPat xs)[j]? = some u → w'.cell? ((⟨g, 0, none⟩ : Addr).add j) = some u := by
  obtain ⟨_, ⟨rfl, _⟩ | ⟨g, cap, hv, hcp, hg, hlt, hc⟩⟩ := h
  · simp at h0
  · simp only [Value.slice.injEq] at hv
    refine ⟨g, hv.1, hg, hlt, fun w' hb j u hu => ?_⟩
    have hj : j < xs.length * 5 := by
      rcases Nat.lt_or_ge j (xs.length * 5) with h | h
      · exact h
      · rw [List.getElem?_eq_none (by rw [placesPat_length]; exact h)] at hu; cases hu
    have ad : (⟨g, 0, none⟩ : Addr).add j = ⟨g, j, none⟩ := by cases j <;> simp [Addr.add]
    rw [ad]
    obtain ⟨k, hk⟩ : ∃ k, j = k * 5 ∨ j = k * 5 + 1 ∨ j = k * 5 + 2 ∨ j = k * 5 + 3 ∨ j = k * 5 + 4 := ⟨j / 5, by omega⟩
    have hkn : k < xs.length := by omega
    obtain ⟨p0, p1, p2, p3, p4⟩ := placesPat_at xs k hkn
    obtain ⟨e0, e1, e2, e3, e4⟩ := (hc k hkn).1.below hb hlt
    rcases hk with rfl | rfl | rfl | rfl | rfl
    · rw [e0, ← hu, p0]
    · rw [e1, ← hu, p1]
    · rw [e2, ← hu, p2]
    · rw [e3, ← hu, p3]
    · rw [e4, ← hu, p4]


end Go.Proofs.Ytboahceibeeifaa
