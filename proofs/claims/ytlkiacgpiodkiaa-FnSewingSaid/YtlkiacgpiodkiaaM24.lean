/- More of what is drawn: a chance, one of a list, a number. Layouts that are drawn: a patch cut in two; what stays in view. Cuts: a knot has five patches or more; the sample is a knot. -/
import Derived.Test.YtlkiacgpiodkiaaM23
import Derived.Test.YtlkiacgpiodkiaaM10
import Derived.Test.YtlkiacgpiodkiaaM09

set_option linter.unusedSimpArgs false
set_option linter.unusedVariables false
namespace Go.Proofs.Ytlkiacgpiodkiaa
open Go.ChangeShapes Go.WideShapes Go.ChangeAt Go.RowKit

theorem Once_any (b : Nat) (a : Option Addr) (len cap : Nat) (n : Int) (w : World) (hcur : Cur w b a len cap) (h0 : 0 < n) (h1 : n ≤ 9223372036854775807) :
    Calls Try.prog 48 #[.pointer (some ⟨b, 0, none⟩), .int .i64 n] w (DrawnB b a len cap w) := by
  go_enter Try.func48, Try.ntmps48
  go_wp2_with (go_at_call 47; refine (Below_any b a len cap _ _ hcur h0 h1).mono ?_; rintro e w' ⟨x, ⟨x0, x1⟩, rfl, hcur1, hb1⟩)
  go_ret
  exact ⟨_, rfl, hcur1, hb1⟩

/-- The list of a pick: its elements are cells outside block b. -/
def Ints (w : World) (b : Nat) (xb : Nat) (zs : List Int) : Prop :=
  xb ≠ b ∧ ∀ i, i < zs.length → w.cell? ⟨xb, i, none⟩ = some (.int .i64 (zs.getD i 0))

/-- An int64. -/
def I64 (x : Int) : Prop := -9223372036854775808 ≤ x ∧ x ≤ 9223372036854775807

end Go.Proofs.Ytlkiacgpiodkiaa

set_option linter.unusedSimpArgs false
set_option linter.unusedVariables false
namespace Go.Proofs.Ytlkiacgpiodkiaa
open Go.ChangeShapes Go.WideShapes Go.ChangeAt Go.RowKit

theorem sm_put (f : Nat → Int) (a : Int) {i : Nat} : ∀ {k : Nat}, i < k → sm k (fun j => if j = i then a else f j) = sm k f - f i + a
  | 0, h => by omega
  | k + 1, h => by
    show sm k (fun j => if j = i then a else f j) + (if k = i then a else f k) = sm k f + f k - f i + a
    rcases Nat.lt_succ_iff_lt_or_eq.1 h with h' | rfl
    · rw [sm_put f a h', if_neg (by omega)]; omega
    · rw [if_pos rfl, sm_congr (g := f) (fun j hj => if_neg (by omega))]; omega

variable {m n : Int} {xs : List P5}

theorem hit_symm {p q : P5} (h : Hit p q) : Hit q p := ⟨h.2.1, h.1, h.2.2.2, h.2.2.1⟩
theorem lay_apart (h : LayOk m n xs) {i k : Nat} (hi : i < xs.length) (hk : k < xs.length) (hne : i ≠ k) : ¬ Hit (pat xs i) (pat xs k) := by
  rcases Nat.lt_or_gt_of_ne hne with h' | h'
  · exact fun z => (h.2.2.2.1 k hk).2 i h' (hit_symm z)
  · exact (h.2.2.2.1 i hi).2 k h'
theorem pat_put {i j : Nat} {p q : P5} (hj : j < xs.length) : pat (xs.set i p ++ [q]) j = if j = i then p else pat xs j := by
  unfold pat
  simp only [List.getD_eq_getElem?_getD]
  rw [List.getElem?_append_left (by simpa using hj)]
  by_cases e : j = i
  · subst e; simp [hj]
  · simp [e, Ne.symm e]
theorem pat_last {i : Nat} {p q : P5} : pat (xs.set i p ++ [q]) xs.length = q := by simp [pat, List.getD]
/-- A patch cut in two. -/
theorem lay_split (h : LayOk m n xs) {i : Nat} (hi : i < xs.length) (hl : xs.length < 12) {p q : P5} (fp : Fit m n p) (fq : Fit m n q) (hpq : ¬ Hit q p) (h1 : ∀ r, Hit p r → Hit (pat xs i) r) (h2 : ∀ r, Hit q r → Hit (pat xs i) r)
    (ha : p.w * p.h + q.w * q.h = (pat xs i).w * (pat xs i).h) : LayOk m n (xs.set i p ++ [q]) := by
  have hlen : (xs.set i p ++ [q]).length = xs.length + 1 := by simp
  refine ⟨h.1, h.2.1, by rw [hlen]; omega, ?_, ?_⟩
  · rw [hlen]
    intro a ha
    rcases Nat.lt_succ_iff_lt_or_eq.1 ha with ha' | rfl
    · rw [pat_put ha']
      by_cases e : a = i
      · subst e
        rw [if_pos rfl]
        refine ⟨fp, fun j hj z => ?_⟩
        rw [pat_put (show j < xs.length by omega), if_neg (by omega)] at z
        exact lay_apart h ha' (show j < xs.length by omega) (by omega) (h1 _ z)
      · rw [if_neg e]
        refine ⟨h.fit ha', fun j hj z => ?_⟩
        rw [pat_put (show j < xs.length by omega)] at z
        by_cases e' : j = i
        · rw [if_pos e'] at z
          exact lay_apart h hi ha' (Ne.symm e) (h1 _ (hit_symm z))
        · rw [if_neg e'] at z
          exact lay_apart h ha' (show j < xs.length by omega) (by omega) z
    · rw [pat_last]
      refine ⟨fq, fun j hj z => ?_⟩
      rw [pat_put hj] at z
      by_cases e' : j = i
      · rw [if_pos e'] at z; exact hpq z
      · rw [if_neg e'] at z
        exact lay_apart h hi hj (Ne.symm e') (h2 _ z)
  · rw [hlen]
    show ar (xs.set i p ++ [q]) xs.length + (pat (xs.set i p ++ [q]) xs.length).w * (pat (xs.set i p ++ [q]) xs.length).h = m * n
    rw [pat_last]
    have e : ar (xs.set i p ++ [q]) xs.length = ar xs xs.length - (pat xs i).w * (pat xs i).h + p.w * p.h := by
      rw [ar_is, ar_is, ← sm_put (fun j => (pat xs j).w * (pat xs j).h) (p.w * p.h) hi]
      refine sm_congr (fun j hj => ?_)
      rw [pat_put hj]
      split <;> rfl
    rw [e, ← h.2.2.2.2]; omega
theorem lay_cutw (h : LayOk m n xs) {i : Nat} (hi : i < xs.length) (hl : xs.length < 12) {c : P5} (hc : c = pat xs i) {d k : Int} (d0 : 1 ≤ d) (d1 : d ≤ c.w - 1) (k0 : 0 ≤ k) (k1 : k ≤ 5) :
    LayOk m n (xs.set i ⟨c.x, c.y, d, c.h, c.c⟩ ++ [⟨c.x + d, c.y, c.w - d, c.h, k⟩]) := by
  obtain ⟨f0, f1, f2, f3, f4⟩ := h.fit hi
  subst hc
  refine lay_split h hi hl (by unfold Fit; simp only; omega) (by unfold Fit; simp only; omega) (by unfold Hit; simp only; omega) (fun r z => by unfold Hit at *; simp only at z; omega) (fun r z => by unfold Hit at *; simp only at z; omega) ?_
  simp only
  rw [← Int.add_mul]; congr 1; omega
theorem lay_cuth (h : LayOk m n xs) {i : Nat} (hi : i < xs.length) (hl : xs.length < 12) {c : P5} (hc : c = pat xs i) {d k : Int} (d0 : 1 ≤ d) (d1 : d ≤ c.h - 1) (k0 : 0 ≤ k) (k1 : k ≤ 5) :
    LayOk m n (xs.set i ⟨c.x, c.y, c.w, d, c.c⟩ ++ [⟨c.x, c.y + d, c.w, c.h - d, k⟩]) := by
  obtain ⟨f0, f1, f2, f3, f4⟩ := h.fit hi
  subst hc
  refine lay_split h hi hl (by unfold Fit; simp only; omega) (by unfold Fit; simp only; omega) (by unfold Hit; simp only; omega) (fun r z => by unfold Hit at *; simp only at z; omega) (fun r z => by unfold Hit at *; simp only at z; omega) ?_
  simp only
  rw [← Int.mul_add]; congr 1; omega
theorem lay_start {m n : Int} (m0 : 1 ≤ m) (m1 : m ≤ 12) (n0 : 1 ≤ n) (n1 : n ≤ 12) : LayOk m n [⟨0, 0, m, n, 0⟩] := by
  refine ⟨⟨m0, m1⟩, ⟨n0, n1⟩, by simp, fun i hi => ?_, ?_⟩
  · obtain rfl : i = 0 := by simpa using hi
    exact ⟨by unfold Fit; simp [pat, List.getD]; omega, fun j hj => by omega⟩
  · show 0 + m * n = m * n; omega
theorem lay_wf (h : LayOk m n xs) : ∀ c ∈ xs, c.Wf := fun c hc => by
  obtain ⟨i, hi, rfl⟩ := List.getElem_of_mem hc
  have f := h.fit hi
  have hm := h.1
  have hn := h.2.1
  rw [show pat xs i = xs[i] by simp [pat, List.getD, hi]] at f
  obtain ⟨_, _, _, _, _⟩ := f
  have w : ∀ z : Int, 0 ≤ z → z ≤ 12 → (Lit.int .i64 z).wf = true := fun z a b => by simp [Lit.wf, IntKind.min, IntKind.max, IntKind.bits, IntKind.signed]; omega
  exact ⟨w _ (by omega) (by omega), w _ (by omega) (by omega), w _ (by omega) (by omega), w _ (by omega) (by omega), w _ (by omega) (by omega)⟩

theorem placesPat_put : ∀ (xs : List P5) (i : Nat) (x y w h c : Int), i < xs.length → (((((placesPat xs).set (i * 5) (.int .i64 x)).set (i * 5 + 1) (.int .i64 y)).set (i * 5 + 2) (.int .i64 w)).set (i * 5 + 3) (.int .i64 h)).set (i * 5 + 4) (.int .i64 c) = placesPat (xs.set i ⟨x, y, w, h, c⟩)
  | [], i, _, _, _, _, _, h => by simp at h
  | p :: r, 0, _, _, _, _, _, _ => rfl
  | p :: r, i + 1, x, y, w, h, c, hi => by
    have ih := placesPat_put r i x y w h c (by simpa using hi)
    have e : placesPat (p :: r) = .int .i64 p.x :: .int .i64 p.y :: .int .i64 p.w :: .int .i64 p.h :: .int .i64 p.c :: placesPat r := rfl
    rw [e, show (i + 1) * 5 = i * 5 + 1 + 1 + 1 + 1 + 1 by omega]
    show _ :: _ :: _ :: _ :: _ :: _ = _
    rw [show (p :: r).set (i + 1) ⟨x, y, w, h, c⟩ = p :: r.set i ⟨x, y, w, h, c⟩ from rfl]
    show _ = Value.int .i64 p.x :: .int .i64 p.y :: .int .i64 p.w :: .int .i64 p.h :: .int .i64 p.c :: placesPat (r.set i ⟨x, y, w, h, c⟩)
    rw [← ih]

/-- A patch's box. -/
def BoxP (p : Nat) (c : P5) (u : World) : Prop := (u.cell? ⟨p, 0, none⟩ = some (.int .i64 c.x) ∧ u.cell? ⟨p, 1, none⟩ = some (.int .i64 c.y) ∧ u.cell? ⟨p, 2, none⟩ = some (.int .i64 c.w) ∧ u.cell? ⟨p, 3, none⟩ = some (.int .i64 c.h) ∧ u.cell? ⟨p, 4, none⟩ = some (.int .i64 c.c)) ∧
  u.frozen? ⟨p, 0, none⟩ = false ∧ u.frozen? ⟨p, 1, none⟩ = false ∧ u.frozen? ⟨p, 2, none⟩ = false ∧ u.frozen? ⟨p, 3, none⟩ = false ∧ u.frozen? ⟨p, 4, none⟩ = false
theorem BoxP.new (w : World) (c : P5) (T : TypeId) : BoxP w.heap.size c (w.alloc (.cells #[.int .i64 c.x, .int .i64 c.y, .int .i64 c.w, .int .i64 c.h, .int .i64 c.c] T)) := by
  unfold BoxP; simp
theorem BoxP.lt {p : Nat} {c : P5} {u : World} (h : BoxP p c u) : p < u.heap.size := lt_of_cell h.1.1
theorem BoxP.at {p : Nat} {c : P5} {u w : World} (h : BoxP p c u) (hc : w.heap[p]? = u.heap[p]?) : BoxP p c w := by
  obtain ⟨⟨h0, h1, h2, h3, h4⟩, f0, f1, f2, f3, f4⟩ := h
  exact ⟨⟨(World.cell?_of_block (w := u) hc).trans h0, (World.cell?_of_block (w := u) hc).trans h1, (World.cell?_of_block (w := u) hc).trans h2, (World.cell?_of_block (w := u) hc).trans h3, (World.cell?_of_block (w := u) hc).trans h4⟩,
    (World.frozen?_of_block (w := u) hc).trans f0, (World.frozen?_of_block (w := u) hc).trans f1, (World.frozen?_of_block (w := u) hc).trans f2, (World.frozen?_of_block (w := u) hc).trans f3, (World.frozen?_of_block (w := u) hc).trans f4⟩
theorem BoxP.but {p b : Nat} {c : P5} {u w : World} (h : BoxP p c u) (hb : But b u w) (hp : p ≠ b) : BoxP p c w := h.at (hb.block p h.lt hp)
theorem BoxP.below {p B : Nat} {c : P5} {u w : World} (h : BoxP p c u) (hb : Below B u w) (hp : p < B) : BoxP p c w := h.at (hb.block p hp)
theorem BoxP.far {p : Nat} {c : P5} {u : World} (h : BoxP p c u) {q : Addr} (hq : q.block ≠ p) (v : Value) : BoxP p c (u.setCell q v) := h.at (Below.heap_setCell _ _ _ _ (Ne.symm hq))
theorem BoxP.put0 {p : Nat} {c : P5} {u : World} (h : BoxP p c u) (v : Int) : BoxP p ⟨v, c.y, c.w, c.h, c.c⟩ (u.setCell ⟨p, 0, none⟩ (.int .i64 v)) := by
  obtain ⟨⟨h0, h1, h2, h3, h4⟩, f0, f1, f2, f3, f4⟩ := h
  exact ⟨⟨World.cell?_setCell_same _ _ _ h0, (World.cell?_setCell_other _ _ _ _ (by simp)).trans h1, (World.cell?_setCell_other _ _ _ _ (by simp)).trans h2, (World.cell?_setCell_other _ _ _ _ (by simp)).trans h3, (World.cell?_setCell_other _ _ _ _ (by simp)).trans h4⟩, (World.frozen?_setCell _ _ _ _).trans f0, (World.frozen?_setCell _ _ _ _).trans f1, (World.frozen?_setCell _ _ _ _).trans f2, (World.frozen?_setCell _ _ _ _).trans f3, (World.frozen?_setCell _ _ _ _).trans f4⟩
theorem BoxP.put1 {p : Nat} {c : P5} {u : World} (h : BoxP p c u) (v : Int) : BoxP p ⟨c.x, v, c.w, c.h, c.c⟩ (u.setCell ⟨p, 1, none⟩ (.int .i64 v)) := by
  obtain ⟨⟨h0, h1, h2, h3, h4⟩, f0, f1, f2, f3, f4⟩ := h
  exact ⟨⟨(World.cell?_setCell_other _ _ _ _ (by simp)).trans h0, World.cell?_setCell_same _ _ _ h1, (World.cell?_setCell_other _ _ _ _ (by simp)).trans h2, (World.cell?_setCell_other _ _ _ _ (by simp)).trans h3, (World.cell?_setCell_other _ _ _ _ (by simp)).trans h4⟩, (World.frozen?_setCell _ _ _ _).trans f0, (World.frozen?_setCell _ _ _ _).trans f1, (World.frozen?_setCell _ _ _ _).trans f2, (World.frozen?_setCell _ _ _ _).trans f3, (World.frozen?_setCell _ _ _ _).trans f4⟩
theorem BoxP.put2 {p : Nat} {c : P5} {u : World} (h : BoxP p c u) (v : Int) : BoxP p ⟨c.x, c.y, v, c.h, c.c⟩ (u.setCell ⟨p, 2, none⟩ (.int .i64 v)) := by
  obtain ⟨⟨h0, h1, h2, h3, h4⟩, f0, f1, f2, f3, f4⟩ := h
  exact ⟨⟨(World.cell?_setCell_other _ _ _ _ (by simp)).trans h0, (World.cell?_setCell_other _ _ _ _ (by simp)).trans h1, World.cell?_setCell_same _ _ _ h2, (World.cell?_setCell_other _ _ _ _ (by simp)).trans h3, (World.cell?_setCell_other _ _ _ _ (by simp)).trans h4⟩, (World.frozen?_setCell _ _ _ _).trans f0, (World.frozen?_setCell _ _ _ _).trans f1, (World.frozen?_setCell _ _ _ _).trans f2, (World.frozen?_setCell _ _ _ _).trans f3, (World.frozen?_setCell _ _ _ _).trans f4⟩
theorem BoxP.put3 {p : Nat} {c : P5} {u : World} (h : BoxP p c u) (v : Int) : BoxP p ⟨c.x, c.y, c.w, v, c.c⟩ (u.setCell ⟨p, 3, none⟩ (.int .i64 v)) := by
  obtain ⟨⟨h0, h1, h2, h3, h4⟩, f0, f1, f2, f3, f4⟩ := h
  exact ⟨⟨(World.cell?_setCell_other _ _ _ _ (by simp)).trans h0, (World.cell?_setCell_other _ _ _ _ (by simp)).trans h1, (World.cell?_setCell_other _ _ _ _ (by simp)).trans h2, World.cell?_setCell_same _ _ _ h3, (World.cell?_setCell_other _ _ _ _ (by simp)).trans h4⟩, (World.frozen?_setCell _ _ _ _).trans f0, (World.frozen?_setCell _ _ _ _).trans f1, (World.frozen?_setCell _ _ _ _).trans f2, (World.frozen?_setCell _ _ _ _).trans f3, (World.frozen?_setCell _ _ _ _).trans f4⟩
theorem BoxP.put4 {p : Nat} {c : P5} {u : World} (h : BoxP p c u) (v : Int) : BoxP p ⟨c.x, c.y, c.w, c.h, v⟩ (u.setCell ⟨p, 4, none⟩ (.int .i64 v)) := by
  obtain ⟨⟨h0, h1, h2, h3, h4⟩, f0, f1, f2, f3, f4⟩ := h
  exact ⟨⟨(World.cell?_setCell_other _ _ _ _ (by simp)).trans h0, (World.cell?_setCell_other _ _ _ _ (by simp)).trans h1, (World.cell?_setCell_other _ _ _ _ (by simp)).trans h2, (World.cell?_setCell_other _ _ _ _ (by simp)).trans h3, World.cell?_setCell_same _ _ _ h4⟩, (World.frozen?_setCell _ _ _ _).trans f0, (World.frozen?_setCell _ _ _ _).trans f1, (World.frozen?_setCell _ _ _ _).trans f2, (World.frozen?_setCell _ _ _ _).trans f3, (World.frozen?_setCell _ _ _ _).trans f4⟩

/-- What the drawing walk keeps: the row under way, its box, the answer's box, the cursor. -/
structure LS (b lb : Nat) (a : Option Addr) (len cap : Nat) (w0 : World) (m n : Int) (v : Value) (xs : List P5) (u : World) : Prop where
  own : u.ownsRow (lb + 1) 73 5 v xs.length (placesPat xs)
  box : BoxL lb (.int .i64 m) (.int .i64 n) v u
  res : BoxL w0.heap.size (.int .i64 0) (.int .i64 0) (.slice none 0 0) u
  cur : Cur u b a len cap
  but : But b w0 u
  size : lb + 1 ≤ u.heap.size
  lo : w0.heap.size < lb
  bl : b < w0.heap.size
variable {b lb len cap : Nat} {a : Option Addr} {w0 u u' : World} {v : Value}
theorem LS.go (h : LS b lb a len cap w0 m n v xs u) (hb : But b u u') (hc : Cur u' b a len cap) : LS b lb a len cap w0 m n v xs u' :=
  ⟨owns_but h.own hb (by have := h.lo; have := h.bl; omega), h.box.but hb (by have := h.lo; have := h.bl; omega), h.res.but hb (by have := h.bl; omega), hc, h.but.trans hb, Nat.le_trans h.size hb.size, h.lo, h.bl⟩
theorem LS.new (h : LS b lb a len cap w0 m n v xs u) (hb : Below u.heap.size u u') : LS b lb a len cap w0 m n v xs u' := h.go (But.of_below hb) (h.cur.kept hb)
theorem LS.put {g L k : Nat} (h : LS b lb a len cap w0 m n (.slice (some ⟨g, 0, none⟩) L k) xs u) {i : Nat} (hi : i < xs.length) (x0 x1 x2 x3 x4 : Int) (hL : L = xs.length) :
    LS b lb a len cap w0 m n (.slice (some ⟨g, 0, none⟩) L k) (xs.set i ⟨x0, x1, x2, x3, x4⟩) (setPat u g i x0 x1 x2 x3 x4) := by
  subst hL
  have hg := ogL h.own g rfl
  have lo := h.lo
  have bl := h.bl
  have o := (((((h.own.stored (i * 5) (.int .i64 x0)).1.stored (i * 5 + 1) (.int .i64 x1)).1.stored (i * 5 + 2) (.int .i64 x2)).1.stored (i * 5 + 3) (.int .i64 x3)).1.stored (i * 5 + 4) (.int .i64 x4)).1
  rw [placesPat_put xs i x0 x1 x2 x3 x4 hi] at o
  refine ⟨by simpa using o, ?_, ?_, ?_, ?_, by simpa [World.setCell] using h.size, lo, bl⟩
  · exact ((((h.box.far (by simp; omega) _).far (by simp; omega) _).far (by simp; omega) _).far (by simp; omega) _).far (by simp; omega) _
  · exact ((((h.res.far (by simp; omega) _).far (by simp; omega) _).far (by simp; omega) _).far (by simp; omega) _).far (by simp; omega) _
  · refine h.cur.below (B := lb) ?_ (by omega)
    exact ((((((Below.refl lb u).setCell (p := ⟨g, i * 5, none⟩) (by simp; omega) _).setCell (p := ⟨g, i * 5 + 1, none⟩) (by simp; omega) _).setCell (p := ⟨g, i * 5 + 2, none⟩) (by simp; omega) _).setCell (p := ⟨g, i * 5 + 3, none⟩) (by simp; omega) _).setCell (p := ⟨g, i * 5 + 4, none⟩) (by simp; omega) _)
  · exact But.setCell (But.setCell (But.setCell (But.setCell (But.setCell h.but (.inr (by simp; omega)) _) (.inr (by simp; omega)) _) (.inr (by simp; omega)) _) (.inr (by simp; omega)) _) (.inr (by simp; omega)) _
/-- The row grown by one, and stored. -/
theorem LS.more (h : LS b lb a len cap w0 m n v xs u) (c : P5) {g k : Nat} (hb : Below (lb + 1) u u') (ho : u'.ownsRow (lb + 1) 73 5 (.slice (some ⟨g, 0, none⟩) (xs.length + 1) k) (xs.length + 1) (placesPat xs ++ [.int .i64 c.x, .int .i64 c.y, .int .i64 c.w, .int .i64 c.h, .int .i64 c.c])) :
    LS b lb a len cap w0 m n (.slice (some ⟨g, 0, none⟩) (xs.length + 1) k) (xs ++ [c]) (u'.setCell ⟨lb, 2, none⟩ (.slice (some ⟨g, 0, none⟩) (xs.length + 1) k)) := by
  have lo := h.lo
  have bl := h.bl
  refine ⟨?_, (h.box.below hb (by omega)).store _, (h.res.below hb (by omega)).far (by simp; omega) _, ?_, ?_, ?_, lo, bl⟩
  · rw [placesPat_more, List.length_append]
    exact osL ho (by simp) _
  · exact (h.cur.below hb (by omega)).below (B := lb) ((Below.refl lb _).setCell (p := ⟨lb, 2, none⟩) (Nat.le_refl _) _) (by omega)
  · exact But.setCell (⟨hb.os.trans h.but.os, hb.tape.trans h.but.tape, hb.output.trans h.but.output, Nat.le_trans h.but.size hb.size, fun k hk hne => (hb.block k (by omega)).trans (h.but.block k hk hne)⟩ : But b w0 u') (.inr (by simp; omega)) _
  · simp [World.setCell]; exact Nat.le_trans h.size hb.size

end Go.Proofs.Ytlkiacgpiodkiaa

set_option linter.unusedSimpArgs false
set_option linter.unusedVariables false
namespace Go.Proofs.Ytlkiacgpiodkiaa

variable {m n : Int} {xs : List P5}
theorem at_most (h : LayOk m n xs) {i j : Nat} (hi : i < xs.length) (hj : j < xs.length) {x y : Int} (a : Cov (pat xs i) x y) (b : Cov (pat xs j) x y) : i = j := by
  apply Classical.byContradiction
  intro hne
  exact lay_apart h hi hj hne (cov_hit a b)
theorem some_at (h : LayOk m n xs) {x y : Int} (x0 : 0 ≤ x) (x1 : x < m) (y0 : 0 ≤ y) (y1 : y < n) : ∃ k, k < xs.length ∧ Cov (pat xs k) x y := by
  obtain ⟨k, hk, hc⟩ := sm_ex (fun i _ => cv_01 (pat xs i) x.toNat y.toNat) (one_each h x.toNat y.toNat (by omega) (by omega))
  refine ⟨k, hk, ?_⟩
  have := cv_1.1 hc
  rwa [show ((x.toNat : Nat) : Int) = x by omega, show ((y.toNat : Nat) : Int) = y by omega] at this
theorem no_cut (hc : ∀ c, hasC m n xs c = false) {c : C2} (h0 : 0 < c.a) (h1 : c.a < endC m n c) (h : ∀ i, i < xs.length → thr c (pat xs i) = false) : False := by
  have := has_yes (m := m) (n := n) h0 h1 h
  rw [hc c] at this; cases this
theorem no_whole (h : LayOk m n xs) (hl : xs.length ≠ 1) {i : Nat} (hi : i < xs.length) (e0 : (pat xs i).x = 0) (e1 : (pat xs i).w = m) (e2 : (pat xs i).y = 0) (e3 : (pat xs i).h = n) : False := by
  obtain ⟨j, hj, hne⟩ : ∃ j, j < xs.length ∧ i ≠ j := by
    by_cases z : i = 0
    · exact ⟨1, by omega, by omega⟩
    · exact ⟨0, by omega, by omega⟩
  obtain ⟨⟨f00, f01⟩, ⟨f10, f11⟩, ⟨f20, f21⟩, ⟨f30, f31⟩, _⟩ := h.fit hj
  exact lay_apart h hi hj hne (by unfold Hit; omega)
theorem no_wide (h : LayOk m n xs) (hl : xs.length ≠ 1) (hc : ∀ c, hasC m n xs c = false) {i : Nat} (hi : i < xs.length) (e0 : (pat xs i).x = 0) (e1 : (pat xs i).w = m) : False := by
  obtain ⟨⟨f00, f01⟩, ⟨f10, f11⟩, ⟨f20, f21⟩, ⟨f30, f31⟩, _⟩ := h.fit hi
  have key : ∀ j, j < xs.length → j ≠ i → (pat xs j).y + (pat xs j).h ≤ (pat xs i).y ∨ (pat xs i).y + (pat xs i).h ≤ (pat xs j).y := fun j hj hne => by
    obtain ⟨⟨g00, g01⟩, ⟨g10, g11⟩, ⟨g20, g21⟩, ⟨g30, g31⟩, _⟩ := h.fit hj
    have := lay_apart h hi hj (Ne.symm hne)
    unfold Hit at this; omega
  by_cases z : 0 < (pat xs i).y
  · refine no_cut hc (c := ⟨false, (pat xs i).y⟩) (by show 0 < (pat xs i).y; omega) (by show (pat xs i).y < n; omega) (fun j hj => thr_f.2 ?_)
    by_cases e : j = i
    · subst e; omega
    · have := key j hj e; omega
  · by_cases z2 : (pat xs i).h < n
    · refine no_cut hc (c := ⟨false, (pat xs i).h⟩) (by show 0 < (pat xs i).h; omega) (by show (pat xs i).h < n; omega) (fun j hj => thr_f.2 ?_)
      by_cases e : j = i
      · subst e; omega
      · obtain ⟨⟨g00, g01⟩, ⟨g10, g11⟩, ⟨g20, g21⟩, ⟨g30, g31⟩, _⟩ := h.fit hj
        have := key j hj e; omega
    · exact no_whole h hl hi e0 e1 (by omega) (by omega)
theorem no_tall (h : LayOk m n xs) (hl : xs.length ≠ 1) (hc : ∀ c, hasC m n xs c = false) {i : Nat} (hi : i < xs.length) (e0 : (pat xs i).y = 0) (e1 : (pat xs i).h = n) : False := by
  obtain ⟨⟨f00, f01⟩, ⟨f10, f11⟩, ⟨f20, f21⟩, ⟨f30, f31⟩, _⟩ := h.fit hi
  have key : ∀ j, j < xs.length → j ≠ i → (pat xs j).x + (pat xs j).w ≤ (pat xs i).x ∨ (pat xs i).x + (pat xs i).w ≤ (pat xs j).x := fun j hj hne => by
    obtain ⟨⟨g00, g01⟩, ⟨g10, g11⟩, ⟨g20, g21⟩, ⟨g30, g31⟩, _⟩ := h.fit hj
    have := lay_apart h hi hj (Ne.symm hne)
    unfold Hit at this; omega
  by_cases z : 0 < (pat xs i).x
  · refine no_cut hc (c := ⟨true, (pat xs i).x⟩) (by show 0 < (pat xs i).x; omega) (by show (pat xs i).x < m; omega) (fun j hj => thr_t.2 ?_)
    by_cases e : j = i
    · subst e; omega
    · have := key j hj e; omega
  · by_cases z2 : (pat xs i).w < m
    · refine no_cut hc (c := ⟨true, (pat xs i).w⟩) (by show 0 < (pat xs i).w; omega) (by show (pat xs i).w < m; omega) (fun j hj => thr_t.2 ?_)
      by_cases e : j = i
      · subst e; omega
      · obtain ⟨⟨g00, g01⟩, ⟨g10, g11⟩, ⟨g20, g21⟩, ⟨g30, g31⟩, _⟩ := h.fit hj
        have := key j hj e; omega
    · exact no_whole h hl hi (by omega) (by omega) e0 e1
/-- A layout of several patches without cuts has five or more. -/
theorem five (h : LayOk m n xs) (hl : xs.length ≠ 1) (hc : ∀ c, hasC m n xs c = false) : 5 ≤ xs.length := by
  apply Classical.byContradiction
  intro h5
  have hm := h.1
  have hn := h.2.1
  obtain ⟨i, hi, ci⟩ := some_at h (x := 0) (y := 0) (by omega) (by omega) (by omega) (by omega)
  obtain ⟨j, hj, cj⟩ := some_at h (x := m - 1) (y := 0) (by omega) (by omega) (by omega) (by omega)
  obtain ⟨k, hk, ck⟩ := some_at h (x := 0) (y := n - 1) (by omega) (by omega) (by omega) (by omega)
  obtain ⟨l, hl', cl⟩ := some_at h (x := m - 1) (y := n - 1) (by omega) (by omega) (by omega) (by omega)
  have fi := h.fit hi
  have fj := h.fit hj
  have fk := h.fit hk
  have fl := h.fit hl'
  unfold Cov at ci cj ck cl
  unfold Fit at fi fj fk fl
  have nij : i ≠ j := by rintro rfl; exact no_wide h hl hc hi (by omega) (by omega)
  have nkl : k ≠ l := by rintro rfl; exact no_wide h hl hc hk (by omega) (by omega)
  have nik : i ≠ k := by rintro rfl; exact no_tall h hl hc hi (by omega) (by omega)
  have njl : j ≠ l := by rintro rfl; exact no_tall h hl hc hj (by omega) (by omega)
  have nil' : i ≠ l := by rintro rfl; exact no_wide h hl hc hi (by omega) (by omega)
  have njk : j ≠ k := by rintro rfl; exact no_wide h hl hc hj (by omega) (by omega)
  have all : ∀ q, q < xs.length → q = i ∨ q = j ∨ q = k ∨ q = l := fun q hq => by omega
  have wi : (pat xs i).w < m := by
    apply Classical.byContradiction; intro z
    exact no_wide h hl hc hi (by omega) (by omega)
  have hi2 : (pat xs i).h < n := by
    apply Classical.byContradiction; intro z
    exact no_tall h hl hc hi (by omega) (by omega)
  have wk : (pat xs k).w < m := by
    apply Classical.byContradiction; intro z
    exact no_wide h hl hc hk (by omega) (by omega)
  have hj2 : (pat xs j).h < n := by
    apply Classical.byContradiction; intro z
    exact no_tall h hl hc hj (by omega) (by omega)
  have aij := lay_apart h hi hj nij
  have aik := lay_apart h hi hk nik
  have ail := lay_apart h hi hl' nil'
  have ajk := lay_apart h hj hk njk
  have ajl := lay_apart h hj hl' njl
  have akl := lay_apart h hk hl' nkl
  unfold Hit at aij aik ail ajk ajl akl
  have e1 : (pat xs j).x = (pat xs i).w := by
    obtain ⟨q, hq, cq⟩ := some_at h (x := (pat xs i).w) (y := 0) (by omega) (by omega) (by omega) (by omega)
    unfold Cov at cq
    rcases all q hq with rfl | rfl | rfl | rfl <;> omega
  have e2 : (pat xs k).y = (pat xs i).h := by
    obtain ⟨q, hq, cq⟩ := some_at h (x := 0) (y := (pat xs i).h) (by omega) (by omega) (by omega) (by omega)
    unfold Cov at cq
    rcases all q hq with rfl | rfl | rfl | rfl <;> omega
  have e3 : (pat xs l).x = (pat xs k).w := by
    obtain ⟨q, hq, cq⟩ := some_at h (x := (pat xs k).w) (y := n - 1) (by omega) (by omega) (by omega) (by omega)
    unfold Cov at cq
    rcases all q hq with rfl | rfl | rfl | rfl <;> omega
  have e4 : (pat xs l).y = (pat xs j).h := by
    obtain ⟨q, hq, cq⟩ := some_at h (x := m - 1) (y := (pat xs j).h) (by omega) (by omega) (by omega) (by omega)
    unfold Cov at cq
    rcases all q hq with rfl | rfl | rfl | rfl <;> omega
  by_cases z1 : (pat xs i).w = (pat xs k).w
  · refine no_cut hc (c := ⟨true, (pat xs i).w⟩) (by show 0 < (pat xs i).w; omega) (by show (pat xs i).w < m; omega) (fun q hq => thr_t.2 ?_)
    rcases all q hq with rfl | rfl | rfl | rfl <;> omega
  · by_cases z2 : (pat xs i).h = (pat xs j).h
    · refine no_cut hc (c := ⟨false, (pat xs i).h⟩) (by show 0 < (pat xs i).h; omega) (by show (pat xs i).h < n; omega) (fun q hq => thr_f.2 ?_)
      rcases all q hq with rfl | rfl | rfl | rfl <;> omega
    · by_cases z3 : (pat xs k).w < (pat xs i).w
      · obtain ⟨q, hq, cq⟩ := some_at h (x := (pat xs k).w) (y := (pat xs i).h) (by omega) (by omega) (by omega) (by omega)
        unfold Cov at cq
        rcases all q hq with rfl | rfl | rfl | rfl <;> omega
      · obtain ⟨q, hq, cq⟩ := some_at h (x := (pat xs i).w) (y := (pat xs j).h) (by omega) (by omega) (by omega) (by omega)
        unfold Cov at cq
        rcases all q hq with rfl | rfl | rfl | rfl <;> omega
theorem cuts_none (h : LayOk m n xs) (hc : cutsL m n xs = []) : ∀ c, hasC m n xs c = false := fun c => by
  cases e : hasC m n xs c with
  | false => rfl
  | true => have := mem_cuts h.1.2 h.2.1.2 e; rw [hc] at this; cases this
/-- What is found is a knot. -/
theorem knot_is {q : Option (Int × Int × List P5)} (h : KnotIs m n xs q) : ∀ {M N : Int} {ys : List P5}, q = some (M, N, ys) → LayOk M N ys ∧ cutsL M N ys = [] ∧ 5 ≤ ys.length := by
  induction h with
  | one => intro M N ys e; cases e
  | knot h hl hc => intro M N ys e; cases e; exact ⟨h, hc, five h hl (cuts_none h hc)⟩
  | left h hl hc h1 ih => intro M N ys e; exact ih e
  | right h hl hc h1 h2 ih1 ih2 => intro M N ys e; exact ih2 e
theorem smp_knot : KnotIs 3 3 smpL (some (3, 3, smpL)) := .knot smp_ok (by decide) (by decide)
theorem smp_no : sewB 3 3 smpL = false := by
  cases e : sewB 3 3 smpL with
  | false => rfl
  | true => have := knot_of_sew smp_knot (sewB_iff.1 e); cases this

end Go.Proofs.Ytlkiacgpiodkiaa
