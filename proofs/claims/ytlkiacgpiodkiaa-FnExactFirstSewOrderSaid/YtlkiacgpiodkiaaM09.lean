/- Rows of cuts: what a slice of them holds. Cuts: the line, the parts, the knots; parts of valid layouts are valid; layouts that can be sewn can be cut anywhere; a knot has five patches. Joins: units, joins that fit, depths: the numbers. -/
import Derived.Test.YtlkiacgpiodkiaaRows
import Derived.Test.YtlkiacgpiodkiaaM00
import Derived.WalkKit
import Derived.Lib.Hide
import Derived.Test.YtlkiacgpiodkiaaM08
import Derived.Test.YtlkiacgpiodkiaaM07

set_option linter.unusedSimpArgs false
set_option linter.unusedVariables false
namespace Go.Proofs.Ytlkiacgpiodkiaa
open Go.ChangeShapes Go.WideShapes Go.ChangeAt Go.RowKit

structure C2 where
  up : Bool
  a : Int
theorem C2.ext' {x y : C2} (h0 : x.up = y.up) (h1 : x.a = y.a) : x = y := by cases x; cases y; simp_all
/-- As a value. -/
def C2.v (c : C2) : Value := .agg #[.bool c.up, .int .i64 c.a]
def C2.zero : C2 := ⟨false, 0⟩
/-- Its numbers are int64s. -/
def C2.Wf (c : C2) : Prop := (Lit.int .i64 c.a).wf = true
instance : Inhabited C2 := ⟨C2.zero⟩

/-- Element number i of a row at block g holds c. -/
def ElCut (w : World) (g i : Nat) (c : C2) : Prop :=
  w.cell? ⟨g, i * 2, none⟩ = some (.bool c.up) ∧ w.cell? ⟨g, i * 2 + 1, none⟩ = some (.int .i64 c.a)
def SoftCut (w : World) (g i : Nat) : Prop :=
  w.frozen? ⟨g, i * 2, none⟩ = false ∧ w.frozen? ⟨g, i * 2 + 1, none⟩ = false
theorem ElCut.lt {w : World} {g i : Nat} {c : C2} (h : ElCut w g i c) : g < w.heap.size := lt_of_cell h.1
theorem ElCut.below {w w' : World} {g i B : Nat} {c : C2} (h : ElCut w g i c) (hb : Below B w w') (hg : g < B) : ElCut w' g i c :=
  ⟨(hb.cell (p := ⟨g, i * 2, none⟩) hg).trans h.1, (hb.cell (p := ⟨g, i * 2 + 1, none⟩) hg).trans h.2⟩
theorem SoftCut.below {w w' : World} {g i B : Nat} (h : SoftCut w g i) (hb : Below B w w') (hg : g < B) : SoftCut w' g i :=
  ⟨(hb.frozen (p := ⟨g, i * 2, none⟩) hg).trans h.1, (hb.frozen (p := ⟨g, i * 2 + 1, none⟩) hg).trans h.2⟩

/-- A slice of them in a block from lo on, below hi. -/
def CutIn (lo hi : Nat) (w : World) (v : Value) (xs : List C2) : Prop :=
  xs.length ≤ 1048576 ∧ ((xs = [] ∧ ∃ a c, v = .slice a 0 c) ∨
    ∃ g cap, v = .slice (some ⟨g, 0, none⟩) xs.length cap ∧ xs.length ≤ cap ∧ lo ≤ g ∧ g < hi ∧ ∀ i, i < xs.length → ElCut w g i (xs.getD i C2.zero) ∧ SoftCut w g i)
theorem CutIn.below {lo hi : Nat} {w w' : World} {v : Value} {xs : List C2} (h : CutIn lo hi w v xs) (hb : Below hi w w') : CutIn lo hi w' v xs := by
  obtain ⟨hl, h | ⟨g, cap, hv, hcp, hg, hlt, hc⟩⟩ := h
  · exact ⟨hl, .inl h⟩
  · exact ⟨hl, .inr ⟨g, cap, hv, hcp, hg, hlt, fun i hi => ⟨(hc i hi).1.below hb hlt, (hc i hi).2.below hb hlt⟩⟩⟩
theorem CutIn.wide {lo hi lo' hi' : Nat} {w : World} {v : Value} {xs : List C2} (h : CutIn lo hi w v xs) (h1 : lo' ≤ lo) (h2 : hi ≤ hi') : CutIn lo' hi' w v xs := by
  obtain ⟨hl, h | ⟨g, cap, hv, hcp, hg, hlt, hc⟩⟩ := h
  · exact ⟨hl, .inl h⟩
  · exact ⟨hl, .inr ⟨g, cap, hv, hcp, by omega, by omega, hc⟩⟩
/-- Its shape. -/
theorem CutIn.form {lo hi : Nat} {w : World} {v : Value} {xs : List C2} (h : CutIn lo hi w v xs) : ∃ a cap, v = .slice a xs.length cap := by
  obtain ⟨_, ⟨rfl, a, c, hv⟩ | ⟨g, cap, hv, _⟩⟩ := h
  · exact ⟨a, c, hv⟩
  · exact ⟨_, _, hv⟩
/-- Element i, at a world in which only new blocks have come. -/
theorem CutIn.at {lo hi : Nat} {w w' : World} {a : Option Addr} {n cap : Nat} {xs : List C2} (h : CutIn lo hi w (.slice a n cap) xs) (hb : Below hi w w') {i : Nat} (hi' : i < xs.length) :
    ∃ g, a = some ⟨g, 0, none⟩ ∧ lo ≤ g ∧ g < hi ∧ ElCut w' g i (xs.getD i C2.zero) ∧ SoftCut w' g i := by
  obtain ⟨_, ⟨rfl, _⟩ | ⟨g, cap, hv, hcp, hg, hlt, hc⟩⟩ := h
  · simp at hi'
  · simp only [Value.slice.injEq] at hv
    exact ⟨g, hv.1, hg, hlt, (hc i hi').1.below hb hlt, (hc i hi').2.below hb hlt⟩
/-- It may be cut as far as it is long. -/
theorem CutIn.cap {lo hi : Nat} {w : World} {a : Option Addr} {n cap : Nat} {xs : List C2} (h : CutIn lo hi w (.slice a n cap) xs) : n ≤ cap := by
  obtain ⟨_, ⟨rfl, a', c', hv⟩ | ⟨g, cap', hv, hcp, _⟩⟩ := h
  · simp only [Value.slice.injEq] at hv; omega
  · simp only [Value.slice.injEq] at hv; omega
/-- Its first k elements. -/
theorem CutIn.take {lo hi g : Nat} {w : World} {n cap : Nat} {xs : List C2} (h : CutIn lo hi w (.slice (some ⟨g, 0, none⟩) n cap) xs) (k : Nat) (hk : k ≤ xs.length) : CutIn lo hi w (.slice (some ⟨g, 0, none⟩) k cap) (xs.take k) := by
  obtain ⟨hl, ⟨h, _⟩ | ⟨g', cap', hv, hcp, hg, hlt, hc⟩⟩ := h
  · subst h
    simp at hk
    subst hk
    exact ⟨by simp, .inl ⟨by simp, _, _, rfl⟩⟩
  · simp only [Value.slice.injEq, Option.some.injEq, Addr.mk.injEq, and_true] at hv
    obtain ⟨rfl, _, rfl⟩ := hv
    have e : (xs.take k).length = k := by simp; omega
    refine ⟨by omega, .inr ⟨g, cap, by rw [e], by omega, hg, hlt, fun i hi => ?_⟩⟩
    have := hc i (by omega)
    rwa [show (xs.take k).getD i C2.zero = xs.getD i C2.zero by simp [List.getD, show i < k by omega]]

end Go.Proofs.Ytlkiacgpiodkiaa

set_option linter.unusedSimpArgs false
set_option linter.unusedVariables false
namespace Go.Proofs.Ytlkiacgpiodkiaa

theorem sm_front (f : Nat → Int) : ∀ k : Nat, sm (k + 1) f = f 0 + sm k (fun i => f (i + 1))
  | 0 => by simp [sm]
  | k + 1 => by
    show sm (k + 1) f + f (k + 1) = f 0 + (sm k (fun i => f (i + 1)) + f (k + 1))
    rw [sm_front f k]; omega
theorem sm_list (f : P5 → Int) : ∀ xs : List P5, sm xs.length (fun i => f (pat xs i)) = (xs.map f).sum
  | [] => rfl
  | p :: r => by
    have := sm_list f r
    rw [List.length_cons, sm_front, List.map_cons, List.sum_cons, ← this]; rfl
def LayL (m n : Int) (xs : List P5) : Prop := (1 ≤ m ∧ m ≤ 12) ∧ (1 ≤ n ∧ n ≤ 12) ∧ (1 ≤ xs.length ∧ xs.length ≤ 12) ∧ (∀ p ∈ xs, Fit m n p) ∧ xs.Pairwise (fun p q => ¬ Hit q p) ∧ (xs.map fun p => p.w * p.h).sum = m * n
theorem pat_get {xs : List P5} {i : Nat} (h : i < xs.length) : pat xs i = xs[i] := by simp [pat, List.getD, h]
theorem lay_iff {m n : Int} {xs : List P5} : LayOk m n xs ↔ LayL m n xs := by
  unfold LayOk LayL
  rw [show ar xs xs.length = (xs.map fun p => p.w * p.h).sum from sm_list (fun p => p.w * p.h) xs]
  constructor
  · rintro ⟨a, b, c, d, e⟩
    refine ⟨a, b, c, fun p hp => ?_, ?_, e⟩
    · obtain ⟨i, hi, rfl⟩ := List.getElem_of_mem hp
      rw [← pat_get hi]; exact (d i hi).1
    · rw [List.pairwise_iff_getElem]
      intro i j hi hj hij
      rw [← pat_get hi, ← pat_get hj]
      exact (d j hj).2 i hij
  · rintro ⟨a, b, c, d, e, f⟩
    refine ⟨a, b, c, fun i hi => ⟨?_, fun j hj => ?_⟩, f⟩
    · rw [pat_get hi]; exact d _ (List.getElem_mem hi)
    · rw [List.pairwise_iff_getElem] at e
      have := e j i (by omega) hi hj
      rwa [pat_get hi, pat_get (show j < xs.length by omega)]
theorem LayOk.mem {m n : Int} {xs : List P5} (h : LayOk m n xs) {p : P5} (hp : p ∈ xs) : Fit m n p := (lay_iff.1 h).2.2.2.1 p hp

/-- The line of the cut goes through the patch. -/
def thr (c : C2) (p : P5) : Bool := if c.up then decide (p.x < c.a) && decide (c.a < p.x + p.w) else decide (p.y < c.a) && decide (c.a < p.y + p.h)
theorem thr_t {a : Int} {p : P5} : thr ⟨true, a⟩ p = false ↔ (a ≤ p.x ∨ p.x + p.w ≤ a) := by
  simp [thr]; omega
theorem thr_f {a : Int} {p : P5} : thr ⟨false, a⟩ p = false ↔ (a ≤ p.y ∨ p.y + p.h ≤ a) := by
  simp [thr]; omega
def endC (m n : Int) (c : C2) : Int := if c.up then m else n
def hasC (m n : Int) (xs : List P5) (c : C2) : Bool := decide (0 < c.a) && decide (c.a < endC m n c) && xs.all (fun p => !thr c p)
noncomputable def cutB (m n : Int) (xs : List P5) (c : C2) : Bool := layB m n xs && hasC m n xs c
theorem cut_no_lay {m n : Int} {xs : List P5} {c : C2} (h : layB m n xs = false) : false = cutB m n xs c := by simp [cutB, h]
theorem cut_lay {m n : Int} {xs : List P5} {c : C2} (h : layB m n xs = true) : hasC m n xs c = cutB m n xs c := by simp [cutB, h]
theorem has_no_lo {m n : Int} {xs : List P5} {c : C2} (h : c.a ≤ 0) : false = hasC m n xs c := by
  unfold hasC; rw [decide_eq_false (by omega)]; rfl
theorem has_no_hi {m n : Int} {xs : List P5} {c : C2} (h : endC m n c ≤ c.a) : false = hasC m n xs c := by
  unfold hasC; rw [decide_eq_false (p := c.a < endC m n c) (by omega)]; simp
theorem has_no_at {m n : Int} {xs : List P5} {c : C2} {i : Nat} (hi : i < xs.length) (h : thr c (pat xs i) = true) : false = hasC m n xs c := by
  have : xs.all (fun p => !thr c p) = false := by
    rw [List.all_eq_false]
    exact ⟨pat xs i, by rw [pat_get hi]; exact List.getElem_mem hi, by rw [h]; simp⟩
  unfold hasC; rw [this]; simp
theorem has_yes {m n : Int} {xs : List P5} {c : C2} (h0 : 0 < c.a) (h1 : c.a < endC m n c) (h : ∀ i, i < xs.length → thr c (pat xs i) = false) : true = hasC m n xs c := by
  have : xs.all (fun p => !thr c p) = true := by
    rw [List.all_eq_true]
    intro p hp
    obtain ⟨i, hi, rfl⟩ := List.getElem_of_mem hp
    rw [← pat_get hi, h i hi]; rfl
  unfold hasC; rw [this]; simp [h0, h1]
theorem has_iff {m n : Int} {xs : List P5} {c : C2} : hasC m n xs c = true ↔ 0 < c.a ∧ c.a < endC m n c ∧ ∀ p ∈ xs, thr c p = false := by
  simp [hasC, and_assoc]

/-- The candidates in their order, and those among the first k that are cuts. -/
def c24 (k : Nat) : C2 := ⟨decide (k < 12), ((k % 12 : Nat) : Int)⟩
def cutK (f : C2 → Bool) (k : Nat) : List C2 := ((List.range k).map c24).filter f
theorem cutK_yes {f : C2 → Bool} {k : Nat} (h : f (c24 k) = true) : cutK f (k + 1) = cutK f k ++ [c24 k] := by
  simp [cutK, List.range_succ, h]
theorem cutK_no {f : C2 → Bool} {k : Nat} (h : f (c24 k) = false) : cutK f (k + 1) = cutK f k := by
  simp [cutK, List.range_succ, h]
theorem cutK_len (f : C2 → Bool) (k : Nat) : (cutK f k).length ≤ k := by
  have := List.length_filter_le f ((List.range k).map c24)
  simpa [cutK] using this
def cutsL (m n : Int) (xs : List P5) : List C2 := cutK (hasC m n xs) 24
noncomputable def cutsB (m n : Int) (xs : List P5) : List C2 := if layB m n xs then cutsL m n xs else []
theorem cuts_no {m n : Int} {xs : List P5} (h : layB m n xs = false) : cutsB m n xs = [] := by simp [cutsB, h]
theorem cuts_yes {m n : Int} {xs : List P5} (h : layB m n xs = true) : cutsB m n xs = cutsL m n xs := by simp [cutsB, h]
theorem cuts_mem {m n : Int} {xs : List P5} {c : C2} (h : c ∈ cutsL m n xs) : hasC m n xs c = true := (List.mem_filter.1 h).2
theorem mem_cuts {m n : Int} {xs : List P5} {c : C2} (hm : m ≤ 12) (hn : n ≤ 12) (h : hasC m n xs c = true) : c ∈ cutsL m n xs := by
  refine List.mem_filter.2 ⟨?_, h⟩
  obtain ⟨h0, h1, _⟩ := has_iff.1 h
  obtain ⟨up, a⟩ := c
  cases up
  · simp only [endC, Bool.false_eq_true, if_false] at h0 h1
    refine List.mem_map.2 ⟨12 + a.toNat, by simp; omega, ?_⟩
    unfold c24
    congr 1
    · simp
    · omega
  · simp only [endC, if_true] at h0 h1
    refine List.mem_map.2 ⟨a.toNat, by simp; omega, ?_⟩
    unfold c24
    congr 1
    · simp; omega
    · omega
theorem cut_in {m n : Int} {xs : List P5} {c : C2} (h : hasC m n xs c = true) : 0 < c.a ∧ c.a < endC m n c := ⟨(has_iff.1 h).1, (has_iff.1 h).2.1⟩

/-- Moved; restricted to a rectangle. -/
def mv (x y : Int) (p : P5) : P5 := ⟨p.x - x, p.y - y, p.w, p.h, p.c⟩
instance (m n : Int) (p : P5) : Decidable (Fit m n p) := by unfold Fit; infer_instance
def fitB (m n : Int) (p : P5) : Bool := decide (Fit m n p)
def restr (x y w h : Int) (xs : List P5) : List P5 := (xs.map (mv x y)).filter (fitB w h)
/-- No patch lies on its border. -/
def Al (x y w h : Int) (xs : List P5) : Prop := ∀ p ∈ xs, Fit w h (mv x y p) ∨ ¬ (p.x < x + w ∧ x < p.x + p.w ∧ p.y < y + h ∧ y < p.y + p.h)
theorem sum_filter (f : P5 → Int) (g : P5 → Bool) : ∀ xs : List P5, ((xs.filter g).map f).sum = (xs.map fun p => if g p then f p else 0).sum
  | [] => rfl
  | p :: r => by
    have := sum_filter f g r
    by_cases h : g p
    · simp [h, this]
    · simp [h, this]
theorem restr_eq (x y w h : Int) (xs : List P5) : restr x y w h xs = (xs.filter fun p => fitB w h (mv x y p)).map (mv x y) := by
  unfold restr; rw [List.filter_map]; rfl
theorem mv_zero (p : P5) : mv 0 0 p = p := by unfold mv; simp
theorem cv_out {p : P5} {x y : Nat} (h : ¬ Cov p x y) : cv p x y = 0 := by
  rcases cv_01 p x y with z | z
  · exact z
  · exact absurd (cv_1.1 z) h
theorem area_in {m n x y w h : Int} {p : P5} (hf : Fit m n p) (hx : 0 ≤ x) (hy : 0 ≤ y) (ha : Fit w h (mv x y p) ∨ ¬ (p.x < x + w ∧ x < p.x + p.w ∧ p.y < y + h ∧ y < p.y + p.h)) (hw : 0 ≤ w) (hh : 0 ≤ h) :
    (if fitB w h (mv x y p) then p.w * p.h else 0) = sm h.toNat (fun j => sm w.toNat (fun i => cv p (x.toNat + i) (y.toNat + j))) := by
  rcases ha with ha | ha
  · rw [if_pos (by simp [fitB, ha])]
    obtain ⟨f0, f1, f2, f3, _⟩ := hf
    obtain ⟨a0, a1, a2, a3, _⟩ := ha
    simp only [mv] at a0 a1 a2 a3
    have e : ∀ i j : Nat, cv p (x.toNat + i) (y.toNat + j) = iv (p.x - x) p.w i * iv (p.y - y) p.h j := by
      intro i j
      unfold cv iv
      congr 1
      · congr 1; simp only [eq_iff_iff]; omega
      · congr 1; simp only [eq_iff_iff]; omega
    rw [sm_congr (g := fun j => p.w * iv (p.y - y) p.h j) (fun j _ => by
      rw [sm_congr (fun i _ => e i j), sm_mul_r, iv_len (by omega) (by omega) (by omega)])]
    rw [sm_mul, iv_len (by omega) (by omega) (by omega)]
  · rw [sm_congr (g := fun _ => 0) (fun j hj => by
      rw [sm_congr (g := fun _ => 0) (fun i hi => cv_out (by unfold Cov; omega)), sm_zero]), sm_zero]
    split
    · next z =>
      simp only [fitB, decide_eq_true_eq] at z
      obtain ⟨a0, a1, a2, a3, _⟩ := z
      simp only [mv] at a0 a1 a2 a3
      exfalso; apply ha; omega
    · rfl
theorem hit_mv {x y : Int} {p q : P5} : Hit (mv x y p) (mv x y q) ↔ Hit p q := by unfold Hit mv; simp only; omega
theorem lay_restr {m n x y w h : Int} {xs : List P5} (hl : LayOk m n xs) (hx : 0 ≤ x) (hw : 1 ≤ w) (hxw : x + w ≤ m) (hy : 0 ≤ y) (hh : 1 ≤ h) (hyh : y + h ≤ n) (ha : Al x y w h xs) : LayOk w h (restr x y w h xs) := by
  have hL := lay_iff.1 hl
  obtain ⟨a, b, c, d, e, f⟩ := hL
  have area : ((restr x y w h xs).map fun p => p.w * p.h).sum = w * h := by
    rw [restr_eq, List.map_map]
    show ((xs.filter fun p => fitB w h (mv x y p)).map fun p => p.w * p.h).sum = w * h
    rw [sum_filter, ← sm_list (fun p => if fitB w h (mv x y p) then p.w * p.h else 0)]
    rw [sm_congr (g := fun k => sm h.toNat (fun j => sm w.toNat (fun i => cv (pat xs k) (x.toNat + i) (y.toNat + j)))) (fun k hk => by
      have hm : pat xs k ∈ xs := by rw [pat_get hk]; exact List.getElem_mem hk
      exact area_in (d _ hm) hx hy (ha _ hm) (by omega) (by omega))]
    rw [sm_swap]
    rw [sm_congr (g := fun _ => w) (fun j hj => by
      rw [sm_swap, sm_congr (g := fun _ => 1) (fun i hi => one_each hl _ _ (by omega) (by omega)), sm_const]; omega)]
    rw [sm_const, Int.mul_comm, show ((h.toNat : Nat) : Int) = h by omega]
  refine lay_iff.2 ⟨by omega, by omega, ⟨?_, ?_⟩, ?_, ?_, area⟩
  · rcases Nat.eq_zero_or_pos (restr x y w h xs).length with z | z
    · exfalso
      rw [List.length_eq_zero_iff.1 z] at area
      have := mul_bd hw (show w ≤ 12 by omega) hh (show h ≤ 12 by omega)
      simp at area; omega
    · exact z
  · have := List.length_filter_le (fitB w h) (xs.map (mv x y))
    rw [List.length_map] at this
    unfold restr; omega
  · intro p hp
    have := (List.mem_filter.1 hp).2
    simpa [fitB] using this
  · unfold restr
    refine List.Pairwise.filter _ ?_
    rw [List.pairwise_map]
    exact e.imp (fun z k => z (hit_mv.1 k))

/-- Restricted twice. -/
theorem restr_restr {x y w h x' y' w' h' : Int} {xs : List P5} (hx : 0 ≤ x') (hxw : x' + w' ≤ w) (hy : 0 ≤ y') (hyh : y' + h' ≤ h) : restr x' y' w' h' (restr x y w h xs) = restr (x + x') (y + y') w' h' xs := by
  rw [restr_eq x' y', restr_eq x y, restr_eq (x + x') (y + y'), List.filter_map, List.filter_filter, List.map_map]
  have e : (mv x' y') ∘ (mv x y) = mv (x + x') (y + y') := by
    funext p; show mv x' y' (mv x y p) = _; unfold mv; congr 1 <;> simp only <;> omega
  rw [e]
  congr 1
  refine List.filter_congr (fun p _ => ?_)
  have e' : mv x' y' (mv x y p) = mv (x + x') (y + y') p := by rw [← e]; rfl
  show (fitB w' h' (mv x' y' (mv x y p)) && fitB w h (mv x y p)) = _
  rw [e']
  by_cases z : Fit w' h' (mv (x + x') (y + y') p)
  · have : Fit w h (mv x y p) := by
      obtain ⟨a0, a1, a2, a3, a4⟩ := z
      simp only [mv] at a0 a1 a2 a3 a4
      unfold Fit mv; simp only; omega
    simp [fitB, this]
  · simp [fitB, z]

/-- The parts of a cut. -/
def pM1 (m : Int) (c : C2) : Int := if c.up then c.a else m
def pN1 (n : Int) (c : C2) : Int := if c.up then n else c.a
def pM2 (m : Int) (c : C2) : Int := if c.up then m - c.a else m
def pN2 (n : Int) (c : C2) : Int := if c.up then n else n - c.a
def pX2 (c : C2) : Int := if c.up then c.a else 0
def pY2 (c : C2) : Int := if c.up then 0 else c.a
def pL1 (m n : Int) (c : C2) (xs : List P5) : List P5 := restr 0 0 (pM1 m c) (pN1 n c) xs
def pL2 (m n : Int) (c : C2) (xs : List P5) : List P5 := restr (pX2 c) (pY2 c) (pM2 m c) (pN2 n c) xs
variable {m n : Int} {xs : List P5} {c : C2}
theorem al1 (h : LayOk m n xs) (hc : hasC m n xs c = true) : Al 0 0 (pM1 m c) (pN1 n c) xs := by
  intro p hp
  obtain ⟨f0, f1, f2, f3, f4⟩ := h.mem hp
  obtain ⟨h0, h1, h2⟩ := has_iff.1 hc
  have h3 := h2 p hp
  obtain ⟨up, a⟩ := c
  cases up <;> simp [thr, endC, pM1, pN1, mv, Fit] at * <;> omega
theorem al2 (h : LayOk m n xs) (hc : hasC m n xs c = true) : Al (pX2 c) (pY2 c) (pM2 m c) (pN2 n c) xs := by
  intro p hp
  obtain ⟨f0, f1, f2, f3, f4⟩ := h.mem hp
  obtain ⟨h0, h1, h2⟩ := has_iff.1 hc
  have h3 := h2 p hp
  obtain ⟨up, a⟩ := c
  cases up <;> simp [thr, endC, pM2, pN2, pX2, pY2, mv, Fit] at * <;> omega
theorem lay1 (h : LayOk m n xs) (hc : hasC m n xs c = true) : LayOk (pM1 m c) (pN1 n c) (pL1 m n c xs) := by
  obtain ⟨h0, h1⟩ := cut_in hc
  have hm := h.1
  have hn := h.2.1
  have A := al1 h hc
  obtain ⟨up, a⟩ := c
  cases up <;> simp only [endC, if_true, if_false, Bool.false_eq_true] at h0 h1 <;> refine lay_restr h ?_ ?_ ?_ ?_ ?_ ?_ A <;> simp [pM1, pN1] <;> omega
theorem lay2 (h : LayOk m n xs) (hc : hasC m n xs c = true) : LayOk (pM2 m c) (pN2 n c) (pL2 m n c xs) := by
  obtain ⟨h0, h1⟩ := cut_in hc
  have hm := h.1
  have hn := h.2.1
  have A := al2 h hc
  obtain ⟨up, a⟩ := c
  cases up <;> simp only [endC, if_true, if_false, Bool.false_eq_true] at h0 h1 <;> refine lay_restr h ?_ ?_ ?_ ?_ ?_ ?_ A <;> simp [pM2, pN2, pX2, pY2] <;> omega
/-- It lies behind the line. -/
def sel2 (c : C2) (p : P5) : Bool := if c.up then decide (c.a ≤ p.x) else decide (c.a ≤ p.y)
theorem fit1_sel (h : LayOk m n xs) (hc : hasC m n xs c = true) {p : P5} (hp : p ∈ xs) : fitB (pM1 m c) (pN1 n c) (mv 0 0 p) = !sel2 c p := by
  obtain ⟨f0, f1, f2, f3, f4⟩ := h.mem hp
  obtain ⟨h0, h1, h2⟩ := has_iff.1 hc
  have h3 := h2 p hp
  rw [mv_zero]
  obtain ⟨up, a⟩ := c
  unfold fitB sel2
  rw [Bool.eq_iff_iff]
  cases up
  · rw [thr_f] at h3
    simp [endC, pM1, pN1, Fit] at *; omega
  · rw [thr_t] at h3
    simp [endC, pM1, pN1, Fit] at *; omega
theorem fit2_sel (h : LayOk m n xs) (hc : hasC m n xs c = true) {p : P5} (hp : p ∈ xs) : fitB (pM2 m c) (pN2 n c) (mv (pX2 c) (pY2 c) p) = sel2 c p := by
  obtain ⟨f0, f1, f2, f3, f4⟩ := h.mem hp
  obtain ⟨h0, h1, h2⟩ := has_iff.1 hc
  have h3 := h2 p hp
  obtain ⟨up, a⟩ := c
  unfold fitB sel2
  rw [Bool.eq_iff_iff]
  cases up
  · rw [thr_f] at h3
    simp [endC, pM2, pN2, pX2, pY2, Fit, mv] at *; omega
  · rw [thr_t] at h3
    simp [endC, pM2, pN2, pX2, pY2, Fit, mv] at *; omega
theorem pL1_sel (h : LayOk m n xs) (hc : hasC m n xs c = true) : pL1 m n c xs = xs.filter fun p => !sel2 c p := by
  unfold pL1
  rw [restr_eq, List.filter_congr (fun p hp => fit1_sel h hc hp)]
  rw [show mv 0 0 = id from funext mv_zero, List.map_id]
theorem pL2_sel (h : LayOk m n xs) (hc : hasC m n xs c = true) : pL2 m n c xs = (xs.filter (sel2 c)).map (mv (pX2 c) (pY2 c)) := by
  unfold pL2
  rw [restr_eq, List.filter_congr (fun p hp => fit2_sel h hc hp)]
theorem filter_both (g : P5 → Bool) : ∀ xs : List P5, (xs.filter fun p => !g p).length + (xs.filter g).length = xs.length
  | [] => rfl
  | p :: r => by
    have := filter_both g r
    by_cases h : g p <;> simp [h] <;> omega
theorem part_len (h : LayOk m n xs) (hc : hasC m n xs c = true) : (pL1 m n c xs).length + (pL2 m n c xs).length = xs.length := by
  rw [pL1_sel h hc, pL2_sel h hc, List.length_map]; exact filter_both _ _

/-- The knot that is found. -/
inductive KnotIs : Int → Int → List P5 → Option (Int × Int × List P5) → Prop
  | one {m n : Int} {xs : List P5} (h : LayOk m n xs) (hl : xs.length = 1) : KnotIs m n xs none
  | knot {m n : Int} {xs : List P5} (h : LayOk m n xs) (hl : xs.length ≠ 1) (hc : cutsL m n xs = []) : KnotIs m n xs (some (m, n, xs))
  | left {m n : Int} {xs : List P5} {c : C2} {r : List C2} {k : Int × Int × List P5} (h : LayOk m n xs) (hl : xs.length ≠ 1) (hc : cutsL m n xs = c :: r) (h1 : KnotIs (pM1 m c) (pN1 n c) (pL1 m n c xs) (some k)) : KnotIs m n xs (some k)
  | right {m n : Int} {xs : List P5} {c : C2} {r : List C2} {q : Option (Int × Int × List P5)} (h : LayOk m n xs) (hl : xs.length ≠ 1) (hc : cutsL m n xs = c :: r) (h1 : KnotIs (pM1 m c) (pN1 n c) (pL1 m n c xs) none) (h2 : KnotIs (pM2 m c) (pN2 n c) (pL2 m n c xs) q) : KnotIs m n xs q
theorem KnotIs.lay {r : Option (Int × Int × List P5)} (h : KnotIs m n xs r) : LayOk m n xs := by cases h <;> assumption
theorem first_cut {c : C2} {r : List C2} (hc : cutsL m n xs = c :: r) : hasC m n xs c = true := cuts_mem (by rw [hc]; simp)
theorem knot_ex : ∀ (k : Nat) (m n : Int) (xs : List P5), xs.length ≤ k → LayOk m n xs → ∃ r, KnotIs m n xs r
  | 0, m, n, xs, hk, h => by have := h.2.2.1; omega
  | k + 1, m, n, xs, hk, h => by
    by_cases hl : xs.length = 1
    · exact ⟨_, .one h hl⟩
    · cases hc : cutsL m n xs with
      | nil => exact ⟨_, .knot h hl hc⟩
      | cons c r =>
        have hh := first_cut hc
        have l1 := lay1 h hh
        have l2 := lay2 h hh
        have hs := part_len h hh
        have z1 := l1.2.2.1
        have z2 := l2.2.2.1
        obtain ⟨r1, k1⟩ := knot_ex k _ _ _ (by omega) l1
        obtain ⟨r2, k2⟩ := knot_ex k _ _ _ (by omega) l2
        cases r1 with
        | none => exact ⟨_, .right h hl hc k1 k2⟩
        | some q => exact ⟨_, .left h hl hc k1⟩
noncomputable def knotR (m n : Int) (xs : List P5) : Option (Int × Int × List P5) := Classical.epsilon (fun r => (LayOk m n xs → KnotIs m n xs r) ∧ (¬ LayOk m n xs → r = none))
theorem knotR_spec : (LayOk m n xs → KnotIs m n xs (knotR m n xs)) ∧ (¬ LayOk m n xs → knotR m n xs = none) := by
  refine Classical.epsilon_spec (p := fun r => (LayOk m n xs → KnotIs m n xs r) ∧ (¬ LayOk m n xs → r = none)) ?_
  by_cases h : LayOk m n xs
  · obtain ⟨r, hr⟩ := knot_ex _ m n xs (Nat.le_refl _) h
    exact ⟨r, fun _ => hr, fun k => absurd h k⟩
  · exact ⟨none, fun k => absurd k h, fun _ => rfl⟩
theorem knotR_is (h : layB m n xs = true) : KnotIs m n xs (knotR m n xs) := knotR_spec.1 (lay_of h)
theorem knotR_no (h : layB m n xs = false) : knotR m n xs = none := knotR_spec.2 (fun k => by rw [← lay_yes k] at h; cases h)
def kM : Option (Int × Int × List P5) → Int
  | none => 0
  | some k => k.1
def kN : Option (Int × Int × List P5) → Int
  | none => 0
  | some k => k.2.1
def kX : Option (Int × Int × List P5) → List P5
  | none => []
  | some k => k.2.2
/-- It can be sewn. -/
noncomputable def sewB (m n : Int) (xs : List P5) : Bool := layB m n xs && (knotR m n xs).isNone
noncomputable def seamsB (m n : Int) (xs : List P5) : Int := if sewB m n xs then (xs.length : Int) - 1 else -1
theorem sew_no_lay (h : layB m n xs = false) : false = sewB m n xs := by simp [sewB, h]
theorem sew_lay (h : layB m n xs = true) : (knotR m n xs).isNone = sewB m n xs := by simp [sewB, h]

/-- It can be sewn by some cuts. -/
inductive Sew : Int → Int → List P5 → Prop
  | one {m n : Int} {xs : List P5} (h : LayOk m n xs) (hl : xs.length = 1) : Sew m n xs
  | cut {m n : Int} {xs : List P5} {c : C2} (h : LayOk m n xs) (hc : hasC m n xs c = true) (h1 : Sew (pM1 m c) (pN1 n c) (pL1 m n c xs)) (h2 : Sew (pM2 m c) (pN2 n c) (pL2 m n c xs)) : Sew m n xs
/-- What a cut leaves of a rectangle. -/
theorem al_restr {x y w h x' y' w' h' : Int} (hA : Al (x + x') (y + y') w' h' xs) : Al x' y' w' h' (restr x y w h xs) := by
  intro p hp
  rw [restr_eq] at hp
  obtain ⟨q, hq, rfl⟩ := List.mem_map.1 hp
  have e' : mv x' y' (mv x y q) = mv (x + x') (y + y') q := by unfold mv; congr 1 <;> simp only <;> omega
  rw [e']
  rcases hA q (List.mem_filter.1 hq).1 with z | z
  · exact .inl z
  · refine .inr (fun k => z ?_)
    simp only [mv] at k; omega
theorem restr_one (hl : LayOk m n xs) (h1 : xs.length = 1) {x y w h : Int} (hx : 0 ≤ x) (hw : 1 ≤ w) (hxw : x + w ≤ m) (hy : 0 ≤ y) (hh : 1 ≤ h) (hyh : y + h ≤ n) (ha : Al x y w h xs) : (restr x y w h xs).length = 1 := by
  have h2 := (lay_restr hl hx hw hxw hy hh hyh ha).2.2.1.1
  have := List.length_filter_le (fitB w h) (xs.map (mv x y))
  rw [List.length_map] at this
  unfold restr at h2 ⊢; omega
theorem sew_restr {m n : Int} {xs : List P5} (hs : Sew m n xs) : ∀ {x y w h : Int}, 0 ≤ x → 1 ≤ w → x + w ≤ m → 0 ≤ y → 1 ≤ h → y + h ≤ n → Al x y w h xs → Sew w h (restr x y w h xs) := by
  induction hs with
  | one hl h1 => intro x y w h hx hw hxw hy hh hyh ha; exact .one (lay_restr hl hx hw hxw hy hh hyh ha) (restr_one hl h1 hx hw hxw hy hh hyh ha)
  | @cut m n xs c hl hc h1 h2 ih1 ih2 =>
    intro x y w h hx hw hxw hy hh hyh ha
    have L := lay_restr hl hx hw hxw hy hh hyh ha
    have A1 := al1 hl hc
    have A2 := al2 hl hc
    obtain ⟨c0, c1, c2⟩ := has_iff.1 hc
    obtain ⟨up, a⟩ := c
    cases up
    · simp only [endC, pM1, pN1, pM2, pN2, pX2, pY2, if_false, Bool.false_eq_true, pL1, pL2] at c0 c1 A1 A2 ih1 ih2
      by_cases z1 : y + h ≤ a
      · have := ih1 hx hw hxw hy hh z1 (al_restr (by simpa using ha))
        rwa [restr_restr hx hxw hy z1, Int.zero_add, Int.zero_add] at this
      · by_cases z2 : a ≤ y
        · have := ih2 (x := x) (y := y - a) hx hw hxw (by omega) hh (by omega) (al_restr (by rw [show a + (y - a) = y by omega]; simpa using ha))
          rwa [restr_restr hx hxw (by omega) (by omega), Int.zero_add, show a + (y - a) = y by omega] at this
        · refine .cut (c := ⟨false, a - y⟩) L (has_iff.2 ⟨by simp only; omega, by simp [endC]; omega, fun p hp => ?_⟩) ?_ ?_
          · rw [restr_eq] at hp
            obtain ⟨q, hq, rfl⟩ := List.mem_map.1 hp
            have := c2 q (List.mem_filter.1 hq).1
            rw [thr_f] at this ⊢
            simp only [mv]; omega
          · simp only [pM1, pN1, pL1, if_false, Bool.false_eq_true]
            have AA : Al x y w (a - y) xs := fun p hp => by
              have f := hl.mem hp
              have t := c2 p hp
              rcases ha p hp with z | z <;> simp [thr, Fit, mv] at * <;> omega
            have := ih1 (x := x) (y := y) (w := w) (h := a - y) hx hw hxw hy (by omega) (by omega) (al_restr (by simpa using AA))
            rw [restr_restr hx hxw hy (by omega)] at this
            rw [restr_restr (by omega) (by omega) (by omega) (by omega)]
            simpa using this
          · simp only [pM2, pN2, pX2, pY2, pL2, if_false, Bool.false_eq_true]
            have AA : Al x a w (h - (a - y)) xs := fun p hp => by
              have f := hl.mem hp
              have t := c2 p hp
              rcases ha p hp with z | z <;> simp [thr, Fit, mv] at * <;> omega
            have := ih2 (x := x) (y := 0) (w := w) (h := h - (a - y)) hx hw hxw (by omega) (by omega) (by omega) (al_restr (by simpa using AA))
            rw [restr_restr hx hxw (by omega) (by omega)] at this
            rw [restr_restr (by omega) (by omega) (by omega) (by omega), show y + (a - y) = a by omega]
            simpa using this
    · simp only [endC, pM1, pN1, pM2, pN2, pX2, pY2, if_true, pL1, pL2] at c0 c1 A1 A2 ih1 ih2
      by_cases z1 : x + w ≤ a
      · have := ih1 hx hw z1 hy hh hyh (al_restr (by simpa using ha))
        rwa [restr_restr hx z1 hy hyh, Int.zero_add, Int.zero_add] at this
      · by_cases z2 : a ≤ x
        · have := ih2 (x := x - a) (y := y) (by omega) hw (by omega) hy hh hyh (al_restr (by rw [show a + (x - a) = x by omega]; simpa using ha))
          rwa [restr_restr (by omega) (by omega) hy hyh, Int.zero_add, show a + (x - a) = x by omega] at this
        · refine .cut (c := ⟨true, a - x⟩) L (has_iff.2 ⟨by simp only; omega, by simp [endC]; omega, fun p hp => ?_⟩) ?_ ?_
          · rw [restr_eq] at hp
            obtain ⟨q, hq, rfl⟩ := List.mem_map.1 hp
            have := c2 q (List.mem_filter.1 hq).1
            rw [thr_t] at this ⊢
            simp only [mv]; omega
          · simp only [pM1, pN1, pL1, if_true]
            have AA : Al x y (a - x) h xs := fun p hp => by
              have f := hl.mem hp
              have t := c2 p hp
              rcases ha p hp with z | z <;> simp [thr, Fit, mv] at * <;> omega
            have := ih1 (x := x) (y := y) (w := a - x) (h := h) hx (by omega) (by omega) hy hh hyh (al_restr (by simpa using AA))
            rw [restr_restr hx (by omega) hy hyh] at this
            rw [restr_restr (by omega) (by omega) (by omega) (by omega)]
            simpa using this
          · simp only [pM2, pN2, pX2, pY2, pL2, if_true]
            have AA : Al a y (w - (a - x)) h xs := fun p hp => by
              have f := hl.mem hp
              have t := c2 p hp
              rcases ha p hp with z | z <;> simp [thr, Fit, mv] at * <;> omega
            have := ih2 (x := 0) (y := y) (w := w - (a - x)) (h := h) (by omega) (by omega) (by omega) hy hh hyh (al_restr (by simpa using AA))
            rw [restr_restr (by omega) (by omega) hy hyh] at this
            rw [restr_restr (by omega) (by omega) (by omega) (by omega), show x + (a - x) = a by omega]
            simpa using this
theorem sew1 (hs : Sew m n xs) (hl : LayOk m n xs) (hc : hasC m n xs c = true) : Sew (pM1 m c) (pN1 n c) (pL1 m n c xs) := by
  obtain ⟨h0, h1⟩ := cut_in hc
  have hm := hl.1
  have hn := hl.2.1
  have A := al1 hl hc
  obtain ⟨up, a⟩ := c
  cases up <;> simp only [endC, if_true, if_false, Bool.false_eq_true] at h0 h1 <;> refine sew_restr hs ?_ ?_ ?_ ?_ ?_ ?_ A <;> simp [pM1, pN1] <;> omega
theorem sew2 (hs : Sew m n xs) (hl : LayOk m n xs) (hc : hasC m n xs c = true) : Sew (pM2 m c) (pN2 n c) (pL2 m n c xs) := by
  obtain ⟨h0, h1⟩ := cut_in hc
  have hm := hl.1
  have hn := hl.2.1
  have A := al2 hl hc
  obtain ⟨up, a⟩ := c
  cases up <;> simp only [endC, if_true, if_false, Bool.false_eq_true] at h0 h1 <;> refine sew_restr hs ?_ ?_ ?_ ?_ ?_ ?_ A <;> simp [pM2, pN2, pX2, pY2] <;> omega
theorem sew_of_knot {r : Option (Int × Int × List P5)} (h : KnotIs m n xs r) : r = none → Sew m n xs := by
  induction h with
  | one h hl => exact fun _ => .one h hl
  | knot => intro e; cases e
  | left => intro e; cases e
  | right h hl hc h1 h2 i1 i2 => exact fun e => .cut h (first_cut hc) (i1 rfl) (i2 e)
theorem knot_of_sew {r : Option (Int × Int × List P5)} (h : KnotIs m n xs r) : Sew m n xs → r = none := by
  induction h with
  | one => exact fun _ => rfl
  | knot h hl hc =>
    intro s
    exfalso
    cases s with
    | one _ k => exact hl k
    | cut _ k => have := mem_cuts h.1.2 h.2.1.2 k; rw [hc] at this; cases this
  | left h hl hc h1 i1 => intro s; have := i1 (sew1 s h (first_cut hc)); cases this
  | right h hl hc h1 h2 i1 i2 => exact fun s => i2 (sew2 s h (first_cut hc))
theorem sewB_iff : sewB m n xs = true ↔ Sew m n xs := by
  unfold sewB
  constructor
  · intro h
    simp only [Bool.and_eq_true, Option.isNone_iff_eq_none] at h
    exact sew_of_knot (knotR_is h.1) h.2
  · intro s
    have hl : LayOk m n xs := by cases s <;> assumption
    have h := (lay_yes hl).symm
    rw [h, knot_of_sew (knotR_is h) s]; rfl
/-- Every cut of a layout leaves parts that can be sewn just if the layout can be sewn. -/
theorem sew_cut (hl : LayOk m n xs) (hc : hasC m n xs c = true) : (sewB (pM1 m c) (pN1 n c) (pL1 m n c xs) && sewB (pM2 m c) (pN2 n c) (pL2 m n c xs)) = sewB m n xs := by
  rw [Bool.eq_iff_iff, Bool.and_eq_true, sewB_iff, sewB_iff, sewB_iff]
  exact ⟨fun ⟨a, b⟩ => .cut hl hc a b, fun s => ⟨sew1 s hl hc, sew2 s hl hc⟩⟩
theorem sew_knot (hl : LayOk m n xs) : (knotR m n xs).isSome = !sewB m n xs := by
  unfold sewB; rw [← lay_yes hl]; cases knotR m n xs <;> rfl

end Go.Proofs.Ytlkiacgpiodkiaa

set_option linter.unusedSimpArgs false
set_option linter.unusedVariables false
namespace Go.Proofs.Ytlkiacgpiodkiaa

/-- A patch as a unit; a unit's rectangle; used. -/
def mkU (p : P5) : U6 := ⟨p.x, p.y, p.w, p.h, p.c, false⟩
def U6.p (u : U6) : P5 := ⟨u.x, u.y, u.w, u.h, u.c⟩
def U6.u (u : U6) : U6 := ⟨u.x, u.y, u.w, u.h, u.c, true⟩
theorem mkU_p (p : P5) : (mkU p).p = p := rfl
theorem U6.u_p (u : U6) : u.u.p = u.p := rfl
abbrev un (us : List U6) (i : Nat) : U6 := us.getD i U6.zero
abbrev jn (js : List J3) (i : Nat) : J3 := js.getD i J3.zero
theorem un_get {us : List U6} {i : Nat} (h : i < us.length) : un us i = us[i] := by simp [un, List.getD, h]
theorem jn_get {js : List J3} {i : Nat} (h : i < js.length) : jn js i = js[i] := by simp [jn, List.getD, h]
/-- A whole side in common, the first one on the left or above. -/
def Side (up : Bool) (a b : P5) : Prop := if up then a.x + a.w = b.x ∧ a.y = b.y ∧ a.h = b.h else a.y + a.h = b.y ∧ a.x = b.x ∧ a.w = b.w
instance (up : Bool) (a b : P5) : Decidable (Side up a b) := by unfold Side; infer_instance
def sewP (up : Bool) (a b : P5) : P5 := if up then ⟨a.x, a.y, a.w + b.w, a.h, a.c⟩ else ⟨a.x, a.y, a.w, a.h + b.h, a.c⟩
/-- It is one of the first k. -/
def InU (k : Nat) (a : Int) : Prop := 0 ≤ a ∧ a < k
instance (k : Nat) (a : Int) : Decidable (InU k a) := by unfold InU; infer_instance
def FitJ (us : List U6) (j : J3) : Prop := InU us.length j.a ∧ InU us.length j.b ∧ j.a ≠ j.b ∧ (un us j.a.toNat).j = false ∧ (un us j.b.toNat).j = false ∧ Side j.up (un us j.a.toNat).p (un us j.b.toNat).p
instance (us : List U6) (j : J3) : Decidable (FitJ us j) := by unfold FitJ; infer_instance
def useJ (us : List U6) (j : J3) : List U6 := (us.set j.a.toNat (un us j.a.toNat).u).set j.b.toNat (un us j.b.toNat).u
def putJ (us : List U6) (j : J3) : List U6 := useJ us j ++ [mkU (sewP j.up (un us j.a.toNat).p (un us j.b.toNat).p)]
/-- The units, as far as the joins are valid. -/
def unF : List U6 → List J3 → List U6
  | us, [] => us
  | us, j :: r => if FitJ us j then unF (putJ us j) r else us
theorem drop_jn {js : List J3} {k : Nat} (h : k < js.length) : js.drop k = jn js k :: js.drop (k + 1) := by
  rw [jn_get h]; exact List.drop_eq_getElem_cons h
theorem unF_yes {us U : List U6} {js : List J3} {k : Nat} (hk : k < js.length) (h : unF us (js.drop k) = U) (hf : FitJ us (jn js k)) : unF (putJ us (jn js k)) (js.drop (k + 1)) = U := by
  rw [drop_jn hk, unF, if_pos hf] at h; exact h
theorem unF_no {us U : List U6} {js : List J3} {k : Nat} (hk : k < js.length) (h : unF us (js.drop k) = U) (hf : ¬ FitJ us (jn js k)) : us = U := by
  rw [drop_jn hk, unF, if_neg hf] at h; exact h
theorem unF_all {us U : List U6} {js : List J3} (h : unF us (js.drop js.length) = U) : us = U := by
  rw [List.drop_length] at h; exact h
theorem useJ_len (us : List U6) (j : J3) : (useJ us j).length = us.length := by simp [useJ]
theorem putJ_len (us : List U6) (j : J3) : (putJ us j).length = us.length + 1 := by simp [putJ, useJ]

/-- How many are not used. -/
def cnU (us : List U6) : Nat := (us.filter fun u => !u.j).length
theorem cnU_set : ∀ (us : List U6) (i : Nat) (x : U6), i < us.length → (un us i).j = false → x.j = true → cnU (us.set i x) + 1 = cnU us
  | [], i, _, h, _, _ => by simp at h
  | u :: r, 0, x, _, h, hx => by
    have h' : u.j = false := h
    simp [cnU, h', hx]
  | u :: r, i + 1, x, hi, h, hx => by
    have ih := cnU_set r i x (by simpa using hi) (by simpa [un] using h) hx
    by_cases z : u.j
    · simpa [cnU, z] using ih
    · simp only [cnU, List.set_cons_succ, List.filter_cons] at ih ⊢
      simp [z]; omega
theorem cnU_put {us : List U6} {j : J3} (h : FitJ us j) : cnU (putJ us j) + 1 = cnU us := by
  obtain ⟨⟨a0, a1⟩, ⟨b0, b1⟩, hne, ha, hb, _⟩ := h
  have h1 := cnU_set us j.a.toNat (un us j.a.toNat).u (by omega) ha rfl
  have e : un (us.set j.a.toNat (un us j.a.toNat).u) j.b.toNat = un us j.b.toNat := by
    unfold un; rw [List.getD_eq_getElem?_getD, List.getElem?_set_ne (by omega), ← List.getD_eq_getElem?_getD]
  have h2 := cnU_set (us.set j.a.toNat (un us j.a.toNat).u) j.b.toNat (un us j.b.toNat).u (by simp; omega) (by rw [e]; exact hb) rfl
  have h3 : cnU (putJ us j) = cnU (useJ us j) + 1 := by simp [cnU, putJ, mkU]
  rw [h3]; unfold useJ; omega
/-- What stays: all lie within the layout; the unused ones are counted. -/
def UOk (m n : Int) (N : Nat) (us : List U6) : Prop := (∀ i, i < us.length → Fit m n (un us i).p) ∧ cnU us + us.length = 2 * N ∧ N ≤ us.length
theorem UOk.le {m n : Int} {N : Nat} {us : List U6} (h : UOk m n N us) (hN : N ≤ 12) : us.length ≤ 24 := by have := h.2.1; omega
theorem UOk.start {m n : Int} {xs : List P5} (h : LayOk m n xs) : UOk m n xs.length (xs.map mkU) := by
  refine ⟨fun i hi => ?_, ?_, by simp⟩
  · rw [List.length_map] at hi
    rw [un_get (by simpa using hi), List.getElem_map, mkU_p, ← pat_get hi]; exact h.fit hi
  · have : (xs.map mkU).filter (fun u => !u.j) = xs.map mkU := List.filter_eq_self.2 (fun u hu => by
      obtain ⟨p, _, rfl⟩ := List.mem_map.1 hu; rfl)
    unfold cnU; rw [this, List.length_map]; omega
theorem un_set {us : List U6} {i k : Nat} {x : U6} (hk : k < us.length) : un (us.set k x) i = if k = i then x else un us i := by
  unfold un; rw [List.getD_eq_getElem?_getD, List.getElem?_set]
  by_cases e : k = i
  · subst e; simp [hk]
  · simp [e, List.getD_eq_getElem?_getD]
theorem un_use {us : List U6} {j : J3} (h : FitJ us j) (i : Nat) : un (useJ us j) i = if j.b.toNat = i ∨ j.a.toNat = i then (un us i).u else un us i := by
  obtain ⟨⟨a0, a1⟩, ⟨b0, b1⟩, _⟩ := h
  unfold useJ
  rw [un_set (by simp; omega), un_set (by omega)]
  by_cases e : j.b.toNat = i
  · simp [e]
  · by_cases e2 : j.a.toNat = i
    · simp [e, e2]
    · simp [e, e2]
theorem un_old {us vs : List U6} {i : Nat} (hi : i < us.length) : un (us ++ vs) i = un us i := by
  unfold un; rw [List.getD_eq_getElem?_getD, List.getElem?_append_left hi, ← List.getD_eq_getElem?_getD]
theorem un_last (us : List U6) (u : U6) : un (us ++ [u]) us.length = u := by simp [un]
theorem un_put {us : List U6} {j : J3} (h : FitJ us j) {i : Nat} (hi : i < us.length) : un (putJ us j) i = if j.b.toNat = i ∨ j.a.toNat = i then (un us i).u else un us i := by
  unfold putJ; rw [un_old (by rw [useJ_len]; exact hi), un_use h]
theorem un_new (us : List U6) (j : J3) : un (putJ us j) us.length = mkU (sewP j.up (un us j.a.toNat).p (un us j.b.toNat).p) := by
  have := un_last (useJ us j) (mkU (sewP j.up (un us j.a.toNat).p (un us j.b.toNat).p))
  rwa [useJ_len] at this
theorem p_put {us : List U6} {j : J3} (h : FitJ us j) {i : Nat} (hi : i < us.length) : (un (putJ us j) i).p = (un us i).p := by
  rw [un_put h hi]; split <;> rfl
theorem sew_fit {m n : Int} {up : Bool} {a b : P5} (ha : Fit m n a) (hb : Fit m n b) (h : Side up a b) : Fit m n (sewP up a b) := by
  obtain ⟨a0, a1, a2, a3, a4⟩ := ha
  obtain ⟨b0, b1, b2, b3, b4⟩ := hb
  cases up <;> simp only [Side, sewP, if_true, if_false, Bool.false_eq_true] at h ⊢ <;> refine ⟨?_, ?_, ?_, ?_, a4⟩ <;> simp only <;> omega
theorem UOk.put {m n : Int} {N : Nat} {us : List U6} {j : J3} (h : UOk m n N us) (hf : FitJ us j) : UOk m n N (putJ us j) := by
  obtain ⟨h1, h2, h3⟩ := h
  have hc := cnU_put hf
  refine ⟨fun i hi => ?_, by rw [putJ_len]; omega, by rw [putJ_len]; omega⟩
  rw [putJ_len] at hi
  by_cases e : i < us.length
  · rw [p_put hf e]; exact h1 i e
  · obtain rfl : i = us.length := by omega
    rw [un_new, mkU_p]
    obtain ⟨⟨a0, a1⟩, ⟨b0, b1⟩, _, _, _, hs⟩ := hf
    exact sew_fit (h1 _ (by omega)) (h1 _ (by omega)) hs

/-- The units of a layout. -/
noncomputable def unL (m n : Int) (xs : List P5) (js : List J3) : List U6 := if layB m n xs then unF (xs.map mkU) js else []
theorem unL_no {m n : Int} {xs : List P5} {js : List J3} (h : layB m n xs = false) : unL m n xs js = [] := by simp [unL, h]
theorem unL_yes {m n : Int} {xs : List P5} {js : List J3} (h : layB m n xs = true) : unL m n xs js = unF (xs.map mkU) js := by simp [unL, h]
theorem unF_ok {m n : Int} {N : Nat} : ∀ (js : List J3) (us : List U6), UOk m n N us → UOk m n N (unF us js)
  | [], us, h => h
  | j :: r, us, h => by
    unfold unF; split
    · next hf => exact unF_ok r _ (h.put hf)
    · exact h
theorem unF_len : ∀ (js : List J3) (us : List U6), us.length ≤ (unF us js).length ∧ (unF us js).length ≤ us.length + js.length
  | [], us => by simp [unF]
  | j :: r, us => by
    unfold unF; split
    · have := unF_len r (putJ us j)
      rw [putJ_len] at this
      simp; omega
    · simp
theorem unL_len {m n : Int} {xs : List P5} {js : List J3} : (unL m n xs js).length ≤ 24 := by
  by_cases h : layB m n xs = true
  · rw [unL_yes h]
    have hl := lay_of h
    exact (unF_ok js _ (UOk.start hl)).le hl.2.2.1.2
  · rw [unL_no (by simpa using h)]; simp
theorem unL_fit {m n : Int} {xs : List P5} {js : List J3} {i : Nat} (hi : i < (unL m n xs js).length) : Fit m n (un (unL m n xs js) i).p := by
  by_cases h : layB m n xs = true
  · rw [unL_yes h] at hi ⊢
    exact (unF_ok js _ (UOk.start (lay_of h))).1 i hi
  · rw [unL_no (by simpa using h)] at hi; simp at hi
/-- What UnitBox answers. -/
noncomputable def boxP (m n : Int) (xs : List P5) (js : List J3) (u : Int) : P5 := if InU (unL m n xs js).length u then (un (unL m n xs js) u.toNat).p else P5.zero
noncomputable def boxB (m n : Int) (xs : List P5) (js : List J3) (u : Int) : Bool := decide (InU (unL m n xs js).length u)
/-- They are joins. -/
noncomputable def areJ (m n : Int) (xs : List P5) (js : List J3) : Bool := layB m n xs && ((js.length : Int) == (xs.length : Int) - 1) && (((unL m n xs js).length : Int) == (xs.length : Int) + js.length)
theorem are_lay {m n : Int} {xs : List P5} {js : List J3} (h : areJ m n xs js = true) : layB m n xs = true := by
  simp only [areJ, Bool.and_eq_true] at h; exact h.1.1
theorem are_len {m n : Int} {xs : List P5} {js : List J3} (h : areJ m n xs js = true) : js.length + 1 = xs.length ∧ (unL m n xs js).length = xs.length + js.length := by
  simp only [areJ, Bool.and_eq_true, beq_iff_eq] at h; omega
theorem unF_in : ∀ (js : List J3) (us : List U6), (unF us js).length = us.length + js.length → ∀ j ∈ js, InU (unF us js).length j.a
  | [], _, _, j, h => by simp at h
  | i :: r, us, h, j, hj => by
    unfold unF at h ⊢
    by_cases hf : FitJ us i
    · rw [if_pos hf] at h ⊢
      have hl := unF_len r (putJ us i)
      rw [putJ_len] at hl
      rcases List.mem_cons.1 hj with rfl | hj
      · obtain ⟨⟨a0, a1⟩, _⟩ := hf
        exact ⟨a0, by omega⟩
      · exact unF_in r _ (by rw [h, putJ_len]; simp; omega) j hj
    · rw [if_neg hf] at h; simp at h
theorem are_in {m n : Int} {xs : List P5} {js : List J3} (h : areJ m n xs js = true) {k : Nat} (hk : k < js.length) : InU (unL m n xs js).length (jn js k).a := by
  have h2 := are_len h
  rw [unL_yes (are_lay h)] at h2 ⊢
  exact unF_in js _ (by rw [h2.2]; simp) _ (by rw [jn_get hk]; exact List.getElem_mem hk)
/-- The length of a seam; the longest one. -/
def lenJ (us : List U6) (j : J3) : Int := if j.up then (un us j.a.toNat).h else (un us j.a.toNat).w
def lonK (us : List U6) (js : List J3) : Nat → Int
  | 0 => 0
  | k + 1 => max (lonK us js k) (lenJ us (jn js k))
noncomputable def lonJ (m n : Int) (xs : List P5) (js : List J3) : Int := if areJ m n xs js then lonK (unL m n xs js) js js.length else -1
theorem lon_no {m n : Int} {xs : List P5} {js : List J3} (h : areJ m n xs js = false) : -1 = lonJ m n xs js := by simp [lonJ, h]
theorem lon_yes {m n : Int} {xs : List P5} {js : List J3} (h : areJ m n xs js = true) : lonK (unL m n xs js) js js.length = lonJ m n xs js := by simp [lonJ, h]

/-- Depths. -/
abbrev dp (ds : List Int) (i : Nat) : Int := ds.getD i 0
def DpOk (ds : List Int) (j : J3) : Prop := InU ds.length j.a ∧ InU ds.length j.b
instance (ds : List Int) (j : J3) : Decidable (DpOk ds j) := by unfold DpOk; infer_instance
def dpJ (ds : List Int) (j : J3) : Int := 1 + max (dp ds j.a.toNat) (dp ds j.b.toNat)
def dpF : List Int → List J3 → Int
  | ds, [] => dp ds (ds.length - 1)
  | ds, j :: r => if DpOk ds j then dpF (ds ++ [dpJ ds j]) r else -1
def depJ (js : List J3) (n : Int) : Int := if (1 ≤ n ∧ n ≤ 12) ∧ (js.length : Int) = n - 1 then dpF (List.replicate n.toNat 0) js else -1
theorem dpF_yes {ds : List Int} {d : Int} {js : List J3} {k : Nat} (hk : k < js.length) (h : dpF ds (js.drop k) = d) (hf : DpOk ds (jn js k)) : dpF (ds ++ [dpJ ds (jn js k)]) (js.drop (k + 1)) = d := by
  rw [drop_jn hk, dpF, if_pos hf] at h; exact h
theorem dpF_no {ds : List Int} {d : Int} {js : List J3} {k : Nat} (hk : k < js.length) (h : dpF ds (js.drop k) = d) (hf : ¬ DpOk ds (jn js k)) : -1 = d := by
  rw [drop_jn hk, dpF, if_neg hf] at h; exact h
theorem dpF_all {ds : List Int} {d : Int} {js : List J3} (h : dpF ds (js.drop js.length) = d) : dp ds (ds.length - 1) = d := by
  rw [List.drop_length] at h; exact h
/-- All depths are small. -/
def DpB (k : Nat) (ds : List Int) : Prop := ∀ i, 0 ≤ dp ds i ∧ dp ds i ≤ k
theorem DpB.start (n : Nat) : DpB 0 (List.replicate n 0) := fun i => by
  have : dp (List.replicate n (0 : Int)) i = 0 := by
    unfold dp; rw [List.getD_eq_getElem?_getD, List.getElem?_replicate]; split <;> rfl
  rw [this]; omega
theorem DpB.put {k : Nat} {ds : List Int} (h : DpB k ds) (j : J3) : DpB (k + 1) (ds ++ [dpJ ds j]) := fun i => by
  have ha := h j.a.toNat
  have hb := h j.b.toNat
  have hi := h i
  rcases Nat.lt_trichotomy i ds.length with e | e | e
  · have : dp (ds ++ [dpJ ds j]) i = dp ds i := by
      unfold dp; rw [List.getD_eq_getElem?_getD, List.getElem?_append_left e, ← List.getD_eq_getElem?_getD]
    rw [this]; omega
  · subst e
    have : dp (ds ++ [dpJ ds j]) ds.length = dpJ ds j := by simp [dp]
    rw [this]; unfold dpJ; omega
  · have : dp (ds ++ [dpJ ds j]) i = 0 := by
      unfold dp; rw [List.getD_eq_getElem?_getD, List.getElem?_eq_none (by simp; omega)]; rfl
    rw [this]; omega

end Go.Proofs.Ytlkiacgpiodkiaa
