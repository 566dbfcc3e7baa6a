/- Blocks: the model's WithCell. Cells: the model's WholeCell. Blocks: the model's PlainBlock. Blocks: the model's StarBlock. -/
import Derived.Test.YtfidnhhlcdbaeaaDoorM03
import Derived.Test.YtfidnhhlcdbaeaaDoorM00
import Derived.Deep.RegionLaw
import Derived.Test.YtfidnhhlcdbaeaaDoorM01

namespace Go.Proofs.YtfidnhhlcdbaeaaDoor
open Go.ChangeShapes Go.WideShapes Go.ChangeAt Go.RowKit

theorem SpecOk_yes (s a b : Int) (w : World) (k : OkC s a b) :
    Calls Tryd.prog 45 #[.agg #[.int .i64 s, .int .i64 a, .int .i64 b]] w fun e w' => e = .returned (.bool true) ∧ Below w.heap.size w w' := by
  refine (SpecOk_any s a b w).mono ?_
  rintro e w' ⟨rfl, rfl⟩
  exact ⟨ret_bool (decide_eq_true k), bel0 _ _⟩
theorem SpecOk_no (s a b : Int) (w : World) (k : ¬ OkC s a b) :
    Calls Tryd.prog 45 #[.agg #[.int .i64 s, .int .i64 a, .int .i64 b]] w fun e w' => e = .returned (.bool false) ∧ Below w.heap.size w w' := by
  refine (SpecOk_any s a b w).mono ?_
  rintro e w' ⟨rfl, rfl⟩
  exact ⟨ret_bool (decide_eq_false k), bel0 _ _⟩

/-- A new block and a truth value are handed back. -/
def FreshBB (n : Int) (ys : List C3) (ok : Bool) (w : World) (e : Ending) (w' : World) : Prop := ∃ v, e = .returned (.tuple #[.agg #[.int .i64 n, v], .bool ok]) ∧ CellIn w.heap.size w'.heap.size w' v ys ∧ Below w.heap.size w w'
/-- What WithCell makes. -/
noncomputable def withC (n : Int) (xs : List C3) (x y : Int) (c : C3) : List C3 := @ite _ (BlkOk n xs ∧ c.Ok ∧ InB n x y) (Classical.propDecidable _) (xs.set (y * n + x).toNat c) xs
noncomputable def withB (n : Int) (xs : List C3) (x y : Int) (c : C3) : Bool := @decide (BlkOk n xs ∧ c.Ok ∧ InB n x y) (Classical.propDecidable _)
theorem with_yes {n : Int} {xs : List C3} {x y : Int} {c : C3} (h : BlkOk n xs ∧ c.Ok ∧ InB n x y) : withC n xs x y c = xs.set (y * n + x).toNat c ∧ withB n xs x y c = true := ⟨if_pos h, by unfold withB; simp [h]⟩
theorem with_no {n : Int} {xs : List C3} {x y : Int} {c : C3} (h : ¬ (BlkOk n xs ∧ c.Ok ∧ InB n x y)) : withC n xs x y c = xs ∧ withB n xs x y c = false := ⟨if_neg h, by unfold withB; simp [h]⟩

/-- What the walk keeps in view: the argument's box, the cell's, the answer's, the copy's. -/
def SW (p q : Nat) (n s a b : Int) (sl cp : Value) (u : World) : Prop :=
  u.cell? ⟨p, 0, none⟩ = some (.int .i64 n) ∧ u.cell? ⟨p, 1, none⟩ = some sl ∧
  u.cell? ⟨p + 1, 0, none⟩ = some (.int .i64 s) ∧ u.cell? ⟨p + 1, 1, none⟩ = some (.int .i64 a) ∧ u.cell? ⟨p + 1, 2, none⟩ = some (.int .i64 b) ∧
  u.cell? ⟨p + 1 + 1, 0, none⟩ = some (.int .i64 0) ∧ u.cell? ⟨p + 1 + 1, 1, none⟩ = some (.slice none 0 0) ∧ u.frozen? ⟨p + 1 + 1, 0, none⟩ = false ∧ u.frozen? ⟨p + 1 + 1, 1, none⟩ = false ∧
  u.cell? ⟨q, 0, none⟩ = some (.int .i64 n) ∧ u.cell? ⟨q, 1, none⟩ = some cp
theorem SW.keep {p q : Nat} {n s a b : Int} {sl cp : Value} {u v : World} (h : SW p q n s a b sl cp u) (hb : Below u.heap.size u v) : SW p q n s a b sl cp v := by
  obtain ⟨h0, h1, h2, h3, h4, h5, h6, f5, f6, h7, h8⟩ := h
  exact ⟨kept hb h0, kept hb h1, kept hb h2, kept hb h3, kept hb h4, kept hb h5, kept hb h6, keptF hb h5 f5, keptF hb h6 f6, kept hb h7, kept hb h8⟩

end Go.Proofs.YtfidnhhlcdbaeaaDoor

namespace Go.Proofs.YtfidnhhlcdbaeaaDoor
open Go.ChangeShapes Go.WideShapes Go.ChangeAt Go.RowKit

/-- The color of a whole cell. -/
def wh (a : Int) : Int := if 0 ≤ a ∧ a ≤ 5 then a else 0
theorem wh_yes {a : Int} (h : 0 ≤ a ∧ a ≤ 5) : wh a = a := if_pos h
theorem wh_no {a : Int} (h : ¬ (0 ≤ a ∧ a ≤ 5)) : wh a = 0 := if_neg h

theorem SpecWhole_any (a : Int) (w : World) :
    Calls Tryd.prog 107 #[.int .i64 a] w fun e w' => e = .returned (.agg #[.int .i64 0, .int .i64 (wh a), .int .i64 (wh a)]) ∧ w' = w.alloc (.cells #[.int .i64 0, .int .i64 (wh a), .int .i64 (wh a)] 53) := by
  by_cases h : 0 ≤ a ∧ a ≤ 5
  · rw [wh_yes h]
    obtain ⟨a0, a1⟩ := h
    go_enter Tryd.func107, Tryd.ntmps107
    go_wp2_with (refine (In_yes _ _ _ _ (by assumption) (by assumption)).mono ?_; rintro e w' ⟨rfl, rfl⟩)
    exact bodyPost_ret (v := .agg #[.int .i64 0, .int .i64 a, .int .i64 a]) (by simp [results, Tryd.results107, go_sem]) rfl ⟨rfl, rfl⟩
  · rw [wh_no h]
    have h' : a < 0 ∨ 5 < a := by omega
    clear h
    go_enter Tryd.func107, Tryd.ntmps107
    go_wp2_with (refine (In_no _ _ _ _ (by assumption)).mono ?_; rintro e w' ⟨rfl, rfl⟩)
    exact bodyPost_ret (v := .agg #[.int .i64 0, .int .i64 0, .int .i64 0]) (by simp [results, Tryd.results107, go_sem]) rfl ⟨rfl, rfl⟩

end Go.Proofs.YtfidnhhlcdbaeaaDoor

namespace Go.Proofs.YtfidnhhlcdbaeaaDoor
open Go.ChangeShapes Go.WideShapes Go.ChangeAt Go.RowKit

def PlOk (n a : Int) : Prop := (1 ≤ n ∧ n ≤ 4) ∧ 0 ≤ a ∧ a ≤ 5
noncomputable def plN (n a : Int) : Int := @ite _ (PlOk n a) (Classical.propDecidable _) n 0
noncomputable def plC (n a : Int) : List C3 := @ite _ (PlOk n a) (Classical.propDecidable _) (List.replicate (n * n).toNat ⟨0, a, a⟩) []
noncomputable def plB (n a : Int) : Bool := @decide (PlOk n a) (Classical.propDecidable _)
theorem pl_yes {n a : Int} (h : PlOk n a) : plN n a = n ∧ plC n a = List.replicate (n * n).toNat ⟨0, a, a⟩ ∧ plB n a = true := ⟨if_pos h, if_pos h, by unfold plB; simp [h]⟩
theorem pl_no {n a : Int} (h : ¬ PlOk n a) : plN n a = 0 ∧ plC n a = [] ∧ plB n a = false := ⟨if_neg h, if_neg h, by unfold plB; simp [h]⟩

theorem owns_below {w w' : World} {b e size n : Nat} {v : Value} {xs : List Value} (h : w.ownsRow b e size v n xs) (hb : Below w.heap.size w w') : w'.ownsRow b e size v n xs := by
  obtain ⟨h1, h2 | ⟨g, cap, cur, hv, hg, hh, r⟩⟩ := h
  · exact ⟨h1, .inl h2⟩
  · exact ⟨h1, .inr ⟨g, cap, cur, hv, hg, by rw [hb.block g (lt_of_heap hh)]; exact hh, r⟩⟩
theorem places_snoc (k : Nat) (c : C3) : places (List.replicate (k + 1) c) = places (List.replicate k c) ++ [.int .i64 c.s, .int .i64 c.a, .int .i64 c.b] := by
  rw [List.replicate_succ', places_append]; rfl
theorem news_at (W : World) (q : Nat) (cs : Array Value) (t : TypeId) (h : W.heap.size = q) : ∀ (j : Nat) u, cs.toList[j]? = some u → (W.alloc (.cells cs t)).cell? ((⟨q, 0, none⟩ : Addr).add j) = some u := by
  subst h
  exact World.news_of_block (fr := (0, 0)) (heap_alloc_new W _)

/-- What the walk keeps in view: the answer's box, and the block under way. -/
def PF (p : Nat) (n : Int) (v : Value) (u : World) : Prop :=
  u.cell? ⟨p + 1, 1, none⟩ = some v ∧ u.cell? ⟨p + 1, 0, none⟩ = some (.int .i64 n) ∧ u.frozen? ⟨p + 1, 1, none⟩ = false ∧ u.cell? ⟨p, 0, none⟩ = some (.int .i64 0) ∧ u.cell? ⟨p, 1, none⟩ = some (.slice none 0 0) ∧ u.frozen? ⟨p, 0, none⟩ = false ∧ u.frozen? ⟨p, 1, none⟩ = false
theorem PF.far {p : Nat} {n : Int} {v : Value} {u w : World} (h : PF p n v u) (hb : Below (p + 1 + 1) u w) : PF p n v w := by
  obtain ⟨h0, h1, h2, h3, h4, h5, h6⟩ := h
  have l1 : p < p + 1 + 1 := by omega
  have l2 : p + 1 < p + 1 + 1 := by omega
  exact ⟨(hb.cell (p := ⟨p + 1, 1, none⟩) l2).trans h0, (hb.cell (p := ⟨p + 1, 0, none⟩) l2).trans h1, (hb.frozen (p := ⟨p + 1, 1, none⟩) l2).trans h2, (hb.cell (p := ⟨p, 0, none⟩) l1).trans h3, (hb.cell (p := ⟨p, 1, none⟩) l1).trans h4, (hb.frozen (p := ⟨p, 0, none⟩) l1).trans h5, (hb.frozen (p := ⟨p, 1, none⟩) l1).trans h6⟩
theorem PF.store {p : Nat} {n : Int} {v : Value} {u : World} (h : PF p n v u) (v' : Value) : PF p n v' (u.setCell ⟨p + 1, 1, none⟩ v') := by
  obtain ⟨h0, h1, h2, h3, h4, h5, h6⟩ := h
  have hn : ∀ o : Nat, (⟨p + 1, 1, none⟩ : Addr) ≠ ⟨p, o, none⟩ := by intro o; simp
  exact ⟨World.cell?_setCell_same _ _ _ h0, (World.cell?_setCell_other _ _ _ _ (by simp)).trans h1, (World.frozen?_setCell _ _ _ _).trans h2, (World.cell?_setCell_other _ _ _ _ (hn 0)).trans h3, (World.cell?_setCell_other _ _ _ _ (hn 1)).trans h4, (World.frozen?_setCell _ _ _ _).trans h5, (World.frozen?_setCell _ _ _ _).trans h6⟩
theorem own_ge3 {w : World} {base e size n : Nat} {v : Value} {xs : List Value} (h : w.ownsRow base e size v n xs) : ∀ k, v.ownBlock = some k → base ≤ k := by
  intro k hk
  obtain ⟨_, h | ⟨g, cap, cur, hv, hg, _⟩⟩ := h
  · rw [h.1] at hk; cases hk
  · rw [hv] at hk; simp [Value.ownBlock] at hk; omega
theorem owns_set {w : World} {b e size n : Nat} {v : Value} {xs : List Value} (h : w.ownsRow b e size v n xs) {p : Addr} (hp : p.block < b) (x : Value) : (w.setCell p x).ownsRow b e size v n xs := by
  obtain ⟨h1, h2 | ⟨g, cap, cur, hv, hg, hh, r⟩⟩ := h
  · exact ⟨h1, .inl h2⟩
  · exact ⟨h1, .inr ⟨g, cap, cur, hv, hg, by rw [Below.heap_setCell _ _ _ _ (by omega)]; exact hh, r⟩⟩

end Go.Proofs.YtfidnhhlcdbaeaaDoor

namespace Go.Proofs.YtfidnhhlcdbaeaaDoor
open Go.ChangeShapes Go.WideShapes Go.ChangeAt Go.RowKit

/-- The cells of the star. -/
def starC : List C3 := [⟨1, 0, 1⟩, ⟨0, 1, 1⟩, ⟨2, 1, 0⟩, ⟨0, 1, 1⟩, ⟨0, 1, 1⟩, ⟨0, 1, 1⟩, ⟨2, 0, 1⟩, ⟨0, 1, 1⟩, ⟨1, 1, 0⟩]
theorem star_ok : BlkOk 3 starC := by
  refine ⟨by decide, by decide, ?_⟩
  intro c hc
  simp only [starC, List.mem_cons, List.not_mem_nil, or_false] at hc
  rcases hc with rfl | rfl | rfl | rfl | rfl | rfl | rfl | rfl | rfl <;> (unfold C3.Ok OkC; decide)

theorem owns_whole {w : World} {g e : Nat} {base : Nat} {xs : List C3} (h : w.heap[g]? = some (.cells (places xs).toArray e (0, 0))) (hb : base ≤ g) (hl : xs.length ≤ 1048576) :
    w.ownsRow base e 3 (.slice (some ⟨g, 0, none⟩) xs.length xs.length) xs.length (places xs) :=
  ⟨places_length xs, .inr ⟨g, xs.length, (places xs).toArray, rfl, hb, h, Nat.le_refl _, by unfold maxLen; omega, by simp [places_length], by simp [← places_length]⟩⟩

theorem heap_at (W : World) (q : Nat) (cs : Array Value) (t : TypeId) (h : W.heap.size = q) : (W.alloc (.cells cs t)).heap[q]? = some (.cells cs t (0, 0)) := by
  subst h; exact heap_alloc_new W _

end Go.Proofs.YtfidnhhlcdbaeaaDoor
