/- Rows of integers: what a slice of ints holds. Rows of integers that begin anywhere in a block. What a walk keeps: a list of facts that the blocks of the world at hand decide. Blocks: the model's ColorsOf. -/
import Derived.Test.YtfidnhhlcdbaeaaGreatDoorRows
import Derived.Test.YtfidnhhlcdbaeaaGreatDoorM00
import Derived.WalkKit
import Derived.Lib.Hide
import Derived.Laws.OwnMore
import Derived.Test.YtfidnhhlcdbaeaaGreatDoorM02
import Derived.Test.YtfidnhhlcdbaeaaGreatDoorM03
import Derived.Test.YtfidnhhlcdbaeaaGreatDoorM05
import Derived.Deep.AppendLies
import Derived.OwnWalk

namespace Go.Proofs.YtfidnhhlcdbaeaaGreatDoor
open Go.ChangeShapes Go.WideShapes Go.ChangeAt Go.RowKit

/-- A slice of ints in a block from lo on, below hi. -/
def IntIn (lo hi : Nat) (w : World) (v : Value) (zs : List Int) : Prop :=
  zs.length ≤ 1048576 ∧ ((zs = [] ∧ ∃ a c, v = .slice a 0 c) ∨
    ∃ g cap, v = .slice (some ⟨g, 0, none⟩) zs.length cap ∧ lo ≤ g ∧ g < hi ∧ ∀ i, i < zs.length → w.cell? ⟨g, i, none⟩ = some (.int .i64 (zs.getD i 0)) ∧ w.frozen? ⟨g, i, none⟩ = false)
theorem IntIn.below {lo hi : Nat} {w w' : World} {v : Value} {zs : List Int} (h : IntIn lo hi w v zs) (hb : Below hi w w') : IntIn lo hi w' v zs := by
  obtain ⟨hl, h | ⟨g, cap, hv, hg, hlt, hc⟩⟩ := h
  · exact ⟨hl, .inl h⟩
  · exact ⟨hl, .inr ⟨g, cap, hv, hg, hlt, fun i hi => ⟨(hb.cell (p := ⟨g, i, none⟩) hlt).trans (hc i hi).1, (hb.frozen (p := ⟨g, i, none⟩) hlt).trans (hc i hi).2⟩⟩⟩
theorem IntIn.wide {lo hi lo' hi' : Nat} {w : World} {v : Value} {zs : List Int} (h : IntIn lo hi w v zs) (h1 : lo' ≤ lo) (h2 : hi ≤ hi') : IntIn lo' hi' w v zs := by
  obtain ⟨hl, h | ⟨g, cap, hv, hg, hlt, hc⟩⟩ := h
  · exact ⟨hl, .inl h⟩
  · exact ⟨hl, .inr ⟨g, cap, hv, by omega, by omega, hc⟩⟩
theorem IntIn.form {lo hi : Nat} {w : World} {v : Value} {zs : List Int} (h : IntIn lo hi w v zs) : ∃ a cap, v = .slice a zs.length cap := by
  obtain ⟨_, ⟨rfl, a, c, hv⟩ | ⟨g, cap, hv, _⟩⟩ := h
  · exact ⟨a, c, hv⟩
  · exact ⟨_, _, hv⟩
theorem IntIn.at {lo hi : Nat} {w w' : World} {a : Option Addr} {n cap : Nat} {zs : List Int} (h : IntIn lo hi w (.slice a n cap) zs) (hb : Below hi w w') {i : Nat} (hi' : i < zs.length) :
    ∃ g, a = some ⟨g, 0, none⟩ ∧ lo ≤ g ∧ g < hi ∧ w'.cell? ⟨g, i, none⟩ = some (.int .i64 (zs.getD i 0)) ∧ w'.frozen? ⟨g, i, none⟩ = false := by
  obtain ⟨_, ⟨rfl, _⟩ | ⟨g, cap, hv, hg, hlt, hc⟩⟩ := h
  · simp at hi'
  · simp only [Value.slice.injEq] at hv
    exact ⟨g, hv.1, hg, hlt, (hb.cell (p := ⟨g, i, none⟩) hlt).trans (hc i hi').1, (hb.frozen (p := ⟨g, i, none⟩) hlt).trans (hc i hi').2⟩
theorem IntIn.set {lo hi g n cap : Nat} {w : World} {zs : List Int} (h : IntIn lo hi w (.slice (some ⟨g, 0, none⟩) n cap) zs) (j : Nat) (hj : j < zs.length) (z : Int) :
    IntIn lo hi (w.setCell ⟨g, j, none⟩ (.int .i64 z)) (.slice (some ⟨g, 0, none⟩) n cap) (zs.set j z) := by
  obtain ⟨hl, ⟨h, _⟩ | ⟨g', cap', hv, hg, hlt, hc⟩⟩ := h
  · subst h; simp at hj
  · simp only [Value.slice.injEq, Option.some.injEq, Addr.mk.injEq, and_true] at hv
    obtain ⟨rfl, rfl, rfl⟩ := hv
    refine ⟨by simpa using hl, .inr ⟨g, cap, by simp, hg, hlt, fun i hi => ?_⟩⟩
    rw [List.length_set] at hi
    obtain ⟨h1, h2⟩ := hc i hi
    refine ⟨?_, by rw [World.frozen?_setCell]; exact h2⟩
    by_cases e : i = j
    · subst e
      rw [World.cell?_setCell_same _ _ _ h1]
      simp [List.getD, hi]
    · rw [World.cell?_setCell_other _ _ _ _ (by simp <;> omega), h1]
      simp [List.getD, Ne.symm e]
theorem IntIn.set_far {lo hi : Nat} {w : World} {v : Value} {zs : List Int} (h : IntIn lo hi w v zs) {p : Addr} (hp : p.block < lo) (x : Value) : IntIn lo hi (w.setCell p x) v zs := by
  obtain ⟨hl, h | ⟨g, cap, hv, hg, hlt, hc⟩⟩ := h
  · exact ⟨hl, .inl h⟩
  · refine ⟨hl, .inr ⟨g, cap, hv, hg, hlt, fun i hi => ⟨?_, by rw [World.frozen?_setCell]; exact (hc i hi).2⟩⟩⟩
    have hn : p ≠ ⟨g, i, none⟩ := fun e => by rw [e] at hp; simp at hp; omega
    rw [World.cell?_setCell_other _ _ _ _ hn]; exact (hc i hi).1

/-- A list of ints as values. -/
def ivals (zs : List Int) : List Value := zs.map (.int .i64 ·)
theorem lt_of_heapI {w : World} {g : Nat} {o : Obj} (h : w.heap[g]? = some o) : g < w.heap.size := (Array.getElem?_eq_some_iff.1 h).1
theorem IntIn.of_owns {w : World} {base e : Nat} {v : Value} {zs : List Int} (h : w.ownsRow base e 1 v zs.length (ivals zs)) (hl : zs.length ≤ 1048576) : IntIn base w.heap.size w v zs := by
  refine ⟨hl, ?_⟩
  have h0 := h
  obtain ⟨_, ⟨h1, h2⟩ | ⟨g, cap, cur, hv, hg, hh, _⟩⟩ := h
  · exact .inl ⟨List.length_eq_zero_iff.1 h2, none, 0, h1⟩
  · subst hv
    refine .inr ⟨g, cap, rfl, hg, lt_of_heapI hh, fun i hi => ⟨?_, h0.frozenAt i⟩⟩
    rw [h0.cellAt i (by omega)]
    simp [ivals, List.getD, hi]
/-- A new row of ints is handed back. -/
def FreshI (zs : List Int) (w : World) (e : Ending) (w' : World) : Prop := ∃ v, e = .returned v ∧ IntIn w.heap.size w'.heap.size w' v zs ∧ Below w.heap.size w w'

/-- The first k elements are those of the list. -/
def UpToI (k : Nat) (xs ys : List Int) : Prop := ys.length = xs.length ∧ ∀ i, i < k → ys.getD i 0 = xs.getD i 0
theorem UpToI.set {k : Nat} {xs ys : List Int} (h : UpToI k xs ys) (hk : k < xs.length) {c : Int} (hc : c = xs.getD k 0) : UpToI (k + 1) xs (ys.set k c) := by
  obtain ⟨h1, h2⟩ := h
  refine ⟨by simpa using h1, fun i hi => ?_⟩
  by_cases e : i = k
  · subst e; simp [List.getD, h1, hk] at hc ⊢; exact hc
  · have := h2 i (by omega)
    simpa [List.getD, List.getElem?_set, e, Ne.symm e] using this
theorem UpToI.all {xs ys : List Int} (h : UpToI xs.length xs ys) : ys = xs := by
  obtain ⟨h1, h2⟩ := h
  apply List.ext_getElem h1
  intro i a b
  have := h2 i b
  simpa [List.getD, a, b] using this

/-- The marks from k on. -/
def markI (k n : Nat) : List Int := (List.range n).map fun i => ((k + i : Nat) : Int)
theorem markI_length (k n : Nat) : (markI k n).length = n := by simp [markI]
theorem markI_at {k n i : Nat} (h : i < n) : (markI k n).getD i 0 = ((k + i : Nat) : Int) := by simp [markI, List.getD, h]

end Go.Proofs.YtfidnhhlcdbaeaaGreatDoor

namespace Go.Proofs.YtfidnhhlcdbaeaaGreatDoor
open Go.ChangeShapes Go.WideShapes Go.ChangeAt Go.RowKit

/-- A slice of ints in a block from lo on, below hi, from some place on. -/
def IntO (lo hi : Nat) (w : World) (v : Value) (zs : List Int) : Prop :=
  zs.length ≤ 1048576 ∧ ((zs = [] ∧ ∃ a c, v = .slice a 0 c) ∨
    ∃ g o cap, v = .slice (some ⟨g, o, none⟩) zs.length cap ∧ lo ≤ g ∧ g < hi ∧ ∀ i, i < zs.length → w.cell? ⟨g, o + i, none⟩ = some (.int .i64 (zs.getD i 0)) ∧ w.frozen? ⟨g, o + i, none⟩ = false)
theorem IntO.below {lo hi : Nat} {w w' : World} {v : Value} {zs : List Int} (h : IntO lo hi w v zs) (hb : Below hi w w') : IntO lo hi w' v zs := by
  obtain ⟨hl, h | ⟨g, o, cap, hv, hg, hlt, hc⟩⟩ := h
  · exact ⟨hl, .inl h⟩
  · exact ⟨hl, .inr ⟨g, o, cap, hv, hg, hlt, fun i hi => ⟨(hb.cell (p := ⟨g, o + i, none⟩) hlt).trans (hc i hi).1, (hb.frozen (p := ⟨g, o + i, none⟩) hlt).trans (hc i hi).2⟩⟩⟩
theorem IntO.wide {lo hi lo' hi' : Nat} {w : World} {v : Value} {zs : List Int} (h : IntO lo hi w v zs) (h1 : lo' ≤ lo) (h2 : hi ≤ hi') : IntO lo' hi' w v zs := by
  obtain ⟨hl, h | ⟨g, o, cap, hv, hg, hlt, hc⟩⟩ := h
  · exact ⟨hl, .inl h⟩
  · exact ⟨hl, .inr ⟨g, o, cap, hv, by omega, by omega, hc⟩⟩
theorem IntO.form {lo hi : Nat} {w : World} {v : Value} {zs : List Int} (h : IntO lo hi w v zs) : ∃ a cap, v = .slice a zs.length cap := by
  obtain ⟨_, ⟨rfl, a, c, hv⟩ | ⟨g, o, cap, hv, _⟩⟩ := h
  · exact ⟨a, c, hv⟩
  · exact ⟨_, _, hv⟩
theorem IntO.at {lo hi : Nat} {w w' : World} {a : Option Addr} {n cap : Nat} {zs : List Int} (h : IntO lo hi w (.slice a n cap) zs) (hb : Below hi w w') {i : Nat} (hi' : i < zs.length) :
    ∃ g o, a = some ⟨g, o, none⟩ ∧ lo ≤ g ∧ g < hi ∧ w'.cell? ⟨g, o + i, none⟩ = some (.int .i64 (zs.getD i 0)) ∧ w'.frozen? ⟨g, o + i, none⟩ = false := by
  obtain ⟨_, ⟨rfl, _⟩ | ⟨g, o, cap, hv, hg, hlt, hc⟩⟩ := h
  · simp at hi'
  · simp only [Value.slice.injEq] at hv
    exact ⟨g, o, hv.1, hg, hlt, (hb.cell (p := ⟨g, o + i, none⟩) hlt).trans (hc i hi').1, (hb.frozen (p := ⟨g, o + i, none⟩) hlt).trans (hc i hi').2⟩
theorem IntIn.o {lo hi : Nat} {w : World} {v : Value} {zs : List Int} (h : IntIn lo hi w v zs) : IntO lo hi w v zs := by
  obtain ⟨hl, h | ⟨g, cap, hv, hg, hlt, hc⟩⟩ := h
  · exact ⟨hl, .inl h⟩
  · exact ⟨hl, .inr ⟨g, 0, cap, hv, hg, hlt, fun i hi => by rw [Nat.zero_add]; exact hc i hi⟩⟩

end Go.Proofs.YtfidnhhlcdbaeaaGreatDoor

namespace Go.Proofs.YtfidnhhlcdbaeaaGreatDoor
open Go.ChangeShapes Go.WideShapes Go.ChangeAt Go.RowKit

/-- The facts Ps hold, and go on to hold while no block of u changes; since w no block of w has changed. -/
def Kp (w : World) (Ps : List (World → Prop)) (u : World) : Prop := Below w.heap.size w u ∧ ∀ P ∈ Ps, ∀ v, Below u.heap.size u v → P v
theorem Kp.nil {w u : World} (h : Below w.heap.size w u) : Kp w [] u := ⟨h, fun P hP => by cases hP⟩
theorem Kp.keep {w u v : World} {Ps : List (World → Prop)} (h : Kp w Ps u) (hb : Below u.heap.size u v) : Kp w Ps v := ⟨bel_c h.1 (Nat.le_refl _) hb, fun P hP x hx => h.2 P hP x (bel_c hb (Nat.le_refl _) hx)⟩
theorem Kp.drew {w u : World} {Ps : List (World → Prop)} (h : Kp w Ps u) : Kp w Ps u.drew := h.keep ⟨rfl, rfl, rfl, Nat.le_refl _, fun _ _ => rfl⟩
theorem Kp.get {w u : World} {Ps : List (World → Prop)} (h : Kp w Ps u) (i : Nat) {P : World → Prop} (hP : Ps[i]? = some P) : P u := h.2 P (List.mem_of_getElem? hP) u (Below.refl _ _)
theorem Kp.cons {w u : World} {Ps : List (World → Prop)} {P : World → Prop} (h : Kp w Ps u) (hP : ∀ v, Below u.heap.size u v → P v) : Kp w (P :: Ps) u :=
  ⟨h.1, fun Q hQ => by
    rcases List.mem_cons.1 hQ with rfl | hQ
    · exact hP
    · exact h.2 Q hQ⟩
theorem Kp.two {w u : World} {Ps : List (World → Prop)} (h : Kp w Ps u) (x y : Value) (T : TypeId) : Kp w (Two u.heap.size x y :: Ps) (u.alloc (.cells #[x, y] T)) :=
  (h.keep (bel0 _ _)).cons fun _ hv => (Two.new u x y T).keep hv
theorem Kp.three {w u : World} {Ps : List (World → Prop)} (h : Kp w Ps u) (c : C3) (T : TypeId) : Kp w (Three u.heap.size c :: Ps) (u.alloc (.cells #[.int .i64 c.s, .int .i64 c.a, .int .i64 c.b] T)) :=
  (h.keep (bel0 _ _)).cons fun _ hv => (Three.new u c T).keep hv
/-- A row of cells, of ints, below the world's end. -/
def Rk (lo hi : Nat) (v : Value) (xs : List C3) (u : World) : Prop := CellIn lo hi u v xs ∧ hi ≤ u.heap.size
def Ik (lo hi : Nat) (v : Value) (zs : List Int) (u : World) : Prop := IntIn lo hi u v zs ∧ hi ≤ u.heap.size
def Ok (lo hi : Nat) (v : Value) (zs : List Int) (u : World) : Prop := IntO lo hi u v zs ∧ hi ≤ u.heap.size
theorem Rk.keep {lo hi : Nat} {v : Value} {xs : List C3} {u x : World} (h : Rk lo hi v xs u) (hb : Below u.heap.size u x) : Rk lo hi v xs x := ⟨h.1.below (hb.mono h.2), Nat.le_trans h.2 hb.size⟩
theorem Ik.keep {lo hi : Nat} {v : Value} {zs : List Int} {u x : World} (h : Ik lo hi v zs u) (hb : Below u.heap.size u x) : Ik lo hi v zs x := ⟨h.1.below (hb.mono h.2), Nat.le_trans h.2 hb.size⟩
theorem Ok.keep {lo hi : Nat} {v : Value} {zs : List Int} {u x : World} (h : Ok lo hi v zs u) (hb : Below u.heap.size u x) : Ok lo hi v zs x := ⟨h.1.below (hb.mono h.2), Nat.le_trans h.2 hb.size⟩
theorem Kp.row {w u x : World} {Ps : List (World → Prop)} {v : Value} {xs : List C3} (h : Kp w Ps u) (hb : Below u.heap.size u x) (r : CellIn u.heap.size x.heap.size x v xs) : Kp w (Rk u.heap.size x.heap.size v xs :: Ps) x :=
  (h.keep hb).cons fun _ hv => Rk.keep ⟨r, Nat.le_refl _⟩ hv
theorem Kp.ints {w u x : World} {Ps : List (World → Prop)} {v : Value} {zs : List Int} (h : Kp w Ps u) (hb : Below u.heap.size u x) (r : IntIn u.heap.size x.heap.size x v zs) : Kp w (Ik u.heap.size x.heap.size v zs :: Ps) x :=
  (h.keep hb).cons fun _ hv => Ik.keep ⟨r, Nat.le_refl _⟩ hv
theorem bel0_lt (w : World) (o : Obj) : w.heap.size < (w.alloc o).heap.size := by simp
theorem args_eq {P : Program} {f : Nat} {xs bs : Array Value} {w : World} {Q : Ending → World → Prop} (h : Calls P f xs w Q) (e : bs = xs) : Calls P f bs w Q := e ▸ h
/-- Equal blocks. -/
theorem sameB_yes (n : Int) (xs : List C3) : sameB n n xs xs = true := by unfold sameB; simp
theorem lit6 (W : World) (x0 x1 x2 x3 x4 x5 : Int) (T : TypeId) : IntIn W.heap.size (W.heap.size + 1) (W.alloc (.cells #[.int .i64 x0, .int .i64 x1, .int .i64 x2, .int .i64 x3, .int .i64 x4, .int .i64 x5] T)) (.slice (some ⟨W.heap.size, 0, none⟩) 6 6) [x0, x1, x2, x3, x4, x5] :=
  ⟨by simp, .inr ⟨W.heap.size, 6, rfl, Nat.le_refl _, Nat.lt_succ_self _, fun i hi => by
    have : i = 0 ∨ i = 1 ∨ i = 2 ∨ i = 3 ∨ i = 4 ∨ i = 5 := by simp at hi; omega
    rcases this with rfl | rfl | rfl | rfl | rfl | rfl <;> exact ⟨by simp, by simp⟩⟩⟩

end Go.Proofs.YtfidnhhlcdbaeaaGreatDoor

namespace Go.Proofs.YtfidnhhlcdbaeaaGreatDoor
open Go.ChangeShapes Go.WideShapes Go.ChangeAt Go.RowKit

/-- The color c is used in the first k cells. -/
def usd (xs : List C3) (c : Int) (k : Nat) : Bool := (xs.take k).any fun x => (x.a == c) || (x.b == c)
theorem usd_succ (xs : List C3) (c : Int) (k : Nat) (h : k < xs.length) : usd xs c (k + 1) = (usd xs c k || ((xs.getD k C3.zero).a == c) || ((xs.getD k C3.zero).b == c)) := by
  unfold usd
  rw [List.take_succ_eq_append_getElem h, List.any_append]
  simp [List.getD, h, Bool.or_assoc]
/-- The used ones of the first colors. -/
def cols (xs : List C3) (c : Nat) : List Int := ((List.range c).filter (fun d : Nat => usd xs (d : Int) xs.length)).map (fun d : Nat => (d : Int))
theorem cols_succ (xs : List C3) (c : Nat) : cols xs (c + 1) = cols xs c ++ (if usd xs (c : Int) xs.length then [(c : Int)] else []) := by
  unfold cols
  rw [List.range_succ, List.filter_append, List.map_append]
  congr 1
  by_cases h : usd xs (c : Int) xs.length <;> simp [h]
theorem cols_le (xs : List C3) (c : Nat) : (cols xs c).length ≤ c := by
  unfold cols
  rw [List.length_map]
  have := List.length_filter_le (fun d : Nat => usd xs (d : Int) xs.length) (List.range c)
  simpa using this
noncomputable def colorsOf (n : Int) (xs : List C3) : List Int := @ite _ (BlkOk n xs) (Classical.propDecidable _) (cols xs 6) []
theorem colors_yes {n : Int} {xs : List C3} (h : BlkOk n xs) : colorsOf n xs = cols xs 6 := if_pos h
theorem colors_no {n : Int} {xs : List C3} (h : ¬ BlkOk n xs) : colorsOf n xs = [] := if_neg h

theorem info_int : (Tryz.prog.info? 3).map (fun i => (i.zero, i.size, i.bytes)) = some (some (.int .i64 0), 1, 8) := by kernel_rfl
theorem own_new1 (W : World) (q e : Nat) (h : W.heap.size = q) : (W.alloc (.cells #[] e)).ownsRow q e 1 (.slice (some ⟨q, 0, none⟩) 0 0) 0 [] := by
  subst h
  exact ⟨by simp, .inr ⟨_, 0, #[], rfl, Nat.le_refl _, heap_alloc_new _ _, by simp, by simp, rfl, rfl⟩⟩
theorem news_one (W : World) (q : Nat) (c : Value) (t : TypeId) (h : W.heap.size = q) : ∀ (j : Nat) u, ([c] : List Value)[j]? = some u → (W.alloc (.cells #[c] t)).cell? ((⟨q, 0, none⟩ : Addr).add j) = some u := by
  subst h
  exact World.news_of_block (cs := #[c]) (fr := (0, 0)) (heap_alloc_new W _)
theorem own_ge1 {w : World} {base e size n : Nat} {v : Value} {xs : List Value} (h : w.ownsRow base e size v n xs) : ∀ k, v.ownBlock = some k → base ≤ k := by
  intro k hk
  obtain ⟨_, h | ⟨g, cap, cur, hv, hg, _⟩⟩ := h
  · rw [h.1] at hk; cases hk
  · rw [hv] at hk; simp [Value.ownBlock] at hk; omega
theorem owns_below1 {w w' : World} {b e size n : Nat} {v : Value} {xs : List Value} (h : w.ownsRow b e size v n xs) (hb : Below w.heap.size w w') : w'.ownsRow b e size v n xs := by
  obtain ⟨h1, h2 | ⟨g, cap, cur, hv, hg, hh, r⟩⟩ := h
  · exact ⟨h1, .inl h2⟩
  · exact ⟨h1, .inr ⟨g, cap, cur, hv, hg, by rw [hb.block g (lt_of_heapI hh)]; exact hh, r⟩⟩

end Go.Proofs.YtfidnhhlcdbaeaaGreatDoor
