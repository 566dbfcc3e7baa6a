/- Blocks: marks from one on; what stays in view in the walks of the laws. Blocks: the model's copy. Blocks: the model's WithCell. Blocks: the model's PlainBlock. -/
import Derived.Test.YtbnokmlmajcibaaM07
import Derived.Test.YtbnokmlmajcibaaM01
import Derived.Deep.RegionHeld3
import Derived.Deep.AppendLies
import Derived.Test.YtbnokmlmajcibaaM02
import Derived.Test.YtbnokmlmajcibaaM03
import Derived.Deep.RegionLaw

namespace Go.Proofs.Ytbnokmlmajcibaa
open Go.ChangeShapes Go.WideShapes Go.ChangeAt Go.RowKit

/-- The number behind the last mark. -/
def mkN (xs : List C3) : Int := ((1 + 3 * xs.length : Nat) : Int)
theorem mkN_pos (xs : List C3) : ¬ mkN xs < 0 := by unfold mkN; omega
theorem MarkOne (lo hi : Nat) (n : Int) (v : Value) (xs : List C3) (w : World) (r : CellIn lo hi w v xs) (hhi : hi ≤ w.heap.size) :
    Calls Try.prog 29 #[.agg #[.int .i64 n, v], .int .i64 1] w fun e w' => e = .returned (.int .i64 (mkN xs)) ∧ CellIn lo hi w' v (markC 1 xs.length) ∧ Within lo hi w w' :=
  MarkBlock_any lo hi n v xs 1 w r hhi (by omega)
/-- Two places of a block. -/
def Two (p : Nat) (x y : Value) (u : World) : Prop := u.cell? ⟨p, 0, none⟩ = some x ∧ u.cell? ⟨p, 1, none⟩ = some y
theorem Two.keep {p : Nat} {x y : Value} {u v : World} (h : Two p x y u) (hb : Below u.heap.size u v) : Two p x y v := ⟨kept hb h.1, kept hb h.2⟩
theorem Two.new (w : World) (x y : Value) (T : TypeId) : Two w.heap.size x y (w.alloc (.cells #[x, y] T)) := ⟨by simp, by simp⟩
theorem Two.within {p lo hi : Nat} {x y : Value} {u v : World} (h : Two p x y u) (hb : Within lo hi u v) (ho : p < lo ∨ hi ≤ p) : Two p x y v := ⟨hb.cell h.1 ho, hb.cell h.2 ho⟩
def Three (p : Nat) (c : C3) (u : World) : Prop := u.cell? ⟨p, 0, none⟩ = some (.int .i64 c.s) ∧ u.cell? ⟨p, 1, none⟩ = some (.int .i64 c.a) ∧ u.cell? ⟨p, 2, none⟩ = some (.int .i64 c.b)
theorem Three.keep {p : Nat} {c : C3} {u v : World} (h : Three p c u) (hb : Below u.heap.size u v) : Three p c v := ⟨kept hb h.1, kept hb h.2.1, kept hb h.2.2⟩
theorem Three.new (w : World) (c : C3) (T : TypeId) : Three w.heap.size c (w.alloc (.cells #[.int .i64 c.s, .int .i64 c.a, .int .i64 c.b] T)) := by
  refine ⟨?_, ?_, ?_⟩ <;> simp
theorem bel_w {b lo hi : Nat} {w u v : World} (h : Below b w u) (hb : b ≤ w.heap.size) (k : Within lo hi u v) (hl : b ≤ lo) : Below b w v :=
  ⟨k.os.trans h.os, k.tape.trans h.tape, k.output.trans h.output, Nat.le_trans h.size k.size, fun i hi => (k.block i (by have := h.size; omega) (.inl (by omega))).trans (h.block i hi)⟩

end Go.Proofs.Ytbnokmlmajcibaa

namespace Go.Proofs.Ytbnokmlmajcibaa
open Go.ChangeShapes Go.WideShapes Go.ChangeAt Go.RowKit

theorem own_new3 (w : World) (e : Nat) : (w.alloc (.cells #[] e)).ownsRow w.heap.size e 3 (.slice (some ⟨w.heap.size, 0, none⟩) 0 0) 0 [] :=
  ⟨by simp, .inr ⟨_, 0, #[], rfl, Nat.le_refl _, heap_alloc_new _ _, by simp, by simp, rfl, rfl⟩⟩
theorem bel_dr {b : Nat} {w u : World} (h : Below b w u) : Below b w u.drew := ⟨h.os, h.tape, h.output, h.size, h.block⟩
theorem places_one (xs : List C3) : ∀ u ∈ places xs, u.oneCell' = true := by
  intro u hu
  simp only [places, List.mem_flatMap] at hu
  obtain ⟨c, _, hc⟩ := hu
  simp only [List.mem_cons, List.not_mem_nil, or_false] at hc
  rcases hc with rfl | rfl | rfl <;> rfl
/-- The places of a row that is not empty, read one by one. -/
theorem CellIn.news {lo hi : Nat} {w : World} {a : Option Addr} {n cap : Nat} {xs : List C3} (h : CellIn lo hi w (.slice a n cap) xs) (h0 : 0 < xs.length) :
    ∃ g, a = some ⟨g, 0, none⟩ ∧ lo ≤ g ∧ g < hi ∧ ∀ w', Below hi w w' → ∀ (j : Nat) u, (places xs)[j]? = some u → w'.cell? ((⟨g, 0, none⟩ : Addr).add j) = some u := by
  obtain ⟨_, ⟨rfl, _⟩ | ⟨g, cap, hv, hg, hlt, hc⟩⟩ := h
  · simp at h0
  · simp only [Value.slice.injEq] at hv
    refine ⟨g, hv.1, hg, hlt, fun w' hb j u hu => ?_⟩
    have hj : j < xs.length * 3 := by
      rcases Nat.lt_or_ge j (xs.length * 3) with h | h
      · exact h
      · rw [List.getElem?_eq_none (by rw [places_length]; exact h)] at hu; cases hu
    have ad : (⟨g, 0, none⟩ : Addr).add j = ⟨g, j, none⟩ := by cases j <;> simp [Addr.add]
    rw [ad]
    obtain ⟨k, hk⟩ : ∃ k, j = k * 3 ∨ j = k * 3 + 1 ∨ j = k * 3 + 2 := ⟨j / 3, by omega⟩
    have hkn : k < xs.length := by omega
    obtain ⟨p0, p1, p2⟩ := places_at xs k hkn
    obtain ⟨e0, e1, e2⟩ := (hc k hkn).1.below hb hlt
    rcases hk with rfl | rfl | rfl
    · rw [e0, ← hu, p0]
    · rw [e1, ← hu, p1]
    · rw [e2, ← hu, p2]

set_option maxHeartbeats 400000 in
theorem SpecCopy_any (lo hi : Nat) (n : Int) (v : Value) (xs : List C3) (w : World) (r : CellIn lo hi w v xs) (hhi : hi ≤ w.heap.size) :
    Calls Try.prog 48 #[.agg #[.int .i64 n, v]] w (FreshB n xs w) := by
  obtain ⟨i0, hi0, hz0, hz1, hz2⟩ := info_parts3 info_cell
  obtain ⟨a, cap, rfl⟩ := r.form
  have hl := r.1
  rcases Nat.eq_zero_or_pos xs.length with h0 | h0
  · have hx : xs = [] := List.length_eq_zero_iff.1 h0
    subst hx
    clear r hl h0
    cases a
    all_goals
      go_enter Try.func48, Try.ntmps48
      go_wp2_with fail
      go_region
      go_wp2_with fail
      refine bodyPost_ret (v := .agg #[.int .i64 n, .slice (some ⟨w.heap.size + 1 + 1, 0, none⟩) 0 0]) (by simp [results, Try.results48, go_sem]) rfl ⟨.slice (some ⟨w.heap.size + 1 + 1, 0, none⟩) 0 0, rfl, ⟨by simp, .inl ⟨rfl, _, _, rfl⟩⟩, ?_⟩
      repeat (first | exact Below.refl _ _ | refine bel_dr ?_ | refine bel_n ?_ (Nat.le_refl _) _)
  · obtain ⟨g, rfl, hg, hg1, hn⟩ := r.news h0
    have RN : ∀ W, Below w.heap.size w W → ∀ (j : Nat) u, (places xs)[j]? = some u → W.cell? ((⟨g, 0, none⟩ : Addr).add j) = some u := fun W hb => hn W (hb.mono hhi)
    have HR := Lib.hid RN
    have KP : ∀ u v : World, Below (w.heap.size + 1 + 1) u v → (u.cell? ⟨w.heap.size, 0, none⟩ = some (.int .i64 n) ∧ u.cell? ⟨w.heap.size, 1, none⟩ = some (.slice (some ⟨g, 0, none⟩) xs.length cap)) → (v.cell? ⟨w.heap.size, 0, none⟩ = some (.int .i64 n) ∧ v.cell? ⟨w.heap.size, 1, none⟩ = some (.slice (some ⟨g, 0, none⟩) xs.length cap)) :=
      fun u v hb h => ⟨(hb.cell (p := ⟨w.heap.size, 0, none⟩) (Nat.lt_succ_of_lt (Nat.lt_succ_self _))).trans h.1, (hb.cell (p := ⟨w.heap.size, 1, none⟩) (Nat.lt_succ_of_lt (Nat.lt_succ_self _))).trans h.2⟩
    have HO : ∀ W : World, W.heap.size = w.heap.size + 1 + 1 → (W.alloc (.cells #[] 58)).ownsRow (w.heap.size + 1 + 1) 58 3 (.slice (some ⟨w.heap.size + 1 + 1, 0, none⟩) 0 0) 0 [] := by intro W h; rw [← h]; exact own_new3 _ _
    clear r hn RN
    go_enter Try.func48, Try.ntmps48
    go_wp2_with fail
    go_region_held3 (fun w' => w'.cell? ⟨w.heap.size, 0, none⟩ = some (.int .i64 n) ∧ w'.cell? ⟨w.heap.size, 1, none⟩ = some (.slice (some ⟨g, 0, none⟩) xs.length cap)) (first | (refine KP _ _ (by assumption) ?_; assumption) | go_keep)
      ((refine step_append_lies _ (by rfl) _ _ _ (by rfl) (w.heap.size + 1 + 1) 58 i0 _ 3 24 Try.underlying24 hi0 hz0 hz1 hz2 rfl (by omega) _ 0 _ (by rfl) (HO _ (by simp)) ⟨g, 0, none⟩ xs.length cap (places xs) (by rfl) (places_length xs) (HR.out _ (bel_n (bel_dr (bel_n (bel0 _ _) (Nat.le_refl _) _)) (Nat.le_refl _) _)) (places_one xs) h0 (by unfold maxLen; omega) (by omega) (by simp) (w.heap.size + 1 + 1 + 1) (by simp) ?_; intro gg cc w1 hown1 hgrow hat hlt1; have hbw := (Below.refl (w.heap.size + 1 + 1) _).grown hgrow (by simp) (by intro k hk; simp [Value.ownBlock] at hk; omega); have d0 := (hbw.cell (p := ⟨w.heap.size + 1, 0, none⟩) (Nat.lt_succ_self _)).trans (show _ = some (Value.int .i64 0) by go_simp); have d1 := (hbw.cell (p := ⟨w.heap.size + 1, 1, none⟩) (Nat.lt_succ_self _)).trans (show _ = some (Value.slice none 0 0) by go_simp); have g0 := (hbw.frozen (p := ⟨w.heap.size + 1, 0, none⟩) (Nat.lt_succ_self _)).trans (show _ = false by go_simp); have g1 := (hbw.frozen (p := ⟨w.heap.size + 1, 1, none⟩) (Nat.lt_succ_self _)).trans (show _ = false by go_simp)))
    have hB : Below w.heap.size w w1 := (bel_dr (bel_n (bel_n (bel0 w _) (Nat.le_refl _) _) (Nat.le_refl _) _)).trans (hbw.mono (by omega))
    have hin : CellIn (w.heap.size + 1 + 1) w1.heap.size w1 (.slice (some ⟨gg, 0, none⟩) xs.length cc) xs := CellIn.of_owns (xs := xs) (by simpa using hown1) hl
    have HI := Lib.hid hin
    have HBB := Lib.hid hB
    clear hin hB hbw hown1 hgrow hat hlt1 KP HO HR
    go_wp2_with fail
    refine bodyPost_ret (v := .agg #[.int .i64 n, .slice (some ⟨gg, 0, none⟩) xs.length cc]) (by simp [results, Try.results48, go_sem, d0, d1]) rfl ⟨.slice (some ⟨gg, 0, none⟩) xs.length cc, rfl, ?_, ?_⟩
    · refine CellIn.wide (lo := w.heap.size + 1 + 1) (hi := w1.heap.size) ?_ (by omega) (by simp [World.setCell])
      refine CellIn.set_far (CellIn.set_far HI.out ?_ _) ?_ _ <;> (simp <;> omega)
    · refine Below.setCell (Below.setCell HBB.out ?_ _) ?_ _ <;> (simp <;> omega)

end Go.Proofs.Ytbnokmlmajcibaa

namespace Go.Proofs.Ytbnokmlmajcibaa
open Go.ChangeShapes Go.WideShapes Go.ChangeAt Go.RowKit

theorem SpecOk_yes (s a b : Int) (w : World) (k : OkC s a b) :
    Calls Try.prog 72 #[.agg #[.int .i64 s, .int .i64 a, .int .i64 b]] w fun e w' => e = .returned (.bool true) ∧ Below w.heap.size w w' := by
  refine (SpecOk_any s a b w).mono ?_
  rintro e w' ⟨rfl, rfl⟩
  exact ⟨ret_bool (decide_eq_true k), bel0 _ _⟩
theorem SpecOk_no (s a b : Int) (w : World) (k : ¬ OkC s a b) :
    Calls Try.prog 72 #[.agg #[.int .i64 s, .int .i64 a, .int .i64 b]] w fun e w' => e = .returned (.bool false) ∧ Below w.heap.size w w' := by
  refine (SpecOk_any s a b w).mono ?_
  rintro e w' ⟨rfl, rfl⟩
  exact ⟨ret_bool (decide_eq_false k), bel0 _ _⟩

/-- A new block and a truth value are handed back. -/
def FreshBB (n : Int) (ys : List C3) (ok : Bool) (w : World) (e : Ending) (w' : World) : Prop := ∃ v, e = .returned (.tuple #[.agg #[.int .i64 n, v], .bool ok]) ∧ CellIn w.heap.size w'.heap.size w' v ys ∧ Below w.heap.size w w'
/-- What WithCell makes. -/
noncomputable def withC (n : Int) (xs : List C3) (x y : Int) (c : C3) : List C3 := @ite _ (BlkOk n xs ∧ c.Ok ∧ InB n x y) (Classical.propDecidable _) (xs.set (y * n + x).toNat c) xs
noncomputable def withB (n : Int) (xs : List C3) (x y : Int) (c : C3) : Bool := @decide (BlkOk n xs ∧ c.Ok ∧ InB n x y) (Classical.propDecidable _)
theorem with_yes {n : Int} {xs : List C3} {x y : Int} {c : C3} (h : BlkOk n xs ∧ c.Ok ∧ InB n x y) : withC n xs x y c = xs.set (y * n + x).toNat c ∧ withB n xs x y c = true := ⟨if_pos h, by unfold withB; simp [h]⟩
theorem with_no {n : Int} {xs : List C3} {x y : Int} {c : C3} (h : ¬ (BlkOk n xs ∧ c.Ok ∧ InB n x y)) : withC n xs x y c = xs ∧ withB n xs x y c = false := ⟨if_neg h, by unfold withB; simp [h]⟩

/-- What the walk keeps in view: the argument's box, the cell's, the answer's, the copy's. -/
def SW (p q : Nat) (n s a b : Int) (sl cp : Value) (u : World) : Prop :=
  u.cell? ⟨p, 0, none⟩ = some (.int .i64 n) ∧ u.cell? ⟨p, 1, none⟩ = some sl ∧
  u.cell? ⟨p + 1, 0, none⟩ = some (.int .i64 s) ∧ u.cell? ⟨p + 1, 1, none⟩ = some (.int .i64 a) ∧ u.cell? ⟨p + 1, 2, none⟩ = some (.int .i64 b) ∧
  u.cell? ⟨p + 1 + 1, 0, none⟩ = some (.int .i64 0) ∧ u.cell? ⟨p + 1 + 1, 1, none⟩ = some (.slice none 0 0) ∧ u.frozen? ⟨p + 1 + 1, 0, none⟩ = false ∧ u.frozen? ⟨p + 1 + 1, 1, none⟩ = false ∧
  u.cell? ⟨q, 0, none⟩ = some (.int .i64 n) ∧ u.cell? ⟨q, 1, none⟩ = some cp
theorem SW.keep {p q : Nat} {n s a b : Int} {sl cp : Value} {u v : World} (h : SW p q n s a b sl cp u) (hb : Below u.heap.size u v) : SW p q n s a b sl cp v := by
  obtain ⟨h0, h1, h2, h3, h4, h5, h6, f5, f6, h7, h8⟩ := h
  exact ⟨kept hb h0, kept hb h1, kept hb h2, kept hb h3, kept hb h4, kept hb h5, kept hb h6, keptF hb h5 f5, keptF hb h6 f6, kept hb h7, kept hb h8⟩

end Go.Proofs.Ytbnokmlmajcibaa

namespace Go.Proofs.Ytbnokmlmajcibaa
open Go.ChangeShapes Go.WideShapes Go.ChangeAt Go.RowKit

def PlOk (n a : Int) : Prop := (1 ≤ n ∧ n ≤ 4) ∧ 0 ≤ a ∧ a ≤ 5
noncomputable def plN (n a : Int) : Int := @ite _ (PlOk n a) (Classical.propDecidable _) n 0
noncomputable def plC (n a : Int) : List C3 := @ite _ (PlOk n a) (Classical.propDecidable _) (List.replicate (n * n).toNat ⟨0, a, a⟩) []
noncomputable def plB (n a : Int) : Bool := @decide (PlOk n a) (Classical.propDecidable _)
theorem pl_yes {n a : Int} (h : PlOk n a) : plN n a = n ∧ plC n a = List.replicate (n * n).toNat ⟨0, a, a⟩ ∧ plB n a = true := ⟨if_pos h, if_pos h, by unfold plB; simp [h]⟩
theorem pl_no {n a : Int} (h : ¬ PlOk n a) : plN n a = 0 ∧ plC n a = [] ∧ plB n a = false := ⟨if_neg h, if_neg h, by unfold plB; simp [h]⟩

theorem owns_below {w w' : World} {b e size n : Nat} {v : Value} {xs : List Value} (h : w.ownsRow b e size v n xs) (hb : Below w.heap.size w w') : w'.ownsRow b e size v n xs := by
  obtain ⟨h1, h2 | ⟨g, cap, cur, hv, hg, hh, r⟩⟩ := h
  · exact ⟨h1, .inl h2⟩
  · exact ⟨h1, .inr ⟨g, cap, cur, hv, hg, by rw [hb.block g (lt_of_heap hh)]; exact hh, r⟩⟩
theorem places_snoc (k : Nat) (c : C3) : places (List.replicate (k + 1) c) = places (List.replicate k c) ++ [.int .i64 c.s, .int .i64 c.a, .int .i64 c.b] := by
  rw [List.replicate_succ', places_append]; rfl
theorem news_at (W : World) (q : Nat) (cs : Array Value) (t : TypeId) (h : W.heap.size = q) : ∀ (j : Nat) u, cs.toList[j]? = some u → (W.alloc (.cells cs t)).cell? ((⟨q, 0, none⟩ : Addr).add j) = some u := by
  subst h
  exact World.news_of_block (fr := (0, 0)) (heap_alloc_new W _)

/-- What the walk keeps in view: the answer's box, and the block under way. -/
def PF (p : Nat) (n : Int) (v : Value) (u : World) : Prop :=
  u.cell? ⟨p + 1, 1, none⟩ = some v ∧ u.cell? ⟨p + 1, 0, none⟩ = some (.int .i64 n) ∧ u.frozen? ⟨p + 1, 1, none⟩ = false ∧ u.cell? ⟨p, 0, none⟩ = some (.int .i64 0) ∧ u.cell? ⟨p, 1, none⟩ = some (.slice none 0 0) ∧ u.frozen? ⟨p, 0, none⟩ = false ∧ u.frozen? ⟨p, 1, none⟩ = false
theorem PF.far {p : Nat} {n : Int} {v : Value} {u w : World} (h : PF p n v u) (hb : Below (p + 1 + 1) u w) : PF p n v w := by
  obtain ⟨h0, h1, h2, h3, h4, h5, h6⟩ := h
  have l1 : p < p + 1 + 1 := by omega
  have l2 : p + 1 < p + 1 + 1 := by omega
  exact ⟨(hb.cell (p := ⟨p + 1, 1, none⟩) l2).trans h0, (hb.cell (p := ⟨p + 1, 0, none⟩) l2).trans h1, (hb.frozen (p := ⟨p + 1, 1, none⟩) l2).trans h2, (hb.cell (p := ⟨p, 0, none⟩) l1).trans h3, (hb.cell (p := ⟨p, 1, none⟩) l1).trans h4, (hb.frozen (p := ⟨p, 0, none⟩) l1).trans h5, (hb.frozen (p := ⟨p, 1, none⟩) l1).trans h6⟩
theorem PF.store {p : Nat} {n : Int} {v : Value} {u : World} (h : PF p n v u) (v' : Value) : PF p n v' (u.setCell ⟨p + 1, 1, none⟩ v') := by
  obtain ⟨h0, h1, h2, h3, h4, h5, h6⟩ := h
  have hn : ∀ o : Nat, (⟨p + 1, 1, none⟩ : Addr) ≠ ⟨p, o, none⟩ := by intro o; simp
  exact ⟨World.cell?_setCell_same _ _ _ h0, (World.cell?_setCell_other _ _ _ _ (by simp)).trans h1, (World.frozen?_setCell _ _ _ _).trans h2, (World.cell?_setCell_other _ _ _ _ (hn 0)).trans h3, (World.cell?_setCell_other _ _ _ _ (hn 1)).trans h4, (World.frozen?_setCell _ _ _ _).trans h5, (World.frozen?_setCell _ _ _ _).trans h6⟩
theorem own_ge3 {w : World} {base e size n : Nat} {v : Value} {xs : List Value} (h : w.ownsRow base e size v n xs) : ∀ k, v.ownBlock = some k → base ≤ k := by
  intro k hk
  obtain ⟨_, h | ⟨g, cap, cur, hv, hg, _⟩⟩ := h
  · rw [h.1] at hk; cases hk
  · rw [hv] at hk; simp [Value.ownBlock] at hk; omega
theorem owns_set {w : World} {b e size n : Nat} {v : Value} {xs : List Value} (h : w.ownsRow b e size v n xs) {p : Addr} (hp : p.block < b) (x : Value) : (w.setCell p x).ownsRow b e size v n xs := by
  obtain ⟨h1, h2 | ⟨g, cap, cur, hv, hg, hh, r⟩⟩ := h
  · exact ⟨h1, .inl h2⟩
  · exact ⟨h1, .inr ⟨g, cap, cur, hv, hg, by rw [Below.heap_setCell _ _ _ _ (by omega)]; exact hh, r⟩⟩

set_option maxHeartbeats 1000000 in
theorem SpecPlain_any (n a : Int) (w : World) :
    Calls Try.prog 64 #[.int .i64 n, .int .i64 a] w (FreshBB (plN n a) (plC n a) (plB n a) w) := by
  by_cases h : PlOk n a
  · obtain ⟨i0, hi0, hz0, hz1, hz2⟩ := info_parts3 info_cell
    obtain ⟨e1, e2, e3⟩ := pl_yes h
    rw [e1, e2, e3]
    clear e1 e2 e3
    obtain ⟨⟨n0, n1⟩, a0, a1⟩ := h
    obtain ⟨hw, s0, s1⟩ := sq_wrap n0 n1
    obtain ⟨m, hm⟩ : ∃ m : Nat, n * n = m := ⟨(n * n).toNat, by omega⟩
    rw [hm] at s0 s1
    have HM := Lib.hid hm
    have hmt : (n * n).toNat = m := by rw [hm]; simp
    rw [hmt]
    have hwh : wh a = a := wh_yes ⟨a0, a1⟩
    have CW : ∀ w, Calls Try.prog 84 #[.int .i64 a] w fun e w' => e = .returned (.agg #[.int .i64 0, .int .i64 a, .int .i64 a]) ∧ w' = w.alloc (.cells #[.int .i64 0, .int .i64 a, .int .i64 a] 58) := fun w => by have := SpecWhole_any a w; rw [hwh] at this; exact this
    clear hm hmt hwh
    go_enter Try.func64, Try.ntmps64
    go_wp2_with fail
    refine (In_yes _ _ _ _ n0 n1).mono ?_
    rintro e w' ⟨rfl, rfl⟩
    go_wp2_with fail
    refine (In_yes _ _ _ _ a0 a1).mono ?_
    rintro e w' ⟨rfl, rfl⟩
    go_wp2_with fail
    go_loopw [7] (fun i wr => ∃ (k : Nat) (v : Value), k ≤ m ∧ i = .int .i64 k ∧ Hid (wr.ownsRow (w.heap.size + 1 + 1) 58 3 v k (places (List.replicate k ⟨0, a, a⟩))) ∧
      Hid (PF w.heap.size n v wr) ∧ Below w.heap.size w wr ∧ w.heap.size + 1 + 1 ≤ wr.heap.size) (fun i _ => m - (intOf i).toNat)
    case atStart => exact ⟨0, .slice none 0 0, Nat.zero_le _, rfl, ⟨rfl, .inl ⟨rfl, rfl⟩⟩, ⟨by go_simp, by go_simp, by go_simp, by go_simp, by go_simp, by go_simp, by go_simp⟩, bel_n (bel0 _ _) (Nat.le_refl _) _, by simp⟩
    case round =>
      obtain ⟨k, v, hk, rfl, hown, hcs, hbel, hsz⟩ := hrel
      by_cases hlt : k < m
      · obtain ⟨q1, q0, f1, d0, d1, g0, g1⟩ := hcs.out
        have hd : decide ((k : Int) < n * n) = true := by rw [HM.out]; simpa using hlt
        have KK : ∀ o, (wr.alloc o).cell? ⟨w.heap.size + 1, 1, none⟩ = some v := fun o => kept (bel0 wr o) q1
        have KK2 : ∀ o o', ((wr.alloc o).alloc o').cell? ⟨w.heap.size + 1, 1, none⟩ = some v := fun o o' => kept (bel0 _ o') (KK o)
        have HO := Lib.hid (owns_below hown.out (bel_dr (bel_n (bel0 wr (.cells #[.int .i64 0, .int .i64 a, .int .i64 a] 58)) (Nat.le_refl _) (.cells #[.int .i64 0, .int .i64 a, .int .i64 a] 58))))
        have HNW : Hid (∀ (j : Nat) u, ([.int .i64 0, .int .i64 a, .int .i64 a] : List Value)[j]? = some u → (((wr.alloc (.cells #[.int .i64 0, .int .i64 a, .int .i64 a] 58)).alloc (.cells #[.int .i64 0, .int .i64 a, .int .i64 a] 58)).drew).cell? ((⟨wr.heap.size + 1, 0, none⟩ : Addr).add j) = some u) :=
          Lib.hid (fun j u hu => news_at (wr.alloc (.cells #[.int .i64 0, .int .i64 a, .int .i64 a] 58)) (wr.heap.size + 1) #[.int .i64 0, .int .i64 a, .int .i64 a] 58 (by simp) j u hu)
        have hb1 : w.heap.size + 1 + 1 ≤ (((wr.alloc (.cells #[.int .i64 0, .int .i64 a, .int .i64 a] 58)).alloc (.cells #[.int .i64 0, .int .i64 a, .int .i64 a] 58)).drew).heap.size := by simp; omega
        have HB1 := Lib.hid hb1
        clear hb1
        have bw : Below wr.heap.size wr (((wr.alloc (.cells #[.int .i64 0, .int .i64 a, .int .i64 a] 58)).alloc (.cells #[.int .i64 0, .int .i64 a, .int .i64 a] 58)).drew) := bel_dr (bel_n (bel0 wr (.cells #[.int .i64 0, .int .i64 a, .int .i64 a] 58)) (Nat.le_refl _) (.cells #[.int .i64 0, .int .i64 a, .int .i64 a] 58))
        have HF := Lib.hid (hcs.out.far (bw.mono hsz))
        have HBW := Lib.hid (bel_c hbel (Nat.le_refl _) bw)
        clear bw hcs
        go_wp2_with fail
        go_region_law (first
          | (go_simp; go_at_call 84; refine (CW _).mono ?_; rintro e w' ⟨rfl, rfl⟩)
          | (refine step_append_lies _ (by rfl) _ _ _ (by rfl) (w.heap.size + 1 + 1) 58 i0 _ 3 24 Try.underlying24 hi0 hz0 hz1 hz2 rfl (by omega) v k _ (by rfl) HO.out ⟨wr.heap.size + 1, 0, none⟩ 1 1 [.int .i64 0, .int .i64 a, .int .i64 a] (by rfl) (by rfl) HNW.out (by simp [Value.oneCell']) (by omega) (by unfold maxLen; omega) (by omega) HB1.out (wr.heap.size + 1 + 1) (by simp) ?_; intro gg cc w1 hown1 hgrow hat hlt1; have hbw := (Below.refl (w.heap.size + 1 + 1) _).grown hgrow HB1.out (own_ge3 HO.out); have hP := Lib.hid (HF.out.far hbw); have p1 := hP.out.1; have p2 := hP.out.2.2.1))
        all_goals
          have hl1 : k + 1 ≤ m := by omega
          have HN : Hid ((w1.setCell ⟨w.heap.size + 1, 1, none⟩ (.slice (some ⟨gg, 0, none⟩) (k + 1) cc)).ownsRow (w.heap.size + 1 + 1) 58 3 (.slice (some ⟨gg, 0, none⟩) (k + 1) cc) (k + 1) (places (List.replicate (k + 1) ⟨0, a, a⟩))) := Lib.hid (owns_set (by rw [places_snoc]; exact hown1) (by simp) _)
          have HP2 := Lib.hid (hP.out.store (.slice (some ⟨gg, 0, none⟩) (k + 1) cc))
          have HB2 := Lib.hid (Below.setCell (HBW.out.trans (hbw.mono (by omega))) (p := ⟨w.heap.size + 1, 1, none⟩) (by simp) (.slice (some ⟨gg, 0, none⟩) (k + 1) cc))
          have hs2 : w.heap.size + 1 + 1 ≤ w1.heap.size := Nat.le_trans HB1.out hbw.size
          clear hown1 hgrow hat hlt1 hbw hP p1 p2
          go_wp2_with fail
          go_roundw
          case rel => exact ⟨k + 1, _, hl1, by go_num, HN, HP2, HB2.out, by simp [World.setCell]; exact hs2⟩
          case measure => simp [intOf] <;> omega
      · obtain rfl : k = m := by omega
        obtain ⟨q1, q0, f1, d0, d1, g0, g1⟩ := hcs.out
        have hd : decide ((k : Int) < n * n) = false := by rw [HM.out]; simp
        have hin : CellIn (w.heap.size + 1 + 1) wr.heap.size wr v (List.replicate k ⟨0, a, a⟩) := CellIn.of_owns (by rw [List.length_replicate]; exact hown.out) (by rw [List.length_replicate]; omega)
        obtain ⟨av, cv, hv⟩ := hin.form
        subst hv
        have HI := Lib.hid hin
        clear hin hown hcs
        go_wp2_with fail
        refine bodyPost_ret (v := .tuple #[.agg #[.int .i64 n, .slice av (List.replicate k (⟨0, a, a⟩ : C3)).length cv], .bool true]) (by simp [results, Try.results64, go_sem, d0, d1]) rfl ⟨_, rfl, ?_, ?_⟩
        · refine CellIn.wide (lo := w.heap.size + 1 + 1) (hi := wr.heap.size) ?_ (by omega) (by simp [World.setCell])
          refine CellIn.set_far (CellIn.set_far HI.out ?_ _) ?_ _ <;> (simp <;> omega)
        · refine Below.setCell (Below.setCell hbel ?_ _) ?_ _ <;> (simp <;> omega)
  · obtain ⟨e1, e2, e3⟩ := pl_no h
    rw [e1, e2, e3]
    clear e1 e2 e3
    by_cases hn : 1 ≤ n ∧ n ≤ 4
    · have ha : a < 0 ∨ 5 < a := by unfold PlOk at h; omega
      obtain ⟨n0, n1⟩ := hn
      clear h
      go_enter Try.func64, Try.ntmps64
      go_wp2_with fail
      refine (In_yes _ _ _ _ n0 n1).mono ?_
      rintro e w' ⟨rfl, rfl⟩
      go_wp2_with fail
      refine (In_no _ _ _ _ ha).mono ?_
      rintro e w' ⟨rfl, rfl⟩
      go_wp2_with fail
      exact bodyPost_ret (v := .tuple #[.agg #[.int .i64 0, .slice none 0 0], .bool false]) (by simp [results, Try.results64, go_sem]) rfl ⟨.slice none 0 0, rfl, ⟨by simp, .inl ⟨rfl, _, _, rfl⟩⟩, bel0 _ _⟩
    · have hn' : n < 1 ∨ 4 < n := by omega
      clear h hn
      go_enter Try.func64, Try.ntmps64
      go_wp2_with fail
      refine (In_no _ _ _ _ hn').mono ?_
      rintro e w' ⟨rfl, rfl⟩
      go_wp2_with fail
      exact bodyPost_ret (v := .tuple #[.agg #[.int .i64 0, .slice none 0 0], .bool false]) (by simp [results, Try.results64, go_sem]) rfl ⟨.slice none 0 0, rfl, ⟨by simp, .inl ⟨rfl, _, _, rfl⟩⟩, bel0 _ _⟩

end Go.Proofs.Ytbnokmlmajcibaa
