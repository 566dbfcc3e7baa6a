/- Exchanges: a drawn list: what it is. Exchanges: a drawn cell, valid or not. Exchanges: a drawn block, valid or not. Blocks: DrawBlock, and small helpers of the laws. -/
import Derived.Test.YtfidnhhlcdbaeaaGreatDoorM11
import Derived.Test.YtfidnhhlcdbaeaaGreatDoorM05
import Derived.Test.YtfidnhhlcdbaeaaGreatDoorM06
import Derived.Deep.RegionHeld3
import Derived.Deep.QuietTactic

namespace Go.Proofs.YtfidnhhlcdbaeaaGreatDoor
open Go.ChangeShapes Go.WideShapes Go.ChangeAt Go.RowKit

theorem IntIn.but {lo hi b : Nat} {w w' : World} {v : Value} {zs : List Int} (h : IntIn lo hi w v zs) (hb : But b w w') (hl : b < lo) (hh : hi ≤ w.heap.size) : IntIn lo hi w' v zs := by
  obtain ⟨hl', h | ⟨g, cap, hv, hg, hlt, hc⟩⟩ := h
  · exact ⟨hl', .inl h⟩
  · refine ⟨hl', .inr ⟨g, cap, hv, hg, hlt, fun i hi => ?_⟩⟩
    have hg1 : g < w.heap.size := by omega
    have hg2 : g ≠ b := by omega
    exact ⟨(hb.cell (p := ⟨g, _, none⟩) hg1 hg2).trans (hc i hi).1, (hb.frozen (p := ⟨g, _, none⟩) hg1 hg2).trans (hc i hi).2⟩
theorem IntO.but {lo hi b : Nat} {w w' : World} {v : Value} {zs : List Int} (h : IntO lo hi w v zs) (hb : But b w w') (hl : b < lo) (hh : hi ≤ w.heap.size) : IntO lo hi w' v zs := by
  obtain ⟨hl', h | ⟨g, o, cap, hv, hg, hlt, hc⟩⟩ := h
  · exact ⟨hl', .inl h⟩
  · refine ⟨hl', .inr ⟨g, o, cap, hv, hg, hlt, fun i hi => ?_⟩⟩
    have hg1 : g < w.heap.size := by omega
    have hg2 : g ≠ b := by omega
    exact ⟨(hb.cell (p := ⟨g, _, none⟩) hg1 hg2).trans (hc i hi).1, (hb.frozen (p := ⟨g, _, none⟩) hg1 hg2).trans (hc i hi).2⟩
theorem lit4 (W : World) (x0 x1 x2 x3 : Int) (T : TypeId) : IntIn W.heap.size (W.heap.size + 1) (W.alloc (.cells #[.int .i64 x0, .int .i64 x1, .int .i64 x2, .int .i64 x3] T)) (.slice (some ⟨W.heap.size, 0, none⟩) 4 4) [x0, x1, x2, x3] :=
  ⟨by simp, .inr ⟨W.heap.size, 4, rfl, Nat.le_refl _, Nat.lt_succ_self _, fun i hi => by
    have : i = 0 ∨ i = 1 ∨ i = 2 ∨ i = 3 := by simp at hi; omega
    rcases this with rfl | rfl | rfl | rfl <;> exact ⟨by simp, by simp⟩⟩⟩
/-- A list as drawn: near a list of colors. -/
def NearL (zs : List Int) : Prop := 5 ≤ zs.length ∧ zs.length ≤ 6 ∧ ∀ i, i < zs.length → -1 ≤ zs.getD i 0 ∧ zs.getD i 0 ≤ 6
theorem near_id : NearL idL := ⟨by decide, by decide, by decide⟩
theorem NearL.set {zs : List Int} (h : NearL zs) (j : Nat) {z : Int} (hz : -1 ≤ z ∧ z ≤ 6) : NearL (zs.set j z) := by
  obtain ⟨h5, h6, hc⟩ := h
  refine ⟨by simpa using h5, by simpa using h6, fun i hi => ?_⟩
  rw [List.length_set] at hi
  by_cases e : j = i
  · subst e
    simp [List.getD, hi]; exact hz
  · have := hc i hi
    simpa [List.getD, List.getElem?_set, e] using this
theorem NearL.cut {zs : List Int} (h : NearL zs) (h6 : zs.length = 6) : NearL (zs.drop 1) := by
  obtain ⟨_, _, hc⟩ := h
  refine ⟨by simp; omega, by simp; omega, fun i hi => ?_⟩
  rw [List.length_drop] at hi
  have := hc (1 + i) (by omega)
  simpa [List.getD, List.getElem?_drop, Nat.add_comm 1 i] using this
theorem IntIn.cut {lo hi g n cap : Nat} {w : World} {zs : List Int} (h : IntIn lo hi w (.slice (some ⟨g, 0, none⟩) n cap) zs) (m c : Nat) (h1 : 1 ≤ zs.length) (hm : m = zs.length - 1) : IntO lo hi w (.slice (some ⟨g, 1, none⟩) m c) (zs.drop 1) := by
  obtain ⟨hl, ⟨h, _⟩ | ⟨g', cap', hv, hg, hlt, hc⟩⟩ := h
  · subst h; simp at h1
  · simp only [Value.slice.injEq, Option.some.injEq, Addr.mk.injEq, and_true] at hv
    obtain ⟨rfl, rfl, rfl⟩ := hv
    refine ⟨by simp; omega, .inr ⟨g, 1, c, by simp [hm], hg, hlt, fun i hi => ?_⟩⟩
    rw [List.length_drop] at hi
    have := hc (1 + i) (by omega)
    simpa [List.getD, List.getElem?_drop, Nat.add_comm 1 i] using this
theorem pick4 {x : Int} (h : ∃ i, i < ([-1, 0, 5, 6] : List Int).length ∧ x = ([-1, 0, 5, 6] : List Int).getD i 0) : -1 ≤ x ∧ x ≤ 6 := by
  obtain ⟨i, hi, rfl⟩ := h
  have : i = 0 ∨ i = 1 ∨ i = 2 ∨ i = 3 := by simp at hi; omega
  rcases this with rfl | rfl | rfl | rfl <;> decide
/-- A list is handed back, in a block of its own; the cursor goes on. -/
def DrawnL (b : Nat) (a : Option Addr) (len cap : Nat) (w : World) (e : Ending) (w' : World) : Prop :=
  ∃ (v : Value) (zs : List Int), NearL zs ∧ e = .returned v ∧ IntO w.heap.size w'.heap.size w' v zs ∧ Cur w' b a len cap ∧ But b w w'
end Go.Proofs.YtfidnhhlcdbaeaaGreatDoor

namespace Go.Proofs.YtfidnhhlcdbaeaaGreatDoor
open Go.ChangeShapes Go.WideShapes Go.ChangeAt Go.RowKit

/-- A cell's three places: what they hold, and that they may be written. -/
def BoxC (p : Nat) (x y z : Value) (u : World) : Prop :=
  (u.cell? ⟨p, 0, none⟩ = some x ∧ u.cell? ⟨p, 1, none⟩ = some y ∧ u.cell? ⟨p, 2, none⟩ = some z) ∧ u.frozen? ⟨p, 0, none⟩ = false ∧ u.frozen? ⟨p, 1, none⟩ = false ∧ u.frozen? ⟨p, 2, none⟩ = false
theorem BoxC.lt {p : Nat} {x y z : Value} {u : World} (h : BoxC p x y z u) : p < u.heap.size := lt_of_cell h.1.1
theorem BoxC.but {p b : Nat} {x y z : Value} {u w : World} (h : BoxC p x y z u) (hb : But b u w) (hp : p ≠ b) : BoxC p x y z w := by
  have hl := h.lt
  obtain ⟨⟨h0, h1, h2⟩, f0, f1, f2⟩ := h
  exact ⟨⟨(hb.cell (p := ⟨p, 0, none⟩) hl hp).trans h0, (hb.cell (p := ⟨p, 1, none⟩) hl hp).trans h1, (hb.cell (p := ⟨p, 2, none⟩) hl hp).trans h2⟩,
    (hb.frozen (p := ⟨p, 0, none⟩) hl hp).trans f0, (hb.frozen (p := ⟨p, 1, none⟩) hl hp).trans f1, (hb.frozen (p := ⟨p, 2, none⟩) hl hp).trans f2⟩
theorem BoxC.below {p B : Nat} {x y z : Value} {u w : World} (h : BoxC p x y z u) (hb : Below B u w) (hp : p < B) : BoxC p x y z w := by
  obtain ⟨⟨h0, h1, h2⟩, f0, f1, f2⟩ := h
  exact ⟨⟨(hb.cell (p := ⟨p, 0, none⟩) hp).trans h0, (hb.cell (p := ⟨p, 1, none⟩) hp).trans h1, (hb.cell (p := ⟨p, 2, none⟩) hp).trans h2⟩,
    (hb.frozen (p := ⟨p, 0, none⟩) hp).trans f0, (hb.frozen (p := ⟨p, 1, none⟩) hp).trans f1, (hb.frozen (p := ⟨p, 2, none⟩) hp).trans f2⟩
theorem BoxC.new (w : World) (x y z : Value) (T : TypeId) : BoxC w.heap.size x y z (w.alloc (.cells #[x, y, z] T)) := ⟨⟨by simp, by simp, by simp⟩, by simp, by simp, by simp⟩

/-- A cell is handed back; the cursor goes on. -/
def DrawnC2 (b : Nat) (a : Option Addr) (len cap : Nat) (w : World) (e : Ending) (w' : World) : Prop :=
  ∃ s x y : Int, e = .returned (.agg #[.int .i64 s, .int .i64 x, .int .i64 y]) ∧ Cur w' b a len cap ∧ But b w w'

end Go.Proofs.YtfidnhhlcdbaeaaGreatDoor

namespace Go.Proofs.YtfidnhhlcdbaeaaGreatDoor
open Go.ChangeShapes Go.WideShapes Go.ChangeAt Go.RowKit

/-- A slice of cells in a block from lo on, below hi, from some cell on. -/
def CellO (lo hi : Nat) (w : World) (v : Value) (xs : List C3) : Prop :=
  xs.length ≤ 1048576 ∧ ((xs = [] ∧ ∃ a c, v = .slice a 0 c) ∨
    ∃ g k cap, v = .slice (some ⟨g, k * 3, none⟩) xs.length cap ∧ lo ≤ g ∧ g < hi ∧ ∀ i, i < xs.length → El w g (k + i) (xs.getD i C3.zero) ∧ Soft w g (k + i))
theorem CellO.below {lo hi : Nat} {w w' : World} {v : Value} {xs : List C3} (h : CellO lo hi w v xs) (hb : Below hi w w') : CellO lo hi w' v xs := by
  obtain ⟨hl, h | ⟨g, k, cap, hv, hg, hlt, hc⟩⟩ := h
  · exact ⟨hl, .inl h⟩
  · exact ⟨hl, .inr ⟨g, k, cap, hv, hg, hlt, fun i hi => ⟨(hc i hi).1.below hb hlt, (hc i hi).2.below hb hlt⟩⟩⟩
theorem CellO.wide {lo hi lo' hi' : Nat} {w : World} {v : Value} {xs : List C3} (h : CellO lo hi w v xs) (h1 : lo' ≤ lo) (h2 : hi ≤ hi') : CellO lo' hi' w v xs := by
  obtain ⟨hl, h | ⟨g, k, cap, hv, hg, hlt, hc⟩⟩ := h
  · exact ⟨hl, .inl h⟩
  · exact ⟨hl, .inr ⟨g, k, cap, hv, by omega, by omega, hc⟩⟩
theorem CellO.form {lo hi : Nat} {w : World} {v : Value} {xs : List C3} (h : CellO lo hi w v xs) : ∃ a cap, v = .slice a xs.length cap := by
  obtain ⟨_, ⟨rfl, a, c, hv⟩ | ⟨g, k, cap, hv, _⟩⟩ := h
  · exact ⟨a, c, hv⟩
  · exact ⟨_, _, hv⟩
theorem CellO.set_far {lo hi : Nat} {w : World} {v : Value} {xs : List C3} (h : CellO lo hi w v xs) {p : Addr} (hp : p.block < lo ∨ hi ≤ p.block) (x : Value) : CellO lo hi (w.setCell p x) v xs := by
  obtain ⟨hl, h | ⟨g, k, cap, hv, hg, hlt, hc⟩⟩ := h
  · exact ⟨hl, .inl h⟩
  · exact ⟨hl, .inr ⟨g, k, cap, hv, hg, hlt, fun i hi => ⟨(hc i hi).1.set_far (by omega) x, (hc i hi).2.set_far p x⟩⟩⟩
theorem CellIn.o {lo hi : Nat} {w : World} {v : Value} {xs : List C3} (h : CellIn lo hi w v xs) : CellO lo hi w v xs := by
  obtain ⟨hl, h | ⟨g, cap, hv, hg, hlt, hc⟩⟩ := h
  · exact ⟨hl, .inl h⟩
  · exact ⟨hl, .inr ⟨g, 0, cap, by simpa using hv, hg, hlt, fun i hi => by rw [Nat.zero_add]; exact hc i hi⟩⟩
/-- The row without its first cell. -/
theorem CellIn.cut {lo hi g n cap : Nat} {w : World} {xs : List C3} (h : CellIn lo hi w (.slice (some ⟨g, 0, none⟩) n cap) xs) (m c : Nat) (h1 : 1 ≤ xs.length) (hm : m = xs.length - 1) : CellO lo hi w (.slice (some ⟨g, 3, none⟩) m c) (xs.drop 1) := by
  obtain ⟨hl, ⟨h, _⟩ | ⟨g', cap', hv, hg, hlt, hc⟩⟩ := h
  · subst h; simp at h1
  · simp only [Value.slice.injEq, Option.some.injEq, Addr.mk.injEq, and_true] at hv
    obtain ⟨rfl, rfl, rfl⟩ := hv
    refine ⟨by simp; omega, .inr ⟨g, 1, c, by simp [hm], hg, hlt, fun i hi => ?_⟩⟩
    rw [List.length_drop] at hi
    have := hc (1 + i) (by omega)
    simpa [List.getD, List.getElem?_drop, Nat.add_comm 1 i] using this
/-- The row without its last cell. -/
theorem CellIn.short {lo hi g n cap : Nat} {w : World} {xs : List C3} (h : CellIn lo hi w (.slice (some ⟨g, 0, none⟩) n cap) xs) (m c : Nat) (h1 : 1 ≤ xs.length) (hm : m = xs.length - 1) : CellO lo hi w (.slice (some ⟨g, 0, none⟩) m c) (xs.take m) := by
  obtain ⟨hl, ⟨h, _⟩ | ⟨g', cap', hv, hg, hlt, hc⟩⟩ := h
  · subst h; simp at h1
  · simp only [Value.slice.injEq, Option.some.injEq, Addr.mk.injEq, and_true] at hv
    obtain ⟨rfl, rfl, rfl⟩ := hv
    have hlen : (xs.take m).length = m := by rw [List.length_take]; omega
    refine ⟨by omega, .inr ⟨g, 0, c, by simp [hlen], hg, hlt, fun i hi => ?_⟩⟩
    rw [hlen] at hi
    have := hc i (by omega)
    rw [Nat.zero_add, show (xs.take m).getD i C3.zero = xs.getD i C3.zero by simp [List.getD, hi]]
    exact this

theorem CellIn.set_out {lo hi : Nat} {w : World} {v : Value} {xs : List C3} (h : CellIn lo hi w v xs) {p : Addr} (hp : p.block < lo ∨ hi ≤ p.block) (x : Value) : CellIn lo hi (w.setCell p x) v xs := by
  obtain ⟨hl, h | ⟨g, cap, hv, hg, hlt, hc⟩⟩ := h
  · exact ⟨hl, .inl h⟩
  · exact ⟨hl, .inr ⟨g, cap, hv, hg, hlt, fun i hi => ⟨(hc i hi).1.set_far (by omega) x, (hc i hi).2.set_far p x⟩⟩⟩
/-- A block is handed back: a row of as many cells as it has places, or of one fewer; the cursor goes on. -/
def DrawnB3 (b : Nat) (a : Option Addr) (len cap : Nat) (w : World) (e : Ending) (w' : World) : Prop :=
  ∃ (n : Int) (v : Value) (xs : List C3), xs.length ≤ 16 ∧ e = .returned (.agg #[.int .i64 n, v]) ∧
    (CellIn w.heap.size w'.heap.size w' v xs ∨ ((1 ≤ n ∧ n ≤ 4 ∧ (xs.length : Int) + 1 = n * n) ∧ CellO w.heap.size w'.heap.size w' v xs)) ∧ Cur w' b a len cap ∧ But b w w'

/-- What stays while a cell is drawn. -/
def AnyK (b : Nat) (a : Option Addr) (len cap : Nat) (w : World) (p g : Nat) (n : Int) (cv m : Nat) (u : World) : Prop :=
  ∃ xs : List C3, xs.length = m ∧ Cur u b a len cap ∧ But b w u ∧ BoxB w.heap.size (.int .i64 0) (.slice none 0 0) u ∧ BoxB p (.int .i64 n) (.slice (some ⟨g, 0, none⟩) m cv) u ∧ CellIn (w.heap.size + 1) p u (.slice (some ⟨g, 0, none⟩) m cv) xs ∧ p < u.heap.size
theorem AnyK.but {b : Nat} {a : Option Addr} {len cap : Nat} {w : World} {p g : Nat} {n : Int} {cv m : Nat} {u v : World} (h : AnyK b a len cap w p g n cv m u) (hb : b < w.heap.size) (hp : w.heap.size < p) (hB : But b u v) (hC : Cur v b a len cap) : AnyK b a len cap w p g n cv m v := by
  obtain ⟨xs, hx, _, B, P, Q, I, hs⟩ := h
  exact ⟨xs, hx, hC, B.trans hB, P.but hB (by omega), Q.but hB (by omega), I.but hB (by omega) (by omega), Nat.lt_of_lt_of_le hs hB.size⟩
theorem AnyK.at {b : Nat} {a : Option Addr} {len cap : Nat} {w : World} {p g : Nat} {n : Int} {cv m : Nat} {u : World} (h : AnyK b a len cap w p g n cv m u) {i : Nat} (hi : i < m) : (∃ c, El u g i c) ∧ Soft u g i := by
  obtain ⟨xs, rfl, _, _, _, _, I, _⟩ := h
  obtain ⟨_, hg, _, _, r⟩ := I.at (Below.refl _ _) hi
  simp only [Option.some.injEq, Addr.mk.injEq, and_true] at hg
  subst hg
  exact ⟨⟨_, r.1⟩, r.2⟩
theorem AnyK.set {b : Nat} {a : Option Addr} {len cap : Nat} {w : World} {p g : Nat} {n : Int} {cv m : Nat} {u : World} (h : AnyK b a len cap w p g n cv m u) (hb : b < w.heap.size) (hg : w.heap.size < g) (hp : g < p) {i : Nat} (hi : i < m) (s x y : Int) : AnyK b a len cap w p g n cv m (setEl u g i s x y) := by
  obtain ⟨xs, rfl, C, B, P, Q, I, hs⟩ := h
  refine ⟨xs.set i ⟨s, x, y⟩, by simp, ?_, ?_, ?_, ?_, I.set i hi s x y, by simpa [World.setCell] using hs⟩
  · refine C.below (B := w.heap.size) (Below.setCell (Below.setCell (Below.setCell (Below.refl _ _) ?_ _) ?_ _) ?_ _) hb <;> exact Nat.le_of_lt hg
  · refine But.setCell (But.setCell (But.setCell B (.inr ?_) _) (.inr ?_) _) (.inr ?_) _ <;> exact Nat.le_of_lt hg
  · refine BoxB.set_far (BoxB.set_far (BoxB.set_far P ?_ _) ?_ _) ?_ _ <;> omega
  · refine BoxB.set_far (BoxB.set_far (BoxB.set_far Q ?_ _) ?_ _) ?_ _ <;> omega
theorem AnyK.box {b : Nat} {a : Option Addr} {len cap : Nat} {w : World} {p g : Nat} {n : Int} {cv m : Nat} {u : World} (h : AnyK b a len cap w p g n cv m u) : u.cell? ⟨p, 0, none⟩ = some (.int .i64 n) ∧ u.cell? ⟨p, 1, none⟩ = some (.slice (some ⟨g, 0, none⟩) m cv) ∧ u.cell? ⟨w.heap.size, 0, none⟩ = some (.int .i64 0) ∧ u.cell? ⟨w.heap.size, 1, none⟩ = some (.slice none 0 0) ∧ u.frozen? ⟨w.heap.size, 0, none⟩ = false ∧ u.frozen? ⟨w.heap.size, 1, none⟩ = false := by
  obtain ⟨xs, _, _, _, P, Q, _, _⟩ := h
  exact ⟨Q.1, Q.2.1, P.1, P.2.1, P.2.2.1, P.2.2.2⟩

end Go.Proofs.YtfidnhhlcdbaeaaGreatDoor

namespace Go.Proofs.YtfidnhhlcdbaeaaGreatDoor
open Go.ChangeShapes Go.WideShapes Go.ChangeAt Go.RowKit

theorem Src.up2 {w : World} {b b' : Nat} {a : Option Addr} {len : Nat} (h : Src w b a len) (hb : b ≤ b') : Src w b' a len := by
  obtain ⟨hm, h | ⟨xb, xo, ha, hlt, hc⟩⟩ := h
  · exact ⟨hm, .inl h⟩
  · exact ⟨hm, .inr ⟨xb, xo, ha, Nat.lt_of_lt_of_le hlt hb, hc⟩⟩

/-- A valid block is handed back. -/
def GivenB (w : World) (e : Ending) (w' : World) : Prop :=
  ∃ (n : Int) (v : Value) (xs : List C3), BlkOk n xs ∧ e = .returned (.agg #[.int .i64 n, v]) ∧ CellIn w.heap.size w'.heap.size w' v xs ∧ Below w.heap.size w w'

set_option maxHeartbeats 400000 in
theorem DrawBlock_any (a : Option Addr) (len cap : Nat) (w : World) (hs : Src w w.heap.size a len) (hlen : len ≤ 1048576) :
    Calls Tryz.prog 5 #[.slice a len cap] w (GivenB w) := by
  have HS := Lib.hid (fun o => (hs.but ((But.refl _ _).alloc o)).up2 (b' := w.heap.size + 1) (by omega))
  clear hs
  go_enter Tryz.func5, Tryz.ntmps5
  go_wp2_with fail
  refine (New_any a len cap _ (by simpa using HS.out _) hlen).mono ?_
  rintro e w1 ⟨rfl, hc1, hb1⟩
  go_wp2_with fail
  refine (BlockDraw_any _ a len cap _ (by simpa using hc1)).mono ?_
  rintro e w2 ⟨n, v, xs, hv, rfl, hin, hc2, hb2⟩
  obtain ⟨av, cv, rfl⟩ := hin.form
  have z1 : w.heap.size + 1 ≤ w1.heap.size := by have := hb1.size; simpa using this
  have hb3 : Below (w.heap.size + 1) (w.alloc (.cells #[.int .i64 0, .slice none 0 0] 26)) w2 := (hb1.mono (by simp)).trans (hb2.below (Nat.le_refl _) z1)
  have P := (BoxB.new w (.int .i64 0) (.slice none 0 0) 26).below hb3 (Nat.lt_succ_self _)
  obtain ⟨p0, p1, f0, f1⟩ := P
  have hb5 : Below w.heap.size w w2 := (bel0 w _).trans (hb3.mono (by omega))
  have HI := Lib.hid hin
  have HV := Lib.hid hv
  clear hb1 hb2 hb3 hc1 hc2 hin hv
  go_wp2_with fail
  refine bodyPost_ret (v := .agg #[.int .i64 n, .slice av xs.length cv]) (by simp [results, Tryz.results5, go_sem, p0, p1]) rfl ⟨n, _, xs, HV.out, rfl, ?_, ?_⟩
  · refine CellIn.wide (lo := w1.heap.size) (hi := w2.heap.size) ?_ (by omega) (by simp [World.setCell])
    refine CellIn.set_far (CellIn.set_far HI.out ?_ _) ?_ _ <;> (simp <;> omega)
  · refine Below.setCell (Below.setCell hb5 ?_ _) ?_ _ <;> exact Nat.le_refl _

/-- A number from 0 to 255 is handed back. -/
def ByteV (w : World) (e : Ending) (w' : World) : Prop := ∃ x : Int, 0 ≤ x ∧ x ≤ 255 ∧ e = .returned (.int .i64 x) ∧ w' = w
theorem At_any (a : Option Addr) (len cap : Nat) (i : Int) (w : World) (b : Nat) (hs : Src w b a len) (h0 : 0 ≤ i) (h1 : i ≤ 1000000) :
    Calls Tryz.prog 6 #[.slice a len cap, .int .i64 i] w (ByteV w) := by
  obtain ⟨hm, hs⟩ := hs
  unfold maxLen at hm
  rcases hs with h | ⟨xb, xo, rfl, _, hc⟩
  · subst h
    go_enter Tryz.func6, Tryz.ntmps6
    go_wp2_with fail
    go_ret
    exact ⟨0, by omega, by omega, rfl, rfl⟩
  · by_cases hl : len = 0
    · subst hl
      clear hc
      go_enter Tryz.func6, Tryz.ntmps6
      go_wp2_with fail
      go_ret
      exact ⟨0, by omega, by omega, rfl, rfl⟩
    · have hz : ((len : Int) == 0) = false := by simp; exact hl
      have hz2 : ¬ (len : Int) = 0 := by omega
      obtain ⟨j, hj⟩ : ∃ j : Nat, (i * 5 + 1).tmod (len : Int) = j := ⟨((i * 5 + 1).tmod (len : Int)).toNat, by have := Int.tmod_nonneg (len : Int) (show 0 ≤ i * 5 + 1 by omega); omega⟩
      have hjl : j < len := by have := Int.tmod_lt_of_pos (i * 5 + 1) (show (0 : Int) < len by omega); omega
      obtain ⟨x, hx, x0, x1⟩ := hc j hjl
      have w1 : IntKind.i64.wrap (i * 5) = i * 5 := by rw [IntKind.wrap_i64]; omega
      have w2 : IntKind.i64.wrap (i * 5 + 1) = i * 5 + 1 := by rw [IntKind.wrap_i64]; omega
      clear hc
      go_enter Tryz.func6, Tryz.ntmps6
      go_wp2_with fail
      go_ret
      exact ⟨x, x0, x1, rfl, rfl⟩

end Go.Proofs.YtfidnhhlcdbaeaaGreatDoor
