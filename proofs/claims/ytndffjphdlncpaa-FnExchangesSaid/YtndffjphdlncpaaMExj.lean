/- Exchanges: a drawn block, valid or not. Exchanges: DrawExchangeBlock: a block, valid or not, and a list. Exchanges: the model's BlockOk on a block as drawn, cut or not; the program's contracts that FnExchanges wants of a cut block. -/
import Derived.Test.YtndffjphdlncpaaMExd
import Derived.Deep.RegionHeld3
import Derived.Test.YtndffjphdlncpaaMBld

namespace Go.Proofs.Ytndffjphdlncpaa
open Go.ChangeShapes Go.WideShapes Go.ChangeAt Go.RowKit

/-- A slice of cells in a block from lo on, below hi, from some cell on. -/
def CellO (lo hi : Nat) (w : World) (v : Value) (xs : List C3) : Prop :=
  xs.length ≤ 1048576 ∧ ((xs = [] ∧ ∃ a c, v = .slice a 0 c) ∨
    ∃ g k cap, v = .slice (some ⟨g, k * 3, none⟩) xs.length cap ∧ lo ≤ g ∧ g < hi ∧ ∀ i, i < xs.length → El w g (k + i) (xs.getD i C3.zero) ∧ Soft w g (k + i))
theorem CellO.below {lo hi : Nat} {w w' : World} {v : Value} {xs : List C3} (h : CellO lo hi w v xs) (hb : Below hi w w') : CellO lo hi w' v xs := by
  obtain ⟨hl, h | ⟨g, k, cap, hv, hg, hlt, hc⟩⟩ := h
  · exact ⟨hl, .inl h⟩
  · exact ⟨hl, .inr ⟨g, k, cap, hv, hg, hlt, fun i hi => ⟨(hc i hi).1.below hb hlt, (hc i hi).2.below hb hlt⟩⟩⟩
theorem CellO.wide {lo hi lo' hi' : Nat} {w : World} {v : Value} {xs : List C3} (h : CellO lo hi w v xs) (h1 : lo' ≤ lo) (h2 : hi ≤ hi') : CellO lo' hi' w v xs := by
  obtain ⟨hl, h | ⟨g, k, cap, hv, hg, hlt, hc⟩⟩ := h
  · exact ⟨hl, .inl h⟩
  · exact ⟨hl, .inr ⟨g, k, cap, hv, by omega, by omega, hc⟩⟩
theorem CellO.form {lo hi : Nat} {w : World} {v : Value} {xs : List C3} (h : CellO lo hi w v xs) : ∃ a cap, v = .slice a xs.length cap := by
  obtain ⟨_, ⟨rfl, a, c, hv⟩ | ⟨g, k, cap, hv, _⟩⟩ := h
  · exact ⟨a, c, hv⟩
  · exact ⟨_, _, hv⟩
theorem CellO.set_far {lo hi : Nat} {w : World} {v : Value} {xs : List C3} (h : CellO lo hi w v xs) {p : Addr} (hp : p.block < lo ∨ hi ≤ p.block) (x : Value) : CellO lo hi (w.setCell p x) v xs := by
  obtain ⟨hl, h | ⟨g, k, cap, hv, hg, hlt, hc⟩⟩ := h
  · exact ⟨hl, .inl h⟩
  · exact ⟨hl, .inr ⟨g, k, cap, hv, hg, hlt, fun i hi => ⟨(hc i hi).1.set_far (by omega) x, (hc i hi).2.set_far p x⟩⟩⟩
theorem CellIn.o {lo hi : Nat} {w : World} {v : Value} {xs : List C3} (h : CellIn lo hi w v xs) : CellO lo hi w v xs := by
  obtain ⟨hl, h | ⟨g, cap, hv, hg, hlt, hc⟩⟩ := h
  · exact ⟨hl, .inl h⟩
  · exact ⟨hl, .inr ⟨g, 0, cap, by simpa using hv, hg, hlt, fun i hi => by rw [Nat.zero_add]; exact hc i hi⟩⟩
/-- The row without its first cell. -/
theorem CellIn.cut {lo hi g n cap : Nat} {w : World} {xs : List C3} (h : CellIn lo hi w (.slice (some ⟨g, 0, none⟩) n cap) xs) (m c : Nat) (h1 : 1 ≤ xs.length) (hm : m = xs.length - 1) : CellO lo hi w (.slice (some ⟨g, 3, none⟩) m c) (xs.drop 1) := by
  obtain ⟨hl, ⟨h, _⟩ | ⟨g', cap', hv, hg, hlt, hc⟩⟩ := h
  · subst h; simp at h1
  · simp only [Value.slice.injEq, Option.some.injEq, Addr.mk.injEq, and_true] at hv
    obtain ⟨rfl, rfl, rfl⟩ := hv
    refine ⟨by simp; omega, .inr ⟨g, 1, c, by simp [hm], hg, hlt, fun i hi => ?_⟩⟩
    rw [List.length_drop] at hi
    have := hc (1 + i) (by omega)
    simpa [List.getD, List.getElem?_drop, Nat.add_comm 1 i] using this
/-- The row without its last cell. -/
theorem CellIn.short {lo hi g n cap : Nat} {w : World} {xs : List C3} (h : CellIn lo hi w (.slice (some ⟨g, 0, none⟩) n cap) xs) (m c : Nat) (h1 : 1 ≤ xs.length) (hm : m = xs.length - 1) : CellO lo hi w (.slice (some ⟨g, 0, none⟩) m c) (xs.take m) := by
  obtain ⟨hl, ⟨h, _⟩ | ⟨g', cap', hv, hg, hlt, hc⟩⟩ := h
  · subst h; simp at h1
  · simp only [Value.slice.injEq, Option.some.injEq, Addr.mk.injEq, and_true] at hv
    obtain ⟨rfl, rfl, rfl⟩ := hv
    have hlen : (xs.take m).length = m := by rw [List.length_take]; omega
    refine ⟨by omega, .inr ⟨g, 0, c, by simp [hlen], hg, hlt, fun i hi => ?_⟩⟩
    rw [hlen] at hi
    have := hc i (by omega)
    rw [Nat.zero_add, show (xs.take m).getD i C3.zero = xs.getD i C3.zero by simp [List.getD, hi]]
    exact this

theorem CellIn.set_out {lo hi : Nat} {w : World} {v : Value} {xs : List C3} (h : CellIn lo hi w v xs) {p : Addr} (hp : p.block < lo ∨ hi ≤ p.block) (x : Value) : CellIn lo hi (w.setCell p x) v xs := by
  obtain ⟨hl, h | ⟨g, cap, hv, hg, hlt, hc⟩⟩ := h
  · exact ⟨hl, .inl h⟩
  · exact ⟨hl, .inr ⟨g, cap, hv, hg, hlt, fun i hi => ⟨(hc i hi).1.set_far (by omega) x, (hc i hi).2.set_far p x⟩⟩⟩
/-- A block is handed back: a row of as many cells as it has places, or of one fewer; the cursor goes on. -/
def DrawnB3 (b : Nat) (a : Option Addr) (len cap : Nat) (w : World) (e : Ending) (w' : World) : Prop :=
  ∃ (n : Int) (v : Value) (xs : List C3), xs.length ≤ 16 ∧ e = .returned (.agg #[.int .i64 n, v]) ∧
    (CellIn w.heap.size w'.heap.size w' v xs ∨ ((1 ≤ n ∧ n ≤ 4 ∧ (xs.length : Int) + 1 = n * n) ∧ CellO w.heap.size w'.heap.size w' v xs)) ∧ Cur w' b a len cap ∧ But b w w'

/-- What stays while a cell is drawn. -/
def AnyK (b : Nat) (a : Option Addr) (len cap : Nat) (w : World) (p g : Nat) (n : Int) (cv m : Nat) (u : World) : Prop :=
  ∃ xs : List C3, xs.length = m ∧ Cur u b a len cap ∧ But b w u ∧ BoxB w.heap.size (.int .i64 0) (.slice none 0 0) u ∧ BoxB p (.int .i64 n) (.slice (some ⟨g, 0, none⟩) m cv) u ∧ CellIn (w.heap.size + 1) p u (.slice (some ⟨g, 0, none⟩) m cv) xs ∧ p < u.heap.size
theorem AnyK.but {b : Nat} {a : Option Addr} {len cap : Nat} {w : World} {p g : Nat} {n : Int} {cv m : Nat} {u v : World} (h : AnyK b a len cap w p g n cv m u) (hb : b < w.heap.size) (hp : w.heap.size < p) (hB : But b u v) (hC : Cur v b a len cap) : AnyK b a len cap w p g n cv m v := by
  obtain ⟨xs, hx, _, B, P, Q, I, hs⟩ := h
  exact ⟨xs, hx, hC, B.trans hB, P.but hB (by omega), Q.but hB (by omega), I.but hB (by omega) (by omega), Nat.lt_of_lt_of_le hs hB.size⟩
theorem AnyK.at {b : Nat} {a : Option Addr} {len cap : Nat} {w : World} {p g : Nat} {n : Int} {cv m : Nat} {u : World} (h : AnyK b a len cap w p g n cv m u) {i : Nat} (hi : i < m) : (∃ c, El u g i c) ∧ Soft u g i := by
  obtain ⟨xs, rfl, _, _, _, _, I, _⟩ := h
  obtain ⟨_, hg, _, _, r⟩ := I.at (Below.refl _ _) hi
  simp only [Option.some.injEq, Addr.mk.injEq, and_true] at hg
  subst hg
  exact ⟨⟨_, r.1⟩, r.2⟩
theorem AnyK.set {b : Nat} {a : Option Addr} {len cap : Nat} {w : World} {p g : Nat} {n : Int} {cv m : Nat} {u : World} (h : AnyK b a len cap w p g n cv m u) (hb : b < w.heap.size) (hg : w.heap.size < g) (hp : g < p) {i : Nat} (hi : i < m) (s x y : Int) : AnyK b a len cap w p g n cv m (setEl u g i s x y) := by
  obtain ⟨xs, rfl, C, B, P, Q, I, hs⟩ := h
  refine ⟨xs.set i ⟨s, x, y⟩, by simp, ?_, ?_, ?_, ?_, I.set i hi s x y, by simpa [World.setCell] using hs⟩
  · refine C.below (B := w.heap.size) (Below.setCell (Below.setCell (Below.setCell (Below.refl _ _) ?_ _) ?_ _) ?_ _) hb <;> exact Nat.le_of_lt hg
  · refine But.setCell (But.setCell (But.setCell B (.inr ?_) _) (.inr ?_) _) (.inr ?_) _ <;> exact Nat.le_of_lt hg
  · refine BoxB.set_far (BoxB.set_far (BoxB.set_far P ?_ _) ?_ _) ?_ _ <;> omega
  · refine BoxB.set_far (BoxB.set_far (BoxB.set_far Q ?_ _) ?_ _) ?_ _ <;> omega
theorem AnyK.box {b : Nat} {a : Option Addr} {len cap : Nat} {w : World} {p g : Nat} {n : Int} {cv m : Nat} {u : World} (h : AnyK b a len cap w p g n cv m u) : u.cell? ⟨p, 0, none⟩ = some (.int .i64 n) ∧ u.cell? ⟨p, 1, none⟩ = some (.slice (some ⟨g, 0, none⟩) m cv) ∧ u.cell? ⟨w.heap.size, 0, none⟩ = some (.int .i64 0) ∧ u.cell? ⟨w.heap.size, 1, none⟩ = some (.slice none 0 0) ∧ u.frozen? ⟨w.heap.size, 0, none⟩ = false ∧ u.frozen? ⟨w.heap.size, 1, none⟩ = false := by
  obtain ⟨xs, _, _, _, P, Q, _, _⟩ := h
  exact ⟨Q.1, Q.2.1, P.1, P.2.1, P.2.2.1, P.2.2.2⟩

set_option maxHeartbeats 4000000 in
theorem BlockAny_any (b : Nat) (a : Option Addr) (len cap : Nat) (w : World) (hcur : Cur w b a len cap) :
    Calls Try.prog 44 #[.pointer (some ⟨b, 0, none⟩)] w (DrawnB3 b a len cap w) := by
  have HC := Lib.hid hcur
  have hlt := hcur.lt
  clear hcur
  go_enter Try.func44, Try.ntmps44
  go_wp2_with fail
  refine (BlockDraw_any b a len cap _ (HC.out.alloc _)).mono ?_
  rintro e w1 ⟨n, v, xs, hok, rfl, hin, hc1, hb1⟩
  obtain ⟨⟨n0, n1⟩, hnn, _⟩ := hok
  have hx1 : 1 ≤ xs.length := by
    have := Int.mul_le_mul n0 n0 (by omega) (by omega : (0 : Int) ≤ n)
    omega
  have hx16 : xs.length ≤ 16 := by
    have := Int.mul_le_mul n1 n1 (by omega : (0 : Int) ≤ n) (by omega)
    omega
  obtain ⟨av, cv, rfl⟩ := hin.form
  obtain ⟨g, rfl, hg1, hg2, _, _⟩ := hin.at (Below.refl _ _) (i := 0) (by omega)
  have hz0 : w.heap.size < w1.heap.size := by have := hb1.size; simp at this; omega
  have hg1' : w.heap.size < g := by simp at hg1; omega
  replace hin := hin.wide (lo' := w.heap.size + 1) (by simp) (Nat.le_refl _)
  have HI1 := Lib.hid (hin.below (bel0 w1 (.cells #[.int .i64 n, .slice (some ⟨g, 0, none⟩) xs.length cv] 26)))
  have HP1 := Lib.hid (((BoxB.new w (.int .i64 0) (.slice none 0 0) 26).but hb1 (by omega)).below (bel0 w1 (.cells #[.int .i64 n, .slice (some ⟨g, 0, none⟩) xs.length cv] 26)) hz0)
  have HQ1 := Lib.hid (BoxB.new w1 (.int .i64 n) (.slice (some ⟨g, 0, none⟩) xs.length cv) 26)
  have HC1 := Lib.hid (hc1.alloc (.cells #[.int .i64 n, .slice (some ⟨g, 0, none⟩) xs.length cv] 26))
  have HB1 := Lib.hid ((((But.refl b w).alloc _).trans hb1).alloc (.cells #[.int .i64 n, .slice (some ⟨g, 0, none⟩) xs.length cv] 26))
  clear hin hc1 hb1
  go_wp2_with fail
  refine (Below_any b a len cap 12 _ HC1.out (by omega) (by omega)).mono ?_
  rintro e w2 ⟨d, ⟨d0, d1⟩, rfl, hc2, hb2⟩
  have hz2 : w1.heap.size < w2.heap.size := by have := hb2.size; simp at this; omega
  have HB2 := Lib.hid (HB1.out.trans hb2)
  have HP2 := Lib.hid (HP1.out.but hb2 (by omega))
  have HQ2 := Lib.hid (HQ1.out.but hb2 (by omega))
  have HI2 := Lib.hid (HI1.out.but hb2 (by omega) (by simp))
  have HC2 := Lib.hid hc2
  clear hb2 hc2 HB1 HP1 HQ1 HC1 HI1
  by_cases h0 : d = 0
  · subst h0
    have HP := Lib.hid (PickInt_any w2.heap.size (w2.heap.size + 1) b a len cap (some ⟨w2.heap.size, 0, none⟩) 4 4 [-1, 0, 2, 5] _ (HC2.out.alloc _) (lit4 w2 (-1) 0 2 5 3) rfl (by omega) (by omega) (by simp))
    go_wp2_with (go_at_call 67; refine HP.out.mono ?_; rintro e w3 ⟨z, hz, rfl, hc3, hb3⟩; clear hz; (have hz3 : w2.heap.size < w3.heap.size := by have := hb3.size; simp at this; omega); (have HB3 := Lib.hid ((HB2.out.alloc _).trans hb3)); (have HC3 := Lib.hid hc3); (have HI3 := Lib.hid ((HI2.out.below ((Below.refl _ _).alloc (by omega) _)).but hb3 (by omega) (by simp; omega))); obtain ⟨p0, p1, f0, f1⟩ := (HP2.out.below (bel0 w2 _) (by omega)).but hb3 (by omega); obtain ⟨q0, q1, g0, g1⟩ := (HQ2.out.below (bel0 w2 _) (by omega)).but hb3 (by omega); clear hb3 hc3 HB2 HC2)
    refine bodyPost_ret (v := .agg #[.int .i64 z, .slice (some ⟨g, 0, none⟩) xs.length cv]) (by simp [results, Try.results44, go_sem, p0, p1]) rfl ⟨z, _, xs, hx16, rfl, .inl ?_, ?_, ?_⟩
    · refine CellIn.wide (lo := w.heap.size + 1) (hi := w1.heap.size) ?_ (by omega) (by simp [World.setCell]; omega)
      refine CellIn.set_out (CellIn.set_out (CellIn.set_out (HI3.out) ?_ _) ?_ _) ?_ _ <;> (simp <;> omega)
    · refine HC3.out.below (B := w.heap.size) ?_ hlt
      refine Below.setCell (Below.setCell (Below.setCell (Below.refl _ _) ?_ _) ?_ _) ?_ _ <;> (simp <;> omega)
    · refine But.setCell (But.setCell (But.setCell (HB3.out) (.inr ?_) _) (.inr ?_) _) (.inr ?_) _ <;> (simp <;> omega)
  have e0 : (d == 0) = false := by simpa using h0
  by_cases h1 : d = 1
  · subst h1
    have K2 : AnyK b a len cap w w1.heap.size g n cv xs.length w2 := ⟨xs, rfl, HC2.out, HB2.out, HP2.out, HQ2.out, HI2.out, hz2⟩
    have KB : Hid (∀ u v, AnyK b a len cap w w1.heap.size g n cv xs.length u → But b u v → Cur v b a len cap → AnyK b a len cap w w1.heap.size g n cv xs.length v) := Lib.hid (fun u v h hB hC => h.but hlt hz0 hB hC)
    have S0 : w2.drew.cell? ⟨w1.heap.size, 1, none⟩ = some (.slice (some ⟨g, 0, none⟩) xs.length cv) ∧ AnyK b a len cap w w1.heap.size g n cv xs.length w2.drew := by
      have K3 := KB.out _ _ K2 ((But.refl b w2).drew) (HC2.out.kept ⟨rfl, rfl, rfl, Nat.le_refl _, fun _ _ => rfl⟩)
      exact ⟨K3.box.2.1, K3⟩
    have KS : Hid (∀ (u : World) (i : Nat) (s x y : Int), i < xs.length → (u.cell? ⟨w1.heap.size, 1, none⟩ = some (.slice (some ⟨g, 0, none⟩) xs.length cv) ∧ AnyK b a len cap w w1.heap.size g n cv xs.length u) → ((setEl u g i s x y).cell? ⟨w1.heap.size, 1, none⟩ = some (.slice (some ⟨g, 0, none⟩) xs.length cv) ∧ AnyK b a len cap w w1.heap.size g n cv xs.length (setEl u g i s x y))) := Lib.hid (fun u i s x y hi h => by
      have K3 := h.2.set hlt hg1' hg2 hi s x y
      exact ⟨K3.box.2.1, K3⟩)
    have CB : Hid (∀ u : World, (u.cell? ⟨w1.heap.size, 1, none⟩ = some (.slice (some ⟨g, 0, none⟩) xs.length cv) ∧ AnyK b a len cap w w1.heap.size g n cv xs.length u) → Calls Try.prog 66 #[.pointer (some ⟨b, 0, none⟩), .int .i64 xs.length] u (fun e v => ∃ i : Nat, i < xs.length ∧ e = .returned (.int .i64 i) ∧ (v.cell? ⟨w1.heap.size, 1, none⟩ = some (.slice (some ⟨g, 0, none⟩) xs.length cv) ∧ AnyK b a len cap w w1.heap.size g n cv xs.length v))) := Lib.hid (fun u h => (Below_any b a len cap xs.length u (by obtain ⟨_, _, _, hC, _⟩ := h; exact hC) (by omega) (by omega)).mono (by
      rintro e v ⟨x, ⟨x0, x1⟩, rfl, hC, hB⟩
      have K3 := KB.out _ _ h.2 hB hC
      exact ⟨x.toNat, by omega, by rw [show ((x.toNat : Nat) : Int) = x by omega], K3.box.2.1, K3⟩))
    have CC : Hid (∀ u : World, (u.cell? ⟨w1.heap.size, 1, none⟩ = some (.slice (some ⟨g, 0, none⟩) xs.length cv) ∧ AnyK b a len cap w w1.heap.size g n cv xs.length u) → Calls Try.prog 68 #[.pointer (some ⟨b, 0, none⟩)] u (fun e v => ∃ s x y : Int, e = .returned (.agg #[.int .i64 s, .int .i64 x, .int .i64 y]) ∧ (v.cell? ⟨w1.heap.size, 1, none⟩ = some (.slice (some ⟨g, 0, none⟩) xs.length cv) ∧ AnyK b a len cap w w1.heap.size g n cv xs.length v))) := Lib.hid (fun u h => (CellAny_any b a len cap u (by obtain ⟨_, _, _, hC, _⟩ := h; exact hC)).mono (by
      rintro e v ⟨s, x, y, rfl, hC, hB⟩
      have K3 := KB.out _ _ h.2 hB hC
      exact ⟨s, x, y, rfl, K3.box.2.1, K3⟩))
    have KF : Hid (∀ (u : World) (i : Nat), i < xs.length → (u.cell? ⟨w1.heap.size, 1, none⟩ = some (.slice (some ⟨g, 0, none⟩) xs.length cv) ∧ AnyK b a len cap w w1.heap.size g n cv xs.length u) → (∃ c, El u g i c) ∧ Soft u g i) := Lib.hid (fun u i hi h => h.2.at hi)
    have KX : Hid (∀ u : World, (u.cell? ⟨w1.heap.size, 1, none⟩ = some (.slice (some ⟨g, 0, none⟩) xs.length cv) ∧ AnyK b a len cap w w1.heap.size g n cv xs.length u) → AnyK b a len cap w w1.heap.size g n cv xs.length u) := Lib.hid (fun u h => h.2)
    have HNN := Lib.hid hnn
    clear HC2 HB2 HP2 HQ2 HI2 K2 e0 hnn
    go_wp2_with fail
    go_region_held3 (fun u => u.cell? ⟨w1.heap.size, 1, none⟩ = some (.slice (some ⟨g, 0, none⟩) xs.length cv) ∧ AnyK b a len cap w w1.heap.size g n cv xs.length u) (first | assumption | (with_reducible refine KS.out _ _ _ _ _ (by assumption) ?_; assumption) | go_keep)
      (first
      | (go_at_call 66; refine (CB.out _ (by assumption)).mono ?_; rintro e w3 ⟨i, hi, rfl, K4⟩; (have hil : (i : Int) < xs.length := by omega))
      | (go_at_call 68; refine (CC.out _ (by assumption)).mono ?_; rintro e w4 ⟨s, x, y, rfl, K5⟩; obtain ⟨⟨c, c0, c1, c2⟩, s0, s1, s2⟩ := KF.out _ _ hi K5))
    have K6 : AnyK b a len cap w w1.heap.size g n cv xs.length (setEl w4 g i s x y) := KX.out _ (by assumption)
    obtain ⟨xs', hx', C6, B6, _, _, I6, hs6⟩ := K6
    obtain ⟨q0, q1, p0, p1, f0, f1⟩ := (KX.out _ K5).box
    have hgne : g ≠ w1.heap.size := by omega
    have hgne2 : g ≠ w.heap.size := by omega
    have HI6 := Lib.hid I6
    have HC6 := Lib.hid C6
    have HB6 := Lib.hid B6
    clear I6 C6 B6 K4 K5 S0
    go_wp2_with fail
    refine bodyPost_ret (v := .agg #[.int .i64 n, .slice (some ⟨g, 0, none⟩) xs.length cv]) (by simp [results, Try.results44, go_sem, p0, p1]) rfl ⟨n, _, xs', by omega, rfl, .inl ?_, ?_, ?_⟩
    · refine CellIn.wide (lo := w.heap.size + 1) (hi := w1.heap.size) ?_ (by omega) (by simp [World.setCell] at hs6 ⊢; omega)
      refine CellIn.set_out (CellIn.set_out HI6.out ?_ _) ?_ _ <;> (simp <;> omega)
    · refine HC6.out.below (B := w.heap.size) ?_ hlt
      refine Below.setCell (Below.setCell (Below.refl _ _) ?_ _) ?_ _ <;> (simp <;> omega)
    · refine But.setCell (But.setCell HB6.out (.inr ?_) _) (.inr ?_) _ <;> (simp <;> omega)
  have e1 : (d == 1) = false := by simpa using h1
  by_cases h2 : d = 2
  · subst h2
    obtain ⟨p0, p1, f0, f1⟩ := HP2.out
    obtain ⟨q0, q1, g0, g1⟩ := HQ2.out
    by_cases hcv : cv = 1
    · subst hcv
      go_wp2_with fail
      refine bodyPost_ret (v := .agg #[.int .i64 n, .slice (some ⟨g, 0, none⟩) (xs.length - 1) 0]) (by simp [results, Try.results44, go_sem, p0, p1]) rfl ⟨n, _, xs.take (xs.length - 1), by rw [List.length_take]; omega, rfl, .inr ⟨⟨n0, n1, by rw [List.length_take]; omega⟩, ?_⟩, ?_, ?_⟩
      · refine CellO.wide (lo := w.heap.size + 1) (hi := w1.heap.size) ?_ (by omega) (by simp [World.setCell]; omega)
        refine CellO.set_far (CellO.set_far (CellO.set_far (HI2.out.short (xs.length - 1) 0 hx1 rfl) ?_ _) ?_ _) ?_ _ <;> (simp <;> omega)
      · refine HC2.out.below (B := w.heap.size) ?_ hlt
        refine Below.setCell (Below.setCell (Below.setCell (Below.refl _ _) ?_ _) ?_ _) ?_ _ <;> (simp <;> omega)
      · refine But.setCell (But.setCell (But.setCell (HB2.out) (.inr ?_) _) (.inr ?_) _) (.inr ?_) _ <;> (simp <;> omega)
    · go_wp2_with fail
      refine bodyPost_ret (v := .agg #[.int .i64 n, .slice (some ⟨g, 3, none⟩) (xs.length - 1) (cv - 1)]) (by simp [results, Try.results44, go_sem, p0, p1]) rfl ⟨n, _, xs.drop 1, by rw [List.length_drop]; omega, rfl, .inr ⟨⟨n0, n1, by rw [List.length_drop]; omega⟩, ?_⟩, ?_, ?_⟩
      · refine CellO.wide (lo := w.heap.size + 1) (hi := w1.heap.size) ?_ (by omega) (by simp [World.setCell]; omega)
        refine CellO.set_far (CellO.set_far (CellO.set_far (HI2.out.cut (xs.length - 1) (cv - 1) hx1 rfl) ?_ _) ?_ _) ?_ _ <;> (simp <;> omega)
      · refine HC2.out.below (B := w.heap.size) ?_ hlt
        refine Below.setCell (Below.setCell (Below.setCell (Below.refl _ _) ?_ _) ?_ _) ?_ _ <;> (simp <;> omega)
      · refine But.setCell (But.setCell (But.setCell (HB2.out) (.inr ?_) _) (.inr ?_) _) (.inr ?_) _ <;> (simp <;> omega)
  have e2 : (d == 2) = false := by simpa using h2
  obtain ⟨p0, p1, f0, f1⟩ := HP2.out
  obtain ⟨q0, q1, g0, g1⟩ := HQ2.out
  go_wp2_with fail
  refine bodyPost_ret (v := .agg #[.int .i64 n, .slice (some ⟨g, 0, none⟩) xs.length cv]) (by simp [results, Try.results44, go_sem, p0, p1]) rfl ⟨n, _, xs, hx16, rfl, .inl ?_, ?_, ?_⟩
  · refine CellIn.wide (lo := w.heap.size + 1) (hi := w1.heap.size) ?_ (by omega) (by simp [World.setCell]; omega)
    refine CellIn.set_out (CellIn.set_out (HI2.out) ?_ _) ?_ _ <;> (simp <;> omega)
  · refine HC2.out.below (B := w.heap.size) ?_ hlt
    refine Below.setCell (Below.setCell (Below.refl _ _) ?_ _) ?_ _ <;> (simp <;> omega)
  · refine But.setCell (But.setCell (HB2.out) (.inr ?_) _) (.inr ?_) _ <;> (simp <;> omega)
end Go.Proofs.Ytndffjphdlncpaa

namespace Go.Proofs.Ytndffjphdlncpaa
open Go.ChangeShapes Go.WideShapes Go.ChangeAt Go.RowKit

/-- A row of as many cells as the block has places or any other number, or a cut row. -/
def RowX (lo hi : Nat) (n : Int) (u : World) (v : Value) (xs : List C3) : Prop :=
  CellIn lo hi u v xs ∨ ((1 ≤ n ∧ n ≤ 4 ∧ (xs.length : Int) + 1 = n * n) ∧ CellO lo hi u v xs)
theorem RowX.form {lo hi : Nat} {n : Int} {w : World} {v : Value} {xs : List C3} (h : RowX lo hi n w v xs) : ∃ a cap, v = .slice a xs.length cap := by
  rcases h with h | ⟨_, h⟩
  · exact h.form
  · exact h.form
theorem RowX.below {lo hi : Nat} {n : Int} {w w' : World} {v : Value} {xs : List C3} (h : RowX lo hi n w v xs) (hb : Below hi w w') : RowX lo hi n w' v xs := by
  rcases h with h | ⟨k, h⟩
  · exact .inl (h.below hb)
  · exact .inr ⟨k, h.below hb⟩
theorem RowX.wide {lo hi lo' hi' : Nat} {n : Int} {w : World} {v : Value} {xs : List C3} (h : RowX lo hi n w v xs) (h1 : lo' ≤ lo) (h2 : hi ≤ hi') : RowX lo' hi' n w v xs := by
  rcases h with h | ⟨k, h⟩
  · exact .inl (h.wide h1 h2)
  · exact .inr ⟨k, h.wide h1 h2⟩
theorem RowX.set_far {lo hi : Nat} {n : Int} {w : World} {v : Value} {xs : List C3} (h : RowX lo hi n w v xs) {p : Addr} (hp : p.block < lo ∨ hi ≤ p.block) (x : Value) : RowX lo hi n (w.setCell p x) v xs := by
  rcases h with h | ⟨k, h⟩
  · exact .inl (h.set_out hp x)
  · exact .inr ⟨k, h.set_far hp x⟩
theorem CellO.but {lo hi b : Nat} {w w' : World} {v : Value} {xs : List C3} (h : CellO lo hi w v xs) (hb : But b w w') (hl : b < lo) (hh : hi ≤ w.heap.size) : CellO lo hi w' v xs := by
  obtain ⟨hl', h | ⟨g, k, cap, hv, hg, hlt, hc⟩⟩ := h
  · exact ⟨hl', .inl h⟩
  · refine ⟨hl', .inr ⟨g, k, cap, hv, hg, hlt, fun i hi => ?_⟩⟩
    have hg1 : g < w.heap.size := by omega
    have hg2 : g ≠ b := by omega
    obtain ⟨⟨e0, e1, e2⟩, f0, f1, f2⟩ := hc i hi
    exact ⟨⟨(hb.cell (p := ⟨g, _, none⟩) hg1 hg2).trans e0, (hb.cell (p := ⟨g, _, none⟩) hg1 hg2).trans e1, (hb.cell (p := ⟨g, _, none⟩) hg1 hg2).trans e2⟩,
      (hb.frozen (p := ⟨g, _, none⟩) hg1 hg2).trans f0, (hb.frozen (p := ⟨g, _, none⟩) hg1 hg2).trans f1, (hb.frozen (p := ⟨g, _, none⟩) hg1 hg2).trans f2⟩
theorem RowX.but {lo hi b : Nat} {n : Int} {w w' : World} {v : Value} {xs : List C3} (h : RowX lo hi n w v xs) (hb : But b w w') (hl : b < lo) (hh : hi ≤ w.heap.size) : RowX lo hi n w' v xs := by
  rcases h with h | ⟨k, h⟩
  · exact .inl (h.but hb hl hh)
  · exact .inr ⟨k, h.but hb hl hh⟩
theorem IntO.set_far {lo hi : Nat} {w : World} {v : Value} {zs : List Int} (h : IntO lo hi w v zs) {p : Addr} (hp : p.block < lo) (x : Value) : IntO lo hi (w.setCell p x) v zs := by
  obtain ⟨hl, h | ⟨g, o, cap, hv, hg, hlt, hc⟩⟩ := h
  · exact ⟨hl, .inl h⟩
  · refine ⟨hl, .inr ⟨g, o, cap, hv, hg, hlt, fun i hi => ⟨?_, by rw [World.frozen?_setCell]; exact (hc i hi).2⟩⟩⟩
    have hn : p ≠ ⟨g, o + i, none⟩ := fun e => by rw [e] at hp; simp at hp; omega
    rw [World.cell?_setCell_other _ _ _ _ hn]; exact (hc i hi).1
theorem Cur.set_far {w : World} {b : Nat} {a : Option Addr} {len cap : Nat} (h : Cur w b a len cap) {p : Addr} (hp : p.block ≠ b) (x : Value) (hs : Src (w.setCell p x) b a len) : Cur (w.setCell p x) b a len cap := by
  obtain ⟨k, h, hk, c0, c1, c2, f1, f2, _⟩ := h
  have hn : ∀ o : Nat, p ≠ ⟨b, o, none⟩ := fun o e => hp (by rw [e])
  exact ⟨k, h, hk, by rw [World.cell?_setCell_other _ _ _ _ (hn _)]; exact c0, by rw [World.cell?_setCell_other _ _ _ _ (hn _)]; exact c1, by rw [World.cell?_setCell_other _ _ _ _ (hn _)]; exact c2, by rw [World.frozen?_setCell]; exact f1, by rw [World.frozen?_setCell]; exact f2, hs⟩
theorem BoxB.store0 {p : Nat} {x y : Value} {u : World} (h : BoxB p x y u) (z : Value) : BoxB p z y (u.setCell ⟨p, 0, none⟩ z) := by
  obtain ⟨h0, h1, h2, h3⟩ := h
  exact ⟨World.cell?_setCell_same _ _ _ h0, (World.cell?_setCell_other _ _ _ _ (by simp)).trans h1, (World.frozen?_setCell _ _ _ _).trans h2, (World.frozen?_setCell _ _ _ _).trans h3⟩
/-- A block and a list are handed back. -/
def GivenX (w : World) (e : Ending) (w' : World) : Prop :=
  ∃ (n : Int) (v vl : Value) (xs : List C3) (zs : List Int), xs.length ≤ 16 ∧ NearL zs ∧ e = .returned (.tuple #[.agg #[.int .i64 n, v], vl]) ∧ RowX w.heap.size w'.heap.size n w' v xs ∧ IntO w.heap.size w'.heap.size w' vl zs ∧ Below w.heap.size w w'

set_option maxHeartbeats 1000000 in
theorem DrawExchange_any (a : Option Addr) (len cap : Nat) (w : World) (hs : Src w w.heap.size a len) (hlen : len ≤ 1048576) :
    Calls Try.prog 12 #[.slice a len cap] w (GivenX w) := by
  have HS := Lib.hid (fun o => (hs.but ((But.refl _ _).alloc o)).up2 (b' := w.heap.size + 1) (by omega))
  have HS0 := Lib.hid hs
  clear hs
  go_enter Try.func12, Try.ntmps12
  go_wp2_with fail
  refine (New_any a len cap _ (by simpa using HS.out _) hlen).mono ?_
  rintro e w1 ⟨rfl, hc1, hb1⟩
  have z1 : w.heap.size + 1 < w1.heap.size := by have := hc1.lt; simpa using this
  go_wp2_with fail
  refine (BlockAny_any (w.heap.size + 1) a len cap _ (by simpa using hc1)).mono ?_
  rintro e w2 ⟨n, v, xs, hx16, rfl, hrow, hc2, hb2⟩
  have HROW : RowX w1.heap.size w2.heap.size n w2 v xs := hrow
  clear hrow
  obtain ⟨av, cv, rfl⟩ := HROW.form
  have z2 : w1.heap.size ≤ w2.heap.size := hb2.size
  have hb3 : Below (w.heap.size + 1) (w.alloc (.cells #[.int .i64 0, .slice none 0 0] 26)) w2 := (hb1.mono (by simp)).trans (hb2.below (Nat.le_refl _) (by omega))
  have U : Below w2.heap.size w2 (w2.alloc (.cells #[.int .i64 n, .slice av xs.length cv] 26)).drew := ⟨rfl, rfl, rfl, by simp, fun k hk => (bel0 w2 (.cells #[.int .i64 n, .slice av xs.length cv] 26)).block k hk⟩
  have P0 := ((BoxB.new w (.int .i64 0) (.slice none 0 0) 26).below hb3 (Nat.lt_succ_self _)).below U (by omega)
  have Q0 := (BoxB.new w2 (.int .i64 n) (.slice av xs.length cv) 26).but ((But.refl (w.heap.size + 1) _).drew) (by omega)
  have hC0 := hc2.below U (by omega)
  have R0 := HROW.below U
  have B0 : Below w.heap.size w (w2.alloc (.cells #[.int .i64 n, .slice av xs.length cv] 26)).drew := ((bel0 w _).trans (hb3.mono (by omega))).trans (U.mono (by omega))
  have ne1 : w.heap.size ≠ w.heap.size + 1 := by omega
  have ne2 : w2.heap.size ≠ w.heap.size + 1 := by omega
  have L0 : w2.heap.size < (w2.alloc (.cells #[.int .i64 n, .slice av xs.length cv] 26)).drew.heap.size := by simp
  have HC0 := Lib.hid hC0
  have HP0 := Lib.hid P0
  have HQ0 := Lib.hid Q0
  have HR0 := Lib.hid R0
  have HB0 := Lib.hid B0
  have HL0 := Lib.hid L0
  clear hC0 R0 B0 hb1 hb2 hb3 hc1 hc2 U L0 HROW
  obtain ⟨p0, p1, f0, f1⟩ := P0
  obtain ⟨q0, q1, g0, g1⟩ := Q0
  go_wp2_with fail
  go_region_with ((go_at_call 45; refine (ListDraw_any _ a len cap _ HC0.out).mono ?_; rintro e w3 ⟨vl, zs, hz, rfl, HL, hc3, hb3⟩; obtain ⟨p0, p1, f0, f1⟩ := HP0.out.but hb3 ne1; obtain ⟨q0, q1, g0, g1⟩ := HQ0.out.but hb3 ne2; (have HB3 := Lib.hid hb3); (have HL3 := Lib.hid HL); (have HZ := Lib.hid hz); clear hb3 HL hz hc3))
  all_goals
    (go_wp2_with fail)
    refine bodyPost_ret (v := .tuple #[.agg #[.int .i64 n, .slice av xs.length cv], vl]) (by simp [results, Try.results12, go_sem, p0, p1]) rfl ⟨n, _, vl, xs, zs, hx16, HZ.out, rfl, ?_, ?_, ?_⟩
    · refine RowX.wide (lo := w1.heap.size) (hi := w2.heap.size) ?_ (by omega) (by have h1 := HB3.out.size; have h2 := HL0.out; simp [World.setCell]; omega)
      refine RowX.set_far (RowX.set_far (HR0.out.but HB3.out (by omega) (by have h2 := HL0.out; omega)) ?_ _) ?_ _ <;> (simp <;> omega)
    · refine IntO.wide (lo := w2.heap.size + 1) (hi := w3.heap.size) ?_ (by omega) (by simp [World.setCell])
      have HL4 : IntO (w2.heap.size + 1) w3.heap.size w3 vl zs := HL3.out.wide (by simp) (Nat.le_refl _)
      refine IntO.set_far (IntO.set_far HL4 ?_ _) ?_ _ <;> (simp <;> omega)
    · refine Below.setCell (Below.setCell (HB0.out.trans (HB3.out.below (by omega) (by have h2 := HL0.out; omega))) ?_ _) ?_ _ <;> exact Nat.le_refl _
end Go.Proofs.Ytndffjphdlncpaa

namespace Go.Proofs.Ytndffjphdlncpaa
open Go.ChangeShapes Go.WideShapes Go.ChangeAt Go.RowKit

/-- A block of a valid size with a number of cells that does not fit: BlockOk reads no cell. -/
theorem SpecBlockOk_len (n : Int) (a : Option Addr) (k cap : Nat) (w : World) (n0 : 1 ≤ n) (n1 : n ≤ 4) (_hk : k ≤ 1048576) (h2 : ¬ (k : Int) = n * n) :
    Calls Try.prog 14 #[.agg #[.int .i64 n, .slice a k cap]] w fun e w' => e = .returned (.bool false) ∧ Below w.heap.size w w' := by
  obtain ⟨hw, s0, s1⟩ := sq_wrap n0 n1
  have e2 := ne_bool h2
  clear h2 s0 s1
  go_enter Try.func14, Try.ntmps14
  go_wp2_with fail
  refine (In_yes _ _ _ _ n0 n1).mono ?_
  rintro e w' ⟨rfl, rfl⟩
  go_wp2_with fail
  go_ret
  exact ⟨rfl, (Below.refl _ _).alloc (Nat.le_refl _) _⟩
theorem cut_len {n : Int} {k : Nat} (h : (k : Int) + 1 = n * n) : ¬ (k : Int) = n * n := by omega
/-- What BlockOk answers of a drawn block. -/
theorem SpecBlockOk_row (lo hi : Nat) (n : Int) (v : Value) (xs : List C3) (w : World) (r : RowX lo hi n w v xs) (hhi : hi ≤ w.heap.size) :
    Calls Try.prog 14 #[.agg #[.int .i64 n, v]] w fun e w' => e = .returned (.bool (blkB n xs)) ∧ Below w.heap.size w w' := by
  rcases r with r | ⟨⟨n0, n1, hk⟩, r⟩
  · exact SpecBlockOk_any lo hi n v xs w r hhi
  · obtain ⟨a, cap, rfl⟩ := r.form
    have hno : blkB n xs = false := (blk_no (n := n) (xs := xs) (fun h => cut_len hk h.2.1)).symm
    rw [hno]
    exact SpecBlockOk_len n a xs.length cap w n0 n1 r.1 (cut_len hk)
end Go.Proofs.Ytndffjphdlncpaa
