/- Cells: taken from the law's own type, and compared. Rows of cells: taken from the law's own type. Blocks: their size in the law, and taken from the law's own type. Cells: compared by their fields. -/
import Derived.Test.YtfidnhhlcdbaeaaDoorM00
import Derived.WalkSmall
import Derived.BigQuiet
import Derived.Outline
import Derived.IntWalk
import Derived.OwnWalk

namespace Go.Proofs.YtfidnhhlcdbaeaaDoor
open Go.ChangeShapes Go.WideShapes Go.ChangeAt Go.RowKit

theorem ToCell_any (s a b : Int) (w : World) :
    Calls Tryd.prog 49 #[.agg #[.int .i64 s, .int .i64 a, .int .i64 b]] w fun e w' => e = .returned (.agg #[.int .i64 s, .int .i64 a, .int .i64 b]) ∧ Below w.heap.size w w' := by
  go_enter Tryd.func49, Tryd.ntmps49
  go_wp2
  exact bodyPost_ret (v := .agg #[.int .i64 s, .int .i64 a, .int .i64 b]) (by simp [results, Tryd.results49, go_sem]) rfl ⟨rfl, (((Below.refl _ _).alloc (Nat.le_refl _) _).alloc (by simp) _).alloc (by simp; omega) _⟩

end Go.Proofs.YtfidnhhlcdbaeaaDoor

namespace Go.Proofs.YtfidnhhlcdbaeaaDoor
open Go.ChangeShapes Go.WideShapes Go.ChangeAt Go.RowKit

theorem info_cell : (Tryd.prog.info? 53).map (fun i => (i.zero, i.size, i.bytes)) = some (some (.agg #[.int .i64 0, .int .i64 0, .int .i64 0]), 3, 24) := by kernel_rfl
theorem info_parts3 {P : Program} {t : TypeId} {z : Value} {n b : Nat} (h : (P.info? t).map (fun i => (i.zero, i.size, i.bytes)) = some (some z, n, b)) :
    ∃ i, P.info? t = some i ∧ i.zero = some z ∧ i.size = n ∧ i.bytes = b := by
  cases e : P.info? t with
  | none => rw [e] at h; cases h
  | some i => rw [e] at h; simp at h; exact ⟨i, rfl, h.1, h.2.1, h.2.2⟩

/-- A slice of cells that came in: its elements are read one by one, wherever they lie. -/
def ArgC (w : World) (a : Option Addr) (len : Nat) (xs : List C3) : Prop :=
  xs.length = len ∧ len ≤ maxLen ∧ (len = 0 ∨ ∃ xb xo, a = some ⟨xb, xo, none⟩ ∧ xb < w.heap.size ∧ ∀ i, i < len →
    w.cell? ⟨xb, xo + i * 3, none⟩ = some (.int .i64 (xs.getD i C3.zero).s) ∧ w.cell? ⟨xb, xo + i * 3 + 1, none⟩ = some (.int .i64 (xs.getD i C3.zero).a) ∧ w.cell? ⟨xb, xo + i * 3 + 2, none⟩ = some (.int .i64 (xs.getD i C3.zero).b))
theorem ArgC.below {w w' : World} {a : Option Addr} {len : Nat} {xs : List C3} (h : ArgC w a len xs) (hb : Below w.heap.size w w') : ArgC w' a len xs := by
  obtain ⟨h1, h2, h | ⟨xb, xo, ha, hlt, hc⟩⟩ := h
  · exact ⟨h1, h2, .inl h⟩
  · refine ⟨h1, h2, .inr ⟨xb, xo, ha, Nat.lt_of_lt_of_le hlt hb.size, fun i hi => ?_⟩⟩
    obtain ⟨c0, c1, c2⟩ := hc i hi
    exact ⟨(hb.cell (p := ⟨xb, _, none⟩) hlt).trans c0, (hb.cell (p := ⟨xb, _, none⟩) hlt).trans c1, (hb.cell (p := ⟨xb, _, none⟩) hlt).trans c2⟩

/-- A new row of cells is handed back. -/
def FreshC (xs : List C3) (w : World) (e : Ending) (w' : World) : Prop := ∃ v, e = .returned v ∧ CellIn w.heap.size w'.heap.size w' v xs ∧ Below w.heap.size w w'

/-- The first k elements are those of the list. -/
def UpTo (k : Nat) (xs ys : List C3) : Prop := ys.length = xs.length ∧ ∀ i, i < k → ys.getD i C3.zero = xs.getD i C3.zero
theorem UpTo.set {k : Nat} {xs ys : List C3} (h : UpTo k xs ys) (hk : k < xs.length) {c : C3} (hc : c = xs.getD k C3.zero) : UpTo (k + 1) xs (ys.set k c) := by
  obtain ⟨h1, h2⟩ := h
  refine ⟨by simpa using h1, fun i hi => ?_⟩
  by_cases e : i = k
  · subst e; simp [List.getD, h1, hk] at hc ⊢; exact hc
  · have := h2 i (by omega)
    simpa [List.getD, List.getElem?_set, e, Ne.symm e] using this
theorem UpTo.all {xs ys : List C3} (h : UpTo xs.length xs ys) : ys = xs := by
  obtain ⟨h1, h2⟩ := h
  apply List.ext_getElem h1
  intro i a b
  have := h2 i b
  simpa [List.getD, a, b] using this

theorem own_none {w w' : World} (h : w.grownBy w' none) : Below w.heap.size w w' := (Below.refl _ _).grown h (Nat.le_refl _) (by intro k hk; cases hk)

set_option maxHeartbeats 400000 in
theorem ToCellS_any (a : Option Addr) (len cap : Nat) (xs : List C3) (w : World) (r : ArgC w a len xs) (hlen : len ≤ 1048576) :
    Calls Tryd.prog 28 #[.slice a len cap] w (FreshC xs w) := by
  obtain ⟨i0, hi, hz0, hz1, hz2⟩ := info_parts3 info_cell
  have R := Lib.hid r
  obtain ⟨hxl, _, _⟩ := r
  subst hxl
  go_enter Tryd.func28, Tryd.ntmps28
  go_wp2_with (at_make; refine wpList_make_full _ rfl _ _ 26 rfl w.heap.size 53 i0 _ 3 Tryd.underlying26 hi hz0 hz1 .i64 .i64 _ _ xs.length rfl rfl rfl rfl (by rw [hz2]; omega) (by unfold maxLen; omega) (Nat.le_refl _) ?_; intro w0 hown0 hgrow0)
  have hb0 := own_none hgrow0
  rw [places_zero] at hown0
  have hin0 := CellIn.of_owns (xs := List.replicate xs.length C3.zero) (by rw [List.length_replicate]; exact hown0) (by simpa using hlen)
  have HB := Lib.hid hb0
  have HW := Lib.hid hin0
  clear hb0 hown0 hgrow0 hin0
  go_loopw [4] (fun i wr => ∃ (k : Nat) (ys : List C3), k ≤ xs.length ∧ i = .int .i64 k ∧ Hid (UpTo k xs ys) ∧ Hid (CellIn w.heap.size w0.heap.size wr (.slice (some ⟨w.heap.size, 0, none⟩) xs.length xs.length) ys) ∧ Below w.heap.size w wr ∧ w0.heap.size ≤ wr.heap.size) (fun i _ => xs.length - (intOf i).toNat)
  case atStart => exact ⟨0, _, Nat.zero_le _, rfl, ⟨by simp, fun i hi => by omega⟩, HW.out, HB.out, Nat.le_refl _⟩
  case round =>
    obtain ⟨k, ys, hk, rfl, hup, hin, hbel, hsz⟩ := hrel
    by_cases hlt : k < xs.length
    · obtain ⟨_, _, h | ⟨xb, xo, rfl, hxb, hc⟩⟩ := (R.out.below hbel)
      · omega
      obtain ⟨c0, c1, c2⟩ := hc k hlt
      clear hc
      obtain ⟨c, hc⟩ : ∃ c, c = xs.getD k C3.zero := ⟨_, rfl⟩
      rw [← hc] at c0 c1 c2
      have HC := Lib.hid hc
      clear hc
      go_wp2_with fail
      refine (ToCell_any _ _ _ _).mono ?_
      rintro e w1 ⟨rfl, hb1⟩
      have hyl := hup.out.1
      have hin1 : Hid (CellIn w.heap.size w0.heap.size w1 (.slice (some ⟨w.heap.size, 0, none⟩) xs.length xs.length) ys) := Lib.hid (hin.out.below (hb1.mono hsz))
      obtain ⟨g, hg, _, _, ⟨e0, e1, e2⟩, f0, f1, f2⟩ := hin1.out.at (Below.refl _ _) (i := k) (by omega)
      obtain rfl : w.heap.size = g := by simpa using hg
      have HN := Lib.hid (hin1.out.set k (by omega) c.s c.a c.b)
      have HU := Lib.hid (hup.out.set (c := ⟨c.s, c.a, c.b⟩) hlt HC.out)
      have hbw : Below w.heap.size w w1 := hbel.trans (hb1.mono hbel.size)
      have HB1 := Lib.hid (Below.setCell (Below.setCell (Below.setCell hbw (p := ⟨w.heap.size, k * 3, none⟩) (Nat.le_refl _) (.int .i64 c.s)) (p := ⟨w.heap.size, k * 3 + 1, none⟩) (Nat.le_refl _) (.int .i64 c.a)) (p := ⟨w.heap.size, k * 3 + 2, none⟩) (Nat.le_refl _) (.int .i64 c.b))
      have hs1 : w0.heap.size ≤ w1.heap.size := by have := hb1.size; omega
      clear hg hin hup hbw hb1 hbel HC
      generalize ys.getD k C3.zero = y at e0 e1 e2
      go_wp2_with fail
      go_roundw
      case rel => exact ⟨k + 1, _, by omega, by go_num, HU, HN, HB1.out, by simp [World.setCell]; exact hs1⟩
      case measure => simp [intOf] <;> omega
    · obtain rfl : k = xs.length := by omega
      have hall := hup.out.all
      subst hall
      go_wp2_with fail
      go_ret
      exact ⟨_, rfl, hin.out.wide (Nat.le_refl _) hsz, hbel⟩

end Go.Proofs.YtfidnhhlcdbaeaaDoor

namespace Go.Proofs.YtfidnhhlcdbaeaaDoor
open Go.ChangeShapes Go.WideShapes Go.ChangeAt Go.RowKit

theorem bel0 (w : World) (o : Obj) : Below w.heap.size w (w.alloc o) := (Below.refl _ _).alloc (Nat.le_refl _) o
theorem bel_n {b : Nat} {w u : World} (h : Below b w u) (hb : b ≤ w.heap.size) (o : Obj) : Below b w (u.alloc o) := h.alloc (Nat.le_trans hb h.size) _
theorem bel_c {b : Nat} {w u v : World} (h : Below b w u) (hb : b ≤ w.heap.size) (k : Below u.heap.size u v) : Below b w v := h.trans (k.mono (Nat.le_trans hb h.size))
theorem kept {u v : World} {p : Addr} {x : Value} (hb : Below u.heap.size u v) (h : u.cell? p = some x) : v.cell? p = some x :=
  (World.cell?_of_block (hb.block p.block (lt_of_cell h))).trans h
theorem keptF {u v : World} {p : Addr} {x : Value} (hb : Below u.heap.size u v) (h : u.cell? p = some x) (hf : u.frozen? p = false) : v.frozen? p = false :=
  (World.frozen?_of_block (hb.block p.block (lt_of_cell h))).trans hf

theorem SzC_no (a : Option Addr) (len cap : Nat) (left : Int) (w : World) (h0 : 0 ≤ left) (h1 : left ≤ 1048576) (hm : len ≤ 9223372036854775807) (h : left < len) :
    Calls Tryd.prog 23 #[.slice a len cap, .int .i64 left] w fun e w' => e = .returned (.int .i64 (-1)) ∧ w' = w := by
  have h2 : left - (len : Int) < 0 := by omega
  go_enter Tryd.func23, Tryd.ntmps23
  go_wp2_with fail
  go_ret
  exact ⟨rfl, rfl⟩
theorem SzC_yes (a : Option Addr) (len cap : Nat) (left : Int) (w : World) (h1 : left ≤ 1048576) (h : (len : Int) ≤ left) :
    Calls Tryd.prog 23 #[.slice a len cap, .int .i64 left] w fun e w' => e = .returned (.int .i64 (left - len)) ∧ w' = w := by
  have h2 : ¬ left - (len : Int) < 0 := by omega
  go_enter Tryd.func23, Tryd.ntmps23
  go_wp2_with fail
  go_ret
  exact ⟨rfl, rfl⟩
theorem SzB_no (n : Int) (a : Option Addr) (len cap : Nat) (left : Int) (w : World) (h0 : 0 ≤ left) (h1 : left ≤ 1048576) (hm : len ≤ 9223372036854775807) (h : left < len) :
    Calls Tryd.prog 8 #[.agg #[.int .i64 n, .slice a len cap], .int .i64 left] w fun e w' => e = .returned (.int .i64 (-1)) ∧ Below w.heap.size w w' := by
  go_enter Tryd.func8, Tryd.ntmps8
  go_wp2_with fail
  refine (SzC_no a len cap left _ h0 h1 hm h).mono ?_
  rintro e w' ⟨rfl, rfl⟩
  go_wp2_with fail
  go_ret
  exact ⟨rfl, bel0 _ _⟩
theorem SzB_yes (n : Int) (a : Option Addr) (len cap : Nat) (left : Int) (w : World) (h1 : left ≤ 1048576) (h : (len : Int) ≤ left) :
    Calls Tryd.prog 8 #[.agg #[.int .i64 n, .slice a len cap], .int .i64 left] w fun e w' => e = .returned (.int .i64 (left - len)) ∧ Below w.heap.size w w' := by
  have h2 : ¬ left - (len : Int) < 0 := by omega
  go_enter Tryd.func8, Tryd.ntmps8
  go_wp2_with fail
  refine (SzC_yes a len cap left _ h1 h).mono ?_
  rintro e w' ⟨rfl, rfl⟩
  go_wp2_with fail
  go_ret
  exact ⟨rfl, bel0 _ _⟩

/-- A new block is handed back. -/
def FreshB (n : Int) (xs : List C3) (w : World) (e : Ending) (w' : World) : Prop := ∃ v, e = .returned (.agg #[.int .i64 n, v]) ∧ CellIn w.heap.size w'.heap.size w' v xs ∧ Below w.heap.size w w'

theorem ToBlock_any (n : Int) (a : Option Addr) (len cap : Nat) (xs : List C3) (w : World) (r : ArgC w a len xs) (hlen : len ≤ 1048576) :
    Calls Tryd.prog 10 #[.agg #[.int .i64 n, .slice a len cap]] w (FreshB n xs w) := by
  have R : ∀ o1 o2 o3, Hid (ArgC (((w.alloc o1).alloc o2).alloc o3) a len xs) := fun o1 o2 o3 => Lib.hid (r.below (bel_n (bel_n (bel0 w o1) (Nat.le_refl _) o2) (Nat.le_refl _) o3))
  clear r
  go_enter Tryd.func10, Tryd.ntmps10
  go_wp2_with fail
  refine (ToCellS_any a len cap xs _ (R _ _ _).out hlen).mono ?_
  rintro e w1 ⟨v, rfl, hin, hb1⟩
  obtain ⟨a', cap', rfl⟩ := hin.form
  have c0 := kept (p := ⟨w.heap.size + 1 + 1, 0, none⟩) (x := .int .i64 n) hb1 (by go_simp)
  have c1 := kept (p := ⟨w.heap.size + 1 + 1, 1, none⟩) (x := .slice none 0 0) hb1 (by go_simp)
  have f1 := keptF (p := ⟨w.heap.size + 1 + 1, 1, none⟩) (x := .slice none 0 0) hb1 (by go_simp) (by go_simp)
  have d0 := kept (p := ⟨w.heap.size + 1, 0, none⟩) (x := .int .i64 0) hb1 (by go_simp)
  have d1 := kept (p := ⟨w.heap.size + 1, 1, none⟩) (x := .slice none 0 0) hb1 (by go_simp)
  have g0 := keptF (p := ⟨w.heap.size + 1, 0, none⟩) (x := .int .i64 0) hb1 (by go_simp) (by go_simp)
  have g1 := keptF (p := ⟨w.heap.size + 1, 1, none⟩) (x := .slice none 0 0) hb1 (by go_simp) (by go_simp)
  have hB : Below w.heap.size w w1 := bel_c (bel_n (bel_n (bel0 w _) (Nat.le_refl _) _) (Nat.le_refl _) _) (Nat.le_refl _) hb1
  have hS := hb1.size
  simp at hS
  clear hb1
  go_wp2_with fail
  refine bodyPost_ret (v := .agg #[.int .i64 n, .slice a' xs.length cap']) (by simp [results, Tryd.results10, go_sem, d0, d1]) rfl ⟨.slice a' xs.length cap', rfl, ?_, ?_⟩
  · refine CellIn.wide (lo := w.heap.size + 1 + 1 + 1) (hi := w1.heap.size) ?_ (by omega) (by simp [World.setCell])
    refine CellIn.set_far (CellIn.set_far (CellIn.set_far (by simpa using hin) ?_ _) ?_ _) ?_ _ <;> (simp <;> omega)
  · refine Below.setCell (Below.setCell (Below.setCell hB ?_ _) ?_ _) ?_ _ <;> (simp <;> omega)

end Go.Proofs.YtfidnhhlcdbaeaaDoor

namespace Go.Proofs.YtfidnhhlcdbaeaaDoor
open Go.ChangeShapes Go.WideShapes Go.ChangeAt Go.RowKit

theorem EqCell_same (s a b : Int) (w : World) :
    Calls Tryd.prog 57 #[.agg #[.int .i64 s, .int .i64 a, .int .i64 b], .agg #[.int .i64 s, .int .i64 a, .int .i64 b]] w fun e w' => e = .returned (.bool true) ∧ Below w.heap.size w w' := by
  go_enter Tryd.func57, Tryd.ntmps57
  go_wp2
  go_ret
  exact ⟨rfl, ((Below.refl _ _).alloc (Nat.le_refl _) _).alloc (by simp) _⟩

end Go.Proofs.YtfidnhhlcdbaeaaDoor
