/- Rows of cells, and blocks: marked, and held against the marks. Blocks: marks from one on; what stays in view in the walks of the laws. Sameness: the model's TextOf. Blocks: the program's BlockOk. -/
import Derived.Test.YtahbadokkljoaaaDoorM01
import Derived.Test.YtahbadokkljoaaaDoorM07
import Derived.Test.YtahbadokkljoaaaDoorM00
import Derived.Test.YtahbadokkljoaaaDoorM02
import Derived.Test.YtahbadokkljoaaaDoorM05

namespace Go.Proofs.YtahbadokkljoaaaDoor
open Go.ChangeShapes Go.WideShapes Go.ChangeAt Go.RowKit

theorem CellIn.within {lo hi l2 h2 : Nat} {u w : World} {v : Value} {xs : List C3} (r : CellIn l2 h2 u v xs) (h : Within lo hi u w) (ho : h2 ≤ lo ∨ hi ≤ l2) (hh : h2 ≤ u.heap.size) : CellIn l2 h2 w v xs := by
  obtain ⟨hl, r | ⟨g, cap, hv, hg, hlt, hc⟩⟩ := r
  · exact ⟨hl, .inl r⟩
  · refine ⟨hl, .inr ⟨g, cap, hv, hg, hlt, fun i hi => ?_⟩⟩
    have hb : w.heap[g]? = u.heap[g]? := h.block g (by omega) (by omega)
    obtain ⟨⟨e0, e1, e2⟩, f0, f1, f2⟩ := hc i hi
    exact ⟨⟨(World.cell?_of_block (w := u) hb).trans e0, (World.cell?_of_block (w := u) hb).trans e1, (World.cell?_of_block (w := u) hb).trans e2⟩,
      (World.frozen?_of_block (w := u) hb).trans f0, (World.frozen?_of_block (w := u) hb).trans f1, (World.frozen?_of_block (w := u) hb).trans f2⟩

/-- The marks from k on. -/
def markC (k n : Nat) : List C3 := (List.range n).map fun i => ⟨((k + 3 * i : Nat) : Int), ((k + 3 * i + 1 : Nat) : Int), ((k + 3 * i + 2 : Nat) : Int)⟩
theorem markC_length (k n : Nat) : (markC k n).length = n := by simp [markC]
theorem markC_at {k n i : Nat} (h : i < n) : (markC k n).getD i C3.zero = ⟨((k + 3 * i : Nat) : Int), ((k + 3 * i + 1 : Nat) : Int), ((k + 3 * i + 2 : Nat) : Int)⟩ := by simp [markC, List.getD, h]

set_option maxHeartbeats 400000 in
theorem MarkCellS_any (lo hi : Nat) (v : Value) (xs : List C3) (k : Nat) (w : World) (r : CellIn lo hi w v xs) (hk1 : k ≤ 100000000) :
    Calls Tryd.prog 39 #[v, .int .i64 k] w fun e w' => e = .returned (.int .i64 ((k + 3 * xs.length : Nat) : Int)) ∧ CellIn lo hi w' v (markC k xs.length) ∧ Within lo hi w w' := by
  obtain ⟨a1, c1, rfl⟩ := r.form
  have R := Lib.hid r
  have hl := r.1
  clear r
  go_enter Tryd.func39, Tryd.ntmps39
  go_wp2_with fail
  go_loopw [1, 5] (fun q i wr => ∃ (m : Nat) (ys : List C3), m ≤ xs.length ∧ i = .int .i64 m ∧ q = .int .i64 ((k + 3 * m : Nat) : Int) ∧ Hid (UpTo m (markC k xs.length) ys) ∧ Hid (CellIn lo hi wr (.slice a1 xs.length c1) ys) ∧ Within lo hi w wr) (fun _ i _ => xs.length - (intOf i).toNat)
  case atStart => exact ⟨0, xs, Nat.zero_le _, rfl, rfl, ⟨by simp [markC], fun i hi => by omega⟩, R.out, Within.refl _ _ _⟩
  case round =>
    obtain ⟨m, ys, hm, rfl, rfl, hup, hin, hbel⟩ := hrel
    by_cases hlt : m < xs.length
    · have hyl : ys.length = xs.length := by have := hup.out.1; rw [markC_length] at this; exact this
      obtain ⟨g, rfl, hg, hg1, ⟨e0, e1, e2⟩, f0, f1, f2⟩ := hin.out.at (Below.refl _ _) (i := m) (by omega)
      have HN := Lib.hid (hin.out.set m (by omega) ((k + 3 * m : Nat) : Int) ((k + 3 * m + 1 : Nat) : Int) ((k + 3 * m + 2 : Nat) : Int))
      have HU := Lib.hid (hup.out.set (c := ⟨((k + 3 * m : Nat) : Int), ((k + 3 * m + 1 : Nat) : Int), ((k + 3 * m + 2 : Nat) : Int)⟩) (by rw [markC_length]; exact hlt) (markC_at hlt).symm)
      have HB := Lib.hid (Within.setCell (Within.setCell (Within.setCell hbel (p := ⟨g, m * 3, none⟩) hg hg1 (.int .i64 ((k + 3 * m : Nat) : Int))) (p := ⟨g, m * 3 + 1, none⟩) hg hg1 (.int .i64 ((k + 3 * m + 1 : Nat) : Int))) (p := ⟨g, m * 3 + 2, none⟩) hg hg1 (.int .i64 ((k + 3 * m + 2 : Nat) : Int)))
      generalize ys.getD m C3.zero = y at e0 e1 e2
      clear hbel hup hin
      go_wp2_with fail
      go_roundw
      case rel => exact ⟨m + 1, _, by omega, by go_num, by go_num, HU, HN, HB.out⟩
      case measure => simp [intOf] <;> omega
    · obtain rfl : m = xs.length := by omega
      go_wp2_with fail
      go_ret
      refine ⟨rfl, ?_, hbel⟩
      have h1 := hup.out
      have h2 : ys = markC k xs.length := UpTo.all (by rw [markC_length]; exact h1)
      rw [← h2]; exact hin.out

set_option maxHeartbeats 400000 in
theorem HeldCellS_any (lo hi : Nat) (v : Value) (n k : Nat) (w : World) (r : CellIn lo hi w v (markC k n)) (hk1 : k ≤ 100000000) :
    Calls Tryd.prog 40 #[v, .int .i64 k] w fun e w' => e = .returned (.int .i64 ((k + 3 * n : Nat) : Int)) ∧ w' = w := by
  have hl := r.1
  have hf := r.form
  rw [markC_length] at hl hf
  obtain ⟨a1, c1, rfl⟩ := hf
  have R := Lib.hid r
  clear r
  go_enter Tryd.func40, Tryd.ntmps40
  go_wp2_with fail
  go_loop [1, 5] (fun q i => ∃ m : Nat, m ≤ n ∧ i = .int .i64 m ∧ q = .int .i64 ((k + 3 * m : Nat) : Int)) (fun _ i => n - (intOf i).toNat)
  case atStart => exact ⟨0, Nat.zero_le _, rfl, rfl⟩
  case round =>
    obtain ⟨m, hm, rfl, rfl⟩ := hrel
    by_cases hlt : m < n
    · obtain ⟨g, rfl, _, _, ⟨e0, e1, e2⟩, _⟩ := R.out.at (Below.refl _ _) (i := m) (by rw [markC_length]; exact hlt)
      rw [markC_at hlt] at e0 e1 e2
      simp only at e0 e1 e2
      go_wp2_with fail
      go_round
      case rel => exact ⟨m + 1, by omega, by go_num, by go_num⟩
      case measure => simp [intOf] <;> omega
    · obtain rfl : m = n := by omega
      go_wp2_with fail
      go_ret
      exact ⟨rfl, rfl⟩

theorem MarkBlock_any (lo hi : Nat) (n : Int) (v : Value) (xs : List C3) (k : Nat) (w : World) (r : CellIn lo hi w v xs) (hhi : hi ≤ w.heap.size) (hk1 : k ≤ 100000000) :
    Calls Tryd.prog 16 #[.agg #[.int .i64 n, v], .int .i64 k] w fun e w' => e = .returned (.int .i64 ((k + 3 * xs.length : Nat) : Int)) ∧ CellIn lo hi w' v (markC k xs.length) ∧ Within lo hi w w' := by
  obtain ⟨a1, c1, rfl⟩ := r.form
  have R : ∀ o, Hid (CellIn lo hi (w.alloc o) (.slice a1 xs.length c1) xs) := fun o => Lib.hid (r.below ((bel0 w o).mono hhi))
  clear r
  go_enter Tryd.func16, Tryd.ntmps16
  go_wp2_with fail
  refine (MarkCellS_any lo hi _ xs k _ (R _).out hk1).mono ?_
  rintro e w1 ⟨rfl, hin, hb1⟩
  go_wp2_with fail
  go_ret
  exact ⟨rfl, hin, (Within.of_below (bel0 w _)).trans hb1⟩
theorem HeldBlock_any (lo hi : Nat) (m : Int) (v : Value) (n k : Nat) (w : World) (r : CellIn lo hi w v (markC k n)) (hhi : hi ≤ w.heap.size) (hk1 : k ≤ 100000000) :
    Calls Tryd.prog 17 #[.agg #[.int .i64 m, v], .int .i64 k] w fun e w' => e = .returned (.int .i64 ((k + 3 * n : Nat) : Int)) ∧ Below w.heap.size w w' := by
  have hf := r.form
  rw [markC_length] at hf
  obtain ⟨a1, c1, rfl⟩ := hf
  have R : ∀ o, Hid (CellIn lo hi (w.alloc o) (.slice a1 n c1) (markC k n)) := fun o => Lib.hid (r.below ((bel0 w o).mono hhi))
  clear r
  go_enter Tryd.func17, Tryd.ntmps17
  go_wp2_with fail
  refine (HeldCellS_any lo hi _ n k _ (R _).out hk1).mono ?_
  rintro e w1 ⟨rfl, rfl⟩
  go_wp2_with fail
  go_ret
  exact ⟨rfl, bel0 _ _⟩

end Go.Proofs.YtahbadokkljoaaaDoor

namespace Go.Proofs.YtahbadokkljoaaaDoor
open Go.ChangeShapes Go.WideShapes Go.ChangeAt Go.RowKit

/-- The number behind the last mark. -/
def mkN (xs : List C3) : Int := ((1 + 3 * xs.length : Nat) : Int)
theorem mkN_pos (xs : List C3) : ¬ mkN xs < 0 := by unfold mkN; omega
theorem MarkOne (lo hi : Nat) (n : Int) (v : Value) (xs : List C3) (w : World) (r : CellIn lo hi w v xs) (hhi : hi ≤ w.heap.size) :
    Calls Tryd.prog 16 #[.agg #[.int .i64 n, v], .int .i64 1] w fun e w' => e = .returned (.int .i64 (mkN xs)) ∧ CellIn lo hi w' v (markC 1 xs.length) ∧ Within lo hi w w' :=
  MarkBlock_any lo hi n v xs 1 w r hhi (by omega)
theorem HeldOne (lo hi : Nat) (n : Int) (v : Value) (xs : List C3) (w : World) (r : CellIn lo hi w v (markC 1 xs.length)) (hhi : hi ≤ w.heap.size) :
    Calls Tryd.prog 17 #[.agg #[.int .i64 n, v], .int .i64 1] w fun e w' => e = .returned (.int .i64 (mkN xs)) ∧ Below w.heap.size w w' :=
  HeldBlock_any lo hi n v xs.length 1 w r hhi (by omega)

/-- Two places of a block. -/
def Two (p : Nat) (x y : Value) (u : World) : Prop := u.cell? ⟨p, 0, none⟩ = some x ∧ u.cell? ⟨p, 1, none⟩ = some y
theorem Two.keep {p : Nat} {x y : Value} {u v : World} (h : Two p x y u) (hb : Below u.heap.size u v) : Two p x y v := ⟨kept hb h.1, kept hb h.2⟩
theorem Two.new (w : World) (x y : Value) (T : TypeId) : Two w.heap.size x y (w.alloc (.cells #[x, y] T)) := ⟨by simp, by simp⟩
theorem Two.within {p lo hi : Nat} {x y : Value} {u v : World} (h : Two p x y u) (hb : Within lo hi u v) (ho : p < lo ∨ hi ≤ p) : Two p x y v := ⟨hb.cell h.1 ho, hb.cell h.2 ho⟩
def Three (p : Nat) (c : C3) (u : World) : Prop := u.cell? ⟨p, 0, none⟩ = some (.int .i64 c.s) ∧ u.cell? ⟨p, 1, none⟩ = some (.int .i64 c.a) ∧ u.cell? ⟨p, 2, none⟩ = some (.int .i64 c.b)
theorem Three.keep {p : Nat} {c : C3} {u v : World} (h : Three p c u) (hb : Below u.heap.size u v) : Three p c v := ⟨kept hb h.1, kept hb h.2.1, kept hb h.2.2⟩
theorem Three.new (w : World) (c : C3) (T : TypeId) : Three w.heap.size c (w.alloc (.cells #[.int .i64 c.s, .int .i64 c.a, .int .i64 c.b] T)) := by
  refine ⟨?_, ?_, ?_⟩ <;> simp
theorem bel_w {b lo hi : Nat} {w u v : World} (h : Below b w u) (hb : b ≤ w.heap.size) (k : Within lo hi u v) (hl : b ≤ lo) : Below b w v :=
  ⟨k.os.trans h.os, k.tape.trans h.tape, k.output.trans h.output, Nat.le_trans h.size k.size, fun i hi => (k.block i (by have := h.size; omega) (.inl (by omega))).trans (h.block i hi)⟩

end Go.Proofs.YtahbadokkljoaaaDoor

namespace Go.Proofs.YtahbadokkljoaaaDoor
open Go.ChangeShapes Go.WideShapes Go.ChangeAt Go.RowKit

theorem cellTxt_size (c : C3) : (cellTxt c.s c.a c.b).size ≤ 3 := by
  have h1 : (⟨#[47]⟩ : ByteArray).size = 1 := rfl
  have h2 : (⟨#[92]⟩ : ByteArray).size = 1 := rfl
  have h3 : (⟨#[]⟩ : ByteArray).size = 0 := rfl
  unfold cellTxt
  split
  · split
    · rw [ByteArray.size_append, ByteArray.size_append, dgt_size, dgt_size, h1]; omega
    · split
      · rw [ByteArray.size_append, ByteArray.size_append, dgt_size, dgt_size, h2]; omega
      · rw [dgt_size]; omega
  · rw [h3]; omega
theorem txtB_size {xs : List C3} (h : ∀ c ∈ xs, c.Ok) (k : Nat) : (txtB (xs.take k)).size ≤ 4 * xs.length := by
  have h1 := (txtL_len (xs := xs.take k) (fun c hc => h c (List.mem_of_mem_take hc))).2
  have h2 : (xs.take k).length ≤ xs.length := by simp; omega
  have h3 : (txtB (xs.take k)).size = (txtL (xs.take k)).length := by simp [txtB, ByteArray.size]
  omega
set_option maxRecDepth 100000 in
set_option maxHeartbeats 4000000 in
theorem SpecTextOf_any (lo hi : Nat) (n : Int) (v : Value) (xs : List C3) (w : World) (r : CellIn lo hi w v xs) (hhi : hi ≤ w.heap.size) :
    Calls Tryd.prog 10 #[.agg #[.int .i64 n, v]] w fun e w' => e = .returned (.string (txtA n xs)) ∧ Below w.heap.size w w' := by
  obtain ⟨a, cap, rfl⟩ := r.form
  have hl := r.1
  have HR := Lib.hid (fun W (hb : Below w.heap.size w W) => r.below (hb.mono hhi))
  clear r
  obtain ⟨w0, hw0⟩ : ∃ w0, w0 = w.alloc (.cells #[.int .i64 n, .slice a xs.length cap] 29) := ⟨_, rfl⟩
  have hz0 : w0.heap.size = w.heap.size + 1 := by rw [hw0]; simp
  have B0 : Hid (Below w.heap.size w w0) := Lib.hid (by rw [hw0]; exact bel0 _ _)
  have HP : Hid (∀ W, Below w0.heap.size w0 W → W.cell? ⟨w.heap.size, 0, none⟩ = some (.int .i64 n) ∧ W.cell? ⟨w.heap.size, 1, none⟩ = some (.slice a xs.length cap)) :=
    Lib.hid (fun W hb => ⟨kept hb (by rw [hw0]; go_simp), kept hb (by rw [hw0]; go_simp)⟩)
  by_cases hb : BlkOk n xs
  · rw [(sam_yes hb).1]
    have HB := Lib.hid hb
    have hx := (blk_len hb).2
    have HZ : Hid (∀ k, (txtB (xs.take k)).size ≤ 64) := Lib.hid (fun k => by have := txtB_size hb.2.2 k; omega)
    clear hb
    go_enter Tryd.func10, Tryd.ntmps10
    go_wp2_with fail
    rw [← hw0]
    go_loopw [3, 4] (fun q i wr => ∃ m : Nat, m ≤ xs.length ∧ i = .int .i64 m ∧ q = .string (txtB (xs.take m)) ∧ Hid (Below w0.heap.size w0 wr)) (fun _ i _ => xs.length - (intOf i).toNat)
    case atStart => exact ⟨0, Nat.zero_le _, rfl, rfl, Lib.hid (Below.refl _ _)⟩
    case round =>
      obtain ⟨m, hk, rfl, rfl, hbel⟩ := hrel
      obtain ⟨p0, p1⟩ := HP.out _ hbel.out
      by_cases hlt : m < xs.length
      · go_wp2_with fail
        refine (SpecBlockOk_yes lo hi n _ xs _ (HR.out _ (bel_c B0.out (by omega) hbel.out)) (Nat.le_trans hhi (bel_c B0.out (by omega) hbel.out).size) HB.out).mono ?_
        rintro e w1 ⟨rfl, hb1⟩
        have B1 := Lib.hid (bel_c hbel.out (Nat.le_refl _) hb1)
        clear p0 p1 hbel hb1
        obtain ⟨p0, p1⟩ := HP.out _ B1.out
        obtain ⟨g, rfl, _, _, ⟨e0, e1, e2⟩, _⟩ := (HR.out _ (bel_c B0.out (by omega) B1.out)).at (Below.refl _ _) hlt
        have HN := Lib.hid (txtB_take hlt)
        have hc := cellTxt_size (xs.getD m C3.zero)
        have hs := HZ.out m
        generalize xs.getD m C3.zero = c at e0 e1 e2 HN hc
        go_wp2_with fail
        refine (SpecText_any c.s c.a c.b _).mono ?_
        rintro e w2 ⟨rfl, hb2⟩
        have B2 := Lib.hid (bel_c B1.out (Nat.le_refl _) hb2)
        clear p0 p1 B1 hb2 e0 e1 e2
        generalize cellTxt c.s c.a c.b = t at HN hc ⊢
        generalize txtB (xs.take m) = s at HN hs ⊢
        go_wp2_with fail
        go_roundw
        case rel => exact ⟨m + 1, by omega, by go_num, by rw [HN.out], B2⟩
        case measure => simp [intOf] <;> omega
      · obtain rfl : m = xs.length := by omega
        go_wp2_with fail
        go_ret
        exact ⟨by rw [List.take_length]; rfl, bel_c B0.out (by omega) hbel.out⟩
  · rw [(sam_no hb).1]
    have HB := Lib.hid hb
    clear hb
    go_enter Tryd.func10, Tryd.ntmps10
    go_wp2_with fail
    rw [← hw0]
    go_loopw [3, 4] (fun q i wr => i = .int .i64 0 ∧ q = .string ⟨#[]⟩ ∧ Hid (Below w0.heap.size w0 wr)) (fun _ _ _ => 0)
    case atStart => exact ⟨rfl, rfl, Lib.hid (Below.refl _ _)⟩
    case round =>
      obtain ⟨rfl, rfl, hbel⟩ := hrel
      obtain ⟨p0, p1⟩ := HP.out _ hbel.out
      by_cases hlt : 0 < xs.length
      · have hlt' : (0 : Int) < (xs.length : Int) := by omega
        go_wp2_with fail
        refine (SpecBlockOk_no lo hi n _ xs _ (HR.out _ (bel_c B0.out (by omega) hbel.out)) (Nat.le_trans hhi (bel_c B0.out (by omega) hbel.out).size) HB.out).mono ?_
        rintro e w1 ⟨rfl, hb1⟩
        go_wp2_with fail
        go_ret
        exact ⟨rfl, bel_c (bel_c B0.out (by omega) hbel.out) (Nat.le_refl _) hb1⟩
      · have hlt' : ¬ (0 : Int) < (xs.length : Int) := by omega
        go_wp2_with fail
        go_ret
        exact ⟨rfl, bel_c B0.out (by omega) hbel.out⟩

end Go.Proofs.YtahbadokkljoaaaDoor

namespace Go.Proofs.YtahbadokkljoaaaDoor
open Go.ChangeShapes Go.WideShapes Go.ChangeAt Go.RowKit

theorem Size_yes (x : Int) (w : World) (h0 : 1 ≤ x) (h1 : x ≤ 4) :
    Calls Tryd.prog 52 #[.int .i64 x] w fun e w' => e = .returned (.bool true) ∧ w' = w := by
  go_enter Tryd.func52, Tryd.ntmps52
  go_wp2
  go_ret
  exact ⟨rfl, rfl⟩
theorem Size_no (x : Int) (w : World) (h : x < 1 ∨ 4 < x) :
    Calls Tryd.prog 52 #[.int .i64 x] w fun e w' => e = .returned (.bool false) ∧ w' = w := by
  by_cases h0 : 1 ≤ x
  · have h1 : ¬ x ≤ 4 := by omega
    clear h
    go_enter Tryd.func52, Tryd.ntmps52
    go_wp2
    go_ret
    exact ⟨ret_bool (by simp), rfl⟩
  · clear h
    go_enter Tryd.func52, Tryd.ntmps52
    go_wp2
    go_ret
    exact ⟨rfl, rfl⟩

set_option maxHeartbeats 400000 in
theorem ImplBlockOk_any (lo hi : Nat) (n : Int) (v : Value) (xs : List C3) (w : World) (r : CellIn lo hi w v xs) (hhi : hi ≤ w.heap.size) :
    Calls Tryd.prog 30 #[.agg #[.int .i64 n, v]] w fun e w' => e = .returned (.bool (blkB n xs)) ∧ Below w.heap.size w w' := by
  obtain ⟨a, cap, rfl⟩ := r.form
  have R := Lib.hid r
  have hl := r.1
  clear r
  by_cases h1 : 1 ≤ n ∧ n ≤ 4
  · obtain ⟨n0, n1⟩ := h1
    obtain ⟨hw, s0, s1⟩ := sq_wrap n0 n1
    by_cases h2 : (xs.length : Int) = n * n
    · have e2 := eq_bool h2
      have H2 := Lib.hid h2
      have S := Lib.hid (And.intro s0 s1)
      clear h2 s0 s1
      go_enter Tryd.func30, Tryd.ntmps30
      go_wp2_with fail
      refine (Size_yes _ _ n0 n1).mono ?_
      rintro e w' ⟨rfl, rfl⟩
      go_wp2_with fail
      go_loopw [23] (fun i wr => ∃ k : Nat, k ≤ xs.length ∧ i = .int .i64 k ∧ Hid (∀ j, j < k → (xs.getD j C3.zero).Ok) ∧ Below (w.heap.size + 1) (w.alloc (.cells #[.int .i64 n, .slice a xs.length cap] 29)) wr) (fun i _ => xs.length - (intOf i).toNat)
      case atStart => exact ⟨0, Nat.zero_le _, rfl, fun j hj => by omega, Below.refl _ _⟩
      case round =>
        obtain ⟨k, hk, rfl, hok, hbel⟩ := hrel
        by_cases hlt : k < xs.length
        · obtain ⟨g, rfl, hg, hg1, hel, _⟩ := R.out.at ((bel_new0 w _).trans (hbel.mono (by omega)) |>.mono hhi) hlt
          obtain ⟨e0, e1, e3⟩ := hel
          obtain ⟨c, hc⟩ : ∃ c, c = xs.getD k C3.zero := ⟨_, rfl⟩
          rw [← hc] at e0 e1 e3
          have HC := Lib.hid hc
          clear hc
          have hs1 : w.heap.size + 1 ≤ wr.heap.size := by have := hbel.size; simpa using this
          have HB := Lib.hid ((hbel.alloc hs1 (.cells #[.int .i64 c.s, .int .i64 c.a, .int .i64 c.b] 41)).alloc (by simp; omega) (.cells #[.int .i64 c.s, .int .i64 c.a, .int .i64 c.b] 41))
          clear hbel
          go_wp2_with fail
          refine (ImplOk_any _ _ _ _).mono ?_
          by_cases ho : OkC c.s c.a c.b
          · have ho' := Lib.hid (decide_eq_true ho)
            rw [ho'.out]
            rintro e w1 ⟨rfl, rfl⟩
            have HN : Hid (∀ j, j < k + 1 → (xs.getD j C3.zero).Ok) := Lib.hid (fun j hj => by
              rcases Nat.lt_succ_iff_lt_or_eq.1 hj with h | rfl
              · exact hok.out j h
              · rw [← HC.out]; exact ho)
            clear HC ho ho'
            go_wp2_with fail
            go_roundw
            case rel => exact ⟨k + 1, by omega, by go_num, HN, HB.out⟩
            case measure => simp [intOf] <;> omega
          · have ho' := Lib.hid (decide_eq_false ho)
            rw [ho'.out]
            rintro e w1 ⟨rfl, rfl⟩
            have HN := Lib.hid (blk_no_cell (n := n) hlt (by rw [← HC.out]; exact ho))
            clear HC ho ho'
            go_wp2_with fail
            go_ret
            exact ⟨ret_bool HN.out, (bel_new0 w _).trans (HB.out.mono (by omega))⟩
        · obtain rfl : k = xs.length := by omega
          have HN := Lib.hid (blk_all (n := n) ⟨n0, n1⟩ H2.out hok.out)
          go_wp2_with fail
          go_ret
          exact ⟨ret_bool HN.out, (bel_new0 w _).trans (hbel.mono (by omega))⟩
    · have e2 := ne_bool h2
      have H2 := Lib.hid (blk_no_len h2)
      clear h2 s0 s1
      go_enter Tryd.func30, Tryd.ntmps30
      go_wp2_with fail
      refine (Size_yes _ _ n0 n1).mono ?_
      rintro e w' ⟨rfl, rfl⟩
      go_wp2_with fail
      go_ret
      exact ⟨by rw [← H2.out]; rfl, (Below.refl _ _).alloc (Nat.le_refl _) _⟩
  · have h1' : n < 1 ∨ 4 < n := by omega
    have H1 := Lib.hid (blk_no_size (xs := xs) h1)
    clear h1
    go_enter Tryd.func30, Tryd.ntmps30
    go_wp2_with fail
    refine (Size_no _ _ h1').mono ?_
    rintro e w' ⟨rfl, rfl⟩
    go_wp2_with fail
    go_ret
    exact ⟨ret_bool H1.out, (Below.refl _ _).alloc (Nat.le_refl _) _⟩

theorem ImplBlockOk_yes (lo hi : Nat) (n : Int) (v : Value) (xs : List C3) (w : World) (r : CellIn lo hi w v xs) (hhi : hi ≤ w.heap.size) (h : BlkOk n xs) :
    Calls Tryd.prog 30 #[.agg #[.int .i64 n, v]] w fun e w' => e = .returned (.bool true) ∧ Below w.heap.size w w' := by
  have hc := ImplBlockOk_any lo hi n v xs w r hhi
  rw [← blk_yes h] at hc
  exact hc
theorem ImplBlockOk_no (lo hi : Nat) (n : Int) (v : Value) (xs : List C3) (w : World) (r : CellIn lo hi w v xs) (hhi : hi ≤ w.heap.size) (h : ¬ BlkOk n xs) :
    Calls Tryd.prog 30 #[.agg #[.int .i64 n, v]] w fun e w' => e = .returned (.bool false) ∧ Below w.heap.size w w' := by
  have hc := ImplBlockOk_any lo hi n v xs w r hhi
  rw [← blk_no h] at hc
  exact hc

/-- The block has a cell there, as a Boolean. -/
noncomputable def hasC (n : Int) (xs : List C3) (x y : Int) : Bool := @decide (BlkOk n xs ∧ InB n x y) (Classical.propDecidable _)
theorem hasC_yes {n : Int} {xs : List C3} {x y : Int} (h : BlkOk n xs) (k : InB n x y) : true = hasC n xs x y := by unfold hasC; simp [h, k]
theorem hasC_no {n : Int} {xs : List C3} {x y : Int} (h : ¬ (BlkOk n xs ∧ InB n x y)) : false = hasC n xs x y := by unfold hasC; simp [h]
end Go.Proofs.YtahbadokkljoaaaDoor
