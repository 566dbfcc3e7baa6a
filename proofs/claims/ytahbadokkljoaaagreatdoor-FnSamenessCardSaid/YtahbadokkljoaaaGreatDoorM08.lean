/- Rows of cells, and blocks: marked, and held against the marks. Blocks: marks from one on; what stays in view in the walks of the laws. Sameness: the model's TextOf. Blocks: the program's BlockOk. -/
import Derived.Test.YtahbadokkljoaaaGreatDoorM01
import Derived.Test.YtahbadokkljoaaaGreatDoorM07
import Derived.Test.YtahbadokkljoaaaGreatDoorM00
import Derived.Test.YtahbadokkljoaaaGreatDoorM02
import Derived.Test.YtahbadokkljoaaaGreatDoorM05

namespace Go.Proofs.YtahbadokkljoaaaGreatDoor
open Go.ChangeShapes Go.WideShapes Go.ChangeAt Go.RowKit

theorem CellIn.within {lo hi l2 h2 : Nat} {u w : World} {v : Value} {xs : List C3} (r : CellIn l2 h2 u v xs) (h : Within lo hi u w) (ho : h2 ≤ lo ∨ hi ≤ l2) (hh : h2 ≤ u.heap.size) : CellIn l2 h2 w v xs := by
  obtain ⟨hl, r | ⟨g, cap, hv, hg, hlt, hc⟩⟩ := r
  · exact ⟨hl, .inl r⟩
  · refine ⟨hl, .inr ⟨g, cap, hv, hg, hlt, fun i hi => ?_⟩⟩
    have hb : w.heap[g]? = u.heap[g]? := h.block g (by omega) (by omega)
    obtain ⟨⟨e0, e1, e2⟩, f0, f1, f2⟩ := hc i hi
    exact ⟨⟨(World.cell?_of_block (w := u) hb).trans e0, (World.cell?_of_block (w := u) hb).trans e1, (World.cell?_of_block (w := u) hb).trans e2⟩,
      (World.frozen?_of_block (w := u) hb).trans f0, (World.frozen?_of_block (w := u) hb).trans f1, (World.frozen?_of_block (w := u) hb).trans f2⟩

/-- The marks from k on. -/
def markC (k n : Nat) : List C3 := (List.range n).map fun i => ⟨((k + 3 * i : Nat) : Int), ((k + 3 * i + 1 : Nat) : Int), ((k + 3 * i + 2 : Nat) : Int)⟩
theorem markC_length (k n : Nat) : (markC k n).length = n := by simp [markC]
theorem markC_at {k n i : Nat} (h : i < n) : (markC k n).getD i C3.zero = ⟨((k + 3 * i : Nat) : Int), ((k + 3 * i + 1 : Nat) : Int), ((k + 3 * i + 2 : Nat) : Int)⟩ := by simp [markC, List.getD, h]

end Go.Proofs.YtahbadokkljoaaaGreatDoor

namespace Go.Proofs.YtahbadokkljoaaaGreatDoor
open Go.ChangeShapes Go.WideShapes Go.ChangeAt Go.RowKit

/-- The number behind the last mark. -/
def mkN (xs : List C3) : Int := ((1 + 3 * xs.length : Nat) : Int)
theorem mkN_pos (xs : List C3) : ¬ mkN xs < 0 := by unfold mkN; omega
/-- Two places of a block. -/
def Two (p : Nat) (x y : Value) (u : World) : Prop := u.cell? ⟨p, 0, none⟩ = some x ∧ u.cell? ⟨p, 1, none⟩ = some y
theorem Two.keep {p : Nat} {x y : Value} {u v : World} (h : Two p x y u) (hb : Below u.heap.size u v) : Two p x y v := ⟨kept hb h.1, kept hb h.2⟩
theorem Two.new (w : World) (x y : Value) (T : TypeId) : Two w.heap.size x y (w.alloc (.cells #[x, y] T)) := ⟨by simp, by simp⟩
theorem Two.within {p lo hi : Nat} {x y : Value} {u v : World} (h : Two p x y u) (hb : Within lo hi u v) (ho : p < lo ∨ hi ≤ p) : Two p x y v := ⟨hb.cell h.1 ho, hb.cell h.2 ho⟩
def Three (p : Nat) (c : C3) (u : World) : Prop := u.cell? ⟨p, 0, none⟩ = some (.int .i64 c.s) ∧ u.cell? ⟨p, 1, none⟩ = some (.int .i64 c.a) ∧ u.cell? ⟨p, 2, none⟩ = some (.int .i64 c.b)
theorem Three.keep {p : Nat} {c : C3} {u v : World} (h : Three p c u) (hb : Below u.heap.size u v) : Three p c v := ⟨kept hb h.1, kept hb h.2.1, kept hb h.2.2⟩
theorem Three.new (w : World) (c : C3) (T : TypeId) : Three w.heap.size c (w.alloc (.cells #[.int .i64 c.s, .int .i64 c.a, .int .i64 c.b] T)) := by
  refine ⟨?_, ?_, ?_⟩ <;> simp
theorem bel_w {b lo hi : Nat} {w u v : World} (h : Below b w u) (hb : b ≤ w.heap.size) (k : Within lo hi u v) (hl : b ≤ lo) : Below b w v :=
  ⟨k.os.trans h.os, k.tape.trans h.tape, k.output.trans h.output, Nat.le_trans h.size k.size, fun i hi => (k.block i (by have := h.size; omega) (.inl (by omega))).trans (h.block i hi)⟩

end Go.Proofs.YtahbadokkljoaaaGreatDoor

namespace Go.Proofs.YtahbadokkljoaaaGreatDoor
open Go.ChangeShapes Go.WideShapes Go.ChangeAt Go.RowKit

theorem cellTxt_size (c : C3) : (cellTxt c.s c.a c.b).size ≤ 3 := by
  have h1 : (⟨#[47]⟩ : ByteArray).size = 1 := rfl
  have h2 : (⟨#[92]⟩ : ByteArray).size = 1 := rfl
  have h3 : (⟨#[]⟩ : ByteArray).size = 0 := rfl
  unfold cellTxt
  split
  · split
    · rw [ByteArray.size_append, ByteArray.size_append, dgt_size, dgt_size, h1]; omega
    · split
      · rw [ByteArray.size_append, ByteArray.size_append, dgt_size, dgt_size, h2]; omega
      · rw [dgt_size]; omega
  · rw [h3]; omega
theorem txtB_size {xs : List C3} (h : ∀ c ∈ xs, c.Ok) (k : Nat) : (txtB (xs.take k)).size ≤ 4 * xs.length := by
  have h1 := (txtL_len (xs := xs.take k) (fun c hc => h c (List.mem_of_mem_take hc))).2
  have h2 : (xs.take k).length ≤ xs.length := by simp; omega
  have h3 : (txtB (xs.take k)).size = (txtL (xs.take k)).length := by simp [txtB, ByteArray.size]
  omega
end Go.Proofs.YtahbadokkljoaaaGreatDoor

namespace Go.Proofs.YtahbadokkljoaaaGreatDoor
open Go.ChangeShapes Go.WideShapes Go.ChangeAt Go.RowKit

theorem Size_yes (x : Int) (w : World) (h0 : 1 ≤ x) (h1 : x ≤ 4) :
    Calls Tryz.prog 52 #[.int .i64 x] w fun e w' => e = .returned (.bool true) ∧ w' = w := by
  go_enter Tryz.func52, Tryz.ntmps52
  go_wp2
  go_ret
  exact ⟨rfl, rfl⟩
theorem Size_no (x : Int) (w : World) (h : x < 1 ∨ 4 < x) :
    Calls Tryz.prog 52 #[.int .i64 x] w fun e w' => e = .returned (.bool false) ∧ w' = w := by
  by_cases h0 : 1 ≤ x
  · have h1 : ¬ x ≤ 4 := by omega
    clear h
    go_enter Tryz.func52, Tryz.ntmps52
    go_wp2
    go_ret
    exact ⟨ret_bool (by simp), rfl⟩
  · clear h
    go_enter Tryz.func52, Tryz.ntmps52
    go_wp2
    go_ret
    exact ⟨rfl, rfl⟩

set_option maxHeartbeats 400000 in
theorem ImplBlockOk_any (lo hi : Nat) (n : Int) (v : Value) (xs : List C3) (w : World) (r : CellIn lo hi w v xs) (hhi : hi ≤ w.heap.size) :
    Calls Tryz.prog 32 #[.agg #[.int .i64 n, v]] w fun e w' => e = .returned (.bool (blkB n xs)) ∧ Below w.heap.size w w' := by
  obtain ⟨a, cap, rfl⟩ := r.form
  have R := Lib.hid r
  have hl := r.1
  clear r
  by_cases h1 : 1 ≤ n ∧ n ≤ 4
  · obtain ⟨n0, n1⟩ := h1
    obtain ⟨hw, s0, s1⟩ := sq_wrap n0 n1
    by_cases h2 : (xs.length : Int) = n * n
    · have e2 := eq_bool h2
      have H2 := Lib.hid h2
      have S := Lib.hid (And.intro s0 s1)
      clear h2 s0 s1
      go_enter Tryz.func32, Tryz.ntmps32
      go_wp2_with fail
      refine (Size_yes _ _ n0 n1).mono ?_
      rintro e w' ⟨rfl, rfl⟩
      go_wp2_with fail
      go_loopw [23] (fun i wr => ∃ k : Nat, k ≤ xs.length ∧ i = .int .i64 k ∧ Hid (∀ j, j < k → (xs.getD j C3.zero).Ok) ∧ Below (w.heap.size + 1) (w.alloc (.cells #[.int .i64 n, .slice a xs.length cap] 26)) wr) (fun i _ => xs.length - (intOf i).toNat)
      case atStart => exact ⟨0, Nat.zero_le _, rfl, fun j hj => by omega, Below.refl _ _⟩
      case round =>
        obtain ⟨k, hk, rfl, hok, hbel⟩ := hrel
        by_cases hlt : k < xs.length
        · obtain ⟨g, rfl, hg, hg1, hel, _⟩ := R.out.at ((bel_new0 w _).trans (hbel.mono (by omega)) |>.mono hhi) hlt
          obtain ⟨e0, e1, e3⟩ := hel
          obtain ⟨c, hc⟩ : ∃ c, c = xs.getD k C3.zero := ⟨_, rfl⟩
          rw [← hc] at e0 e1 e3
          have HC := Lib.hid hc
          clear hc
          have hs1 : w.heap.size + 1 ≤ wr.heap.size := by have := hbel.size; simpa using this
          have HB := Lib.hid ((hbel.alloc hs1 (.cells #[.int .i64 c.s, .int .i64 c.a, .int .i64 c.b] 50)).alloc (by simp; omega) (.cells #[.int .i64 c.s, .int .i64 c.a, .int .i64 c.b] 50))
          clear hbel
          go_wp2_with fail
          refine (ImplOk_any _ _ _ _).mono ?_
          by_cases ho : OkC c.s c.a c.b
          · have ho' := Lib.hid (decide_eq_true ho)
            rw [ho'.out]
            rintro e w1 ⟨rfl, rfl⟩
            have HN : Hid (∀ j, j < k + 1 → (xs.getD j C3.zero).Ok) := Lib.hid (fun j hj => by
              rcases Nat.lt_succ_iff_lt_or_eq.1 hj with h | rfl
              · exact hok.out j h
              · rw [← HC.out]; exact ho)
            clear HC ho ho'
            go_wp2_with fail
            go_roundw
            case rel => exact ⟨k + 1, by omega, by go_num, HN, HB.out⟩
            case measure => simp [intOf] <;> omega
          · have ho' := Lib.hid (decide_eq_false ho)
            rw [ho'.out]
            rintro e w1 ⟨rfl, rfl⟩
            have HN := Lib.hid (blk_no_cell (n := n) hlt (by rw [← HC.out]; exact ho))
            clear HC ho ho'
            go_wp2_with fail
            go_ret
            exact ⟨ret_bool HN.out, (bel_new0 w _).trans (HB.out.mono (by omega))⟩
        · obtain rfl : k = xs.length := by omega
          have HN := Lib.hid (blk_all (n := n) ⟨n0, n1⟩ H2.out hok.out)
          go_wp2_with fail
          go_ret
          exact ⟨ret_bool HN.out, (bel_new0 w _).trans (hbel.mono (by omega))⟩
    · have e2 := ne_bool h2
      have H2 := Lib.hid (blk_no_len h2)
      clear h2 s0 s1
      go_enter Tryz.func32, Tryz.ntmps32
      go_wp2_with fail
      refine (Size_yes _ _ n0 n1).mono ?_
      rintro e w' ⟨rfl, rfl⟩
      go_wp2_with fail
      go_ret
      exact ⟨by rw [← H2.out]; rfl, (Below.refl _ _).alloc (Nat.le_refl _) _⟩
  · have h1' : n < 1 ∨ 4 < n := by omega
    have H1 := Lib.hid (blk_no_size (xs := xs) h1)
    clear h1
    go_enter Tryz.func32, Tryz.ntmps32
    go_wp2_with fail
    refine (Size_no _ _ h1').mono ?_
    rintro e w' ⟨rfl, rfl⟩
    go_wp2_with fail
    go_ret
    exact ⟨ret_bool H1.out, (Below.refl _ _).alloc (Nat.le_refl _) _⟩

theorem ImplBlockOk_yes (lo hi : Nat) (n : Int) (v : Value) (xs : List C3) (w : World) (r : CellIn lo hi w v xs) (hhi : hi ≤ w.heap.size) (h : BlkOk n xs) :
    Calls Tryz.prog 32 #[.agg #[.int .i64 n, v]] w fun e w' => e = .returned (.bool true) ∧ Below w.heap.size w w' := by
  have hc := ImplBlockOk_any lo hi n v xs w r hhi
  rw [← blk_yes h] at hc
  exact hc
theorem ImplBlockOk_no (lo hi : Nat) (n : Int) (v : Value) (xs : List C3) (w : World) (r : CellIn lo hi w v xs) (hhi : hi ≤ w.heap.size) (h : ¬ BlkOk n xs) :
    Calls Tryz.prog 32 #[.agg #[.int .i64 n, v]] w fun e w' => e = .returned (.bool false) ∧ Below w.heap.size w w' := by
  have hc := ImplBlockOk_any lo hi n v xs w r hhi
  rw [← blk_no h] at hc
  exact hc

/-- The block has a cell there, as a Boolean. -/
noncomputable def hasC (n : Int) (xs : List C3) (x y : Int) : Bool := @decide (BlkOk n xs ∧ InB n x y) (Classical.propDecidable _)
theorem hasC_yes {n : Int} {xs : List C3} {x y : Int} (h : BlkOk n xs) (k : InB n x y) : true = hasC n xs x y := by unfold hasC; simp [h, k]
theorem hasC_no {n : Int} {xs : List C3} {x y : Int} (h : ¬ (BlkOk n xs ∧ InB n x y)) : false = hasC n xs x y := by unfold hasC; simp [h]
end Go.Proofs.YtahbadokkljoaaaGreatDoor
