/- Blocks: the model's WithCell. -/
import Derived.Test.YtoljnokfhgopoaaBlkC
import Derived.Test.YtoljnokfhgopoaaBlkK
namespace Go.Proofs.Ytoljnokfhgopoaa
open Go.ChangeShapes Go.WideShapes Go.ChangeAt Go.RowKit

theorem SpecOk_yes (s a b : Int) (w : World) (k : OkC s a b) :
    Calls Try.prog 53 #[.agg #[.int .i64 s, .int .i64 a, .int .i64 b]] w fun e w' => e = .returned (.bool true) ∧ Below w.heap.size w w' := by
  refine (SpecOk_any s a b w).mono ?_
  rintro e w' ⟨rfl, rfl⟩
  exact ⟨ret_bool (decide_eq_true k), bel0 _ _⟩
theorem SpecOk_no (s a b : Int) (w : World) (k : ¬ OkC s a b) :
    Calls Try.prog 53 #[.agg #[.int .i64 s, .int .i64 a, .int .i64 b]] w fun e w' => e = .returned (.bool false) ∧ Below w.heap.size w w' := by
  refine (SpecOk_any s a b w).mono ?_
  rintro e w' ⟨rfl, rfl⟩
  exact ⟨ret_bool (decide_eq_false k), bel0 _ _⟩

/-- A new block and a truth value are handed back. -/
def FreshBB (n : Int) (ys : List C3) (ok : Bool) (w : World) (e : Ending) (w' : World) : Prop := ∃ v, e = .returned (.tuple #[.agg #[.int .i64 n, v], .bool ok]) ∧ CellIn w.heap.size w'.heap.size w' v ys ∧ Below w.heap.size w w'
/-- What WithCell makes. -/
noncomputable def withC (n : Int) (xs : List C3) (x y : Int) (c : C3) : List C3 := @ite _ (BlkOk n xs ∧ c.Ok ∧ InB n x y) (Classical.propDecidable _) (xs.set (y * n + x).toNat c) xs
noncomputable def withB (n : Int) (xs : List C3) (x y : Int) (c : C3) : Bool := @decide (BlkOk n xs ∧ c.Ok ∧ InB n x y) (Classical.propDecidable _)
theorem with_yes {n : Int} {xs : List C3} {x y : Int} {c : C3} (h : BlkOk n xs ∧ c.Ok ∧ InB n x y) : withC n xs x y c = xs.set (y * n + x).toNat c ∧ withB n xs x y c = true := ⟨if_pos h, by unfold withB; simp [h]⟩
theorem with_no {n : Int} {xs : List C3} {x y : Int} {c : C3} (h : ¬ (BlkOk n xs ∧ c.Ok ∧ InB n x y)) : withC n xs x y c = xs ∧ withB n xs x y c = false := ⟨if_neg h, by unfold withB; simp [h]⟩

/-- What the walk keeps in view: the argument's box, the cell's, the answer's, the copy's. -/
def SW (p q : Nat) (n s a b : Int) (sl cp : Value) (u : World) : Prop :=
  u.cell? ⟨p, 0, none⟩ = some (.int .i64 n) ∧ u.cell? ⟨p, 1, none⟩ = some sl ∧
  u.cell? ⟨p + 1, 0, none⟩ = some (.int .i64 s) ∧ u.cell? ⟨p + 1, 1, none⟩ = some (.int .i64 a) ∧ u.cell? ⟨p + 1, 2, none⟩ = some (.int .i64 b) ∧
  u.cell? ⟨p + 1 + 1, 0, none⟩ = some (.int .i64 0) ∧ u.cell? ⟨p + 1 + 1, 1, none⟩ = some (.slice none 0 0) ∧ u.frozen? ⟨p + 1 + 1, 0, none⟩ = false ∧ u.frozen? ⟨p + 1 + 1, 1, none⟩ = false ∧
  u.cell? ⟨q, 0, none⟩ = some (.int .i64 n) ∧ u.cell? ⟨q, 1, none⟩ = some cp
theorem SW.keep {p q : Nat} {n s a b : Int} {sl cp : Value} {u v : World} (h : SW p q n s a b sl cp u) (hb : Below u.heap.size u v) : SW p q n s a b sl cp v := by
  obtain ⟨h0, h1, h2, h3, h4, h5, h6, f5, f6, h7, h8⟩ := h
  exact ⟨kept hb h0, kept hb h1, kept hb h2, kept hb h3, kept hb h4, kept hb h5, kept hb h6, keptF hb h5 f5, keptF hb h6 f6, kept hb h7, kept hb h8⟩

set_option maxHeartbeats 1000000 in
theorem SpecWith_any (lo hi : Nat) (n x y s a b : Int) (v : Value) (xs : List C3) (w : World) (r : CellIn lo hi w v xs) (hhi : hi ≤ w.heap.size) :
    Calls Try.prog 30 #[.agg #[.int .i64 n, v], .int .i64 x, .int .i64 y, .agg #[.int .i64 s, .int .i64 a, .int .i64 b]] w (FreshBB n (withC n xs x y ⟨s, a, b⟩) (withB n xs x y ⟨s, a, b⟩) w) := by
  obtain ⟨ad, cap, rfl⟩ := r.form
  have hl := r.1
  have R : ∀ W, Below w.heap.size w W → CellIn lo hi W (.slice ad xs.length cap) xs := fun W hb => r.below (hb.mono hhi)
  have HR := Lib.hid R
  clear r R
  by_cases hb : BlkOk n xs
  · have n0 := hb.1.1
    have n1 := hb.1.2
    have HL := Lib.hid hb.2.1
    have HB := Lib.hid hb
    by_cases hc : OkC s a b
    · have HC := Lib.hid hc
      by_cases hp : InB n x y
      · obtain ⟨e1, e2⟩ := with_yes (n := n) (xs := xs) (x := x) (y := y) (c := ⟨s, a, b⟩) ⟨hb, hc, hp⟩
        rw [e1, e2]
        clear e1 e2
        obtain ⟨k, hk1, hk2, hk3, hk4⟩ := idx n0 n1 hp
        have hkt : (y * n + x).toNat = k := by rw [hk1]; simp
        rw [hkt]
        have hkl : k < xs.length := by have := HL.out; omega
        obtain ⟨⟨x0, x1⟩, y0, y1⟩ := hp
        clear hk1 hk2 hb hc hkt
        go_enter Try.func30, Try.ntmps30
        go_wp2_with fail
        refine (SpecCopy_any lo hi n _ xs _ (HR.out _ (bel_n (bel_n (bel0 w _) (Nat.le_refl _) _) (Nat.le_refl _) _)) (by simp; omega)).mono ?_
        rintro e w1 ⟨v1, rfl, hin1, hb1⟩
        obtain ⟨a1, cap1, rfl⟩ := hin1.form
        have N := bel0 w1 (.cells #[.int .i64 n, .slice a1 xs.length cap1] 26)
        have S1 : SW w.heap.size w1.heap.size n s a b (.slice ad xs.length cap) (.slice a1 xs.length cap1) (w1.alloc (.cells #[.int .i64 n, .slice a1 xs.length cap1] 26)) :=
          ⟨kept N (kept hb1 (by go_simp)), kept N (kept hb1 (by go_simp)), kept N (kept hb1 (by go_simp)), kept N (kept hb1 (by go_simp)), kept N (kept hb1 (by go_simp)), kept N (kept hb1 (by go_simp)), kept N (kept hb1 (by go_simp)),
            keptF N (kept hb1 (show _ = some (Value.int .i64 0) by go_simp)) (keptF hb1 (show _ = some (Value.int .i64 0) by go_simp) (by go_simp)), keptF N (kept hb1 (show _ = some (Value.slice none 0 0) by go_simp)) (keptF hb1 (show _ = some (Value.slice none 0 0) by go_simp) (by go_simp)), by simp, by simp⟩
        have B2 : Below w.heap.size w (w1.alloc (.cells #[.int .i64 n, .slice a1 xs.length cap1] 26)) := bel_n (bel_c (bel_n (bel_n (bel0 w _) (Nat.le_refl _) _) (Nat.le_refl _) _) (Nat.le_refl _) hb1) (Nat.le_refl _) _
        have hin2 : CellIn (w.heap.size + 1 + 1 + 1) w1.heap.size (w1.alloc (.cells #[.int .i64 n, .slice a1 xs.length cap1] 26)) (.slice a1 xs.length cap1) xs := (by simpa using hin1 : CellIn (w.heap.size + 1 + 1 + 1) w1.heap.size w1 (.slice a1 xs.length cap1) xs).below N
        have hz : w.heap.size + 1 + 1 + 1 ≤ w1.heap.size := by have := hb1.size; simpa using this
        clear hb1 hin1 N
        have S1' := S1
        obtain ⟨c0, c1, m0, m1, m2, d0, d1, g0, g1, k0, k1⟩ := S1'
        go_wp2_with fail
        have HI := Lib.hid hin2
        clear hin2 c0 c1 m0 m1 m2 d0 d1 g0 g1 k0 k1
        refine (SpecBlockOk_yes lo hi n _ xs _ (HR.out _ B2) (by simp; omega) HB.out).mono ?_
        rintro e w2 ⟨rfl, hb2⟩
        have S2 := S1.keep hb2
        have B3 := bel_c B2 (Nat.le_refl _) hb2
        have HI2 := Lib.hid (HI.out.below (hb2.mono (by simp)))
        have hz2 : w1.heap.size < w2.heap.size := by have := hb2.size; simp at this; omega
        clear S1 B2 HI hb2
        have S2' := S2
        obtain ⟨c0, c1, m0, m1, m2, d0, d1, g0, g1, k0, k1⟩ := S2'
        go_wp2_with fail
        clear c0 c1 m0 m1 m2 d0 d1 g0 g1 k0 k1
        refine (SpecOk_yes _ _ _ _ HC.out).mono ?_
        rintro e w3 ⟨rfl, hb3⟩
        have S3 := S2.keep hb3
        have B4 := bel_c B3 (Nat.le_refl _) hb3
        have HI3 := Lib.hid (HI2.out.below (hb3.mono (by omega)))
        have hz3 : w1.heap.size < w3.heap.size := by have := hb3.size; omega
        clear S2 B3 HI2 hb3 hz2
        obtain ⟨c0, c1, m0, m1, m2, d0, d1, g0, g1, k0, k1⟩ := S3
        go_wp2_with fail
        refine (In_yes _ _ _ _ x0 x1).mono ?_
        rintro e w' ⟨rfl, rfl⟩
        go_wp2_with fail
        refine (In_yes _ _ _ _ y0 y1).mono ?_
        rintro e w' ⟨rfl, rfl⟩
        obtain ⟨g, rfl, hg, hg1, ⟨e0, e1, e2⟩, f0, f1, f2⟩ := HI3.out.at (Below.refl _ _) hkl
        have HN := Lib.hid (HI3.out.set k hkl s a b)
        generalize xs.getD k C3.zero = c at e0 e1 e2
        have ne1 : g ≠ w1.heap.size := by omega
        have ne2 : g ≠ w.heap.size + 1 + 1 := by omega
        have ne3 : w.heap.size + 1 + 1 ≠ g := by omega
        clear HI3
        go_wp2_with fail
        refine bodyPost_ret (v := .tuple #[.agg #[.int .i64 n, .slice (some ⟨g, 0, none⟩) xs.length cap1], .bool true]) (by simp [results, Try.results30, go_sem, d0, d1]) rfl ⟨.slice (some ⟨g, 0, none⟩) xs.length cap1, rfl, ?_, ?_⟩
        · refine CellIn.wide (lo := w.heap.size + 1 + 1 + 1) (hi := w1.heap.size) ?_ (by omega) (by simp [World.setCell]; omega)
          refine CellIn.set_far (CellIn.set_far HN.out ?_ _) ?_ _ <;> (simp <;> omega)
        · refine Below.setCell (Below.setCell (Below.setCell (Below.setCell (Below.setCell B4 ?_ _) ?_ _) ?_ _) ?_ _) ?_ _ <;> (simp <;> omega)
      · obtain ⟨e1, e2⟩ := with_no (n := n) (xs := xs) (x := x) (y := y) (c := ⟨s, a, b⟩) (fun h => hp h.2.2)
        rw [e1, e2]
        clear e1 e2
        by_cases hx : 0 ≤ x ∧ x ≤ n - 1
        · have hy : y < 0 ∨ n - 1 < y := by unfold InB at hp; omega
          obtain ⟨x0, x1⟩ := hx
          clear hp hb hc
          go_enter Try.func30, Try.ntmps30
          go_wp2_with fail
          refine (SpecCopy_any lo hi n _ xs _ (HR.out _ (bel_n (bel_n (bel0 w _) (Nat.le_refl _) _) (Nat.le_refl _) _)) (by simp; omega)).mono ?_
          rintro e w1 ⟨v1, rfl, hin1, hb1⟩
          obtain ⟨a1, cap1, rfl⟩ := hin1.form
          have N := bel0 w1 (.cells #[.int .i64 n, .slice a1 xs.length cap1] 26)
          have S1 : SW w.heap.size w1.heap.size n s a b (.slice ad xs.length cap) (.slice a1 xs.length cap1) (w1.alloc (.cells #[.int .i64 n, .slice a1 xs.length cap1] 26)) :=
            ⟨kept N (kept hb1 (by go_simp)), kept N (kept hb1 (by go_simp)), kept N (kept hb1 (by go_simp)), kept N (kept hb1 (by go_simp)), kept N (kept hb1 (by go_simp)), kept N (kept hb1 (by go_simp)), kept N (kept hb1 (by go_simp)),
              keptF N (kept hb1 (show _ = some (Value.int .i64 0) by go_simp)) (keptF hb1 (show _ = some (Value.int .i64 0) by go_simp) (by go_simp)), keptF N (kept hb1 (show _ = some (Value.slice none 0 0) by go_simp)) (keptF hb1 (show _ = some (Value.slice none 0 0) by go_simp) (by go_simp)), by simp, by simp⟩
          have B2 : Below w.heap.size w (w1.alloc (.cells #[.int .i64 n, .slice a1 xs.length cap1] 26)) := bel_n (bel_c (bel_n (bel_n (bel0 w _) (Nat.le_refl _) _) (Nat.le_refl _) _) (Nat.le_refl _) hb1) (Nat.le_refl _) _
          have hin2 : CellIn (w.heap.size + 1 + 1 + 1) w1.heap.size (w1.alloc (.cells #[.int .i64 n, .slice a1 xs.length cap1] 26)) (.slice a1 xs.length cap1) xs := (by simpa using hin1 : CellIn (w.heap.size + 1 + 1 + 1) w1.heap.size w1 (.slice a1 xs.length cap1) xs).below N
          have hz : w.heap.size + 1 + 1 + 1 ≤ w1.heap.size := by have := hb1.size; simpa using this
          clear hb1 hin1 N
          have S1' := S1
          obtain ⟨c0, c1, m0, m1, m2, d0, d1, g0, g1, k0, k1⟩ := S1'
          go_wp2_with fail
          have HI := Lib.hid hin2
          clear hin2 c0 c1 m0 m1 m2 d0 d1 g0 g1 k0 k1
          refine (SpecBlockOk_yes lo hi n _ xs _ (HR.out _ B2) (by simp; omega) HB.out).mono ?_
          rintro e w2 ⟨rfl, hb2⟩
          have S2 := S1.keep hb2
          have B3 := bel_c B2 (Nat.le_refl _) hb2
          have HI2 := Lib.hid (HI.out.below (hb2.mono (by simp)))
          have hz2 : w1.heap.size < w2.heap.size := by have := hb2.size; simp at this; omega
          clear S1 B2 HI hb2
          have S2' := S2
          obtain ⟨c0, c1, m0, m1, m2, d0, d1, g0, g1, k0, k1⟩ := S2'
          go_wp2_with fail
          clear c0 c1 m0 m1 m2 d0 d1 g0 g1 k0 k1
          refine (SpecOk_yes _ _ _ _ HC.out).mono ?_
          rintro e w3 ⟨rfl, hb3⟩
          have S3 := S2.keep hb3
          have B4 := bel_c B3 (Nat.le_refl _) hb3
          have HI3 := Lib.hid (HI2.out.below (hb3.mono (by omega)))
          have hz3 : w1.heap.size < w3.heap.size := by have := hb3.size; omega
          clear S2 B3 HI2 hb3 hz2
          obtain ⟨c0, c1, m0, m1, m2, d0, d1, g0, g1, k0, k1⟩ := S3
          go_wp2_with fail
          refine (In_yes _ _ _ _ x0 x1).mono ?_
          rintro e w' ⟨rfl, rfl⟩
          go_wp2_with fail
          refine (In_no _ _ _ _ hy).mono ?_
          rintro e w' ⟨rfl, rfl⟩
          go_wp2_with fail
          refine bodyPost_ret (v := .tuple #[.agg #[.int .i64 n, .slice a1 xs.length cap1], .bool false]) (by simp [results, Try.results30, go_sem, d0, d1]) rfl ⟨.slice a1 xs.length cap1, rfl, ?_, ?_⟩
          · refine CellIn.wide (lo := w.heap.size + 1 + 1 + 1) (hi := w1.heap.size) ?_ (by omega) (by simp [World.setCell]; omega)
            refine CellIn.set_far (CellIn.set_far HI3.out ?_ _) ?_ _ <;> (simp <;> omega)
          · refine Below.setCell (Below.setCell B4 ?_ _) ?_ _ <;> (simp <;> omega)
        · have hx' : x < 0 ∨ n - 1 < x := by omega
          clear hp hx hb hc
          go_enter Try.func30, Try.ntmps30
          go_wp2_with fail
          refine (SpecCopy_any lo hi n _ xs _ (HR.out _ (bel_n (bel_n (bel0 w _) (Nat.le_refl _) _) (Nat.le_refl _) _)) (by simp; omega)).mono ?_
          rintro e w1 ⟨v1, rfl, hin1, hb1⟩
          obtain ⟨a1, cap1, rfl⟩ := hin1.form
          have N := bel0 w1 (.cells #[.int .i64 n, .slice a1 xs.length cap1] 26)
          have S1 : SW w.heap.size w1.heap.size n s a b (.slice ad xs.length cap) (.slice a1 xs.length cap1) (w1.alloc (.cells #[.int .i64 n, .slice a1 xs.length cap1] 26)) :=
            ⟨kept N (kept hb1 (by go_simp)), kept N (kept hb1 (by go_simp)), kept N (kept hb1 (by go_simp)), kept N (kept hb1 (by go_simp)), kept N (kept hb1 (by go_simp)), kept N (kept hb1 (by go_simp)), kept N (kept hb1 (by go_simp)),
              keptF N (kept hb1 (show _ = some (Value.int .i64 0) by go_simp)) (keptF hb1 (show _ = some (Value.int .i64 0) by go_simp) (by go_simp)), keptF N (kept hb1 (show _ = some (Value.slice none 0 0) by go_simp)) (keptF hb1 (show _ = some (Value.slice none 0 0) by go_simp) (by go_simp)), by simp, by simp⟩
          have B2 : Below w.heap.size w (w1.alloc (.cells #[.int .i64 n, .slice a1 xs.length cap1] 26)) := bel_n (bel_c (bel_n (bel_n (bel0 w _) (Nat.le_refl _) _) (Nat.le_refl _) _) (Nat.le_refl _) hb1) (Nat.le_refl _) _
          have hin2 : CellIn (w.heap.size + 1 + 1 + 1) w1.heap.size (w1.alloc (.cells #[.int .i64 n, .slice a1 xs.length cap1] 26)) (.slice a1 xs.length cap1) xs := (by simpa using hin1 : CellIn (w.heap.size + 1 + 1 + 1) w1.heap.size w1 (.slice a1 xs.length cap1) xs).below N
          have hz : w.heap.size + 1 + 1 + 1 ≤ w1.heap.size := by have := hb1.size; simpa using this
          clear hb1 hin1 N
          have S1' := S1
          obtain ⟨c0, c1, m0, m1, m2, d0, d1, g0, g1, k0, k1⟩ := S1'
          go_wp2_with fail
          have HI := Lib.hid hin2
          clear hin2 c0 c1 m0 m1 m2 d0 d1 g0 g1 k0 k1
          refine (SpecBlockOk_yes lo hi n _ xs _ (HR.out _ B2) (by simp; omega) HB.out).mono ?_
          rintro e w2 ⟨rfl, hb2⟩
          have S2 := S1.keep hb2
          have B3 := bel_c B2 (Nat.le_refl _) hb2
          have HI2 := Lib.hid (HI.out.below (hb2.mono (by simp)))
          have hz2 : w1.heap.size < w2.heap.size := by have := hb2.size; simp at this; omega
          clear S1 B2 HI hb2
          have S2' := S2
          obtain ⟨c0, c1, m0, m1, m2, d0, d1, g0, g1, k0, k1⟩ := S2'
          go_wp2_with fail
          clear c0 c1 m0 m1 m2 d0 d1 g0 g1 k0 k1
          refine (SpecOk_yes _ _ _ _ HC.out).mono ?_
          rintro e w3 ⟨rfl, hb3⟩
          have S3 := S2.keep hb3
          have B4 := bel_c B3 (Nat.le_refl _) hb3
          have HI3 := Lib.hid (HI2.out.below (hb3.mono (by omega)))
          have hz3 : w1.heap.size < w3.heap.size := by have := hb3.size; omega
          clear S2 B3 HI2 hb3 hz2
          obtain ⟨c0, c1, m0, m1, m2, d0, d1, g0, g1, k0, k1⟩ := S3
          go_wp2_with fail
          refine (In_no _ _ _ _ hx').mono ?_
          rintro e w' ⟨rfl, rfl⟩
          go_wp2_with fail
          refine bodyPost_ret (v := .tuple #[.agg #[.int .i64 n, .slice a1 xs.length cap1], .bool false]) (by simp [results, Try.results30, go_sem, d0, d1]) rfl ⟨.slice a1 xs.length cap1, rfl, ?_, ?_⟩
          · refine CellIn.wide (lo := w.heap.size + 1 + 1 + 1) (hi := w1.heap.size) ?_ (by omega) (by simp [World.setCell]; omega)
            refine CellIn.set_far (CellIn.set_far HI3.out ?_ _) ?_ _ <;> (simp <;> omega)
          · refine Below.setCell (Below.setCell B4 ?_ _) ?_ _ <;> (simp <;> omega)
    · have HC := Lib.hid hc
      obtain ⟨e1, e2⟩ := with_no (n := n) (xs := xs) (x := x) (y := y) (c := ⟨s, a, b⟩) (fun h => hc h.2.1)
      rw [e1, e2]
      clear e1 e2
      clear hb hc
      go_enter Try.func30, Try.ntmps30
      go_wp2_with fail
      refine (SpecCopy_any lo hi n _ xs _ (HR.out _ (bel_n (bel_n (bel0 w _) (Nat.le_refl _) _) (Nat.le_refl _) _)) (by simp; omega)).mono ?_
      rintro e w1 ⟨v1, rfl, hin1, hb1⟩
      obtain ⟨a1, cap1, rfl⟩ := hin1.form
      have N := bel0 w1 (.cells #[.int .i64 n, .slice a1 xs.length cap1] 26)
      have S1 : SW w.heap.size w1.heap.size n s a b (.slice ad xs.length cap) (.slice a1 xs.length cap1) (w1.alloc (.cells #[.int .i64 n, .slice a1 xs.length cap1] 26)) :=
        ⟨kept N (kept hb1 (by go_simp)), kept N (kept hb1 (by go_simp)), kept N (kept hb1 (by go_simp)), kept N (kept hb1 (by go_simp)), kept N (kept hb1 (by go_simp)), kept N (kept hb1 (by go_simp)), kept N (kept hb1 (by go_simp)),
          keptF N (kept hb1 (show _ = some (Value.int .i64 0) by go_simp)) (keptF hb1 (show _ = some (Value.int .i64 0) by go_simp) (by go_simp)), keptF N (kept hb1 (show _ = some (Value.slice none 0 0) by go_simp)) (keptF hb1 (show _ = some (Value.slice none 0 0) by go_simp) (by go_simp)), by simp, by simp⟩
      have B2 : Below w.heap.size w (w1.alloc (.cells #[.int .i64 n, .slice a1 xs.length cap1] 26)) := bel_n (bel_c (bel_n (bel_n (bel0 w _) (Nat.le_refl _) _) (Nat.le_refl _) _) (Nat.le_refl _) hb1) (Nat.le_refl _) _
      have hin2 : CellIn (w.heap.size + 1 + 1 + 1) w1.heap.size (w1.alloc (.cells #[.int .i64 n, .slice a1 xs.length cap1] 26)) (.slice a1 xs.length cap1) xs := (by simpa using hin1 : CellIn (w.heap.size + 1 + 1 + 1) w1.heap.size w1 (.slice a1 xs.length cap1) xs).below N
      have hz : w.heap.size + 1 + 1 + 1 ≤ w1.heap.size := by have := hb1.size; simpa using this
      clear hb1 hin1 N
      have S1' := S1
      obtain ⟨c0, c1, m0, m1, m2, d0, d1, g0, g1, k0, k1⟩ := S1'
      go_wp2_with fail
      have HI := Lib.hid hin2
      clear hin2 c0 c1 m0 m1 m2 d0 d1 g0 g1 k0 k1
      refine (SpecBlockOk_yes lo hi n _ xs _ (HR.out _ B2) (by simp; omega) HB.out).mono ?_
      rintro e w2 ⟨rfl, hb2⟩
      have S2 := S1.keep hb2
      have B3 := bel_c B2 (Nat.le_refl _) hb2
      have HI2 := Lib.hid (HI.out.below (hb2.mono (by simp)))
      have hz2 : w1.heap.size < w2.heap.size := by have := hb2.size; simp at this; omega
      clear S1 B2 HI hb2
      have S2' := S2
      obtain ⟨c0, c1, m0, m1, m2, d0, d1, g0, g1, k0, k1⟩ := S2'
      go_wp2_with fail
      clear c0 c1 m0 m1 m2 d0 d1 g0 g1 k0 k1
      refine (SpecOk_no _ _ _ _ HC.out).mono ?_
      rintro e w3 ⟨rfl, hb3⟩
      have S3 := S2.keep hb3
      have B4 := bel_c B3 (Nat.le_refl _) hb3
      have HI3 := Lib.hid (HI2.out.below (hb3.mono (by omega)))
      have hz3 : w1.heap.size < w3.heap.size := by have := hb3.size; omega
      clear S2 B3 HI2 hb3 hz2
      obtain ⟨c0, c1, m0, m1, m2, d0, d1, g0, g1, k0, k1⟩ := S3
      go_wp2_with fail
      refine bodyPost_ret (v := .tuple #[.agg #[.int .i64 n, .slice a1 xs.length cap1], .bool false]) (by simp [results, Try.results30, go_sem, d0, d1]) rfl ⟨.slice a1 xs.length cap1, rfl, ?_, ?_⟩
      · refine CellIn.wide (lo := w.heap.size + 1 + 1 + 1) (hi := w1.heap.size) ?_ (by omega) (by simp [World.setCell]; omega)
        refine CellIn.set_far (CellIn.set_far HI3.out ?_ _) ?_ _ <;> (simp <;> omega)
      · refine Below.setCell (Below.setCell B4 ?_ _) ?_ _ <;> (simp <;> omega)
  · have HB := Lib.hid hb
    obtain ⟨e1, e2⟩ := with_no (n := n) (xs := xs) (x := x) (y := y) (c := ⟨s, a, b⟩) (fun h => hb h.1)
    rw [e1, e2]
    clear e1 e2
    clear hb
    go_enter Try.func30, Try.ntmps30
    go_wp2_with fail
    refine (SpecCopy_any lo hi n _ xs _ (HR.out _ (bel_n (bel_n (bel0 w _) (Nat.le_refl _) _) (Nat.le_refl _) _)) (by simp; omega)).mono ?_
    rintro e w1 ⟨v1, rfl, hin1, hb1⟩
    obtain ⟨a1, cap1, rfl⟩ := hin1.form
    have N := bel0 w1 (.cells #[.int .i64 n, .slice a1 xs.length cap1] 26)
    have S1 : SW w.heap.size w1.heap.size n s a b (.slice ad xs.length cap) (.slice a1 xs.length cap1) (w1.alloc (.cells #[.int .i64 n, .slice a1 xs.length cap1] 26)) :=
      ⟨kept N (kept hb1 (by go_simp)), kept N (kept hb1 (by go_simp)), kept N (kept hb1 (by go_simp)), kept N (kept hb1 (by go_simp)), kept N (kept hb1 (by go_simp)), kept N (kept hb1 (by go_simp)), kept N (kept hb1 (by go_simp)),
        keptF N (kept hb1 (show _ = some (Value.int .i64 0) by go_simp)) (keptF hb1 (show _ = some (Value.int .i64 0) by go_simp) (by go_simp)), keptF N (kept hb1 (show _ = some (Value.slice none 0 0) by go_simp)) (keptF hb1 (show _ = some (Value.slice none 0 0) by go_simp) (by go_simp)), by simp, by simp⟩
    have B2 : Below w.heap.size w (w1.alloc (.cells #[.int .i64 n, .slice a1 xs.length cap1] 26)) := bel_n (bel_c (bel_n (bel_n (bel0 w _) (Nat.le_refl _) _) (Nat.le_refl _) _) (Nat.le_refl _) hb1) (Nat.le_refl _) _
    have hin2 : CellIn (w.heap.size + 1 + 1 + 1) w1.heap.size (w1.alloc (.cells #[.int .i64 n, .slice a1 xs.length cap1] 26)) (.slice a1 xs.length cap1) xs := (by simpa using hin1 : CellIn (w.heap.size + 1 + 1 + 1) w1.heap.size w1 (.slice a1 xs.length cap1) xs).below N
    have hz : w.heap.size + 1 + 1 + 1 ≤ w1.heap.size := by have := hb1.size; simpa using this
    clear hb1 hin1 N
    have S1' := S1
    obtain ⟨c0, c1, m0, m1, m2, d0, d1, g0, g1, k0, k1⟩ := S1'
    go_wp2_with fail
    have HI := Lib.hid hin2
    clear hin2 c0 c1 m0 m1 m2 d0 d1 g0 g1 k0 k1
    refine (SpecBlockOk_no lo hi n _ xs _ (HR.out _ B2) (by simp; omega) HB.out).mono ?_
    rintro e w2 ⟨rfl, hb2⟩
    have S2 := S1.keep hb2
    have B3 := bel_c B2 (Nat.le_refl _) hb2
    have HI2 := Lib.hid (HI.out.below (hb2.mono (by simp)))
    have hz2 : w1.heap.size < w2.heap.size := by have := hb2.size; simp at this; omega
    clear S1 B2 HI hb2
    obtain ⟨c0, c1, m0, m1, m2, d0, d1, g0, g1, k0, k1⟩ := S2
    go_wp2_with fail
    refine bodyPost_ret (v := .tuple #[.agg #[.int .i64 n, .slice a1 xs.length cap1], .bool false]) (by simp [results, Try.results30, go_sem, d0, d1]) rfl ⟨.slice a1 xs.length cap1, rfl, ?_, ?_⟩
    · refine CellIn.wide (lo := w.heap.size + 1 + 1 + 1) (hi := w1.heap.size) ?_ (by omega) (by simp [World.setCell]; omega)
      refine CellIn.set_far (CellIn.set_far HI2.out ?_ _) ?_ _ <;> (simp <;> omega)
    · refine Below.setCell (Below.setCell B3 ?_ _) ?_ _ <;> (simp <;> omega)

end Go.Proofs.Ytoljnokfhgopoaa
