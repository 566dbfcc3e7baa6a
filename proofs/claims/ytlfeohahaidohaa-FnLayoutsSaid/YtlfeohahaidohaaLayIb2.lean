/- Layouts: the program's AreBeside. -/
import Derived.Test.YtlfeohahaidohaaLayIh
namespace Go.Proofs.Ytlfeohahaidohaa
open Go.ChangeShapes Go.WideShapes Go.ChangeAt Go.RowKit

theorem hp_no {m n i k : Int} {xs : List P5} (h : hpB m n xs i = false) : false = besB m n xs i k ∧ false = besB m n xs k i := by
  constructor
  · refine bes_no (fun z => ?_)
    have := lay_yes z.1
    simp [hpB, ← this] at h
    have := z.2.1; omega
  · refine bes_no (fun z => ?_)
    have := lay_yes z.1
    simp [hpB, ← this] at h
    have := z.2.2.1; omega
theorem hp_yes {m n i : Int} {xs : List P5} (h : hpB m n xs i = true) : layB m n xs = true ∧ 0 ≤ i ∧ i < xs.length := by simpa [hpB] using h
theorem LayK.apart {m n : Int} {xs : List P5} {l : Nat} (h : LayK m n xs l) {i k : Nat} (hi : i < l) (hk : k < l) (hne : i ≠ k) : ¬ Hit (pat xs i) (pat xs k) := by
  rcases Nat.lt_or_gt_of_ne hne with h' | h'
  · intro z; exact (h k hk).2 i h' ⟨z.2.1, z.1, z.2.2.2, z.2.2.1⟩
  · exact (h i hi).2 k h'
theorem bes_iff {p q : P5} (hp : InP p) (hq : InP q) (h : ¬ Hit p q) : Bes p q ↔ 0 ≤ cwP p q ∧ 0 ≤ chP p q ∧ 0 < cwP p q + chP p q := by
  obtain ⟨⟨_, _, _⟩, _, _, _⟩ := hp
  obtain ⟨⟨_, _, _⟩, _, _, _⟩ := hq
  unfold Hit at h
  unfold Bes cwP chP cmn
  omega
theorem hit_self {m n : Int} {p : P5} (h : Fit m n p) : Hit p p := by
  obtain ⟨_, _, _, _, _⟩ := h; unfold Hit; omega

set_option maxHeartbeats 1000000 in
set_option maxRecDepth 20000 in
theorem ImplAreBeside_any (lo hi : Nat) (m n : Int) (v : Value) (xs : List P5) (i k : Int) (w : World) (r : PatIn lo hi w v xs) (hhi : hi ≤ w.heap.size) (wf : ∀ c ∈ xs, c.Wf) :
    Calls Try.prog 13 #[.agg #[.int .i64 m, .int .i64 n, v], .int .i64 i, .int .i64 k] w fun e w' => e = .returned (.bool (besB m n xs i k)) ∧ Below w.heap.size w w' := by
  obtain ⟨a, cap, rfl⟩ := r.form
  have R : Hid (PatIn lo hi (w.alloc (.cells #[.int .i64 m, .int .i64 n, .slice a xs.length cap] 26)) (.slice a xs.length cap) xs) := Lib.hid (r.below ((bel0 w _).mono hhi))
  have R0 := Lib.hid r
  have hl := r.1
  have hhi1 : hi ≤ (w.alloc (.cells #[.int .i64 m, .int .i64 n, .slice a xs.length cap] 26)).heap.size := by simp; omega
  clear r
  by_cases h : hpB m n xs i = false
  · have HI := Lib.hid h
    have HR := Lib.hid (hp_no (k := k) h).1
    clear h
    go_enter Try.func13, Try.ntmps13
    go_wp2_with fail
    refine (HasPatch_any lo hi m n _ xs i _ R.out hhi1 wf).mono ?_
    rw [HI.out]
    rintro e w1 ⟨rfl, hb1⟩
    go_wp2_with fail
    go_ret
    exact ⟨ret_bool HR.out, bel_c (bel0 w _) (Nat.le_refl _) hb1⟩
  by_cases h2 : hpB m n xs k = false
  · have HI : Hid (hpB m n xs i = true) := Lib.hid (by simpa using h)
    have HK := Lib.hid h2
    have HR := Lib.hid (hp_no (k := i) h2).2
    clear h h2
    go_enter Try.func13, Try.ntmps13
    go_wp2_with fail
    refine (HasPatch_any lo hi m n _ xs i _ R.out hhi1 wf).mono ?_
    rw [HI.out]
    rintro e w1 ⟨rfl, hb1⟩
    have HB1 : Below (w.heap.size + 1) (w.alloc (.cells #[.int .i64 m, .int .i64 n, .slice a xs.length cap] 26)) w1 := by simpa using hb1
    have b0 : w1.cell? ⟨w.heap.size, 0, none⟩ = some (.int .i64 m) := (HB1.cell (p := ⟨w.heap.size, 0, none⟩) (by simp)).trans (by simp)
    have b1 : w1.cell? ⟨w.heap.size, 1, none⟩ = some (.int .i64 n) := (HB1.cell (p := ⟨w.heap.size, 1, none⟩) (by simp)).trans (by simp)
    have b2 : w1.cell? ⟨w.heap.size, 2, none⟩ = some (.slice a xs.length cap) := (HB1.cell (p := ⟨w.heap.size, 2, none⟩) (by simp)).trans (by simp)
    have R1 : Hid (PatIn lo hi w1 (.slice a xs.length cap) xs) := Lib.hid (R.out.below (hb1.mono hhi1))
    have hhi2 : hi ≤ w1.heap.size := by have := hb1.size; omega
    go_wp2_with fail
    refine (HasPatch_any lo hi m n _ xs k _ R1.out hhi2 wf).mono ?_
    rw [HK.out]
    rintro e w2 ⟨rfl, hb2⟩
    have HB2 : Below (w.heap.size + 1) (w.alloc (.cells #[.int .i64 m, .int .i64 n, .slice a xs.length cap] 26)) w2 := HB1.trans (hb2.mono (by have := HB1.size; simpa using this))
    go_wp2_with fail
    go_ret
    exact ⟨ret_bool HR.out, bel_c (bel_c (bel0 w _) (Nat.le_refl _) hb1) (Nat.le_refl _) hb2⟩
  have HI : Hid (hpB m n xs i = true) := Lib.hid (by simpa using h)
  have HK : Hid (hpB m n xs k = true) := Lib.hid (by simpa using h2)
  clear h h2
  obtain ⟨hlb, i0, i2⟩ := hp_yes HI.out
  obtain ⟨_, k0, k2⟩ := hp_yes HK.out
  have HB := Lib.hid hlb
  clear hlb
  obtain ⟨⟨p00, p01⟩, ⟨p10, p11⟩, ⟨p20, p21⟩, HL4, _⟩ := lay_of HB.out
  have HLK := Lib.hid HL4
  have HF : Hid (∀ i, i < xs.length → Fit m n (pat xs i)) := Lib.hid (fun i hi => (HL4 i hi).1)
  clear HL4
  obtain ⟨i, rfl⟩ : ∃ i' : Nat, i = i' := ⟨i.toNat, by omega⟩
  obtain ⟨k, rfl⟩ : ∃ k' : Nat, k = k' := ⟨k.toNat, by omega⟩
  have hi' : i < xs.length := by omega
  have hk' : k < xs.length := by omega
  go_enter Try.func13, Try.ntmps13
  go_wp2_with fail
  refine (HasPatch_any lo hi m n _ xs i _ R.out hhi1 wf).mono ?_
  rw [HI.out]
  rintro e w1 ⟨rfl, hb1⟩
  have HB1 : Below (w.heap.size + 1) (w.alloc (.cells #[.int .i64 m, .int .i64 n, .slice a xs.length cap] 26)) w1 := by simpa using hb1
  have b0 : w1.cell? ⟨w.heap.size, 0, none⟩ = some (.int .i64 m) := (HB1.cell (p := ⟨w.heap.size, 0, none⟩) (by simp)).trans (by simp)
  have b1 : w1.cell? ⟨w.heap.size, 1, none⟩ = some (.int .i64 n) := (HB1.cell (p := ⟨w.heap.size, 1, none⟩) (by simp)).trans (by simp)
  have b2 : w1.cell? ⟨w.heap.size, 2, none⟩ = some (.slice a xs.length cap) := (HB1.cell (p := ⟨w.heap.size, 2, none⟩) (by simp)).trans (by simp)
  have R1 : Hid (PatIn lo hi w1 (.slice a xs.length cap) xs) := Lib.hid (R.out.below (hb1.mono hhi1))
  have hhi2 : hi ≤ w1.heap.size := by have := hb1.size; omega
  go_wp2_with fail
  refine (HasPatch_any lo hi m n _ xs k _ R1.out hhi2 wf).mono ?_
  rw [HK.out]
  rintro e w2 ⟨rfl, hb2⟩
  have HB2 : Below (w.heap.size + 1) (w.alloc (.cells #[.int .i64 m, .int .i64 n, .slice a xs.length cap] 26)) w2 := HB1.trans (hb2.mono (by have := HB1.size; simpa using this))
  clear b0 b1 b2
  have b0 : w2.cell? ⟨w.heap.size, 0, none⟩ = some (.int .i64 m) := (HB2.cell (p := ⟨w.heap.size, 0, none⟩) (by simp)).trans (by simp)
  have b1 : w2.cell? ⟨w.heap.size, 1, none⟩ = some (.int .i64 n) := (HB2.cell (p := ⟨w.heap.size, 1, none⟩) (by simp)).trans (by simp)
  have b2 : w2.cell? ⟨w.heap.size, 2, none⟩ = some (.slice a xs.length cap) := (HB2.cell (p := ⟨w.heap.size, 2, none⟩) (by simp)).trans (by simp)
  obtain ⟨g, rfl, hg, hg1, ⟨e0, e1, e2, e3, e4⟩, _⟩ := R0.out.at (((bel0 w _).trans (HB2.mono (by omega))).mono hhi) hi'
  obtain ⟨g', hg', _, _, ⟨q0, q1, q2, q3, q4⟩, _⟩ := R0.out.at (((bel0 w _).trans (HB2.mono (by omega))).mono hhi) hk'
  obtain rfl : g = g' := by simpa using hg'
  clear hg'
  obtain ⟨c, hc⟩ : ∃ c, c = xs.getD i P5.zero := ⟨_, rfl⟩
  obtain ⟨d, hd⟩ : ∃ d, d = xs.getD k P5.zero := ⟨_, rfl⟩
  rw [← hc] at e0 e1 e2 e3 e4
  rw [← hd] at q0 q1 q2 q3 q4
  have HC : Hid (c = pat xs i) := Lib.hid hc
  have HD : Hid (d = pat xs k) := Lib.hid hd
  obtain ⟨⟨f00, f01⟩, ⟨f10, f11⟩, ⟨f20, f21⟩, ⟨f30, f31⟩, _⟩ : Fit m n c := by rw [hc]; exact HF.out i hi'
  obtain ⟨⟨d00, d01⟩, ⟨d10, d11⟩, ⟨d20, d21⟩, ⟨d30, d31⟩, _⟩ : Fit m n d := by rw [hd]; exact HF.out k hk'
  clear hc hd
  have HPI : Hid (InP c) := Lib.hid (by unfold InP; omega)
  have HPK : Hid (InP d) := Lib.hid (by unfold InP; omega)
  have HBZ := Lib.hid (bel_c (bel_c (bel0 w _) (Nat.le_refl _) hb1) (Nat.le_refl _) hb2)
  have hsz := HB2.size
  simp at hsz
  clear hb1 hb2 HB1 HB2
  have Kb2 : ∀ o, (w2.alloc o).cell? ⟨w.heap.size, 2, none⟩ = some (.slice (some ⟨g, 0, none⟩) xs.length cap) := fun o => kept (bel0 w2 o) b2
  have Lb2 : ∀ o o', ((w2.alloc o).alloc o').cell? ⟨w.heap.size, 2, none⟩ = some (.slice (some ⟨g, 0, none⟩) xs.length cap) := fun o o' => kept (bel0 _ o') (Kb2 o)
  have Ke0 : ∀ o, (w2.alloc o).cell? ⟨g, i * 5, none⟩ = some (.int .i64 c.x) := fun o => kept (bel0 w2 o) e0
  have Le0 : ∀ o o', ((w2.alloc o).alloc o').cell? ⟨g, i * 5, none⟩ = some (.int .i64 c.x) := fun o o' => kept (bel0 _ o') (Ke0 o)
  have Ke1 : ∀ o, (w2.alloc o).cell? ⟨g, i * 5 + 1, none⟩ = some (.int .i64 c.y) := fun o => kept (bel0 w2 o) e1
  have Le1 : ∀ o o', ((w2.alloc o).alloc o').cell? ⟨g, i * 5 + 1, none⟩ = some (.int .i64 c.y) := fun o o' => kept (bel0 _ o') (Ke1 o)
  have Ke2 : ∀ o, (w2.alloc o).cell? ⟨g, i * 5 + 2, none⟩ = some (.int .i64 c.w) := fun o => kept (bel0 w2 o) e2
  have Le2 : ∀ o o', ((w2.alloc o).alloc o').cell? ⟨g, i * 5 + 2, none⟩ = some (.int .i64 c.w) := fun o o' => kept (bel0 _ o') (Ke2 o)
  have Ke3 : ∀ o, (w2.alloc o).cell? ⟨g, i * 5 + 3, none⟩ = some (.int .i64 c.h) := fun o => kept (bel0 w2 o) e3
  have Le3 : ∀ o o', ((w2.alloc o).alloc o').cell? ⟨g, i * 5 + 3, none⟩ = some (.int .i64 c.h) := fun o o' => kept (bel0 _ o') (Ke3 o)
  have Ke4 : ∀ o, (w2.alloc o).cell? ⟨g, i * 5 + 4, none⟩ = some (.int .i64 c.c) := fun o => kept (bel0 w2 o) e4
  have Le4 : ∀ o o', ((w2.alloc o).alloc o').cell? ⟨g, i * 5 + 4, none⟩ = some (.int .i64 c.c) := fun o o' => kept (bel0 _ o') (Ke4 o)
  have Kq0 : ∀ o, (w2.alloc o).cell? ⟨g, k * 5, none⟩ = some (.int .i64 d.x) := fun o => kept (bel0 w2 o) q0
  have Lq0 : ∀ o o', ((w2.alloc o).alloc o').cell? ⟨g, k * 5, none⟩ = some (.int .i64 d.x) := fun o o' => kept (bel0 _ o') (Kq0 o)
  have Kq1 : ∀ o, (w2.alloc o).cell? ⟨g, k * 5 + 1, none⟩ = some (.int .i64 d.y) := fun o => kept (bel0 w2 o) q1
  have Lq1 : ∀ o o', ((w2.alloc o).alloc o').cell? ⟨g, k * 5 + 1, none⟩ = some (.int .i64 d.y) := fun o o' => kept (bel0 _ o') (Kq1 o)
  have Kq2 : ∀ o, (w2.alloc o).cell? ⟨g, k * 5 + 2, none⟩ = some (.int .i64 d.w) := fun o => kept (bel0 w2 o) q2
  have Lq2 : ∀ o o', ((w2.alloc o).alloc o').cell? ⟨g, k * 5 + 2, none⟩ = some (.int .i64 d.w) := fun o o' => kept (bel0 _ o') (Kq2 o)
  have Kq3 : ∀ o, (w2.alloc o).cell? ⟨g, k * 5 + 3, none⟩ = some (.int .i64 d.h) := fun o => kept (bel0 w2 o) q3
  have Lq3 : ∀ o o', ((w2.alloc o).alloc o').cell? ⟨g, k * 5 + 3, none⟩ = some (.int .i64 d.h) := fun o o' => kept (bel0 _ o') (Kq3 o)
  have Kq4 : ∀ o, (w2.alloc o).cell? ⟨g, k * 5 + 4, none⟩ = some (.int .i64 d.c) := fun o => kept (bel0 w2 o) q4
  have Lq4 : ∀ o o', ((w2.alloc o).alloc o').cell? ⟨g, k * 5 + 4, none⟩ = some (.int .i64 d.c) := fun o o' => kept (bel0 _ o') (Kq4 o)
  by_cases hik : i = k
  · have HH : Hid (false = besB m n xs i k) := Lib.hid (bes_no_eq (by omega))
    subst hik
    have hcd : c = d := by rw [HC.out, HD.out]
    subst hcd
    go_wp2_with fail
    go_region
    · clear Kb2 Lb2 Ke0 Le0 Ke1 Le1 Ke2 Le2 Ke3 Le3 Ke4 Le4 Kq0 Lq0 Kq1 Lq1 Kq2 Lq2 Kq3 Lq3 Kq4 Lq4
      go_wp2_with fail
      refine (Sides_any c c _ HPI.out HPI.out).mono ?_
      rintro e w3 ⟨rfl, hb3⟩
      have HB3 : Hid (Below w.heap.size w w3) := Lib.hid (bel_c (bel_dr9 (bel_n (bel_n HBZ.out (Nat.le_refl _) (.cells #[.int .i64 c.x, .int .i64 c.y, .int .i64 c.w, .int .i64 c.h, .int .i64 c.c] 31)) (Nat.le_refl _) (.cells #[.int .i64 c.x, .int .i64 c.y, .int .i64 c.w, .int .i64 c.h, .int .i64 c.c] 31))) (Nat.le_refl _) hb3)
      have x0 : w3.cell? ⟨w2.heap.size, 0, none⟩ = some (.int .i64 c.x) := kept hb3 (by simp)
      have x1 : w3.cell? ⟨w2.heap.size, 1, none⟩ = some (.int .i64 c.y) := kept hb3 (by simp)
      have x2 : w3.cell? ⟨w2.heap.size, 2, none⟩ = some (.int .i64 c.w) := kept hb3 (by simp)
      have x3 : w3.cell? ⟨w2.heap.size, 3, none⟩ = some (.int .i64 c.h) := kept hb3 (by simp)
      have x4 : w3.cell? ⟨w2.heap.size, 4, none⟩ = some (.int .i64 c.c) := kept hb3 (by simp)
      have y0 : w3.cell? ⟨w2.heap.size + 1, 0, none⟩ = some (.int .i64 c.x) := kept hb3 (by simp)
      have y1 : w3.cell? ⟨w2.heap.size + 1, 1, none⟩ = some (.int .i64 c.y) := kept hb3 (by simp)
      have y2 : w3.cell? ⟨w2.heap.size + 1, 2, none⟩ = some (.int .i64 c.w) := kept hb3 (by simp)
      have y3 : w3.cell? ⟨w2.heap.size + 1, 3, none⟩ = some (.int .i64 c.h) := kept hb3 (by simp)
      have y4 : w3.cell? ⟨w2.heap.size + 1, 4, none⟩ = some (.int .i64 c.c) := kept hb3 (by simp)
      clear hb3 b0 b1 b2 e0 e1 e2 e3 e4 q0 q1 q2 q3 q4
      generalize cwP c c = r1
      generalize chP c c = r2
      go_wp2_with fail
      go_ret
      exact ⟨ret_bool HH.out, HB3.out⟩
    · clear Kb2 Lb2 Ke0 Le0 Ke1 Le1 Ke2 Le2 Ke3 Le3 Ke4 Le4 Kq0 Lq0 Kq1 Lq1 Kq2 Lq2 Kq3 Lq3 Kq4 Lq4
      go_wp2_with fail
      refine (Sides_any c c _ HPI.out HPI.out).mono ?_
      rintro e w3 ⟨rfl, hb3⟩
      have HB3 : Hid (Below w.heap.size w w3) := Lib.hid (bel_c (bel_dr9 (bel_n (bel_n HBZ.out (Nat.le_refl _) (.cells #[.int .i64 c.x, .int .i64 c.y, .int .i64 c.w, .int .i64 c.h, .int .i64 c.c] 31)) (Nat.le_refl _) (.cells #[.int .i64 c.x, .int .i64 c.y, .int .i64 c.w, .int .i64 c.h, .int .i64 c.c] 31))) (Nat.le_refl _) hb3)
      have x0 : w3.cell? ⟨w2.heap.size, 0, none⟩ = some (.int .i64 c.x) := kept hb3 (by simp)
      have x1 : w3.cell? ⟨w2.heap.size, 1, none⟩ = some (.int .i64 c.y) := kept hb3 (by simp)
      have x2 : w3.cell? ⟨w2.heap.size, 2, none⟩ = some (.int .i64 c.w) := kept hb3 (by simp)
      have x3 : w3.cell? ⟨w2.heap.size, 3, none⟩ = some (.int .i64 c.h) := kept hb3 (by simp)
      have x4 : w3.cell? ⟨w2.heap.size, 4, none⟩ = some (.int .i64 c.c) := kept hb3 (by simp)
      have y0 : w3.cell? ⟨w2.heap.size + 1, 0, none⟩ = some (.int .i64 c.x) := kept hb3 (by simp)
      have y1 : w3.cell? ⟨w2.heap.size + 1, 1, none⟩ = some (.int .i64 c.y) := kept hb3 (by simp)
      have y2 : w3.cell? ⟨w2.heap.size + 1, 2, none⟩ = some (.int .i64 c.w) := kept hb3 (by simp)
      have y3 : w3.cell? ⟨w2.heap.size + 1, 3, none⟩ = some (.int .i64 c.h) := kept hb3 (by simp)
      have y4 : w3.cell? ⟨w2.heap.size + 1, 4, none⟩ = some (.int .i64 c.c) := kept hb3 (by simp)
      clear hb3 b0 b1 b2 e0 e1 e2 e3 e4 q0 q1 q2 q3 q4
      generalize cwP c c = r1
      generalize chP c c = r2
      go_wp2_with fail
      go_ret
      exact ⟨ret_bool HH.out, HB3.out⟩
  · have HNH : Hid (¬ Hit c d) := Lib.hid (by rw [HC.out, HD.out]; exact HLK.out.apart hi' hk' hik)
    have HH : Hid (besB m n xs i k = decide (0 ≤ cwP c d ∧ 0 ≤ chP c d ∧ 0 < cwP c d + chP c d)) := Lib.hid (by
      have hbi := bes_iff HPI.out HPK.out HNH.out
      by_cases hb : Bes c d
      · rw [← bes_t HB.out hi' hk' hik (by rw [← HC.out, ← HD.out]; exact hb), decide_eq_true (hbi.1 hb)]
      · rw [← bes_f (m := m) (n := n) (xs := xs) (i := i) (k := k) (by rw [← HC.out, ← HD.out]; exact hb), decide_eq_false (fun z => hb (hbi.2 z))])
    have HR : Hid ((-12 ≤ cwP c d ∧ cwP c d ≤ 12) ∧ -12 ≤ chP c d ∧ chP c d ≤ 12) := Lib.hid (by unfold cwP chP cmn; omega)
    have HXY : Hid (c.x = d.x → ¬ c.y = d.y) := Lib.hid (fun hx hy => HNH.out (by unfold Hit; omega))
    go_wp2_with fail
    go_region
    · clear Kb2 Lb2 Ke0 Le0 Ke1 Le1 Ke2 Le2 Ke3 Le3 Ke4 Le4 Kq0 Lq0 Kq1 Lq1 Kq2 Lq2 Kq3 Lq3 Kq4 Lq4
      go_wp2_with fail
      refine (Sides_any c d _ HPI.out HPK.out).mono ?_
      rintro e w3 ⟨rfl, hb3⟩
      have HB3 : Hid (Below w.heap.size w w3) := Lib.hid (bel_c (bel_dr9 (bel_n (bel_n HBZ.out (Nat.le_refl _) (.cells #[.int .i64 c.x, .int .i64 c.y, .int .i64 c.w, .int .i64 c.h, .int .i64 c.c] 31)) (Nat.le_refl _) (.cells #[.int .i64 d.x, .int .i64 d.y, .int .i64 d.w, .int .i64 d.h, .int .i64 d.c] 31))) (Nat.le_refl _) hb3)
      have x0 : w3.cell? ⟨w2.heap.size, 0, none⟩ = some (.int .i64 c.x) := kept hb3 (by simp)
      have x1 : w3.cell? ⟨w2.heap.size, 1, none⟩ = some (.int .i64 c.y) := kept hb3 (by simp)
      have x2 : w3.cell? ⟨w2.heap.size, 2, none⟩ = some (.int .i64 c.w) := kept hb3 (by simp)
      have x3 : w3.cell? ⟨w2.heap.size, 3, none⟩ = some (.int .i64 c.h) := kept hb3 (by simp)
      have x4 : w3.cell? ⟨w2.heap.size, 4, none⟩ = some (.int .i64 c.c) := kept hb3 (by simp)
      have y0 : w3.cell? ⟨w2.heap.size + 1, 0, none⟩ = some (.int .i64 d.x) := kept hb3 (by simp)
      have y1 : w3.cell? ⟨w2.heap.size + 1, 1, none⟩ = some (.int .i64 d.y) := kept hb3 (by simp)
      have y2 : w3.cell? ⟨w2.heap.size + 1, 2, none⟩ = some (.int .i64 d.w) := kept hb3 (by simp)
      have y3 : w3.cell? ⟨w2.heap.size + 1, 3, none⟩ = some (.int .i64 d.h) := kept hb3 (by simp)
      have y4 : w3.cell? ⟨w2.heap.size + 1, 4, none⟩ = some (.int .i64 d.c) := kept hb3 (by simp)
      clear hb3 b0 b1 b2 e0 e1 e2 e3 e4 q0 q1 q2 q3 q4
      generalize cwP c d = r1 at HH HR ⊢
      generalize chP c d = r2 at HH HR ⊢
      obtain ⟨⟨r10, r11⟩, r20, r21⟩ := HR.out
      have hxy := HXY.out
      clear HR HPI HPK HNH HC HD HXY HF HLK HB HI HK hik R R0 HBZ
      clear f00 f01 f10 f11 f20 f21 f30 f31 d00 d01 d10 d11 d20 d21 d30 d31
      by_cases hx : c.x = d.x
      · have hy := hxy hx
        clear hxy
        go_wp2_with fail
        all_goals
          go_ret
          exact ⟨ret_bool (by rw [HH.out]; first | exact (decide_eq_false (by omega)).symm | (apply decide_eq_decide.2; constructor <;> (intro; omega))), HB3.out⟩
      · clear hxy
        go_wp2_with fail
        all_goals
          go_ret
          exact ⟨ret_bool (by rw [HH.out]; first | exact (decide_eq_false (by omega)).symm | (apply decide_eq_decide.2; constructor <;> (intro; omega))), HB3.out⟩
    · clear Kb2 Lb2 Ke0 Le0 Ke1 Le1 Ke2 Le2 Ke3 Le3 Ke4 Le4 Kq0 Lq0 Kq1 Lq1 Kq2 Lq2 Kq3 Lq3 Kq4 Lq4
      go_wp2_with fail
      refine (Sides_any c d _ HPI.out HPK.out).mono ?_
      rintro e w3 ⟨rfl, hb3⟩
      have HB3 : Hid (Below w.heap.size w w3) := Lib.hid (bel_c (bel_dr9 (bel_n (bel_n HBZ.out (Nat.le_refl _) (.cells #[.int .i64 d.x, .int .i64 d.y, .int .i64 d.w, .int .i64 d.h, .int .i64 d.c] 31)) (Nat.le_refl _) (.cells #[.int .i64 c.x, .int .i64 c.y, .int .i64 c.w, .int .i64 c.h, .int .i64 c.c] 31))) (Nat.le_refl _) hb3)
      have x0 : w3.cell? ⟨w2.heap.size, 0, none⟩ = some (.int .i64 d.x) := kept hb3 (by simp)
      have x1 : w3.cell? ⟨w2.heap.size, 1, none⟩ = some (.int .i64 d.y) := kept hb3 (by simp)
      have x2 : w3.cell? ⟨w2.heap.size, 2, none⟩ = some (.int .i64 d.w) := kept hb3 (by simp)
      have x3 : w3.cell? ⟨w2.heap.size, 3, none⟩ = some (.int .i64 d.h) := kept hb3 (by simp)
      have x4 : w3.cell? ⟨w2.heap.size, 4, none⟩ = some (.int .i64 d.c) := kept hb3 (by simp)
      have y0 : w3.cell? ⟨w2.heap.size + 1, 0, none⟩ = some (.int .i64 c.x) := kept hb3 (by simp)
      have y1 : w3.cell? ⟨w2.heap.size + 1, 1, none⟩ = some (.int .i64 c.y) := kept hb3 (by simp)
      have y2 : w3.cell? ⟨w2.heap.size + 1, 2, none⟩ = some (.int .i64 c.w) := kept hb3 (by simp)
      have y3 : w3.cell? ⟨w2.heap.size + 1, 3, none⟩ = some (.int .i64 c.h) := kept hb3 (by simp)
      have y4 : w3.cell? ⟨w2.heap.size + 1, 4, none⟩ = some (.int .i64 c.c) := kept hb3 (by simp)
      clear hb3 b0 b1 b2 e0 e1 e2 e3 e4 q0 q1 q2 q3 q4
      generalize cwP c d = r1 at HH HR ⊢
      generalize chP c d = r2 at HH HR ⊢
      obtain ⟨⟨r10, r11⟩, r20, r21⟩ := HR.out
      have hxy := HXY.out
      clear HR HPI HPK HNH HC HD HXY HF HLK HB HI HK hik R R0 HBZ
      clear f00 f01 f10 f11 f20 f21 f30 f31 d00 d01 d10 d11 d20 d21 d30 d31
      by_cases hx : c.x = d.x
      · have hy := hxy hx
        clear hxy
        go_wp2_with fail
        all_goals
          go_ret
          exact ⟨ret_bool (by rw [HH.out]; first | exact (decide_eq_false (by omega)).symm | (apply decide_eq_decide.2; constructor <;> (intro; omega))), HB3.out⟩
      · clear hxy
        go_wp2_with fail
        all_goals
          go_ret
          exact ⟨ret_bool (by rw [HH.out]; first | exact (decide_eq_false (by omega)).symm | (apply decide_eq_decide.2; constructor <;> (intro; omega))), HB3.out⟩

end Go.Proofs.Ytlfeohahaidohaa
