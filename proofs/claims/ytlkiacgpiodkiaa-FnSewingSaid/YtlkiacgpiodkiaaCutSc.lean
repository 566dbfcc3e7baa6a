/- Cuts: the model's SplitLayout. -/
import Derived.Test.YtlkiacgpiodkiaaM28
import Derived.Test.YtlkiacgpiodkiaaM10
import Derived.Test.YtlkiacgpiodkiaaM05
import Derived.Test.YtlkiacgpiodkiaaM11
import Derived.RegionTactic

set_option linter.unusedSimpArgs false
set_option linter.unusedVariables false
namespace Go.Proofs.Ytlkiacgpiodkiaa
open Go.ChangeShapes Go.WideShapes Go.ChangeAt Go.RowKit

/-- Two layouts are handed back; nothing is said of which lies first. -/
def SplitLW (A1 B1 : Int) (L1 : List P5) (A2 B2 : Int) (L2 : List P5) (ok : Bool) (w : World) (e : Ending) (w' : World) : Prop :=
  ∃ v1 v2, e = .returned (.tuple #[.agg #[.int .i64 A1, .int .i64 B1, v1], .agg #[.int .i64 A2, .int .i64 B2, v2], .bool ok]) ∧
    PatIn w.heap.size w'.heap.size w' v1 L1 ∧ PatIn w.heap.size w'.heap.size w' v2 L2 ∧ Below w.heap.size w w'
/-- Two rows lie in different blocks. -/
def Dis (u v : Value) : Prop := ∀ g, u.ownBlock = some g → v.ownBlock ≠ some g
theorem dis_symm {u v : Value} (h : Dis u v) : Dis v u := fun g h1 h2 => h g h2 h1
theorem dis_kept {u v : Value} (h : Dis u v) : u.ownBlock = none ∨ u.ownBlock ≠ v.ownBlock := by
  cases e : u.ownBlock with
  | none => exact .inl rfl
  | some g => exact .inr (fun z => h g e z.symm)
/-- A row that has grown, or moved behind everything. -/
theorem dis_new {W : World} {base e size len g H l c : Nat} {u v : Value} {xs : List Value} (h : Dis u v) (ho : W.ownsRow base e size v len xs) (hat : u.ownBlock = some g ∨ g = H) (hH : W.heap.size ≤ H) : Dis (.slice (some ⟨g, 0, none⟩) l c) v := fun k h1 h2 => by
  simp [Value.ownBlock] at h1
  subst h1
  rcases hat with z | rfl
  · exact h _ z h2
  · have := (World.ownsRow.lt ho _ h2).2
    omega

set_option maxHeartbeats 6400000 in
set_option maxRecDepth 20000 in
theorem SpecSplitLayout_any (lo hi : Nat) (m n : Int) (v : Value) (xs : List P5) (up : Bool) (a : Int) (w : World) (r : PatIn lo hi w v xs) (hhi : hi ≤ w.heap.size) :
    Calls Try.prog 55 #[.agg #[.int .i64 m, .int .i64 n, v], .agg #[.bool up, .int .i64 a]] w (SplitLW (sM1 m n xs ⟨up, a⟩) (sN1 m n xs ⟨up, a⟩) (sL1 m n xs ⟨up, a⟩) (sM2 m n xs ⟨up, a⟩) (sN2 m n xs ⟨up, a⟩) (sL2 m n xs ⟨up, a⟩) (cutB m n xs ⟨up, a⟩) w) := by
  obtain ⟨i0, hi0, hz0, hz1, hz2⟩ := info_parts3 info_Pat
  obtain ⟨b, cap, rfl⟩ := r.form
  have R := Lib.hid r
  have CK : Hid (∀ u : World, Below w.heap.size w u → Calls Try.prog 57 #[.agg #[.int .i64 m, .int .i64 n, .slice b xs.length cap], .agg #[.bool up, .int .i64 a]] u fun e w' => e = .returned (.bool (cutB m n xs ⟨up, a⟩)) ∧ Below u.heap.size u w') := Lib.hid (fun u hb => SpecIsCut_any lo hi m n _ xs up a u (r.below (hb.mono hhi)) (Nat.le_trans hhi hb.size))
  clear r
  have HB0 : Hid (Below w.heap.size w ((((w.alloc (.cells #[.int .i64 m, .int .i64 n, .slice b xs.length cap] 50)).alloc (.cells #[.bool up, .int .i64 a] 86)).alloc (.cells #[.int .i64 0, .int .i64 0, .slice none 0 0] 50)).alloc (.cells #[.int .i64 0, .int .i64 0, .slice none 0 0] 50))) := Lib.hid (bel_n (bel_n (bel_n (bel0 w _) (Nat.le_refl _) _) (Nat.le_refl _) _) (Nat.le_refl _) _)
  by_cases h : cutB m n xs ⟨up, a⟩ = false
  · obtain ⟨e1, e2, e3, e4, e5, e6⟩ := s_no h
    rw [e1, e2, e3, e4, e5, e6, h]
    rw [h] at CK
    clear h e1 e2 e3 e4 e5 e6
    go_enter Try.func55, Try.ntmps55
    go_wp2_with fail
    refine (CK.out _ HB0.out).mono ?_
    rintro e w1 ⟨rfl, hb1⟩
    have BRA : BoxL (w.heap.size + 1 + 1) (.int .i64 0) (.int .i64 0) (.slice none 0 0) w1 := by
      have := BoxL.new ((w.alloc (.cells #[.int .i64 m, .int .i64 n, .slice b xs.length cap] 50)).alloc (.cells #[.bool up, .int .i64 a] 86)) (.int .i64 0) (.int .i64 0) (.slice none 0 0) 50
      rw [show ((w.alloc (.cells #[.int .i64 m, .int .i64 n, .slice b xs.length cap] 50)).alloc (.cells #[.bool up, .int .i64 a] 86)).heap.size = w.heap.size + 1 + 1 by simp] at this
      exact (this.below (bel0 _ (.cells #[.int .i64 0, .int .i64 0, .slice none 0 0] 50)) (by simp)).below hb1 (by simp)
    have BRB : BoxL (w.heap.size + 1 + 1 + 1) (.int .i64 0) (.int .i64 0) (.slice none 0 0) w1 := by
      have := BoxL.new (((w.alloc (.cells #[.int .i64 m, .int .i64 n, .slice b xs.length cap] 50)).alloc (.cells #[.bool up, .int .i64 a] 86)).alloc (.cells #[.int .i64 0, .int .i64 0, .slice none 0 0] 50)) (.int .i64 0) (.int .i64 0) (.slice none 0 0) 50
      rw [show (((w.alloc (.cells #[.int .i64 m, .int .i64 n, .slice b xs.length cap] 50)).alloc (.cells #[.bool up, .int .i64 a] 86)).alloc (.cells #[.int .i64 0, .int .i64 0, .slice none 0 0] 50)).heap.size = w.heap.size + 1 + 1 + 1 by simp] at this
      exact this.below hb1 (by simp)
    obtain ⟨d0, d1, d2, z0, z1, z2⟩ := BRA
    obtain ⟨g0, g1, g2, y0, y1, y2⟩ := BRB
    have HBZ := Lib.hid (bel_c HB0.out (Nat.le_refl _) hb1)
    have hs1 := hb1.size
    simp at hs1
    clear hb1
    go_wp2_with fail
    refine bodyPost_ret (v := .tuple #[.agg #[.int .i64 0, .int .i64 0, .slice none 0 0], .agg #[.int .i64 0, .int .i64 0, .slice none 0 0], .bool false]) (by simp [results, Try.results55, go_sem, d0, d1, d2, g0, g1, g2]) rfl ⟨_, _, rfl, ⟨by simp, .inl ⟨rfl, _, _, rfl⟩⟩, ⟨by simp, .inl ⟨rfl, _, _, rfl⟩⟩, ?_⟩
    refine Below.setCell (Below.setCell (Below.setCell (Below.setCell (Below.setCell (Below.setCell HBZ.out ?_ _) ?_ _) ?_ _) ?_ _) ?_ _) ?_ _ <;> (simp <;> omega)
  · have h' : cutB m n xs ⟨up, a⟩ = true := by simpa using h
    obtain ⟨e1, e2, e3, e4, e5, e6⟩ := s_yes h'
    rw [e1, e2, e3, e4, e5, e6, h']
    rw [h'] at CK
    obtain ⟨lay, hc⟩ := cut_of h'
    clear h h' e1 e2 e3 e4 e5 e6
    cases up
    · have hh := cut_in hc
      simp only [endC, if_false, Bool.false_eq_true] at hh
      obtain ⟨hh0, hh1⟩ := hh
      obtain ⟨m0, m1⟩ := lay.1
      obtain ⟨n0, n1⟩ := lay.2.1
      have x12 := lay.2.2.1.2
      have HF : Hid (∀ i, i < xs.length → Fit m n (pat xs i)) := Lib.hid (fun i hi => lay.fit hi)
      obtain ⟨LA, hLA⟩ : ∃ LA : List P5 → Nat → List P5, LA = fun xs k => (xs.take k).filter fun pp => !sel2 ⟨false, a⟩ pp := ⟨_, rfl⟩
      obtain ⟨LB, hLB⟩ : ∃ LB : List P5 → Nat → List P5, LB = fun xs k => ((xs.take k).filter (sel2 ⟨false, a⟩)).map (mv (pX2 ⟨false, a⟩) (pY2 ⟨false, a⟩)) := ⟨_, rfl⟩
      have HEA : Hid (LA xs xs.length = pL1 m n ⟨false, a⟩ xs) := Lib.hid (by rw [hLA, pL1_sel lay hc]; simp only [List.take_length])
      have HEB : Hid (LB xs xs.length = pL2 m n ⟨false, a⟩ xs) := Lib.hid (by rw [hLB, pL2_sel lay hc]; simp only [List.take_length])
      have HLAL : Hid (∀ k, (LA xs k).length ≤ 12) := Lib.hid (fun k => by rw [hLA]; have := List.length_filter_le (fun pp => !sel2 ⟨false, a⟩ pp) (xs.take k); simp at this ⊢; omega)
      have HLBL : Hid (∀ k, (LB xs k).length ≤ 12) := Lib.hid (fun k => by rw [hLB]; have := List.length_filter_le (sel2 ⟨false, a⟩) (xs.take k); simp at this ⊢; omega)
      have HSA : Hid (∀ k, k < xs.length → ¬ a ≤ (pat xs k).y → LA xs (k + 1) = LA xs k ++ [pat xs k] ∧ LB xs (k + 1) = LB xs k) := Lib.hid (fun k hk hz => by
        rw [hLA, hLB]; simp only [List.take_succ_eq_append_getElem hk, ← pat_get hk, List.filter_append, List.map_append]
        generalize pat xs k = d at hz ⊢
        have e : sel2 ⟨false, a⟩ d = false := by show decide (a ≤ d.y) = false; exact decide_eq_false hz
        simp [e])
      have HSB : Hid (∀ k, k < xs.length → a ≤ (pat xs k).y → LA xs (k + 1) = LA xs k ∧ LB xs (k + 1) = LB xs k ++ [⟨(pat xs k).x, (pat xs k).y - a, (pat xs k).w, (pat xs k).h, (pat xs k).c⟩]) := Lib.hid (fun k hk hz => by
        rw [hLA, hLB]; simp only [List.take_succ_eq_append_getElem hk, ← pat_get hk, List.filter_append, List.map_append]
        generalize pat xs k = d at hz ⊢
        have e : sel2 ⟨false, a⟩ d = true := by show decide (a ≤ d.y) = true; exact decide_eq_true hz
        simp [e, mv, pX2, pY2])
      have HA0 : Hid (LA xs 0 = []) := Lib.hid (by rw [hLA]; rfl)
      have HB00 : Hid (LB xs 0 = []) := Lib.hid (by rw [hLB]; rfl)
      clear hLA hLB lay hc
      show Calls _ _ _ _ (SplitLW m a (pL1 m n ⟨false, a⟩ xs) m (n - a) (pL2 m n ⟨false, a⟩ xs) true w)
      rw [← HEA.out, ← HEB.out]
      clear HEA HEB
      go_enter Try.func55, Try.ntmps55
      go_wp2_with fail
      refine (CK.out _ HB0.out).mono ?_
      rintro e w1 ⟨rfl, hb1⟩
      have BRA : BoxL (w.heap.size + 1 + 1) (.int .i64 0) (.int .i64 0) (.slice none 0 0) w1 := by
        have := BoxL.new ((w.alloc (.cells #[.int .i64 m, .int .i64 n, .slice b xs.length cap] 50)).alloc (.cells #[.bool false, .int .i64 a] 86)) (.int .i64 0) (.int .i64 0) (.slice none 0 0) 50
        rw [show ((w.alloc (.cells #[.int .i64 m, .int .i64 n, .slice b xs.length cap] 50)).alloc (.cells #[.bool false, .int .i64 a] 86)).heap.size = w.heap.size + 1 + 1 by simp] at this
        exact (this.below (bel0 _ (.cells #[.int .i64 0, .int .i64 0, .slice none 0 0] 50)) (by simp)).below hb1 (by simp)
      have BRB : BoxL (w.heap.size + 1 + 1 + 1) (.int .i64 0) (.int .i64 0) (.slice none 0 0) w1 := by
        have := BoxL.new (((w.alloc (.cells #[.int .i64 m, .int .i64 n, .slice b xs.length cap] 50)).alloc (.cells #[.bool false, .int .i64 a] 86)).alloc (.cells #[.int .i64 0, .int .i64 0, .slice none 0 0] 50)) (.int .i64 0) (.int .i64 0) (.slice none 0 0) 50
        rw [show (((w.alloc (.cells #[.int .i64 m, .int .i64 n, .slice b xs.length cap] 50)).alloc (.cells #[.bool false, .int .i64 a] 86)).alloc (.cells #[.int .i64 0, .int .i64 0, .slice none 0 0] 50)).heap.size = w.heap.size + 1 + 1 + 1 by simp] at this
        exact this.below hb1 (by simp)
      have a0 := kept (p := ⟨w.heap.size, 0, none⟩) (x := .int .i64 m) hb1 (by exact kept (bel0 _ _) (kept (bel0 _ _) (kept (bel0 _ _) (by go_simp))))
      have a1 := kept (p := ⟨w.heap.size, 1, none⟩) (x := .int .i64 n) hb1 (by exact kept (bel0 _ _) (kept (bel0 _ _) (kept (bel0 _ _) (by go_simp))))
      have a2 := kept (p := ⟨w.heap.size, 2, none⟩) (x := .slice b xs.length cap) hb1 (by exact kept (bel0 _ _) (kept (bel0 _ _) (kept (bel0 _ _) (by go_simp))))
      have a3 := kept (p := ⟨w.heap.size + 1, 0, none⟩) (x := .bool false) hb1 (by exact kept (bel0 _ _) (kept (bel0 _ _) (by go_simp)))
      have a4 := kept (p := ⟨w.heap.size + 1, 1, none⟩) (x := .int .i64 a) hb1 (by exact kept (bel0 _ _) (kept (bel0 _ _) (by go_simp)))
      have HB1 := Lib.hid (bel_c HB0.out (Nat.le_refl _) hb1)
      have hs1 := hb1.size
      simp at hs1
      have HRA := Lib.hid BRA
      have HRB := Lib.hid BRB
      clear hb1 BRA BRB CK HB0
      have hp1 : w.heap.size + 1 + 1 + 1 < w1.heap.size := by omega
      have WS0 : Hid (BoxL w1.heap.size (.int .i64 m) (.int .i64 a) (.slice none 0 0) ((w1.alloc (.cells #[.int .i64 m, .int .i64 a, .slice none 0 0] 50)).alloc (.cells #[.int .i64 m, .int .i64 (n - a), .slice none 0 0] 50)) ∧ BoxL (w1.heap.size + 1) (.int .i64 m) (.int .i64 (n - a)) (.slice none 0 0) ((w1.alloc (.cells #[.int .i64 m, .int .i64 a, .slice none 0 0] 50)).alloc (.cells #[.int .i64 m, .int .i64 (n - a), .slice none 0 0] 50)) ∧ Below w1.heap.size w1 ((w1.alloc (.cells #[.int .i64 m, .int .i64 a, .slice none 0 0] 50)).alloc (.cells #[.int .i64 m, .int .i64 (n - a), .slice none 0 0] 50)) ∧ w1.heap.size + 1 + 1 ≤ ((w1.alloc (.cells #[.int .i64 m, .int .i64 a, .slice none 0 0] 50)).alloc (.cells #[.int .i64 m, .int .i64 (n - a), .slice none 0 0] 50)).heap.size) := Lib.hid (by
        refine ⟨(BoxL.new w1 _ _ _ _).below (bel0 _ _) (by simp), ?_, bel_n (bel0 _ _) (Nat.le_refl _) _, by simp⟩
        have := BoxL.new (w1.alloc (.cells #[.int .i64 m, .int .i64 a, .slice none 0 0] 50)) (.int .i64 m) (.int .i64 (n - a)) (.slice none 0 0) 50
        simpa using this)
      have Ka0 : ∀ o, (w1.alloc o).cell? ⟨w.heap.size, 0, none⟩ = some (.int .i64 m) := fun o => kept (bel0 w1 o) a0
      have La0 : ∀ o o', ((w1.alloc o).alloc o').cell? ⟨w.heap.size, 0, none⟩ = some (.int .i64 m) := fun o o' => kept (bel0 _ o') (Ka0 o)
      have Ka1 : ∀ o, (w1.alloc o).cell? ⟨w.heap.size, 1, none⟩ = some (.int .i64 n) := fun o => kept (bel0 w1 o) a1
      have La1 : ∀ o o', ((w1.alloc o).alloc o').cell? ⟨w.heap.size, 1, none⟩ = some (.int .i64 n) := fun o o' => kept (bel0 _ o') (Ka1 o)
      have Ka2 : ∀ o, (w1.alloc o).cell? ⟨w.heap.size, 2, none⟩ = some (.slice b xs.length cap) := fun o => kept (bel0 w1 o) a2
      have La2 : ∀ o o', ((w1.alloc o).alloc o').cell? ⟨w.heap.size, 2, none⟩ = some (.slice b xs.length cap) := fun o o' => kept (bel0 _ o') (Ka2 o)
      have Ka3 : ∀ o, (w1.alloc o).cell? ⟨w.heap.size + 1, 0, none⟩ = some (.bool false) := fun o => kept (bel0 w1 o) a3
      have La3 : ∀ o o', ((w1.alloc o).alloc o').cell? ⟨w.heap.size + 1, 0, none⟩ = some (.bool false) := fun o o' => kept (bel0 _ o') (Ka3 o)
      have Ka4 : ∀ o, (w1.alloc o).cell? ⟨w.heap.size + 1, 1, none⟩ = some (.int .i64 a) := fun o => kept (bel0 w1 o) a4
      have La4 : ∀ o o', ((w1.alloc o).alloc o').cell? ⟨w.heap.size + 1, 1, none⟩ = some (.int .i64 a) := fun o o' => kept (bel0 _ o') (Ka4 o)
      go_wp2_with fail
      clear Ka0 La0 Ka1 La1 Ka2 La2 Ka3 La3 Ka4 La4
      go_loopw [9] (fun i wr => ∃ (k : Nat) (vA vB : Value), k ≤ xs.length ∧ i = .int .i64 k ∧ Hid (BoxL w1.heap.size (.int .i64 m) (.int .i64 a) vA wr) ∧ Hid (BoxL (w1.heap.size + 1) (.int .i64 m) (.int .i64 (n - a)) vB wr) ∧ Hid (wr.ownsRow (w1.heap.size + 1 + 1) 73 5 vA (LA xs k).length (placesPat (LA xs k))) ∧ Hid (wr.ownsRow (w1.heap.size + 1 + 1) 73 5 vB (LB xs k).length (placesPat (LB xs k))) ∧ Hid (Dis vA vB) ∧ Below w1.heap.size w1 wr) (fun i _ => xs.length - (intOf i).toNat)
      case atStart => exact ⟨0, _, _, Nat.zero_le _, rfl, Lib.hid WS0.out.1, Lib.hid WS0.out.2.1, Lib.hid (by rw [HA0.out]; exact World.ownsRow_nil _ _ _ _), Lib.hid (by rw [HB00.out]; exact World.ownsRow_nil _ _ _ _), Lib.hid (by intro g h; cases h), WS0.out.2.2.1⟩
      case round =>
        obtain ⟨k, vA, vB, hk, rfl, HBA, HBB, HOA, HOB, HDI, hbel⟩ := hrel
        have hlA := HBA.out.lt
        have hlB := HBB.out.lt
        have b0 : wr.cell? ⟨w.heap.size, 0, none⟩ = some (.int .i64 m) := (hbel.cell (p := ⟨w.heap.size, 0, none⟩) (by simp; omega)).trans a0
        have b1 : wr.cell? ⟨w.heap.size, 1, none⟩ = some (.int .i64 n) := (hbel.cell (p := ⟨w.heap.size, 1, none⟩) (by simp; omega)).trans a1
        have b2 : wr.cell? ⟨w.heap.size, 2, none⟩ = some (.slice b xs.length cap) := (hbel.cell (p := ⟨w.heap.size, 2, none⟩) (by simp; omega)).trans a2
        have b3 : wr.cell? ⟨w.heap.size + 1, 0, none⟩ = some (.bool false) := (hbel.cell (p := ⟨w.heap.size + 1, 0, none⟩) (by simp; omega)).trans a3
        have b4 : wr.cell? ⟨w.heap.size + 1, 1, none⟩ = some (.int .i64 a) := (hbel.cell (p := ⟨w.heap.size + 1, 1, none⟩) (by simp; omega)).trans a4
        have hps := hbel.size
        by_cases hlt : k < xs.length
        · obtain ⟨g, rfl, hg, hg1, hel, _⟩ := R.out.at ((HB1.out.trans (hbel.mono (by omega))).mono hhi) hlt
          obtain ⟨q0, q1, q2, q3, q4⟩ := hel
          obtain ⟨d, hd⟩ : ∃ d, d = xs.getD k P5.zero := ⟨_, rfl⟩
          obtain ⟨⟨f00, f01⟩, ⟨f10, f11⟩, ⟨f20, f21⟩, ⟨f30, f31⟩, _⟩ : Fit m n d := by rw [hd]; exact HF.out k hlt
          rw [← hd] at q0 q1 q2 q3 q4
          have Kb0 : ∀ o, (wr.alloc o).cell? ⟨w.heap.size, 0, none⟩ = some (.int .i64 m) := fun o => kept (bel0 wr o) b0
          have Kb1 : ∀ o, (wr.alloc o).cell? ⟨w.heap.size, 1, none⟩ = some (.int .i64 n) := fun o => kept (bel0 wr o) b1
          have Kb2 : ∀ o, (wr.alloc o).cell? ⟨w.heap.size, 2, none⟩ = some (.slice (some ⟨g, 0, none⟩) xs.length cap) := fun o => kept (bel0 wr o) b2
          have Kb3 : ∀ o, (wr.alloc o).cell? ⟨w.heap.size + 1, 0, none⟩ = some (.bool false) := fun o => kept (bel0 wr o) b3
          have Kb4 : ∀ o, (wr.alloc o).cell? ⟨w.heap.size + 1, 1, none⟩ = some (.int .i64 a) := fun o => kept (bel0 wr o) b4
          have HLA := Lib.hid (HLAL.out k)
          have HLB := Lib.hid (HLBL.out k)
          by_cases z : a ≤ d.y
          · have HEW : Hid (LB xs (k + 1) = LB xs k ++ [⟨d.x, (d.y - a), d.w, d.h, d.c⟩]) := Lib.hid (by rw [hd]; exact (HSB.out k hlt (by rw [hd] at z; exact z)).2)
            have HEO : Hid (LA xs (k + 1) = LA xs k) := Lib.hid ((HSB.out k hlt (by rw [hd] at z; exact z)).1)
            clear hd
            have WW : Below wr.heap.size wr ((wr.alloc (.cells #[.int .i64 d.x, .int .i64 (d.y - a), .int .i64 d.w, .int .i64 d.h, .int .i64 d.c] 73)).alloc (.cells #[.int .i64 d.x, .int .i64 (d.y - a), .int .i64 d.w, .int .i64 d.h, .int .i64 d.c] 73)) := bel_n (bel0 wr _) (Nat.le_refl _) _
            have HBA2 := Lib.hid (HBA.out.below WW (by omega))
            have HBB2 := Lib.hid (HBB.out.below WW (by omega))
            have HOA2 := Lib.hid (owL HOA.out WW)
            have HOB2 := Lib.hid (owL HOB.out WW)
            have HB2 := Lib.hid (hbel.trans (WW.mono (by omega)))
            have HNW := Lib.hid (newsL (wr.alloc (.cells #[.int .i64 d.x, .int .i64 (d.y - a), .int .i64 d.w, .int .i64 d.h, .int .i64 d.c] 73)) (wr.heap.size + 1) #[.int .i64 d.x, .int .i64 (d.y - a), .int .i64 d.w, .int .i64 d.h, .int .i64 d.c] 73 (by simp))
            have HS : Hid (w1.heap.size + 1 + 1 ≤ ((wr.alloc (.cells #[.int .i64 d.x, .int .i64 (d.y - a), .int .i64 d.w, .int .i64 d.h, .int .i64 d.c] 73)).alloc (.cells #[.int .i64 d.x, .int .i64 (d.y - a), .int .i64 d.w, .int .i64 d.h, .int .i64 d.c] 73)).heap.size) := Lib.hid (by simp; omega)
            have HSZ : Hid (wr.heap.size + 1 + 1 ≤ ((wr.alloc (.cells #[.int .i64 d.x, .int .i64 (d.y - a), .int .i64 d.w, .int .i64 d.h, .int .i64 d.c] 73)).alloc (.cells #[.int .i64 d.x, .int .i64 (d.y - a), .int .i64 d.w, .int .i64 d.h, .int .i64 d.c] 73)).heap.size ∧ ((wr.alloc (.cells #[.int .i64 d.x, .int .i64 (d.y - a), .int .i64 d.w, .int .i64 d.h, .int .i64 d.c] 73)).alloc (.cells #[.int .i64 d.x, .int .i64 (d.y - a), .int .i64 d.w, .int .i64 d.h, .int .i64 d.c] 73)).heap.size ≤ wr.heap.size + 1 + 1) := Lib.hid (by simp)
            have KK : ∀ o, (wr.alloc o).cell? ⟨w1.heap.size + 1, 2, none⟩ = some vB := fun o => (HBB.out.below (bel0 wr o) (by omega)).2.2.1
            have KF : ∀ o, (wr.alloc o).frozen? ⟨w1.heap.size + 1, 2, none⟩ = false := fun o => (HBB.out.below (bel0 wr o) (by omega)).2.2.2.2.2
            have hlW : (LB xs k).length ≤ 12 := HLB.out
            generalize hgl : (LB xs k).length = lw at hlW HOB2
            have HGL := Lib.hid hgl
            clear WW hbel HBA HBB HOA HOB hgl
            go_wp2_with (at_builtin; refine wpList_append_lies _ rfl _ _ 48 rfl (w1.heap.size + 1 + 1) 73 i0 _ 5 40 Try.underlying48 hi0 hz0 hz1 hz2 rfl (by decide) _ _ _ rfl HOB2.out ⟨wr.heap.size + 1, 0, none⟩ 1 1 [.int .i64 d.x, .int .i64 (d.y - a), .int .i64 d.w, .int .i64 d.h, .int .i64 d.c] rfl rfl HNW.out (by simp [Value.oneCell']) (by omega) (by unfold maxLen; omega) (by omega) HS.out (wr.heap.size + 1 + 1) (by simp) ?_; intro gg cc w5 hown5 hgrow hat hlt5; have hbw := (Below.refl (w1.heap.size + 1 + 1) _).grown hgrow HS.out (ogL HOB2.out); have hx := (HBB2.out.below hbw (by omega)); have x2 := hx.2.2.1; have xf := hx.2.2.2.2.2)
            have HO5 := Lib.hid (HOA2.out.kept hgrow (dis_kept HDI.out))
            have HD5 : Hid (Dis vA (.slice (some ⟨gg, 0, none⟩) (lw + 1) cc)) := Lib.hid (dis_symm (dis_new (dis_symm HDI.out) HOA2.out hat (by have := HSZ.out; omega)))
            have HBA5 := Lib.hid (HBA2.out.below hbw (by omega))
            have HBB5 := Lib.hid (HBB2.out.below hbw (by omega))
            have HB5 : Hid (Below w1.heap.size w1 w5) := Lib.hid (HB2.out.trans (hbw.mono (by omega)))
            have HN : Hid (w5.ownsRow (w1.heap.size + 1 + 1) 73 5 (.slice (some ⟨gg, 0, none⟩) (lw + 1) cc) (LB xs (k + 1)).length (placesPat (LB xs (k + 1)))) := Lib.hid (by rw [HEW.out, placesPat_more, List.length_append, HGL.out]; exact hown5)
            have HO5' : Hid (w5.ownsRow (w1.heap.size + 1 + 1) 73 5 vA (LA xs (k + 1)).length (placesPat (LA xs (k + 1)))) := Lib.hid (by rw [HEO.out]; exact HO5.out)
            have hs5 : w1.heap.size + 1 + 1 ≤ w5.heap.size := Nat.le_trans HS.out hbw.size
            clear hown5 hgrow hat hlt5 hbw hx HOA2 HOB2 HNW HBA2 HBB2 HB2 KK KF HO5 Kb0 Kb1 Kb2 Kb3 Kb4
            go_wp2_with fail
            go_roundw
            case rel => exact ⟨k + 1, _, _, by omega, by go_num, Lib.hid (HBA5.out.far (by simp <;> omega) _), Lib.hid (HBB5.out.store _), Lib.hid (osL HO5'.out (by simp <;> omega) _), Lib.hid (osL HN.out (by simp <;> omega) _), HD5, (HB5.out).setCell (p := ⟨w1.heap.size + 1, 2, none⟩) (by simp) _⟩
            case measure => simp [intOf] <;> omega
          · have HEW : Hid (LA xs (k + 1) = LA xs k ++ [⟨d.x, d.y, d.w, d.h, d.c⟩]) := Lib.hid (by rw [hd]; exact (HSA.out k hlt (by rw [hd] at z; first | exact z | (have z2 : ¬ a ≤ (pat xs k).y := z; omega))).1)
            have HEO : Hid (LB xs (k + 1) = LB xs k) := Lib.hid ((HSA.out k hlt (by rw [hd] at z; first | exact z | (have z2 : ¬ a ≤ (pat xs k).y := z; omega))).2)
            clear hd
            have WW : Below wr.heap.size wr ((wr.alloc (.cells #[.int .i64 d.x, .int .i64 d.y, .int .i64 d.w, .int .i64 d.h, .int .i64 d.c] 73)).alloc (.cells #[.int .i64 d.x, .int .i64 d.y, .int .i64 d.w, .int .i64 d.h, .int .i64 d.c] 73)) := bel_n (bel0 wr _) (Nat.le_refl _) _
            have HBA2 := Lib.hid (HBA.out.below WW (by omega))
            have HBB2 := Lib.hid (HBB.out.below WW (by omega))
            have HOA2 := Lib.hid (owL HOA.out WW)
            have HOB2 := Lib.hid (owL HOB.out WW)
            have HB2 := Lib.hid (hbel.trans (WW.mono (by omega)))
            have HNW := Lib.hid (newsL (wr.alloc (.cells #[.int .i64 d.x, .int .i64 d.y, .int .i64 d.w, .int .i64 d.h, .int .i64 d.c] 73)) (wr.heap.size + 1) #[.int .i64 d.x, .int .i64 d.y, .int .i64 d.w, .int .i64 d.h, .int .i64 d.c] 73 (by simp))
            have HS : Hid (w1.heap.size + 1 + 1 ≤ ((wr.alloc (.cells #[.int .i64 d.x, .int .i64 d.y, .int .i64 d.w, .int .i64 d.h, .int .i64 d.c] 73)).alloc (.cells #[.int .i64 d.x, .int .i64 d.y, .int .i64 d.w, .int .i64 d.h, .int .i64 d.c] 73)).heap.size) := Lib.hid (by simp; omega)
            have HSZ : Hid (wr.heap.size + 1 + 1 ≤ ((wr.alloc (.cells #[.int .i64 d.x, .int .i64 d.y, .int .i64 d.w, .int .i64 d.h, .int .i64 d.c] 73)).alloc (.cells #[.int .i64 d.x, .int .i64 d.y, .int .i64 d.w, .int .i64 d.h, .int .i64 d.c] 73)).heap.size ∧ ((wr.alloc (.cells #[.int .i64 d.x, .int .i64 d.y, .int .i64 d.w, .int .i64 d.h, .int .i64 d.c] 73)).alloc (.cells #[.int .i64 d.x, .int .i64 d.y, .int .i64 d.w, .int .i64 d.h, .int .i64 d.c] 73)).heap.size ≤ wr.heap.size + 1 + 1) := Lib.hid (by simp)
            have KK : ∀ o, (wr.alloc o).cell? ⟨w1.heap.size, 2, none⟩ = some vA := fun o => (HBA.out.below (bel0 wr o) (by omega)).2.2.1
            have KF : ∀ o, (wr.alloc o).frozen? ⟨w1.heap.size, 2, none⟩ = false := fun o => (HBA.out.below (bel0 wr o) (by omega)).2.2.2.2.2
            have hlW : (LA xs k).length ≤ 12 := HLA.out
            generalize hgl : (LA xs k).length = lw at hlW HOA2
            have HGL := Lib.hid hgl
            clear WW hbel HBA HBB HOA HOB hgl
            go_wp2_with (at_builtin; refine wpList_append_lies _ rfl _ _ 48 rfl (w1.heap.size + 1 + 1) 73 i0 _ 5 40 Try.underlying48 hi0 hz0 hz1 hz2 rfl (by decide) _ _ _ rfl HOA2.out ⟨wr.heap.size + 1, 0, none⟩ 1 1 [.int .i64 d.x, .int .i64 d.y, .int .i64 d.w, .int .i64 d.h, .int .i64 d.c] rfl rfl HNW.out (by simp [Value.oneCell']) (by omega) (by unfold maxLen; omega) (by omega) HS.out (wr.heap.size + 1 + 1) (by simp) ?_; intro gg cc w5 hown5 hgrow hat hlt5; have hbw := (Below.refl (w1.heap.size + 1 + 1) _).grown hgrow HS.out (ogL HOA2.out); have hx := (HBA2.out.below hbw (by omega)); have x2 := hx.2.2.1; have xf := hx.2.2.2.2.2)
            have HO5 := Lib.hid (HOB2.out.kept hgrow (dis_kept (dis_symm HDI.out)))
            have HD5 : Hid (Dis (.slice (some ⟨gg, 0, none⟩) (lw + 1) cc) vB) := Lib.hid (dis_new HDI.out HOB2.out hat (by have := HSZ.out; omega))
            have HBA5 := Lib.hid (HBA2.out.below hbw (by omega))
            have HBB5 := Lib.hid (HBB2.out.below hbw (by omega))
            have HB5 : Hid (Below w1.heap.size w1 w5) := Lib.hid (HB2.out.trans (hbw.mono (by omega)))
            have HN : Hid (w5.ownsRow (w1.heap.size + 1 + 1) 73 5 (.slice (some ⟨gg, 0, none⟩) (lw + 1) cc) (LA xs (k + 1)).length (placesPat (LA xs (k + 1)))) := Lib.hid (by rw [HEW.out, placesPat_more, List.length_append, HGL.out]; exact hown5)
            have HO5' : Hid (w5.ownsRow (w1.heap.size + 1 + 1) 73 5 vB (LB xs (k + 1)).length (placesPat (LB xs (k + 1)))) := Lib.hid (by rw [HEO.out]; exact HO5.out)
            have hs5 : w1.heap.size + 1 + 1 ≤ w5.heap.size := Nat.le_trans HS.out hbw.size
            clear hown5 hgrow hat hlt5 hbw hx HOA2 HOB2 HNW HBA2 HBB2 HB2 KK KF HO5 Kb0 Kb1 Kb2 Kb3 Kb4
            go_wp2_with fail
            go_roundw
            case rel => exact ⟨k + 1, _, _, by omega, by go_num, Lib.hid (HBA5.out.store _), Lib.hid (HBB5.out.far (by simp <;> omega) _), Lib.hid (osL HN.out (by simp <;> omega) _), Lib.hid (osL HO5'.out (by simp <;> omega) _), HD5, (HB5.out).setCell (p := ⟨w1.heap.size, 2, none⟩) (by simp) _⟩
            case measure => simp [intOf] <;> omega
        · obtain rfl : k = xs.length := by omega
          have RA : PatIn (w1.heap.size + 1 + 1) wr.heap.size wr vA (LA xs xs.length) := PatIn.of_owns HOA.out (by have := HLAL.out xs.length; omega)
          have RB : PatIn (w1.heap.size + 1 + 1) wr.heap.size wr vB (LB xs xs.length) := PatIn.of_owns HOB.out (by have := HLBL.out xs.length; omega)
          obtain ⟨aA, cA, rfl⟩ := RA.form
          obtain ⟨aB, cB, rfl⟩ := RB.form
          have RA0 := Lib.hid RA
          have RB0 := Lib.hid RB
          have HRA2 := Lib.hid (HRA.out.below hbel (by omega))
          have HRB2 := Lib.hid (HRB.out.below hbel (by omega))
          have HBZ := Lib.hid (HB1.out.trans (hbel.mono (by omega)))
          obtain ⟨d0, d1, d2, z0, z1, z2⟩ := HRA2.out
          obtain ⟨g0, g1, g2, y0, y1, y2⟩ := HRB2.out
          obtain ⟨s0, s1, s2, _, _, _⟩ := HBA.out
          obtain ⟨r0, r1, r2, _, _, _⟩ := HBB.out
          clear RA RB hbel HOA HOB HBA HBB
          go_wp2_with fail
          go_region
          go_wp2_with fail
          refine bodyPost_ret (v := .tuple #[.agg #[.int .i64 m, .int .i64 a, .slice aA (LA xs xs.length).length cA], .agg #[.int .i64 m, .int .i64 (n - a), .slice aB (LB xs xs.length).length cB], .bool true]) (by simp [results, Try.results55, go_sem, d0, d1, d2, g0, g1, g2]) rfl ⟨_, _, rfl, ?_, ?_, ?_⟩
          · refine PatIn.wide (lo := w1.heap.size + 1 + 1) (hi := wr.heap.size) (PatIn.below (PatIn.set_far (PatIn.set_far (PatIn.set_far (PatIn.set_far (PatIn.set_far (PatIn.set_far (RA0.out) ?_ _) ?_ _) ?_ _) ?_ _) ?_ _) ?_ _) (bel_dr9 (Below.refl _ _))) ?_ ?_
            all_goals first | omega | (simp [World.setCell] <;> omega)
          · refine PatIn.wide (lo := w1.heap.size + 1 + 1) (hi := wr.heap.size) (PatIn.below (PatIn.set_far (PatIn.set_far (PatIn.set_far (PatIn.set_far (PatIn.set_far (PatIn.set_far (RB0.out) ?_ _) ?_ _) ?_ _) ?_ _) ?_ _) ?_ _) (bel_dr9 (Below.refl _ _))) ?_ ?_
            all_goals first | omega | (simp [World.setCell] <;> omega)
          · refine bel_dr9 (Below.setCell (Below.setCell (Below.setCell (Below.setCell (Below.setCell (Below.setCell HBZ.out ?_ _) ?_ _) ?_ _) ?_ _) ?_ _) ?_ _)
            all_goals first | omega | (simp <;> omega)
    · have hh := cut_in hc
      simp only [endC, if_true] at hh
      obtain ⟨hh0, hh1⟩ := hh
      obtain ⟨m0, m1⟩ := lay.1
      obtain ⟨n0, n1⟩ := lay.2.1
      have x12 := lay.2.2.1.2
      have HF : Hid (∀ i, i < xs.length → Fit m n (pat xs i)) := Lib.hid (fun i hi => lay.fit hi)
      obtain ⟨LA, hLA⟩ : ∃ LA : List P5 → Nat → List P5, LA = fun xs k => (xs.take k).filter fun pp => !sel2 ⟨true, a⟩ pp := ⟨_, rfl⟩
      obtain ⟨LB, hLB⟩ : ∃ LB : List P5 → Nat → List P5, LB = fun xs k => ((xs.take k).filter (sel2 ⟨true, a⟩)).map (mv (pX2 ⟨true, a⟩) (pY2 ⟨true, a⟩)) := ⟨_, rfl⟩
      have HEA : Hid (LA xs xs.length = pL1 m n ⟨true, a⟩ xs) := Lib.hid (by rw [hLA, pL1_sel lay hc]; simp only [List.take_length])
      have HEB : Hid (LB xs xs.length = pL2 m n ⟨true, a⟩ xs) := Lib.hid (by rw [hLB, pL2_sel lay hc]; simp only [List.take_length])
      have HLAL : Hid (∀ k, (LA xs k).length ≤ 12) := Lib.hid (fun k => by rw [hLA]; have := List.length_filter_le (fun pp => !sel2 ⟨true, a⟩ pp) (xs.take k); simp at this ⊢; omega)
      have HLBL : Hid (∀ k, (LB xs k).length ≤ 12) := Lib.hid (fun k => by rw [hLB]; have := List.length_filter_le (sel2 ⟨true, a⟩) (xs.take k); simp at this ⊢; omega)
      have HSA : Hid (∀ k, k < xs.length → ¬ a ≤ (pat xs k).x → LA xs (k + 1) = LA xs k ++ [pat xs k] ∧ LB xs (k + 1) = LB xs k) := Lib.hid (fun k hk hz => by
        rw [hLA, hLB]; simp only [List.take_succ_eq_append_getElem hk, ← pat_get hk, List.filter_append, List.map_append]
        generalize pat xs k = d at hz ⊢
        have e : sel2 ⟨true, a⟩ d = false := by show decide (a ≤ d.x) = false; exact decide_eq_false hz
        simp [e])
      have HSB : Hid (∀ k, k < xs.length → a ≤ (pat xs k).x → LA xs (k + 1) = LA xs k ∧ LB xs (k + 1) = LB xs k ++ [⟨(pat xs k).x - a, (pat xs k).y, (pat xs k).w, (pat xs k).h, (pat xs k).c⟩]) := Lib.hid (fun k hk hz => by
        rw [hLA, hLB]; simp only [List.take_succ_eq_append_getElem hk, ← pat_get hk, List.filter_append, List.map_append]
        generalize pat xs k = d at hz ⊢
        have e : sel2 ⟨true, a⟩ d = true := by show decide (a ≤ d.x) = true; exact decide_eq_true hz
        simp [e, mv, pX2, pY2])
      have HA0 : Hid (LA xs 0 = []) := Lib.hid (by rw [hLA]; rfl)
      have HB00 : Hid (LB xs 0 = []) := Lib.hid (by rw [hLB]; rfl)
      clear hLA hLB lay hc
      show Calls _ _ _ _ (SplitLW a n (pL1 m n ⟨true, a⟩ xs) (m - a) n (pL2 m n ⟨true, a⟩ xs) true w)
      rw [← HEA.out, ← HEB.out]
      clear HEA HEB
      go_enter Try.func55, Try.ntmps55
      go_wp2_with fail
      refine (CK.out _ HB0.out).mono ?_
      rintro e w1 ⟨rfl, hb1⟩
      have BRA : BoxL (w.heap.size + 1 + 1) (.int .i64 0) (.int .i64 0) (.slice none 0 0) w1 := by
        have := BoxL.new ((w.alloc (.cells #[.int .i64 m, .int .i64 n, .slice b xs.length cap] 50)).alloc (.cells #[.bool true, .int .i64 a] 86)) (.int .i64 0) (.int .i64 0) (.slice none 0 0) 50
        rw [show ((w.alloc (.cells #[.int .i64 m, .int .i64 n, .slice b xs.length cap] 50)).alloc (.cells #[.bool true, .int .i64 a] 86)).heap.size = w.heap.size + 1 + 1 by simp] at this
        exact (this.below (bel0 _ (.cells #[.int .i64 0, .int .i64 0, .slice none 0 0] 50)) (by simp)).below hb1 (by simp)
      have BRB : BoxL (w.heap.size + 1 + 1 + 1) (.int .i64 0) (.int .i64 0) (.slice none 0 0) w1 := by
        have := BoxL.new (((w.alloc (.cells #[.int .i64 m, .int .i64 n, .slice b xs.length cap] 50)).alloc (.cells #[.bool true, .int .i64 a] 86)).alloc (.cells #[.int .i64 0, .int .i64 0, .slice none 0 0] 50)) (.int .i64 0) (.int .i64 0) (.slice none 0 0) 50
        rw [show (((w.alloc (.cells #[.int .i64 m, .int .i64 n, .slice b xs.length cap] 50)).alloc (.cells #[.bool true, .int .i64 a] 86)).alloc (.cells #[.int .i64 0, .int .i64 0, .slice none 0 0] 50)).heap.size = w.heap.size + 1 + 1 + 1 by simp] at this
        exact this.below hb1 (by simp)
      have a0 := kept (p := ⟨w.heap.size, 0, none⟩) (x := .int .i64 m) hb1 (by exact kept (bel0 _ _) (kept (bel0 _ _) (kept (bel0 _ _) (by go_simp))))
      have a1 := kept (p := ⟨w.heap.size, 1, none⟩) (x := .int .i64 n) hb1 (by exact kept (bel0 _ _) (kept (bel0 _ _) (kept (bel0 _ _) (by go_simp))))
      have a2 := kept (p := ⟨w.heap.size, 2, none⟩) (x := .slice b xs.length cap) hb1 (by exact kept (bel0 _ _) (kept (bel0 _ _) (kept (bel0 _ _) (by go_simp))))
      have a3 := kept (p := ⟨w.heap.size + 1, 0, none⟩) (x := .bool true) hb1 (by exact kept (bel0 _ _) (kept (bel0 _ _) (by go_simp)))
      have a4 := kept (p := ⟨w.heap.size + 1, 1, none⟩) (x := .int .i64 a) hb1 (by exact kept (bel0 _ _) (kept (bel0 _ _) (by go_simp)))
      have HB1 := Lib.hid (bel_c HB0.out (Nat.le_refl _) hb1)
      have hs1 := hb1.size
      simp at hs1
      have HRA := Lib.hid BRA
      have HRB := Lib.hid BRB
      clear hb1 BRA BRB CK HB0
      have hp1 : w.heap.size + 1 + 1 + 1 < w1.heap.size := by omega
      have WS0 : Hid (BoxL w1.heap.size (.int .i64 a) (.int .i64 n) (.slice none 0 0) ((w1.alloc (.cells #[.int .i64 a, .int .i64 n, .slice none 0 0] 50)).alloc (.cells #[.int .i64 (m - a), .int .i64 n, .slice none 0 0] 50)) ∧ BoxL (w1.heap.size + 1) (.int .i64 (m - a)) (.int .i64 n) (.slice none 0 0) ((w1.alloc (.cells #[.int .i64 a, .int .i64 n, .slice none 0 0] 50)).alloc (.cells #[.int .i64 (m - a), .int .i64 n, .slice none 0 0] 50)) ∧ Below w1.heap.size w1 ((w1.alloc (.cells #[.int .i64 a, .int .i64 n, .slice none 0 0] 50)).alloc (.cells #[.int .i64 (m - a), .int .i64 n, .slice none 0 0] 50)) ∧ w1.heap.size + 1 + 1 ≤ ((w1.alloc (.cells #[.int .i64 a, .int .i64 n, .slice none 0 0] 50)).alloc (.cells #[.int .i64 (m - a), .int .i64 n, .slice none 0 0] 50)).heap.size) := Lib.hid (by
        refine ⟨(BoxL.new w1 _ _ _ _).below (bel0 _ _) (by simp), ?_, bel_n (bel0 _ _) (Nat.le_refl _) _, by simp⟩
        have := BoxL.new (w1.alloc (.cells #[.int .i64 a, .int .i64 n, .slice none 0 0] 50)) (.int .i64 (m - a)) (.int .i64 n) (.slice none 0 0) 50
        simpa using this)
      have Ka0 : ∀ o, (w1.alloc o).cell? ⟨w.heap.size, 0, none⟩ = some (.int .i64 m) := fun o => kept (bel0 w1 o) a0
      have La0 : ∀ o o', ((w1.alloc o).alloc o').cell? ⟨w.heap.size, 0, none⟩ = some (.int .i64 m) := fun o o' => kept (bel0 _ o') (Ka0 o)
      have Ka1 : ∀ o, (w1.alloc o).cell? ⟨w.heap.size, 1, none⟩ = some (.int .i64 n) := fun o => kept (bel0 w1 o) a1
      have La1 : ∀ o o', ((w1.alloc o).alloc o').cell? ⟨w.heap.size, 1, none⟩ = some (.int .i64 n) := fun o o' => kept (bel0 _ o') (Ka1 o)
      have Ka2 : ∀ o, (w1.alloc o).cell? ⟨w.heap.size, 2, none⟩ = some (.slice b xs.length cap) := fun o => kept (bel0 w1 o) a2
      have La2 : ∀ o o', ((w1.alloc o).alloc o').cell? ⟨w.heap.size, 2, none⟩ = some (.slice b xs.length cap) := fun o o' => kept (bel0 _ o') (Ka2 o)
      have Ka3 : ∀ o, (w1.alloc o).cell? ⟨w.heap.size + 1, 0, none⟩ = some (.bool true) := fun o => kept (bel0 w1 o) a3
      have La3 : ∀ o o', ((w1.alloc o).alloc o').cell? ⟨w.heap.size + 1, 0, none⟩ = some (.bool true) := fun o o' => kept (bel0 _ o') (Ka3 o)
      have Ka4 : ∀ o, (w1.alloc o).cell? ⟨w.heap.size + 1, 1, none⟩ = some (.int .i64 a) := fun o => kept (bel0 w1 o) a4
      have La4 : ∀ o o', ((w1.alloc o).alloc o').cell? ⟨w.heap.size + 1, 1, none⟩ = some (.int .i64 a) := fun o o' => kept (bel0 _ o') (Ka4 o)
      go_wp2_with fail
      clear Ka0 La0 Ka1 La1 Ka2 La2 Ka3 La3 Ka4 La4
      go_loopw [9] (fun i wr => ∃ (k : Nat) (vA vB : Value), k ≤ xs.length ∧ i = .int .i64 k ∧ Hid (BoxL w1.heap.size (.int .i64 a) (.int .i64 n) vA wr) ∧ Hid (BoxL (w1.heap.size + 1) (.int .i64 (m - a)) (.int .i64 n) vB wr) ∧ Hid (wr.ownsRow (w1.heap.size + 1 + 1) 73 5 vA (LA xs k).length (placesPat (LA xs k))) ∧ Hid (wr.ownsRow (w1.heap.size + 1 + 1) 73 5 vB (LB xs k).length (placesPat (LB xs k))) ∧ Hid (Dis vA vB) ∧ Below w1.heap.size w1 wr) (fun i _ => xs.length - (intOf i).toNat)
      case atStart => exact ⟨0, _, _, Nat.zero_le _, rfl, Lib.hid WS0.out.1, Lib.hid WS0.out.2.1, Lib.hid (by rw [HA0.out]; exact World.ownsRow_nil _ _ _ _), Lib.hid (by rw [HB00.out]; exact World.ownsRow_nil _ _ _ _), Lib.hid (by intro g h; cases h), WS0.out.2.2.1⟩
      case round =>
        obtain ⟨k, vA, vB, hk, rfl, HBA, HBB, HOA, HOB, HDI, hbel⟩ := hrel
        have hlA := HBA.out.lt
        have hlB := HBB.out.lt
        have b0 : wr.cell? ⟨w.heap.size, 0, none⟩ = some (.int .i64 m) := (hbel.cell (p := ⟨w.heap.size, 0, none⟩) (by simp; omega)).trans a0
        have b1 : wr.cell? ⟨w.heap.size, 1, none⟩ = some (.int .i64 n) := (hbel.cell (p := ⟨w.heap.size, 1, none⟩) (by simp; omega)).trans a1
        have b2 : wr.cell? ⟨w.heap.size, 2, none⟩ = some (.slice b xs.length cap) := (hbel.cell (p := ⟨w.heap.size, 2, none⟩) (by simp; omega)).trans a2
        have b3 : wr.cell? ⟨w.heap.size + 1, 0, none⟩ = some (.bool true) := (hbel.cell (p := ⟨w.heap.size + 1, 0, none⟩) (by simp; omega)).trans a3
        have b4 : wr.cell? ⟨w.heap.size + 1, 1, none⟩ = some (.int .i64 a) := (hbel.cell (p := ⟨w.heap.size + 1, 1, none⟩) (by simp; omega)).trans a4
        have hps := hbel.size
        by_cases hlt : k < xs.length
        · obtain ⟨g, rfl, hg, hg1, hel, _⟩ := R.out.at ((HB1.out.trans (hbel.mono (by omega))).mono hhi) hlt
          obtain ⟨q0, q1, q2, q3, q4⟩ := hel
          obtain ⟨d, hd⟩ : ∃ d, d = xs.getD k P5.zero := ⟨_, rfl⟩
          obtain ⟨⟨f00, f01⟩, ⟨f10, f11⟩, ⟨f20, f21⟩, ⟨f30, f31⟩, _⟩ : Fit m n d := by rw [hd]; exact HF.out k hlt
          rw [← hd] at q0 q1 q2 q3 q4
          have Kb0 : ∀ o, (wr.alloc o).cell? ⟨w.heap.size, 0, none⟩ = some (.int .i64 m) := fun o => kept (bel0 wr o) b0
          have Kb1 : ∀ o, (wr.alloc o).cell? ⟨w.heap.size, 1, none⟩ = some (.int .i64 n) := fun o => kept (bel0 wr o) b1
          have Kb2 : ∀ o, (wr.alloc o).cell? ⟨w.heap.size, 2, none⟩ = some (.slice (some ⟨g, 0, none⟩) xs.length cap) := fun o => kept (bel0 wr o) b2
          have Kb3 : ∀ o, (wr.alloc o).cell? ⟨w.heap.size + 1, 0, none⟩ = some (.bool true) := fun o => kept (bel0 wr o) b3
          have Kb4 : ∀ o, (wr.alloc o).cell? ⟨w.heap.size + 1, 1, none⟩ = some (.int .i64 a) := fun o => kept (bel0 wr o) b4
          have HLA := Lib.hid (HLAL.out k)
          have HLB := Lib.hid (HLBL.out k)
          by_cases z : a ≤ d.x
          · have HEW : Hid (LB xs (k + 1) = LB xs k ++ [⟨(d.x - a), d.y, d.w, d.h, d.c⟩]) := Lib.hid (by rw [hd]; exact (HSB.out k hlt (by rw [hd] at z; exact z)).2)
            have HEO : Hid (LA xs (k + 1) = LA xs k) := Lib.hid ((HSB.out k hlt (by rw [hd] at z; exact z)).1)
            clear hd
            have WW : Below wr.heap.size wr ((wr.alloc (.cells #[.int .i64 (d.x - a), .int .i64 d.y, .int .i64 d.w, .int .i64 d.h, .int .i64 d.c] 73)).alloc (.cells #[.int .i64 (d.x - a), .int .i64 d.y, .int .i64 d.w, .int .i64 d.h, .int .i64 d.c] 73)) := bel_n (bel0 wr _) (Nat.le_refl _) _
            have HBA2 := Lib.hid (HBA.out.below WW (by omega))
            have HBB2 := Lib.hid (HBB.out.below WW (by omega))
            have HOA2 := Lib.hid (owL HOA.out WW)
            have HOB2 := Lib.hid (owL HOB.out WW)
            have HB2 := Lib.hid (hbel.trans (WW.mono (by omega)))
            have HNW := Lib.hid (newsL (wr.alloc (.cells #[.int .i64 (d.x - a), .int .i64 d.y, .int .i64 d.w, .int .i64 d.h, .int .i64 d.c] 73)) (wr.heap.size + 1) #[.int .i64 (d.x - a), .int .i64 d.y, .int .i64 d.w, .int .i64 d.h, .int .i64 d.c] 73 (by simp))
            have HS : Hid (w1.heap.size + 1 + 1 ≤ ((wr.alloc (.cells #[.int .i64 (d.x - a), .int .i64 d.y, .int .i64 d.w, .int .i64 d.h, .int .i64 d.c] 73)).alloc (.cells #[.int .i64 (d.x - a), .int .i64 d.y, .int .i64 d.w, .int .i64 d.h, .int .i64 d.c] 73)).heap.size) := Lib.hid (by simp; omega)
            have HSZ : Hid (wr.heap.size + 1 + 1 ≤ ((wr.alloc (.cells #[.int .i64 (d.x - a), .int .i64 d.y, .int .i64 d.w, .int .i64 d.h, .int .i64 d.c] 73)).alloc (.cells #[.int .i64 (d.x - a), .int .i64 d.y, .int .i64 d.w, .int .i64 d.h, .int .i64 d.c] 73)).heap.size ∧ ((wr.alloc (.cells #[.int .i64 (d.x - a), .int .i64 d.y, .int .i64 d.w, .int .i64 d.h, .int .i64 d.c] 73)).alloc (.cells #[.int .i64 (d.x - a), .int .i64 d.y, .int .i64 d.w, .int .i64 d.h, .int .i64 d.c] 73)).heap.size ≤ wr.heap.size + 1 + 1) := Lib.hid (by simp)
            have KK : ∀ o, (wr.alloc o).cell? ⟨w1.heap.size + 1, 2, none⟩ = some vB := fun o => (HBB.out.below (bel0 wr o) (by omega)).2.2.1
            have KF : ∀ o, (wr.alloc o).frozen? ⟨w1.heap.size + 1, 2, none⟩ = false := fun o => (HBB.out.below (bel0 wr o) (by omega)).2.2.2.2.2
            have hlW : (LB xs k).length ≤ 12 := HLB.out
            generalize hgl : (LB xs k).length = lw at hlW HOB2
            have HGL := Lib.hid hgl
            clear WW hbel HBA HBB HOA HOB hgl
            go_wp2_with (at_builtin; refine wpList_append_lies _ rfl _ _ 48 rfl (w1.heap.size + 1 + 1) 73 i0 _ 5 40 Try.underlying48 hi0 hz0 hz1 hz2 rfl (by decide) _ _ _ rfl HOB2.out ⟨wr.heap.size + 1, 0, none⟩ 1 1 [.int .i64 (d.x - a), .int .i64 d.y, .int .i64 d.w, .int .i64 d.h, .int .i64 d.c] rfl rfl HNW.out (by simp [Value.oneCell']) (by omega) (by unfold maxLen; omega) (by omega) HS.out (wr.heap.size + 1 + 1) (by simp) ?_; intro gg cc w5 hown5 hgrow hat hlt5; have hbw := (Below.refl (w1.heap.size + 1 + 1) _).grown hgrow HS.out (ogL HOB2.out); have hx := (HBB2.out.below hbw (by omega)); have x2 := hx.2.2.1; have xf := hx.2.2.2.2.2)
            have HO5 := Lib.hid (HOA2.out.kept hgrow (dis_kept HDI.out))
            have HD5 : Hid (Dis vA (.slice (some ⟨gg, 0, none⟩) (lw + 1) cc)) := Lib.hid (dis_symm (dis_new (dis_symm HDI.out) HOA2.out hat (by have := HSZ.out; omega)))
            have HBA5 := Lib.hid (HBA2.out.below hbw (by omega))
            have HBB5 := Lib.hid (HBB2.out.below hbw (by omega))
            have HB5 : Hid (Below w1.heap.size w1 w5) := Lib.hid (HB2.out.trans (hbw.mono (by omega)))
            have HN : Hid (w5.ownsRow (w1.heap.size + 1 + 1) 73 5 (.slice (some ⟨gg, 0, none⟩) (lw + 1) cc) (LB xs (k + 1)).length (placesPat (LB xs (k + 1)))) := Lib.hid (by rw [HEW.out, placesPat_more, List.length_append, HGL.out]; exact hown5)
            have HO5' : Hid (w5.ownsRow (w1.heap.size + 1 + 1) 73 5 vA (LA xs (k + 1)).length (placesPat (LA xs (k + 1)))) := Lib.hid (by rw [HEO.out]; exact HO5.out)
            have hs5 : w1.heap.size + 1 + 1 ≤ w5.heap.size := Nat.le_trans HS.out hbw.size
            clear hown5 hgrow hat hlt5 hbw hx HOA2 HOB2 HNW HBA2 HBB2 HB2 KK KF HO5 Kb0 Kb1 Kb2 Kb3 Kb4
            go_wp2_with fail
            go_roundw
            case rel => exact ⟨k + 1, _, _, by omega, by go_num, Lib.hid (HBA5.out.far (by simp <;> omega) _), Lib.hid (HBB5.out.store _), Lib.hid (osL HO5'.out (by simp <;> omega) _), Lib.hid (osL HN.out (by simp <;> omega) _), HD5, (HB5.out).setCell (p := ⟨w1.heap.size + 1, 2, none⟩) (by simp) _⟩
            case measure => simp [intOf] <;> omega
          · have HEW : Hid (LA xs (k + 1) = LA xs k ++ [⟨d.x, d.y, d.w, d.h, d.c⟩]) := Lib.hid (by rw [hd]; exact (HSA.out k hlt (by rw [hd] at z; first | exact z | (have z2 : ¬ a ≤ (pat xs k).x := z; omega))).1)
            have HEO : Hid (LB xs (k + 1) = LB xs k) := Lib.hid ((HSA.out k hlt (by rw [hd] at z; first | exact z | (have z2 : ¬ a ≤ (pat xs k).x := z; omega))).2)
            clear hd
            have WW : Below wr.heap.size wr ((wr.alloc (.cells #[.int .i64 d.x, .int .i64 d.y, .int .i64 d.w, .int .i64 d.h, .int .i64 d.c] 73)).alloc (.cells #[.int .i64 d.x, .int .i64 d.y, .int .i64 d.w, .int .i64 d.h, .int .i64 d.c] 73)) := bel_n (bel0 wr _) (Nat.le_refl _) _
            have HBA2 := Lib.hid (HBA.out.below WW (by omega))
            have HBB2 := Lib.hid (HBB.out.below WW (by omega))
            have HOA2 := Lib.hid (owL HOA.out WW)
            have HOB2 := Lib.hid (owL HOB.out WW)
            have HB2 := Lib.hid (hbel.trans (WW.mono (by omega)))
            have HNW := Lib.hid (newsL (wr.alloc (.cells #[.int .i64 d.x, .int .i64 d.y, .int .i64 d.w, .int .i64 d.h, .int .i64 d.c] 73)) (wr.heap.size + 1) #[.int .i64 d.x, .int .i64 d.y, .int .i64 d.w, .int .i64 d.h, .int .i64 d.c] 73 (by simp))
            have HS : Hid (w1.heap.size + 1 + 1 ≤ ((wr.alloc (.cells #[.int .i64 d.x, .int .i64 d.y, .int .i64 d.w, .int .i64 d.h, .int .i64 d.c] 73)).alloc (.cells #[.int .i64 d.x, .int .i64 d.y, .int .i64 d.w, .int .i64 d.h, .int .i64 d.c] 73)).heap.size) := Lib.hid (by simp; omega)
            have HSZ : Hid (wr.heap.size + 1 + 1 ≤ ((wr.alloc (.cells #[.int .i64 d.x, .int .i64 d.y, .int .i64 d.w, .int .i64 d.h, .int .i64 d.c] 73)).alloc (.cells #[.int .i64 d.x, .int .i64 d.y, .int .i64 d.w, .int .i64 d.h, .int .i64 d.c] 73)).heap.size ∧ ((wr.alloc (.cells #[.int .i64 d.x, .int .i64 d.y, .int .i64 d.w, .int .i64 d.h, .int .i64 d.c] 73)).alloc (.cells #[.int .i64 d.x, .int .i64 d.y, .int .i64 d.w, .int .i64 d.h, .int .i64 d.c] 73)).heap.size ≤ wr.heap.size + 1 + 1) := Lib.hid (by simp)
            have KK : ∀ o, (wr.alloc o).cell? ⟨w1.heap.size, 2, none⟩ = some vA := fun o => (HBA.out.below (bel0 wr o) (by omega)).2.2.1
            have KF : ∀ o, (wr.alloc o).frozen? ⟨w1.heap.size, 2, none⟩ = false := fun o => (HBA.out.below (bel0 wr o) (by omega)).2.2.2.2.2
            have hlW : (LA xs k).length ≤ 12 := HLA.out
            generalize hgl : (LA xs k).length = lw at hlW HOA2
            have HGL := Lib.hid hgl
            clear WW hbel HBA HBB HOA HOB hgl
            go_wp2_with (at_builtin; refine wpList_append_lies _ rfl _ _ 48 rfl (w1.heap.size + 1 + 1) 73 i0 _ 5 40 Try.underlying48 hi0 hz0 hz1 hz2 rfl (by decide) _ _ _ rfl HOA2.out ⟨wr.heap.size + 1, 0, none⟩ 1 1 [.int .i64 d.x, .int .i64 d.y, .int .i64 d.w, .int .i64 d.h, .int .i64 d.c] rfl rfl HNW.out (by simp [Value.oneCell']) (by omega) (by unfold maxLen; omega) (by omega) HS.out (wr.heap.size + 1 + 1) (by simp) ?_; intro gg cc w5 hown5 hgrow hat hlt5; have hbw := (Below.refl (w1.heap.size + 1 + 1) _).grown hgrow HS.out (ogL HOA2.out); have hx := (HBA2.out.below hbw (by omega)); have x2 := hx.2.2.1; have xf := hx.2.2.2.2.2)
            have HO5 := Lib.hid (HOB2.out.kept hgrow (dis_kept (dis_symm HDI.out)))
            have HD5 : Hid (Dis (.slice (some ⟨gg, 0, none⟩) (lw + 1) cc) vB) := Lib.hid (dis_new HDI.out HOB2.out hat (by have := HSZ.out; omega))
            have HBA5 := Lib.hid (HBA2.out.below hbw (by omega))
            have HBB5 := Lib.hid (HBB2.out.below hbw (by omega))
            have HB5 : Hid (Below w1.heap.size w1 w5) := Lib.hid (HB2.out.trans (hbw.mono (by omega)))
            have HN : Hid (w5.ownsRow (w1.heap.size + 1 + 1) 73 5 (.slice (some ⟨gg, 0, none⟩) (lw + 1) cc) (LA xs (k + 1)).length (placesPat (LA xs (k + 1)))) := Lib.hid (by rw [HEW.out, placesPat_more, List.length_append, HGL.out]; exact hown5)
            have HO5' : Hid (w5.ownsRow (w1.heap.size + 1 + 1) 73 5 vB (LB xs (k + 1)).length (placesPat (LB xs (k + 1)))) := Lib.hid (by rw [HEO.out]; exact HO5.out)
            have hs5 : w1.heap.size + 1 + 1 ≤ w5.heap.size := Nat.le_trans HS.out hbw.size
            clear hown5 hgrow hat hlt5 hbw hx HOA2 HOB2 HNW HBA2 HBB2 HB2 KK KF HO5 Kb0 Kb1 Kb2 Kb3 Kb4
            go_wp2_with fail
            go_roundw
            case rel => exact ⟨k + 1, _, _, by omega, by go_num, Lib.hid (HBA5.out.store _), Lib.hid (HBB5.out.far (by simp <;> omega) _), Lib.hid (osL HN.out (by simp <;> omega) _), Lib.hid (osL HO5'.out (by simp <;> omega) _), HD5, (HB5.out).setCell (p := ⟨w1.heap.size, 2, none⟩) (by simp) _⟩
            case measure => simp [intOf] <;> omega
        · obtain rfl : k = xs.length := by omega
          have RA : PatIn (w1.heap.size + 1 + 1) wr.heap.size wr vA (LA xs xs.length) := PatIn.of_owns HOA.out (by have := HLAL.out xs.length; omega)
          have RB : PatIn (w1.heap.size + 1 + 1) wr.heap.size wr vB (LB xs xs.length) := PatIn.of_owns HOB.out (by have := HLBL.out xs.length; omega)
          obtain ⟨aA, cA, rfl⟩ := RA.form
          obtain ⟨aB, cB, rfl⟩ := RB.form
          have RA0 := Lib.hid RA
          have RB0 := Lib.hid RB
          have HRA2 := Lib.hid (HRA.out.below hbel (by omega))
          have HRB2 := Lib.hid (HRB.out.below hbel (by omega))
          have HBZ := Lib.hid (HB1.out.trans (hbel.mono (by omega)))
          obtain ⟨d0, d1, d2, z0, z1, z2⟩ := HRA2.out
          obtain ⟨g0, g1, g2, y0, y1, y2⟩ := HRB2.out
          obtain ⟨s0, s1, s2, _, _, _⟩ := HBA.out
          obtain ⟨r0, r1, r2, _, _, _⟩ := HBB.out
          clear RA RB hbel HOA HOB HBA HBB
          go_wp2_with fail
          go_region
          go_wp2_with fail
          refine bodyPost_ret (v := .tuple #[.agg #[.int .i64 a, .int .i64 n, .slice aA (LA xs xs.length).length cA], .agg #[.int .i64 (m - a), .int .i64 n, .slice aB (LB xs xs.length).length cB], .bool true]) (by simp [results, Try.results55, go_sem, d0, d1, d2, g0, g1, g2]) rfl ⟨_, _, rfl, ?_, ?_, ?_⟩
          · refine PatIn.wide (lo := w1.heap.size + 1 + 1) (hi := wr.heap.size) (PatIn.below (PatIn.set_far (PatIn.set_far (PatIn.set_far (PatIn.set_far (PatIn.set_far (PatIn.set_far (RA0.out) ?_ _) ?_ _) ?_ _) ?_ _) ?_ _) ?_ _) (bel_dr9 (Below.refl _ _))) ?_ ?_
            all_goals first | omega | (simp [World.setCell] <;> omega)
          · refine PatIn.wide (lo := w1.heap.size + 1 + 1) (hi := wr.heap.size) (PatIn.below (PatIn.set_far (PatIn.set_far (PatIn.set_far (PatIn.set_far (PatIn.set_far (PatIn.set_far (RB0.out) ?_ _) ?_ _) ?_ _) ?_ _) ?_ _) ?_ _) (bel_dr9 (Below.refl _ _))) ?_ ?_
            all_goals first | omega | (simp [World.setCell] <;> omega)
          · refine bel_dr9 (Below.setCell (Below.setCell (Below.setCell (Below.setCell (Below.setCell (Below.setCell HBZ.out ?_ _) ?_ _) ?_ _) ?_ _) ?_ _) ?_ _)
            all_goals first | omega | (simp <;> omega)

end Go.Proofs.Ytlkiacgpiodkiaa
