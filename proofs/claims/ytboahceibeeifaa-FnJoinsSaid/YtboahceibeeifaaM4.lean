/- Cuts: the model's SplitLayout. Cuts: the model's CutsOf. Cuts: the model's CanSew and CountSeams. -/
import Derived.Test.YtboahceibeeifaaM3
import Derived.Test.YtboahceibeeifaaLayB
import Derived.Test.YtboahceibeeifaaPatR
import Derived.Test.YtboahceibeeifaaRegM
import Derived.Test.YtboahceibeeifaaLayIk
import Derived.RegionTactic
import Derived.Test.YtboahceibeeifaaCutR
import Derived.Test.YtboahceibeeifaaM6
import Derived.Deep.RegionHeld3
import Derived.Deep.DeepCutAuto

set_option linter.unusedSimpArgs false
set_option linter.unusedVariables false
namespace Go.Proofs.Ytboahceibeeifaa
open Go.ChangeShapes Go.WideShapes Go.ChangeAt Go.RowKit

/-- Two layouts are handed back; nothing is said of which lies first. -/
def SplitLW (A1 B1 : Int) (L1 : List P5) (A2 B2 : Int) (L2 : List P5) (ok : Bool) (w : World) (e : Ending) (w' : World) : Prop :=
  ∃ v1 v2, e = .returned (.tuple #[.agg #[.int .i64 A1, .int .i64 B1, v1], .agg #[.int .i64 A2, .int .i64 B2, v2], .bool ok]) ∧
    PatIn w.heap.size w'.heap.size w' v1 L1 ∧ PatIn w.heap.size w'.heap.size w' v2 L2 ∧ Below w.heap.size w w'
/-- Two rows lie in different blocks. -/
def Dis (u v : Value) : Prop := ∀ g, u.ownBlock = some g → v.ownBlock ≠ some g
theorem dis_symm {u v : Value} (h : Dis u v) : Dis v u := fun g h1 h2 => h g h2 h1
theorem dis_kept {u v : Value} (h : Dis u v) : u.ownBlock = none ∨ u.ownBlock ≠ v.ownBlock := by
  cases e : u.ownBlock with
  | none => exact .inl rfl
  | some g => exact .inr (fun z => h g e z.symm)
/-- A row that has grown, or moved behind everything. -/
theorem dis_new {W : World} {base e size len g H l c : Nat} {u v : Value} {xs : List Value} (h : Dis u v) (ho : W.ownsRow base e size v len xs) (hat : u.ownBlock = some g ∨ g = H) (hH : W.heap.size ≤ H) : Dis (.slice (some ⟨g, 0, none⟩) l c) v := fun k h1 h2 => by
  simp [Value.ownBlock] at h1
  subst h1
  rcases hat with z | rfl
  · exact h _ z h2
  · have := (World.ownsRow.lt ho _ h2).2
    omega

set_option maxHeartbeats 6400000 in
set_option maxRecDepth 20000 in
theorem SpecSplitLayout_any (lo hi : Nat) (m n : Int) (v : Value) (xs : List P5) (up : Bool) (a : Int) (w : World) (r : PatIn lo hi w v xs) (hhi : hi ≤ w.heap.size) :
    Calls Try.prog 39 #[.agg #[.int .i64 m, .int .i64 n, v], .agg #[.bool up, .int .i64 a]] w (SplitLW (sM1 m n xs ⟨up, a⟩) (sN1 m n xs ⟨up, a⟩) (sL1 m n xs ⟨up, a⟩) (sM2 m n xs ⟨up, a⟩) (sN2 m n xs ⟨up, a⟩) (sL2 m n xs ⟨up, a⟩) (cutB m n xs ⟨up, a⟩) w) := by
  obtain ⟨i0, hi0, hz0, hz1, hz2⟩ := info_parts3 info_Pat
  obtain ⟨b, cap, rfl⟩ := r.form
  have R := Lib.hid r
  have CK : Hid (∀ u : World, Below w.heap.size w u → Calls Try.prog 62 #[.agg #[.int .i64 m, .int .i64 n, .slice b xs.length cap], .agg #[.bool up, .int .i64 a]] u fun e w' => e = .returned (.bool (cutB m n xs ⟨up, a⟩)) ∧ Below u.heap.size u w') := Lib.hid (fun u hb => SpecIsCut_any lo hi m n _ xs up a u (r.below (hb.mono hhi)) (Nat.le_trans hhi hb.size))
  clear r
  have HB0 : Hid (Below w.heap.size w ((((w.alloc (.cells #[.int .i64 m, .int .i64 n, .slice b xs.length cap] 26)).alloc (.cells #[.bool up, .int .i64 a] 71)).alloc (.cells #[.int .i64 0, .int .i64 0, .slice none 0 0] 26)).alloc (.cells #[.int .i64 0, .int .i64 0, .slice none 0 0] 26))) := Lib.hid (bel_n (bel_n (bel_n (bel0 w _) (Nat.le_refl _) _) (Nat.le_refl _) _) (Nat.le_refl _) _)
  by_cases h : cutB m n xs ⟨up, a⟩ = false
  · obtain ⟨e1, e2, e3, e4, e5, e6⟩ := s_no h
    rw [e1, e2, e3, e4, e5, e6, h]
    rw [h] at CK
    clear h e1 e2 e3 e4 e5 e6
    go_enter Try.func39, Try.ntmps39
    go_wp2_with fail
    refine (CK.out _ HB0.out).mono ?_
    rintro e w1 ⟨rfl, hb1⟩
    have BRA : BoxL (w.heap.size + 1 + 1) (.int .i64 0) (.int .i64 0) (.slice none 0 0) w1 := by
      have := BoxL.new ((w.alloc (.cells #[.int .i64 m, .int .i64 n, .slice b xs.length cap] 26)).alloc (.cells #[.bool up, .int .i64 a] 71)) (.int .i64 0) (.int .i64 0) (.slice none 0 0) 26
      rw [show ((w.alloc (.cells #[.int .i64 m, .int .i64 n, .slice b xs.length cap] 26)).alloc (.cells #[.bool up, .int .i64 a] 71)).heap.size = w.heap.size + 1 + 1 by simp] at this
      exact (this.below (bel0 _ (.cells #[.int .i64 0, .int .i64 0, .slice none 0 0] 26)) (by simp)).below hb1 (by simp)
    have BRB : BoxL (w.heap.size + 1 + 1 + 1) (.int .i64 0) (.int .i64 0) (.slice none 0 0) w1 := by
      have := BoxL.new (((w.alloc (.cells #[.int .i64 m, .int .i64 n, .slice b xs.length cap] 26)).alloc (.cells #[.bool up, .int .i64 a] 71)).alloc (.cells #[.int .i64 0, .int .i64 0, .slice none 0 0] 26)) (.int .i64 0) (.int .i64 0) (.slice none 0 0) 26
      rw [show (((w.alloc (.cells #[.int .i64 m, .int .i64 n, .slice b xs.length cap] 26)).alloc (.cells #[.bool up, .int .i64 a] 71)).alloc (.cells #[.int .i64 0, .int .i64 0, .slice none 0 0] 26)).heap.size = w.heap.size + 1 + 1 + 1 by simp] at this
      exact this.below hb1 (by simp)
    obtain ⟨d0, d1, d2, z0, z1, z2⟩ := BRA
    obtain ⟨g0, g1, g2, y0, y1, y2⟩ := BRB
    have HBZ := Lib.hid (bel_c HB0.out (Nat.le_refl _) hb1)
    have hs1 := hb1.size
    simp at hs1
    clear hb1
    go_wp2_with fail
    refine bodyPost_ret (v := .tuple #[.agg #[.int .i64 0, .int .i64 0, .slice none 0 0], .agg #[.int .i64 0, .int .i64 0, .slice none 0 0], .bool false]) (by simp [results, Try.results39, go_sem, d0, d1, d2, g0, g1, g2]) rfl ⟨_, _, rfl, ⟨by simp, .inl ⟨rfl, _, _, rfl⟩⟩, ⟨by simp, .inl ⟨rfl, _, _, rfl⟩⟩, ?_⟩
    refine Below.setCell (Below.setCell (Below.setCell (Below.setCell (Below.setCell (Below.setCell HBZ.out ?_ _) ?_ _) ?_ _) ?_ _) ?_ _) ?_ _ <;> (simp <;> omega)
  · have h' : cutB m n xs ⟨up, a⟩ = true := by simpa using h
    obtain ⟨e1, e2, e3, e4, e5, e6⟩ := s_yes h'
    rw [e1, e2, e3, e4, e5, e6, h']
    rw [h'] at CK
    obtain ⟨lay, hc⟩ := cut_of h'
    clear h h' e1 e2 e3 e4 e5 e6
    cases up
    · have hh := cut_in hc
      simp only [endC, if_false, Bool.false_eq_true] at hh
      obtain ⟨hh0, hh1⟩ := hh
      obtain ⟨m0, m1⟩ := lay.1
      obtain ⟨n0, n1⟩ := lay.2.1
      have x12 := lay.2.2.1.2
      have HF : Hid (∀ i, i < xs.length → Fit m n (pat xs i)) := Lib.hid (fun i hi => lay.fit hi)
      obtain ⟨LA, hLA⟩ : ∃ LA : List P5 → Nat → List P5, LA = fun xs k => (xs.take k).filter fun pp => !sel2 ⟨false, a⟩ pp := ⟨_, rfl⟩
      obtain ⟨LB, hLB⟩ : ∃ LB : List P5 → Nat → List P5, LB = fun xs k => ((xs.take k).filter (sel2 ⟨false, a⟩)).map (mv (pX2 ⟨false, a⟩) (pY2 ⟨false, a⟩)) := ⟨_, rfl⟩
      have HEA : Hid (LA xs xs.length = pL1 m n ⟨false, a⟩ xs) := Lib.hid (by rw [hLA, pL1_sel lay hc]; simp only [List.take_length])
      have HEB : Hid (LB xs xs.length = pL2 m n ⟨false, a⟩ xs) := Lib.hid (by rw [hLB, pL2_sel lay hc]; simp only [List.take_length])
      have HLAL : Hid (∀ k, (LA xs k).length ≤ 12) := Lib.hid (fun k => by rw [hLA]; have := List.length_filter_le (fun pp => !sel2 ⟨false, a⟩ pp) (xs.take k); simp at this ⊢; omega)
      have HLBL : Hid (∀ k, (LB xs k).length ≤ 12) := Lib.hid (fun k => by rw [hLB]; have := List.length_filter_le (sel2 ⟨false, a⟩) (xs.take k); simp at this ⊢; omega)
      have HSA : Hid (∀ k, k < xs.length → ¬ a ≤ (pat xs k).y → LA xs (k + 1) = LA xs k ++ [pat xs k] ∧ LB xs (k + 1) = LB xs k) := Lib.hid (fun k hk hz => by
        rw [hLA, hLB]; simp only [List.take_succ_eq_append_getElem hk, ← pat_get hk, List.filter_append, List.map_append]
        generalize pat xs k = d at hz ⊢
        have e : sel2 ⟨false, a⟩ d = false := by show decide (a ≤ d.y) = false; exact decide_eq_false hz
        simp [e])
      have HSB : Hid (∀ k, k < xs.length → a ≤ (pat xs k).y → LA xs (k + 1) = LA xs k ∧ LB xs (k + 1) = LB xs k ++ [⟨(pat xs k).x, (pat xs k).y - a, (pat xs k).w, (pat xs k).h, (pat xs k).c⟩]) := Lib.hid (fun k hk hz => by
        rw [hLA, hLB]; simp only [List.take_succ_eq_append_getElem hk, ← pat_get hk, List.filter_append, List.map_append]
        generalize pat xs k = d at hz ⊢
        have e : sel2 ⟨false, a⟩ d = true := by show decide (a ≤ d.y) = true; exact decide_eq_true hz
        simp [e, mv, pX2, pY2])
      have HA0 : Hid (LA xs 0 = []) := Lib.hid (by rw [hLA]; rfl)
      have HB00 : Hid (LB xs 0 = []) := Lib.hid (by rw [hLB]; rfl)
      clear hLA hLB lay hc
      show Calls _ _ _ _ (SplitLW m a (pL1 m n ⟨false, a⟩ xs) m (n - a) (pL2 m n ⟨false, a⟩ xs) true w)
      rw [← HEA.out, ← HEB.out]
      clear HEA HEB
      go_enter Try.func39, Try.ntmps39
      go_wp2_with fail
      refine (CK.out _ HB0.out).mono ?_
      rintro e w1 ⟨rfl, hb1⟩
      have BRA : BoxL (w.heap.size + 1 + 1) (.int .i64 0) (.int .i64 0) (.slice none 0 0) w1 := by
        have := BoxL.new ((w.alloc (.cells #[.int .i64 m, .int .i64 n, .slice b xs.length cap] 26)).alloc (.cells #[.bool false, .int .i64 a] 71)) (.int .i64 0) (.int .i64 0) (.slice none 0 0) 26
        rw [show ((w.alloc (.cells #[.int .i64 m, .int .i64 n, .slice b xs.length cap] 26)).alloc (.cells #[.bool false, .int .i64 a] 71)).heap.size = w.heap.size + 1 + 1 by simp] at this
        exact (this.below (bel0 _ (.cells #[.int .i64 0, .int .i64 0, .slice none 0 0] 26)) (by simp)).below hb1 (by simp)
      have BRB : BoxL (w.heap.size + 1 + 1 + 1) (.int .i64 0) (.int .i64 0) (.slice none 0 0) w1 := by
        have := BoxL.new (((w.alloc (.cells #[.int .i64 m, .int .i64 n, .slice b xs.length cap] 26)).alloc (.cells #[.bool false, .int .i64 a] 71)).alloc (.cells #[.int .i64 0, .int .i64 0, .slice none 0 0] 26)) (.int .i64 0) (.int .i64 0) (.slice none 0 0) 26
        rw [show (((w.alloc (.cells #[.int .i64 m, .int .i64 n, .slice b xs.length cap] 26)).alloc (.cells #[.bool false, .int .i64 a] 71)).alloc (.cells #[.int .i64 0, .int .i64 0, .slice none 0 0] 26)).heap.size = w.heap.size + 1 + 1 + 1 by simp] at this
        exact this.below hb1 (by simp)
      have a0 := kept (p := ⟨w.heap.size, 0, none⟩) (x := .int .i64 m) hb1 (by exact kept (bel0 _ _) (kept (bel0 _ _) (kept (bel0 _ _) (by go_simp))))
      have a1 := kept (p := ⟨w.heap.size, 1, none⟩) (x := .int .i64 n) hb1 (by exact kept (bel0 _ _) (kept (bel0 _ _) (kept (bel0 _ _) (by go_simp))))
      have a2 := kept (p := ⟨w.heap.size, 2, none⟩) (x := .slice b xs.length cap) hb1 (by exact kept (bel0 _ _) (kept (bel0 _ _) (kept (bel0 _ _) (by go_simp))))
      have a3 := kept (p := ⟨w.heap.size + 1, 0, none⟩) (x := .bool false) hb1 (by exact kept (bel0 _ _) (kept (bel0 _ _) (by go_simp)))
      have a4 := kept (p := ⟨w.heap.size + 1, 1, none⟩) (x := .int .i64 a) hb1 (by exact kept (bel0 _ _) (kept (bel0 _ _) (by go_simp)))
      have HB1 := Lib.hid (bel_c HB0.out (Nat.le_refl _) hb1)
      have hs1 := hb1.size
      simp at hs1
      have HRA := Lib.hid BRA
      have HRB := Lib.hid BRB
      clear hb1 BRA BRB CK HB0
      have hp1 : w.heap.size + 1 + 1 + 1 < w1.heap.size := by omega
      have WS0 : Hid (BoxL w1.heap.size (.int .i64 m) (.int .i64 a) (.slice none 0 0) ((w1.alloc (.cells #[.int .i64 m, .int .i64 a, .slice none 0 0] 26)).alloc (.cells #[.int .i64 m, .int .i64 (n - a), .slice none 0 0] 26)) ∧ BoxL (w1.heap.size + 1) (.int .i64 m) (.int .i64 (n - a)) (.slice none 0 0) ((w1.alloc (.cells #[.int .i64 m, .int .i64 a, .slice none 0 0] 26)).alloc (.cells #[.int .i64 m, .int .i64 (n - a), .slice none 0 0] 26)) ∧ Below w1.heap.size w1 ((w1.alloc (.cells #[.int .i64 m, .int .i64 a, .slice none 0 0] 26)).alloc (.cells #[.int .i64 m, .int .i64 (n - a), .slice none 0 0] 26)) ∧ w1.heap.size + 1 + 1 ≤ ((w1.alloc (.cells #[.int .i64 m, .int .i64 a, .slice none 0 0] 26)).alloc (.cells #[.int .i64 m, .int .i64 (n - a), .slice none 0 0] 26)).heap.size) := Lib.hid (by
        refine ⟨(BoxL.new w1 _ _ _ _).below (bel0 _ _) (by simp), ?_, bel_n (bel0 _ _) (Nat.le_refl _) _, by simp⟩
        have := BoxL.new (w1.alloc (.cells #[.int .i64 m, .int .i64 a, .slice none 0 0] 26)) (.int .i64 m) (.int .i64 (n - a)) (.slice none 0 0) 26
        simpa using this)
      have Ka0 : ∀ o, (w1.alloc o).cell? ⟨w.heap.size, 0, none⟩ = some (.int .i64 m) := fun o => kept (bel0 w1 o) a0
      have La0 : ∀ o o', ((w1.alloc o).alloc o').cell? ⟨w.heap.size, 0, none⟩ = some (.int .i64 m) := fun o o' => kept (bel0 _ o') (Ka0 o)
      have Ka1 : ∀ o, (w1.alloc o).cell? ⟨w.heap.size, 1, none⟩ = some (.int .i64 n) := fun o => kept (bel0 w1 o) a1
      have La1 : ∀ o o', ((w1.alloc o).alloc o').cell? ⟨w.heap.size, 1, none⟩ = some (.int .i64 n) := fun o o' => kept (bel0 _ o') (Ka1 o)
      have Ka2 : ∀ o, (w1.alloc o).cell? ⟨w.heap.size, 2, none⟩ = some (.slice b xs.length cap) := fun o => kept (bel0 w1 o) a2
      have La2 : ∀ o o', ((w1.alloc o).alloc o').cell? ⟨w.heap.size, 2, none⟩ = some (.slice b xs.length cap) := fun o o' => kept (bel0 _ o') (Ka2 o)
      have Ka3 : ∀ o, (w1.alloc o).cell? ⟨w.heap.size + 1, 0, none⟩ = some (.bool false) := fun o => kept (bel0 w1 o) a3
      have La3 : ∀ o o', ((w1.alloc o).alloc o').cell? ⟨w.heap.size + 1, 0, none⟩ = some (.bool false) := fun o o' => kept (bel0 _ o') (Ka3 o)
      have Ka4 : ∀ o, (w1.alloc o).cell? ⟨w.heap.size + 1, 1, none⟩ = some (.int .i64 a) := fun o => kept (bel0 w1 o) a4
      have La4 : ∀ o o', ((w1.alloc o).alloc o').cell? ⟨w.heap.size + 1, 1, none⟩ = some (.int .i64 a) := fun o o' => kept (bel0 _ o') (Ka4 o)
      go_wp2_with fail
      clear Ka0 La0 Ka1 La1 Ka2 La2 Ka3 La3 Ka4 La4
      go_loopw [9] (fun i wr => ∃ (k : Nat) (vA vB : Value), k ≤ xs.length ∧ i = .int .i64 k ∧ Hid (BoxL w1.heap.size (.int .i64 m) (.int .i64 a) vA wr) ∧ Hid (BoxL (w1.heap.size + 1) (.int .i64 m) (.int .i64 (n - a)) vB wr) ∧ Hid (wr.ownsRow (w1.heap.size + 1 + 1) 34 5 vA (LA xs k).length (placesPat (LA xs k))) ∧ Hid (wr.ownsRow (w1.heap.size + 1 + 1) 34 5 vB (LB xs k).length (placesPat (LB xs k))) ∧ Hid (Dis vA vB) ∧ Below w1.heap.size w1 wr) (fun i _ => xs.length - (intOf i).toNat)
      case atStart => exact ⟨0, _, _, Nat.zero_le _, rfl, Lib.hid WS0.out.1, Lib.hid WS0.out.2.1, Lib.hid (by rw [HA0.out]; exact World.ownsRow_nil _ _ _ _), Lib.hid (by rw [HB00.out]; exact World.ownsRow_nil _ _ _ _), Lib.hid (by intro g h; cases h), WS0.out.2.2.1⟩
      case round =>
        obtain ⟨k, vA, vB, hk, rfl, HBA, HBB, HOA, HOB, HDI, hbel⟩ := hrel
        have hlA := HBA.out.lt
        have hlB := HBB.out.lt
        have b0 : wr.cell? ⟨w.heap.size, 0, none⟩ = some (.int .i64 m) := (hbel.cell (p := ⟨w.heap.size, 0, none⟩) (by simp; omega)).trans a0
        have b1 : wr.cell? ⟨w.heap.size, 1, none⟩ = some (.int .i64 n) := (hbel.cell (p := ⟨w.heap.size, 1, none⟩) (by simp; omega)).trans a1
        have b2 : wr.cell? ⟨w.heap.size, 2, none⟩ = some (.slice b xs.length cap) := (hbel.cell (p := ⟨w.heap.size, 2, none⟩) (by simp; omega)).trans a2
        have b3 : wr.cell? ⟨w.heap.size + 1, 0, none⟩ = some (.bool false) := (hbel.cell (p := ⟨w.heap.size + 1, 0, none⟩) (by simp; omega)).trans a3
        have b4 : wr.cell? ⟨w.heap.size + 1, 1, none⟩ = some (.int .i64 a) := (hbel.cell (p := ⟨w.heap.size + 1, 1, none⟩) (by simp; omega)).trans a4
        have hps := hbel.size
        by_cases hlt : k < xs.length
        · obtain ⟨g, rfl, hg, hg1, hel, _⟩ := R.out.at ((HB1.out.trans (hbel.mono (by omega))).mono hhi) hlt
          obtain ⟨q0, q1, q2, q3, q4⟩ := hel
          obtain ⟨d, hd⟩ : ∃ d, d = xs.getD k P5.zero := ⟨_, rfl⟩
          obtain ⟨⟨f00, f01⟩, ⟨f10, f11⟩, ⟨f20, f21⟩, ⟨f30, f31⟩, _⟩ : Fit m n d := by rw [hd]; exact HF.out k hlt
          rw [← hd] at q0 q1 q2 q3 q4
          have Kb0 : ∀ o, (wr.alloc o).cell? ⟨w.heap.size, 0, none⟩ = some (.int .i64 m) := fun o => kept (bel0 wr o) b0
          have Kb1 : ∀ o, (wr.alloc o).cell? ⟨w.heap.size, 1, none⟩ = some (.int .i64 n) := fun o => kept (bel0 wr o) b1
          have Kb2 : ∀ o, (wr.alloc o).cell? ⟨w.heap.size, 2, none⟩ = some (.slice (some ⟨g, 0, none⟩) xs.length cap) := fun o => kept (bel0 wr o) b2
          have Kb3 : ∀ o, (wr.alloc o).cell? ⟨w.heap.size + 1, 0, none⟩ = some (.bool false) := fun o => kept (bel0 wr o) b3
          have Kb4 : ∀ o, (wr.alloc o).cell? ⟨w.heap.size + 1, 1, none⟩ = some (.int .i64 a) := fun o => kept (bel0 wr o) b4
          have HLA := Lib.hid (HLAL.out k)
          have HLB := Lib.hid (HLBL.out k)
          by_cases z : a ≤ d.y
          · have HEW : Hid (LB xs (k + 1) = LB xs k ++ [⟨d.x, (d.y - a), d.w, d.h, d.c⟩]) := Lib.hid (by rw [hd]; exact (HSB.out k hlt (by rw [hd] at z; exact z)).2)
            have HEO : Hid (LA xs (k + 1) = LA xs k) := Lib.hid ((HSB.out k hlt (by rw [hd] at z; exact z)).1)
            clear hd
            have WW : Below wr.heap.size wr ((wr.alloc (.cells #[.int .i64 d.x, .int .i64 (d.y - a), .int .i64 d.w, .int .i64 d.h, .int .i64 d.c] 34)).alloc (.cells #[.int .i64 d.x, .int .i64 (d.y - a), .int .i64 d.w, .int .i64 d.h, .int .i64 d.c] 34)) := bel_n (bel0 wr _) (Nat.le_refl _) _
            have HBA2 := Lib.hid (HBA.out.below WW (by omega))
            have HBB2 := Lib.hid (HBB.out.below WW (by omega))
            have HOA2 := Lib.hid (owL HOA.out WW)
            have HOB2 := Lib.hid (owL HOB.out WW)
            have HB2 := Lib.hid (hbel.trans (WW.mono (by omega)))
            have HNW := Lib.hid (newsL (wr.alloc (.cells #[.int .i64 d.x, .int .i64 (d.y - a), .int .i64 d.w, .int .i64 d.h, .int .i64 d.c] 34)) (wr.heap.size + 1) #[.int .i64 d.x, .int .i64 (d.y - a), .int .i64 d.w, .int .i64 d.h, .int .i64 d.c] 34 (by simp))
            have HS : Hid (w1.heap.size + 1 + 1 ≤ ((wr.alloc (.cells #[.int .i64 d.x, .int .i64 (d.y - a), .int .i64 d.w, .int .i64 d.h, .int .i64 d.c] 34)).alloc (.cells #[.int .i64 d.x, .int .i64 (d.y - a), .int .i64 d.w, .int .i64 d.h, .int .i64 d.c] 34)).heap.size) := Lib.hid (by simp; omega)
            have HSZ : Hid (wr.heap.size + 1 + 1 ≤ ((wr.alloc (.cells #[.int .i64 d.x, .int .i64 (d.y - a), .int .i64 d.w, .int .i64 d.h, .int .i64 d.c] 34)).alloc (.cells #[.int .i64 d.x, .int .i64 (d.y - a), .int .i64 d.w, .int .i64 d.h, .int .i64 d.c] 34)).heap.size ∧ ((wr.alloc (.cells #[.int .i64 d.x, .int .i64 (d.y - a), .int .i64 d.w, .int .i64 d.h, .int .i64 d.c] 34)).alloc (.cells #[.int .i64 d.x, .int .i64 (d.y - a), .int .i64 d.w, .int .i64 d.h, .int .i64 d.c] 34)).heap.size ≤ wr.heap.size + 1 + 1) := Lib.hid (by simp)
            have KK : ∀ o, (wr.alloc o).cell? ⟨w1.heap.size + 1, 2, none⟩ = some vB := fun o => (HBB.out.below (bel0 wr o) (by omega)).2.2.1
            have KF : ∀ o, (wr.alloc o).frozen? ⟨w1.heap.size + 1, 2, none⟩ = false := fun o => (HBB.out.below (bel0 wr o) (by omega)).2.2.2.2.2
            have hlW : (LB xs k).length ≤ 12 := HLB.out
            generalize hgl : (LB xs k).length = lw at hlW HOB2
            have HGL := Lib.hid hgl
            clear WW hbel HBA HBB HOA HOB hgl
            go_wp2_with (at_builtin; refine wpList_append_lies _ rfl _ _ 24 rfl (w1.heap.size + 1 + 1) 34 i0 _ 5 40 Try.underlying24 hi0 hz0 hz1 hz2 rfl (by decide) _ _ _ rfl HOB2.out ⟨wr.heap.size + 1, 0, none⟩ 1 1 [.int .i64 d.x, .int .i64 (d.y - a), .int .i64 d.w, .int .i64 d.h, .int .i64 d.c] rfl rfl HNW.out (by simp [Value.oneCell']) (by omega) (by unfold maxLen; omega) (by omega) HS.out (wr.heap.size + 1 + 1) (by simp) ?_; intro gg cc w5 hown5 hgrow hat hlt5; have hbw := (Below.refl (w1.heap.size + 1 + 1) _).grown hgrow HS.out (ogL HOB2.out); have hx := (HBB2.out.below hbw (by omega)); have x2 := hx.2.2.1; have xf := hx.2.2.2.2.2)
            have HO5 := Lib.hid (HOA2.out.kept hgrow (dis_kept HDI.out))
            have HD5 : Hid (Dis vA (.slice (some ⟨gg, 0, none⟩) (lw + 1) cc)) := Lib.hid (dis_symm (dis_new (dis_symm HDI.out) HOA2.out hat (by have := HSZ.out; omega)))
            have HBA5 := Lib.hid (HBA2.out.below hbw (by omega))
            have HBB5 := Lib.hid (HBB2.out.below hbw (by omega))
            have HB5 : Hid (Below w1.heap.size w1 w5) := Lib.hid (HB2.out.trans (hbw.mono (by omega)))
            have HN : Hid (w5.ownsRow (w1.heap.size + 1 + 1) 34 5 (.slice (some ⟨gg, 0, none⟩) (lw + 1) cc) (LB xs (k + 1)).length (placesPat (LB xs (k + 1)))) := Lib.hid (by rw [HEW.out, placesPat_more, List.length_append, HGL.out]; exact hown5)
            have HO5' : Hid (w5.ownsRow (w1.heap.size + 1 + 1) 34 5 vA (LA xs (k + 1)).length (placesPat (LA xs (k + 1)))) := Lib.hid (by rw [HEO.out]; exact HO5.out)
            have hs5 : w1.heap.size + 1 + 1 ≤ w5.heap.size := Nat.le_trans HS.out hbw.size
            clear hown5 hgrow hat hlt5 hbw hx HOA2 HOB2 HNW HBA2 HBB2 HB2 KK KF HO5 Kb0 Kb1 Kb2 Kb3 Kb4
            go_wp2_with fail
            go_roundw
            case rel => exact ⟨k + 1, _, _, by omega, by go_num, Lib.hid (HBA5.out.far (by simp <;> omega) _), Lib.hid (HBB5.out.store _), Lib.hid (osL HO5'.out (by simp <;> omega) _), Lib.hid (osL HN.out (by simp <;> omega) _), HD5, (HB5.out).setCell (p := ⟨w1.heap.size + 1, 2, none⟩) (by simp) _⟩
            case measure => simp [intOf] <;> omega
          · have HEW : Hid (LA xs (k + 1) = LA xs k ++ [⟨d.x, d.y, d.w, d.h, d.c⟩]) := Lib.hid (by rw [hd]; exact (HSA.out k hlt (by rw [hd] at z; first | exact z | (have z2 : ¬ a ≤ (pat xs k).y := z; omega))).1)
            have HEO : Hid (LB xs (k + 1) = LB xs k) := Lib.hid ((HSA.out k hlt (by rw [hd] at z; first | exact z | (have z2 : ¬ a ≤ (pat xs k).y := z; omega))).2)
            clear hd
            have WW : Below wr.heap.size wr ((wr.alloc (.cells #[.int .i64 d.x, .int .i64 d.y, .int .i64 d.w, .int .i64 d.h, .int .i64 d.c] 34)).alloc (.cells #[.int .i64 d.x, .int .i64 d.y, .int .i64 d.w, .int .i64 d.h, .int .i64 d.c] 34)) := bel_n (bel0 wr _) (Nat.le_refl _) _
            have HBA2 := Lib.hid (HBA.out.below WW (by omega))
            have HBB2 := Lib.hid (HBB.out.below WW (by omega))
            have HOA2 := Lib.hid (owL HOA.out WW)
            have HOB2 := Lib.hid (owL HOB.out WW)
            have HB2 := Lib.hid (hbel.trans (WW.mono (by omega)))
            have HNW := Lib.hid (newsL (wr.alloc (.cells #[.int .i64 d.x, .int .i64 d.y, .int .i64 d.w, .int .i64 d.h, .int .i64 d.c] 34)) (wr.heap.size + 1) #[.int .i64 d.x, .int .i64 d.y, .int .i64 d.w, .int .i64 d.h, .int .i64 d.c] 34 (by simp))
            have HS : Hid (w1.heap.size + 1 + 1 ≤ ((wr.alloc (.cells #[.int .i64 d.x, .int .i64 d.y, .int .i64 d.w, .int .i64 d.h, .int .i64 d.c] 34)).alloc (.cells #[.int .i64 d.x, .int .i64 d.y, .int .i64 d.w, .int .i64 d.h, .int .i64 d.c] 34)).heap.size) := Lib.hid (by simp; omega)
            have HSZ : Hid (wr.heap.size + 1 + 1 ≤ ((wr.alloc (.cells #[.int .i64 d.x, .int .i64 d.y, .int .i64 d.w, .int .i64 d.h, .int .i64 d.c] 34)).alloc (.cells #[.int .i64 d.x, .int .i64 d.y, .int .i64 d.w, .int .i64 d.h, .int .i64 d.c] 34)).heap.size ∧ ((wr.alloc (.cells #[.int .i64 d.x, .int .i64 d.y, .int .i64 d.w, .int .i64 d.h, .int .i64 d.c] 34)).alloc (.cells #[.int .i64 d.x, .int .i64 d.y, .int .i64 d.w, .int .i64 d.h, .int .i64 d.c] 34)).heap.size ≤ wr.heap.size + 1 + 1) := Lib.hid (by simp)
            have KK : ∀ o, (wr.alloc o).cell? ⟨w1.heap.size, 2, none⟩ = some vA := fun o => (HBA.out.below (bel0 wr o) (by omega)).2.2.1
            have KF : ∀ o, (wr.alloc o).frozen? ⟨w1.heap.size, 2, none⟩ = false := fun o => (HBA.out.below (bel0 wr o) (by omega)).2.2.2.2.2
            have hlW : (LA xs k).length ≤ 12 := HLA.out
            generalize hgl : (LA xs k).length = lw at hlW HOA2
            have HGL := Lib.hid hgl
            clear WW hbel HBA HBB HOA HOB hgl
            go_wp2_with (at_builtin; refine wpList_append_lies _ rfl _ _ 24 rfl (w1.heap.size + 1 + 1) 34 i0 _ 5 40 Try.underlying24 hi0 hz0 hz1 hz2 rfl (by decide) _ _ _ rfl HOA2.out ⟨wr.heap.size + 1, 0, none⟩ 1 1 [.int .i64 d.x, .int .i64 d.y, .int .i64 d.w, .int .i64 d.h, .int .i64 d.c] rfl rfl HNW.out (by simp [Value.oneCell']) (by omega) (by unfold maxLen; omega) (by omega) HS.out (wr.heap.size + 1 + 1) (by simp) ?_; intro gg cc w5 hown5 hgrow hat hlt5; have hbw := (Below.refl (w1.heap.size + 1 + 1) _).grown hgrow HS.out (ogL HOA2.out); have hx := (HBA2.out.below hbw (by omega)); have x2 := hx.2.2.1; have xf := hx.2.2.2.2.2)
            have HO5 := Lib.hid (HOB2.out.kept hgrow (dis_kept (dis_symm HDI.out)))
            have HD5 : Hid (Dis (.slice (some ⟨gg, 0, none⟩) (lw + 1) cc) vB) := Lib.hid (dis_new HDI.out HOB2.out hat (by have := HSZ.out; omega))
            have HBA5 := Lib.hid (HBA2.out.below hbw (by omega))
            have HBB5 := Lib.hid (HBB2.out.below hbw (by omega))
            have HB5 : Hid (Below w1.heap.size w1 w5) := Lib.hid (HB2.out.trans (hbw.mono (by omega)))
            have HN : Hid (w5.ownsRow (w1.heap.size + 1 + 1) 34 5 (.slice (some ⟨gg, 0, none⟩) (lw + 1) cc) (LA xs (k + 1)).length (placesPat (LA xs (k + 1)))) := Lib.hid (by rw [HEW.out, placesPat_more, List.length_append, HGL.out]; exact hown5)
            have HO5' : Hid (w5.ownsRow (w1.heap.size + 1 + 1) 34 5 vB (LB xs (k + 1)).length (placesPat (LB xs (k + 1)))) := Lib.hid (by rw [HEO.out]; exact HO5.out)
            have hs5 : w1.heap.size + 1 + 1 ≤ w5.heap.size := Nat.le_trans HS.out hbw.size
            clear hown5 hgrow hat hlt5 hbw hx HOA2 HOB2 HNW HBA2 HBB2 HB2 KK KF HO5 Kb0 Kb1 Kb2 Kb3 Kb4
            go_wp2_with fail
            go_roundw
            case rel => exact ⟨k + 1, _, _, by omega, by go_num, Lib.hid (HBA5.out.store _), Lib.hid (HBB5.out.far (by simp <;> omega) _), Lib.hid (osL HN.out (by simp <;> omega) _), Lib.hid (osL HO5'.out (by simp <;> omega) _), HD5, (HB5.out).setCell (p := ⟨w1.heap.size, 2, none⟩) (by simp) _⟩
            case measure => simp [intOf] <;> omega
        · obtain rfl : k = xs.length := by omega
          have RA : PatIn (w1.heap.size + 1 + 1) wr.heap.size wr vA (LA xs xs.length) := PatIn.of_owns HOA.out (by have := HLAL.out xs.length; omega)
          have RB : PatIn (w1.heap.size + 1 + 1) wr.heap.size wr vB (LB xs xs.length) := PatIn.of_owns HOB.out (by have := HLBL.out xs.length; omega)
          obtain ⟨aA, cA, rfl⟩ := RA.form
          obtain ⟨aB, cB, rfl⟩ := RB.form
          have RA0 := Lib.hid RA
          have RB0 := Lib.hid RB
          have HRA2 := Lib.hid (HRA.out.below hbel (by omega))
          have HRB2 := Lib.hid (HRB.out.below hbel (by omega))
          have HBZ := Lib.hid (HB1.out.trans (hbel.mono (by omega)))
          obtain ⟨d0, d1, d2, z0, z1, z2⟩ := HRA2.out
          obtain ⟨g0, g1, g2, y0, y1, y2⟩ := HRB2.out
          obtain ⟨s0, s1, s2, _, _, _⟩ := HBA.out
          obtain ⟨r0, r1, r2, _, _, _⟩ := HBB.out
          clear RA RB hbel HOA HOB HBA HBB
          go_wp2_with fail
          go_region
          go_wp2_with fail
          refine bodyPost_ret (v := .tuple #[.agg #[.int .i64 m, .int .i64 a, .slice aA (LA xs xs.length).length cA], .agg #[.int .i64 m, .int .i64 (n - a), .slice aB (LB xs xs.length).length cB], .bool true]) (by simp [results, Try.results39, go_sem, d0, d1, d2, g0, g1, g2]) rfl ⟨_, _, rfl, ?_, ?_, ?_⟩
          · refine PatIn.wide (lo := w1.heap.size + 1 + 1) (hi := wr.heap.size) (PatIn.below (PatIn.set_far (PatIn.set_far (PatIn.set_far (PatIn.set_far (PatIn.set_far (PatIn.set_far (RA0.out) ?_ _) ?_ _) ?_ _) ?_ _) ?_ _) ?_ _) (bel_dr9 (Below.refl _ _))) ?_ ?_
            all_goals first | omega | (simp [World.setCell] <;> omega)
          · refine PatIn.wide (lo := w1.heap.size + 1 + 1) (hi := wr.heap.size) (PatIn.below (PatIn.set_far (PatIn.set_far (PatIn.set_far (PatIn.set_far (PatIn.set_far (PatIn.set_far (RB0.out) ?_ _) ?_ _) ?_ _) ?_ _) ?_ _) ?_ _) (bel_dr9 (Below.refl _ _))) ?_ ?_
            all_goals first | omega | (simp [World.setCell] <;> omega)
          · refine bel_dr9 (Below.setCell (Below.setCell (Below.setCell (Below.setCell (Below.setCell (Below.setCell HBZ.out ?_ _) ?_ _) ?_ _) ?_ _) ?_ _) ?_ _)
            all_goals first | omega | (simp <;> omega)
    · have hh := cut_in hc
      simp only [endC, if_true] at hh
      obtain ⟨hh0, hh1⟩ := hh
      obtain ⟨m0, m1⟩ := lay.1
      obtain ⟨n0, n1⟩ := lay.2.1
      have x12 := lay.2.2.1.2
      have HF : Hid (∀ i, i < xs.length → Fit m n (pat xs i)) := Lib.hid (fun i hi => lay.fit hi)
      obtain ⟨LA, hLA⟩ : ∃ LA : List P5 → Nat → List P5, LA = fun xs k => (xs.take k).filter fun pp => !sel2 ⟨true, a⟩ pp := ⟨_, rfl⟩
      obtain ⟨LB, hLB⟩ : ∃ LB : List P5 → Nat → List P5, LB = fun xs k => ((xs.take k).filter (sel2 ⟨true, a⟩)).map (mv (pX2 ⟨true, a⟩) (pY2 ⟨true, a⟩)) := ⟨_, rfl⟩
      have HEA : Hid (LA xs xs.length = pL1 m n ⟨true, a⟩ xs) := Lib.hid (by rw [hLA, pL1_sel lay hc]; simp only [List.take_length])
      have HEB : Hid (LB xs xs.length = pL2 m n ⟨true, a⟩ xs) := Lib.hid (by rw [hLB, pL2_sel lay hc]; simp only [List.take_length])
      have HLAL : Hid (∀ k, (LA xs k).length ≤ 12) := Lib.hid (fun k => by rw [hLA]; have := List.length_filter_le (fun pp => !sel2 ⟨true, a⟩ pp) (xs.take k); simp at this ⊢; omega)
      have HLBL : Hid (∀ k, (LB xs k).length ≤ 12) := Lib.hid (fun k => by rw [hLB]; have := List.length_filter_le (sel2 ⟨true, a⟩) (xs.take k); simp at this ⊢; omega)
      have HSA : Hid (∀ k, k < xs.length → ¬ a ≤ (pat xs k).x → LA xs (k + 1) = LA xs k ++ [pat xs k] ∧ LB xs (k + 1) = LB xs k) := Lib.hid (fun k hk hz => by
        rw [hLA, hLB]; simp only [List.take_succ_eq_append_getElem hk, ← pat_get hk, List.filter_append, List.map_append]
        generalize pat xs k = d at hz ⊢
        have e : sel2 ⟨true, a⟩ d = false := by show decide (a ≤ d.x) = false; exact decide_eq_false hz
        simp [e])
      have HSB : Hid (∀ k, k < xs.length → a ≤ (pat xs k).x → LA xs (k + 1) = LA xs k ∧ LB xs (k + 1) = LB xs k ++ [⟨(pat xs k).x - a, (pat xs k).y, (pat xs k).w, (pat xs k).h, (pat xs k).c⟩]) := Lib.hid (fun k hk hz => by
        rw [hLA, hLB]; simp only [List.take_succ_eq_append_getElem hk, ← pat_get hk, List.filter_append, List.map_append]
        generalize pat xs k = d at hz ⊢
        have e : sel2 ⟨true, a⟩ d = true := by show decide (a ≤ d.x) = true; exact decide_eq_true hz
        simp [e, mv, pX2, pY2])
      have HA0 : Hid (LA xs 0 = []) := Lib.hid (by rw [hLA]; rfl)
      have HB00 : Hid (LB xs 0 = []) := Lib.hid (by rw [hLB]; rfl)
      clear hLA hLB lay hc
      show Calls _ _ _ _ (SplitLW a n (pL1 m n ⟨true, a⟩ xs) (m - a) n (pL2 m n ⟨true, a⟩ xs) true w)
      rw [← HEA.out, ← HEB.out]
      clear HEA HEB
      go_enter Try.func39, Try.ntmps39
      go_wp2_with fail
      refine (CK.out _ HB0.out).mono ?_
      rintro e w1 ⟨rfl, hb1⟩
      have BRA : BoxL (w.heap.size + 1 + 1) (.int .i64 0) (.int .i64 0) (.slice none 0 0) w1 := by
        have := BoxL.new ((w.alloc (.cells #[.int .i64 m, .int .i64 n, .slice b xs.length cap] 26)).alloc (.cells #[.bool true, .int .i64 a] 71)) (.int .i64 0) (.int .i64 0) (.slice none 0 0) 26
        rw [show ((w.alloc (.cells #[.int .i64 m, .int .i64 n, .slice b xs.length cap] 26)).alloc (.cells #[.bool true, .int .i64 a] 71)).heap.size = w.heap.size + 1 + 1 by simp] at this
        exact (this.below (bel0 _ (.cells #[.int .i64 0, .int .i64 0, .slice none 0 0] 26)) (by simp)).below hb1 (by simp)
      have BRB : BoxL (w.heap.size + 1 + 1 + 1) (.int .i64 0) (.int .i64 0) (.slice none 0 0) w1 := by
        have := BoxL.new (((w.alloc (.cells #[.int .i64 m, .int .i64 n, .slice b xs.length cap] 26)).alloc (.cells #[.bool true, .int .i64 a] 71)).alloc (.cells #[.int .i64 0, .int .i64 0, .slice none 0 0] 26)) (.int .i64 0) (.int .i64 0) (.slice none 0 0) 26
        rw [show (((w.alloc (.cells #[.int .i64 m, .int .i64 n, .slice b xs.length cap] 26)).alloc (.cells #[.bool true, .int .i64 a] 71)).alloc (.cells #[.int .i64 0, .int .i64 0, .slice none 0 0] 26)).heap.size = w.heap.size + 1 + 1 + 1 by simp] at this
        exact this.below hb1 (by simp)
      have a0 := kept (p := ⟨w.heap.size, 0, none⟩) (x := .int .i64 m) hb1 (by exact kept (bel0 _ _) (kept (bel0 _ _) (kept (bel0 _ _) (by go_simp))))
      have a1 := kept (p := ⟨w.heap.size, 1, none⟩) (x := .int .i64 n) hb1 (by exact kept (bel0 _ _) (kept (bel0 _ _) (kept (bel0 _ _) (by go_simp))))
      have a2 := kept (p := ⟨w.heap.size, 2, none⟩) (x := .slice b xs.length cap) hb1 (by exact kept (bel0 _ _) (kept (bel0 _ _) (kept (bel0 _ _) (by go_simp))))
      have a3 := kept (p := ⟨w.heap.size + 1, 0, none⟩) (x := .bool true) hb1 (by exact kept (bel0 _ _) (kept (bel0 _ _) (by go_simp)))
      have a4 := kept (p := ⟨w.heap.size + 1, 1, none⟩) (x := .int .i64 a) hb1 (by exact kept (bel0 _ _) (kept (bel0 _ _) (by go_simp)))
      have HB1 := Lib.hid (bel_c HB0.out (Nat.le_refl _) hb1)
      have hs1 := hb1.size
      simp at hs1
      have HRA := Lib.hid BRA
      have HRB := Lib.hid BRB
      clear hb1 BRA BRB CK HB0
      have hp1 : w.heap.size + 1 + 1 + 1 < w1.heap.size := by omega
      have WS0 : Hid (BoxL w1.heap.size (.int .i64 a) (.int .i64 n) (.slice none 0 0) ((w1.alloc (.cells #[.int .i64 a, .int .i64 n, .slice none 0 0] 26)).alloc (.cells #[.int .i64 (m - a), .int .i64 n, .slice none 0 0] 26)) ∧ BoxL (w1.heap.size + 1) (.int .i64 (m - a)) (.int .i64 n) (.slice none 0 0) ((w1.alloc (.cells #[.int .i64 a, .int .i64 n, .slice none 0 0] 26)).alloc (.cells #[.int .i64 (m - a), .int .i64 n, .slice none 0 0] 26)) ∧ Below w1.heap.size w1 ((w1.alloc (.cells #[.int .i64 a, .int .i64 n, .slice none 0 0] 26)).alloc (.cells #[.int .i64 (m - a), .int .i64 n, .slice none 0 0] 26)) ∧ w1.heap.size + 1 + 1 ≤ ((w1.alloc (.cells #[.int .i64 a, .int .i64 n, .slice none 0 0] 26)).alloc (.cells #[.int .i64 (m - a), .int .i64 n, .slice none 0 0] 26)).heap.size) := Lib.hid (by
        refine ⟨(BoxL.new w1 _ _ _ _).below (bel0 _ _) (by simp), ?_, bel_n (bel0 _ _) (Nat.le_refl _) _, by simp⟩
        have := BoxL.new (w1.alloc (.cells #[.int .i64 a, .int .i64 n, .slice none 0 0] 26)) (.int .i64 (m - a)) (.int .i64 n) (.slice none 0 0) 26
        simpa using this)
      have Ka0 : ∀ o, (w1.alloc o).cell? ⟨w.heap.size, 0, none⟩ = some (.int .i64 m) := fun o => kept (bel0 w1 o) a0
      have La0 : ∀ o o', ((w1.alloc o).alloc o').cell? ⟨w.heap.size, 0, none⟩ = some (.int .i64 m) := fun o o' => kept (bel0 _ o') (Ka0 o)
      have Ka1 : ∀ o, (w1.alloc o).cell? ⟨w.heap.size, 1, none⟩ = some (.int .i64 n) := fun o => kept (bel0 w1 o) a1
      have La1 : ∀ o o', ((w1.alloc o).alloc o').cell? ⟨w.heap.size, 1, none⟩ = some (.int .i64 n) := fun o o' => kept (bel0 _ o') (Ka1 o)
      have Ka2 : ∀ o, (w1.alloc o).cell? ⟨w.heap.size, 2, none⟩ = some (.slice b xs.length cap) := fun o => kept (bel0 w1 o) a2
      have La2 : ∀ o o', ((w1.alloc o).alloc o').cell? ⟨w.heap.size, 2, none⟩ = some (.slice b xs.length cap) := fun o o' => kept (bel0 _ o') (Ka2 o)
      have Ka3 : ∀ o, (w1.alloc o).cell? ⟨w.heap.size + 1, 0, none⟩ = some (.bool true) := fun o => kept (bel0 w1 o) a3
      have La3 : ∀ o o', ((w1.alloc o).alloc o').cell? ⟨w.heap.size + 1, 0, none⟩ = some (.bool true) := fun o o' => kept (bel0 _ o') (Ka3 o)
      have Ka4 : ∀ o, (w1.alloc o).cell? ⟨w.heap.size + 1, 1, none⟩ = some (.int .i64 a) := fun o => kept (bel0 w1 o) a4
      have La4 : ∀ o o', ((w1.alloc o).alloc o').cell? ⟨w.heap.size + 1, 1, none⟩ = some (.int .i64 a) := fun o o' => kept (bel0 _ o') (Ka4 o)
      go_wp2_with fail
      clear Ka0 La0 Ka1 La1 Ka2 La2 Ka3 La3 Ka4 La4
      go_loopw [9] (fun i wr => ∃ (k : Nat) (vA vB : Value), k ≤ xs.length ∧ i = .int .i64 k ∧ Hid (BoxL w1.heap.size (.int .i64 a) (.int .i64 n) vA wr) ∧ Hid (BoxL (w1.heap.size + 1) (.int .i64 (m - a)) (.int .i64 n) vB wr) ∧ Hid (wr.ownsRow (w1.heap.size + 1 + 1) 34 5 vA (LA xs k).length (placesPat (LA xs k))) ∧ Hid (wr.ownsRow (w1.heap.size + 1 + 1) 34 5 vB (LB xs k).length (placesPat (LB xs k))) ∧ Hid (Dis vA vB) ∧ Below w1.heap.size w1 wr) (fun i _ => xs.length - (intOf i).toNat)
      case atStart => exact ⟨0, _, _, Nat.zero_le _, rfl, Lib.hid WS0.out.1, Lib.hid WS0.out.2.1, Lib.hid (by rw [HA0.out]; exact World.ownsRow_nil _ _ _ _), Lib.hid (by rw [HB00.out]; exact World.ownsRow_nil _ _ _ _), Lib.hid (by intro g h; cases h), WS0.out.2.2.1⟩
      case round =>
        obtain ⟨k, vA, vB, hk, rfl, HBA, HBB, HOA, HOB, HDI, hbel⟩ := hrel
        have hlA := HBA.out.lt
        have hlB := HBB.out.lt
        have b0 : wr.cell? ⟨w.heap.size, 0, none⟩ = some (.int .i64 m) := (hbel.cell (p := ⟨w.heap.size, 0, none⟩) (by simp; omega)).trans a0
        have b1 : wr.cell? ⟨w.heap.size, 1, none⟩ = some (.int .i64 n) := (hbel.cell (p := ⟨w.heap.size, 1, none⟩) (by simp; omega)).trans a1
        have b2 : wr.cell? ⟨w.heap.size, 2, none⟩ = some (.slice b xs.length cap) := (hbel.cell (p := ⟨w.heap.size, 2, none⟩) (by simp; omega)).trans a2
        have b3 : wr.cell? ⟨w.heap.size + 1, 0, none⟩ = some (.bool true) := (hbel.cell (p := ⟨w.heap.size + 1, 0, none⟩) (by simp; omega)).trans a3
        have b4 : wr.cell? ⟨w.heap.size + 1, 1, none⟩ = some (.int .i64 a) := (hbel.cell (p := ⟨w.heap.size + 1, 1, none⟩) (by simp; omega)).trans a4
        have hps := hbel.size
        by_cases hlt : k < xs.length
        · obtain ⟨g, rfl, hg, hg1, hel, _⟩ := R.out.at ((HB1.out.trans (hbel.mono (by omega))).mono hhi) hlt
          obtain ⟨q0, q1, q2, q3, q4⟩ := hel
          obtain ⟨d, hd⟩ : ∃ d, d = xs.getD k P5.zero := ⟨_, rfl⟩
          obtain ⟨⟨f00, f01⟩, ⟨f10, f11⟩, ⟨f20, f21⟩, ⟨f30, f31⟩, _⟩ : Fit m n d := by rw [hd]; exact HF.out k hlt
          rw [← hd] at q0 q1 q2 q3 q4
          have Kb0 : ∀ o, (wr.alloc o).cell? ⟨w.heap.size, 0, none⟩ = some (.int .i64 m) := fun o => kept (bel0 wr o) b0
          have Kb1 : ∀ o, (wr.alloc o).cell? ⟨w.heap.size, 1, none⟩ = some (.int .i64 n) := fun o => kept (bel0 wr o) b1
          have Kb2 : ∀ o, (wr.alloc o).cell? ⟨w.heap.size, 2, none⟩ = some (.slice (some ⟨g, 0, none⟩) xs.length cap) := fun o => kept (bel0 wr o) b2
          have Kb3 : ∀ o, (wr.alloc o).cell? ⟨w.heap.size + 1, 0, none⟩ = some (.bool true) := fun o => kept (bel0 wr o) b3
          have Kb4 : ∀ o, (wr.alloc o).cell? ⟨w.heap.size + 1, 1, none⟩ = some (.int .i64 a) := fun o => kept (bel0 wr o) b4
          have HLA := Lib.hid (HLAL.out k)
          have HLB := Lib.hid (HLBL.out k)
          by_cases z : a ≤ d.x
          · have HEW : Hid (LB xs (k + 1) = LB xs k ++ [⟨(d.x - a), d.y, d.w, d.h, d.c⟩]) := Lib.hid (by rw [hd]; exact (HSB.out k hlt (by rw [hd] at z; exact z)).2)
            have HEO : Hid (LA xs (k + 1) = LA xs k) := Lib.hid ((HSB.out k hlt (by rw [hd] at z; exact z)).1)
            clear hd
            have WW : Below wr.heap.size wr ((wr.alloc (.cells #[.int .i64 (d.x - a), .int .i64 d.y, .int .i64 d.w, .int .i64 d.h, .int .i64 d.c] 34)).alloc (.cells #[.int .i64 (d.x - a), .int .i64 d.y, .int .i64 d.w, .int .i64 d.h, .int .i64 d.c] 34)) := bel_n (bel0 wr _) (Nat.le_refl _) _
            have HBA2 := Lib.hid (HBA.out.below WW (by omega))
            have HBB2 := Lib.hid (HBB.out.below WW (by omega))
            have HOA2 := Lib.hid (owL HOA.out WW)
            have HOB2 := Lib.hid (owL HOB.out WW)
            have HB2 := Lib.hid (hbel.trans (WW.mono (by omega)))
            have HNW := Lib.hid (newsL (wr.alloc (.cells #[.int .i64 (d.x - a), .int .i64 d.y, .int .i64 d.w, .int .i64 d.h, .int .i64 d.c] 34)) (wr.heap.size + 1) #[.int .i64 (d.x - a), .int .i64 d.y, .int .i64 d.w, .int .i64 d.h, .int .i64 d.c] 34 (by simp))
            have HS : Hid (w1.heap.size + 1 + 1 ≤ ((wr.alloc (.cells #[.int .i64 (d.x - a), .int .i64 d.y, .int .i64 d.w, .int .i64 d.h, .int .i64 d.c] 34)).alloc (.cells #[.int .i64 (d.x - a), .int .i64 d.y, .int .i64 d.w, .int .i64 d.h, .int .i64 d.c] 34)).heap.size) := Lib.hid (by simp; omega)
            have HSZ : Hid (wr.heap.size + 1 + 1 ≤ ((wr.alloc (.cells #[.int .i64 (d.x - a), .int .i64 d.y, .int .i64 d.w, .int .i64 d.h, .int .i64 d.c] 34)).alloc (.cells #[.int .i64 (d.x - a), .int .i64 d.y, .int .i64 d.w, .int .i64 d.h, .int .i64 d.c] 34)).heap.size ∧ ((wr.alloc (.cells #[.int .i64 (d.x - a), .int .i64 d.y, .int .i64 d.w, .int .i64 d.h, .int .i64 d.c] 34)).alloc (.cells #[.int .i64 (d.x - a), .int .i64 d.y, .int .i64 d.w, .int .i64 d.h, .int .i64 d.c] 34)).heap.size ≤ wr.heap.size + 1 + 1) := Lib.hid (by simp)
            have KK : ∀ o, (wr.alloc o).cell? ⟨w1.heap.size + 1, 2, none⟩ = some vB := fun o => (HBB.out.below (bel0 wr o) (by omega)).2.2.1
            have KF : ∀ o, (wr.alloc o).frozen? ⟨w1.heap.size + 1, 2, none⟩ = false := fun o => (HBB.out.below (bel0 wr o) (by omega)).2.2.2.2.2
            have hlW : (LB xs k).length ≤ 12 := HLB.out
            generalize hgl : (LB xs k).length = lw at hlW HOB2
            have HGL := Lib.hid hgl
            clear WW hbel HBA HBB HOA HOB hgl
            go_wp2_with (at_builtin; refine wpList_append_lies _ rfl _ _ 24 rfl (w1.heap.size + 1 + 1) 34 i0 _ 5 40 Try.underlying24 hi0 hz0 hz1 hz2 rfl (by decide) _ _ _ rfl HOB2.out ⟨wr.heap.size + 1, 0, none⟩ 1 1 [.int .i64 (d.x - a), .int .i64 d.y, .int .i64 d.w, .int .i64 d.h, .int .i64 d.c] rfl rfl HNW.out (by simp [Value.oneCell']) (by omega) (by unfold maxLen; omega) (by omega) HS.out (wr.heap.size + 1 + 1) (by simp) ?_; intro gg cc w5 hown5 hgrow hat hlt5; have hbw := (Below.refl (w1.heap.size + 1 + 1) _).grown hgrow HS.out (ogL HOB2.out); have hx := (HBB2.out.below hbw (by omega)); have x2 := hx.2.2.1; have xf := hx.2.2.2.2.2)
            have HO5 := Lib.hid (HOA2.out.kept hgrow (dis_kept HDI.out))
            have HD5 : Hid (Dis vA (.slice (some ⟨gg, 0, none⟩) (lw + 1) cc)) := Lib.hid (dis_symm (dis_new (dis_symm HDI.out) HOA2.out hat (by have := HSZ.out; omega)))
            have HBA5 := Lib.hid (HBA2.out.below hbw (by omega))
            have HBB5 := Lib.hid (HBB2.out.below hbw (by omega))
            have HB5 : Hid (Below w1.heap.size w1 w5) := Lib.hid (HB2.out.trans (hbw.mono (by omega)))
            have HN : Hid (w5.ownsRow (w1.heap.size + 1 + 1) 34 5 (.slice (some ⟨gg, 0, none⟩) (lw + 1) cc) (LB xs (k + 1)).length (placesPat (LB xs (k + 1)))) := Lib.hid (by rw [HEW.out, placesPat_more, List.length_append, HGL.out]; exact hown5)
            have HO5' : Hid (w5.ownsRow (w1.heap.size + 1 + 1) 34 5 vA (LA xs (k + 1)).length (placesPat (LA xs (k + 1)))) := Lib.hid (by rw [HEO.out]; exact HO5.out)
            have hs5 : w1.heap.size + 1 + 1 ≤ w5.heap.size := Nat.le_trans HS.out hbw.size
            clear hown5 hgrow hat hlt5 hbw hx HOA2 HOB2 HNW HBA2 HBB2 HB2 KK KF HO5 Kb0 Kb1 Kb2 Kb3 Kb4
            go_wp2_with fail
            go_roundw
            case rel => exact ⟨k + 1, _, _, by omega, by go_num, Lib.hid (HBA5.out.far (by simp <;> omega) _), Lib.hid (HBB5.out.store _), Lib.hid (osL HO5'.out (by simp <;> omega) _), Lib.hid (osL HN.out (by simp <;> omega) _), HD5, (HB5.out).setCell (p := ⟨w1.heap.size + 1, 2, none⟩) (by simp) _⟩
            case measure => simp [intOf] <;> omega
          · have HEW : Hid (LA xs (k + 1) = LA xs k ++ [⟨d.x, d.y, d.w, d.h, d.c⟩]) := Lib.hid (by rw [hd]; exact (HSA.out k hlt (by rw [hd] at z; first | exact z | (have z2 : ¬ a ≤ (pat xs k).x := z; omega))).1)
            have HEO : Hid (LB xs (k + 1) = LB xs k) := Lib.hid ((HSA.out k hlt (by rw [hd] at z; first | exact z | (have z2 : ¬ a ≤ (pat xs k).x := z; omega))).2)
            clear hd
            have WW : Below wr.heap.size wr ((wr.alloc (.cells #[.int .i64 d.x, .int .i64 d.y, .int .i64 d.w, .int .i64 d.h, .int .i64 d.c] 34)).alloc (.cells #[.int .i64 d.x, .int .i64 d.y, .int .i64 d.w, .int .i64 d.h, .int .i64 d.c] 34)) := bel_n (bel0 wr _) (Nat.le_refl _) _
            have HBA2 := Lib.hid (HBA.out.below WW (by omega))
            have HBB2 := Lib.hid (HBB.out.below WW (by omega))
            have HOA2 := Lib.hid (owL HOA.out WW)
            have HOB2 := Lib.hid (owL HOB.out WW)
            have HB2 := Lib.hid (hbel.trans (WW.mono (by omega)))
            have HNW := Lib.hid (newsL (wr.alloc (.cells #[.int .i64 d.x, .int .i64 d.y, .int .i64 d.w, .int .i64 d.h, .int .i64 d.c] 34)) (wr.heap.size + 1) #[.int .i64 d.x, .int .i64 d.y, .int .i64 d.w, .int .i64 d.h, .int .i64 d.c] 34 (by simp))
            have HS : Hid (w1.heap.size + 1 + 1 ≤ ((wr.alloc (.cells #[.int .i64 d.x, .int .i64 d.y, .int .i64 d.w, .int .i64 d.h, .int .i64 d.c] 34)).alloc (.cells #[.int .i64 d.x, .int .i64 d.y, .int .i64 d.w, .int .i64 d.h, .int .i64 d.c] 34)).heap.size) := Lib.hid (by simp; omega)
            have HSZ : Hid (wr.heap.size + 1 + 1 ≤ ((wr.alloc (.cells #[.int .i64 d.x, .int .i64 d.y, .int .i64 d.w, .int .i64 d.h, .int .i64 d.c] 34)).alloc (.cells #[.int .i64 d.x, .int .i64 d.y, .int .i64 d.w, .int .i64 d.h, .int .i64 d.c] 34)).heap.size ∧ ((wr.alloc (.cells #[.int .i64 d.x, .int .i64 d.y, .int .i64 d.w, .int .i64 d.h, .int .i64 d.c] 34)).alloc (.cells #[.int .i64 d.x, .int .i64 d.y, .int .i64 d.w, .int .i64 d.h, .int .i64 d.c] 34)).heap.size ≤ wr.heap.size + 1 + 1) := Lib.hid (by simp)
            have KK : ∀ o, (wr.alloc o).cell? ⟨w1.heap.size, 2, none⟩ = some vA := fun o => (HBA.out.below (bel0 wr o) (by omega)).2.2.1
            have KF : ∀ o, (wr.alloc o).frozen? ⟨w1.heap.size, 2, none⟩ = false := fun o => (HBA.out.below (bel0 wr o) (by omega)).2.2.2.2.2
            have hlW : (LA xs k).length ≤ 12 := HLA.out
            generalize hgl : (LA xs k).length = lw at hlW HOA2
            have HGL := Lib.hid hgl
            clear WW hbel HBA HBB HOA HOB hgl
            go_wp2_with (at_builtin; refine wpList_append_lies _ rfl _ _ 24 rfl (w1.heap.size + 1 + 1) 34 i0 _ 5 40 Try.underlying24 hi0 hz0 hz1 hz2 rfl (by decide) _ _ _ rfl HOA2.out ⟨wr.heap.size + 1, 0, none⟩ 1 1 [.int .i64 d.x, .int .i64 d.y, .int .i64 d.w, .int .i64 d.h, .int .i64 d.c] rfl rfl HNW.out (by simp [Value.oneCell']) (by omega) (by unfold maxLen; omega) (by omega) HS.out (wr.heap.size + 1 + 1) (by simp) ?_; intro gg cc w5 hown5 hgrow hat hlt5; have hbw := (Below.refl (w1.heap.size + 1 + 1) _).grown hgrow HS.out (ogL HOA2.out); have hx := (HBA2.out.below hbw (by omega)); have x2 := hx.2.2.1; have xf := hx.2.2.2.2.2)
            have HO5 := Lib.hid (HOB2.out.kept hgrow (dis_kept (dis_symm HDI.out)))
            have HD5 : Hid (Dis (.slice (some ⟨gg, 0, none⟩) (lw + 1) cc) vB) := Lib.hid (dis_new HDI.out HOB2.out hat (by have := HSZ.out; omega))
            have HBA5 := Lib.hid (HBA2.out.below hbw (by omega))
            have HBB5 := Lib.hid (HBB2.out.below hbw (by omega))
            have HB5 : Hid (Below w1.heap.size w1 w5) := Lib.hid (HB2.out.trans (hbw.mono (by omega)))
            have HN : Hid (w5.ownsRow (w1.heap.size + 1 + 1) 34 5 (.slice (some ⟨gg, 0, none⟩) (lw + 1) cc) (LA xs (k + 1)).length (placesPat (LA xs (k + 1)))) := Lib.hid (by rw [HEW.out, placesPat_more, List.length_append, HGL.out]; exact hown5)
            have HO5' : Hid (w5.ownsRow (w1.heap.size + 1 + 1) 34 5 vB (LB xs (k + 1)).length (placesPat (LB xs (k + 1)))) := Lib.hid (by rw [HEO.out]; exact HO5.out)
            have hs5 : w1.heap.size + 1 + 1 ≤ w5.heap.size := Nat.le_trans HS.out hbw.size
            clear hown5 hgrow hat hlt5 hbw hx HOA2 HOB2 HNW HBA2 HBB2 HB2 KK KF HO5 Kb0 Kb1 Kb2 Kb3 Kb4
            go_wp2_with fail
            go_roundw
            case rel => exact ⟨k + 1, _, _, by omega, by go_num, Lib.hid (HBA5.out.store _), Lib.hid (HBB5.out.far (by simp <;> omega) _), Lib.hid (osL HN.out (by simp <;> omega) _), Lib.hid (osL HO5'.out (by simp <;> omega) _), HD5, (HB5.out).setCell (p := ⟨w1.heap.size, 2, none⟩) (by simp) _⟩
            case measure => simp [intOf] <;> omega
        · obtain rfl : k = xs.length := by omega
          have RA : PatIn (w1.heap.size + 1 + 1) wr.heap.size wr vA (LA xs xs.length) := PatIn.of_owns HOA.out (by have := HLAL.out xs.length; omega)
          have RB : PatIn (w1.heap.size + 1 + 1) wr.heap.size wr vB (LB xs xs.length) := PatIn.of_owns HOB.out (by have := HLBL.out xs.length; omega)
          obtain ⟨aA, cA, rfl⟩ := RA.form
          obtain ⟨aB, cB, rfl⟩ := RB.form
          have RA0 := Lib.hid RA
          have RB0 := Lib.hid RB
          have HRA2 := Lib.hid (HRA.out.below hbel (by omega))
          have HRB2 := Lib.hid (HRB.out.below hbel (by omega))
          have HBZ := Lib.hid (HB1.out.trans (hbel.mono (by omega)))
          obtain ⟨d0, d1, d2, z0, z1, z2⟩ := HRA2.out
          obtain ⟨g0, g1, g2, y0, y1, y2⟩ := HRB2.out
          obtain ⟨s0, s1, s2, _, _, _⟩ := HBA.out
          obtain ⟨r0, r1, r2, _, _, _⟩ := HBB.out
          clear RA RB hbel HOA HOB HBA HBB
          go_wp2_with fail
          go_region
          go_wp2_with fail
          refine bodyPost_ret (v := .tuple #[.agg #[.int .i64 a, .int .i64 n, .slice aA (LA xs xs.length).length cA], .agg #[.int .i64 (m - a), .int .i64 n, .slice aB (LB xs xs.length).length cB], .bool true]) (by simp [results, Try.results39, go_sem, d0, d1, d2, g0, g1, g2]) rfl ⟨_, _, rfl, ?_, ?_, ?_⟩
          · refine PatIn.wide (lo := w1.heap.size + 1 + 1) (hi := wr.heap.size) (PatIn.below (PatIn.set_far (PatIn.set_far (PatIn.set_far (PatIn.set_far (PatIn.set_far (PatIn.set_far (RA0.out) ?_ _) ?_ _) ?_ _) ?_ _) ?_ _) ?_ _) (bel_dr9 (Below.refl _ _))) ?_ ?_
            all_goals first | omega | (simp [World.setCell] <;> omega)
          · refine PatIn.wide (lo := w1.heap.size + 1 + 1) (hi := wr.heap.size) (PatIn.below (PatIn.set_far (PatIn.set_far (PatIn.set_far (PatIn.set_far (PatIn.set_far (PatIn.set_far (RB0.out) ?_ _) ?_ _) ?_ _) ?_ _) ?_ _) ?_ _) (bel_dr9 (Below.refl _ _))) ?_ ?_
            all_goals first | omega | (simp [World.setCell] <;> omega)
          · refine bel_dr9 (Below.setCell (Below.setCell (Below.setCell (Below.setCell (Below.setCell (Below.setCell HBZ.out ?_ _) ?_ _) ?_ _) ?_ _) ?_ _) ?_ _)
            all_goals first | omega | (simp <;> omega)

end Go.Proofs.Ytboahceibeeifaa

set_option linter.unusedSimpArgs false
set_option linter.unusedVariables false
namespace Go.Proofs.Ytboahceibeeifaa
open Go.ChangeShapes Go.WideShapes Go.ChangeAt Go.RowKit

theorem c24_v (k : Nat) : c24 k = ⟨decide ((k : Int) < 12), (k : Int) % 12⟩ := C2.ext' (by simp [c24]; omega) (by simp [c24])

set_option maxHeartbeats 6400000 in
set_option maxRecDepth 20000 in
theorem SpecCutsOf_any (lo hi : Nat) (m n : Int) (v : Value) (xs : List P5) (w : World) (r : PatIn lo hi w v xs) (hhi : hi ≤ w.heap.size) :
    Calls Try.prog 38 #[.agg #[.int .i64 m, .int .i64 n, v]] w (FreshCut (cutsB m n xs) w) := by
  obtain ⟨i0, hi0, hz0, hz1, hz2⟩ := info_parts3 info_Cut
  obtain ⟨b, cap, rfl⟩ := r.form
  have R := Lib.hid r
  have LK : Hid (∀ u : World, Below w.heap.size w u → Calls Try.prog 37 #[.agg #[.int .i64 m, .int .i64 n, .slice b xs.length cap]] u fun e w' => e = .returned (.bool (layB m n xs)) ∧ Below u.heap.size u w') := Lib.hid (fun u hb => SpecLayoutOk_any lo hi m n _ xs u (r.below (hb.mono hhi)) (Nat.le_trans hhi hb.size))
  have IC : Hid (∀ (k : Nat) (u : World), Below w.heap.size w u → Calls Try.prog 62 #[.agg #[.int .i64 m, .int .i64 n, .slice b xs.length cap], .agg #[.bool (decide ((k : Int) < 12)), .int .i64 ((k : Int) % 12)]] u fun e w' => e = .returned (.bool (cutB m n xs (c24 k))) ∧ Below u.heap.size u w') := Lib.hid (fun k u hb => by rw [c24_v]; exact SpecIsCut_any lo hi m n _ xs _ _ u (r.below (hb.mono hhi)) (Nat.le_trans hhi hb.size))
  clear r
  have HB0 : Hid (Below w.heap.size w ((w.alloc (.cells #[.int .i64 m, .int .i64 n, .slice b xs.length cap] 26)).alloc (.cells #[] 71))) := Lib.hid (bel_n (bel0 w _) (Nat.le_refl _) _)
  have HO0 : Hid (((w.alloc (.cells #[.int .i64 m, .int .i64 n, .slice b xs.length cap] 26)).alloc (.cells #[] 71)).ownsRow (w.heap.size + 1) 71 2 (.slice (some ⟨w.heap.size + 1, 0, none⟩) 0 0) 0 []) := Lib.hid (by
    have := World.ownsRow_lit (base := w.heap.size + 1) (e := 71) (size := 2) (w.alloc (.cells #[.int .i64 m, .int .i64 n, .slice b xs.length cap] 26)) #[] 0 (by simp) (by decide) rfl
    simpa using this)
  by_cases h : layB m n xs = false
  · rw [cuts_no h]
    rw [h] at LK
    clear h
    go_enter Try.func38, Try.ntmps38
    go_wp2_with fail
    refine (LK.out _ HB0.out).mono ?_
    rintro e w1 ⟨rfl, hb1⟩
    have HBZ := Lib.hid (bel_c HB0.out (Nat.le_refl _) hb1)
    clear hb1
    go_wp2_with fail
    go_ret
    exact ⟨_, rfl, ⟨by simp, .inl ⟨rfl, _, _, rfl⟩⟩, HBZ.out⟩
  · have h' : layB m n xs = true := by simpa using h
    obtain ⟨f, hf⟩ : ∃ f, f = hasC m n xs := ⟨_, rfl⟩
    have HE : Hid (cutsB m n xs = cutK f 24) := Lib.hid (by rw [cuts_yes h', hf]; rfl)
    have IC2 : Hid (∀ (k : Nat) (u : World), Below w.heap.size w u → Calls Try.prog 62 #[.agg #[.int .i64 m, .int .i64 n, .slice b xs.length cap], .agg #[.bool (decide ((k : Int) < 12)), .int .i64 ((k : Int) % 12)]] u fun e w' => e = .returned (.bool (f (c24 k))) ∧ Below u.heap.size u w') := Lib.hid (fun k u hb => by
      have := IC.out k u hb
      rwa [← cut_lay h', ← hf] at this)
    rw [HE.out]
    rw [h'] at LK
    clear h h' hf IC HE
    go_enter Try.func38, Try.ntmps38
    go_wp2_with fail
    refine (LK.out _ HB0.out).mono ?_
    rintro e w1 ⟨rfl, hb1⟩
    have b0 := kept (p := ⟨w.heap.size, 0, none⟩) (x := .int .i64 m) hb1 (by go_simp)
    have b1 := kept (p := ⟨w.heap.size, 1, none⟩) (x := .int .i64 n) hb1 (by go_simp)
    have b2 := kept (p := ⟨w.heap.size, 2, none⟩) (x := .slice b xs.length cap) hb1 (by go_simp)
    have HO1 := Lib.hid (owL HO0.out hb1)
    have HB1 := Lib.hid (bel_c HB0.out (Nat.le_refl _) hb1)
    have HBL : Hid (Below (w.heap.size + 1) (w.alloc (.cells #[.int .i64 m, .int .i64 n, .slice b xs.length cap] 26)) w1) := Lib.hid (by have h1 := bel0 (w.alloc (.cells #[.int .i64 m, .int .i64 n, .slice b xs.length cap] 26)) (.cells #[] 71); rw [show (w.alloc (.cells #[.int .i64 m, .int .i64 n, .slice b xs.length cap] 26)).heap.size = w.heap.size + 1 by simp] at h1; exact bel_c h1 (by simp) hb1)
    have hs1 := hb1.size
    simp at hs1
    clear hb1 HO0 HB0 LK
    go_wp2_with fail
    go_loopw [3, 4] (fun s i wr => ∃ (k : Nat) (v : Value), k ≤ 24 ∧ i = .int .i64 k ∧ v = s ∧ Hid (wr.ownsRow (w.heap.size + 1) 71 2 v (cutK f k).length (placesCut (cutK f k))) ∧ Below (w.heap.size + 1) (w.alloc (.cells #[.int .i64 m, .int .i64 n, .slice b xs.length cap] 26)) wr) (fun _ i _ => 24 - (intOf i).toNat)
    case atStart => exact ⟨0, _, by omega, rfl, rfl, HO1, HBL.out⟩
    case round =>
      obtain ⟨k, v, hk, rfl, rfl, hown, hbel⟩ := hrel
      have hsz := hbel.size
      simp at hsz
      have b0 : wr.cell? ⟨w.heap.size, 0, none⟩ = some (.int .i64 m) := (hbel.cell (p := ⟨w.heap.size, 0, none⟩) (Nat.lt_succ_self _)).trans (by simp)
      have b1 : wr.cell? ⟨w.heap.size, 1, none⟩ = some (.int .i64 n) := (hbel.cell (p := ⟨w.heap.size, 1, none⟩) (Nat.lt_succ_self _)).trans (by simp)
      have b2 : wr.cell? ⟨w.heap.size, 2, none⟩ = some (.slice b xs.length cap) := (hbel.cell (p := ⟨w.heap.size, 2, none⟩) (Nat.lt_succ_self _)).trans (by simp)
      by_cases hlt : k < 24
      · have hlt' : (k : Int) < 24 := by omega
        have HL : Hid ((cutK f k).length ≤ 24) := Lib.hid (by have := cutK_len f k; omega)
        have b0' := kept (bel0 wr (.cells #[.bool (decide ((k : Int) < 12)), .int .i64 ((k : Int) % 12)] 71)) b0
        have b1' := kept (bel0 wr (.cells #[.bool (decide ((k : Int) < 12)), .int .i64 ((k : Int) % 12)] 71)) b1
        have b2' := kept (bel0 wr (.cells #[.bool (decide ((k : Int) < 12)), .int .i64 ((k : Int) % 12)] 71)) b2
        have HW : Hid (Below (w.heap.size + 1) (w.alloc (.cells #[.int .i64 m, .int .i64 n, .slice b xs.length cap] 26)) (wr.alloc (.cells #[.bool (decide ((k : Int) < 12)), .int .i64 ((k : Int) % 12)] 71))) := Lib.hid (bel_n hbel (by simp) _)
        have HWW : Hid (Below w.heap.size w (wr.alloc (.cells #[.bool (decide ((k : Int) < 12)), .int .i64 ((k : Int) % 12)] 71))) := Lib.hid ((bel0 w _).trans (HW.out.mono (Nat.le_succ _)))
        have HO2 := Lib.hid (owL hown.out (bel0 wr (.cells #[.bool (decide ((k : Int) < 12)), .int .i64 ((k : Int) % 12)] 71)))
        have e24 := c24_v k
        clear hown hbel
        by_cases hz : f (c24 k) = true
        · have HY := Lib.hid (cutK_yes (f := f) (k := k) hz)
          rw [e24] at HY
          clear e24
          go_wp2_with fail
          refine (IC2.out k _ HWW.out).mono ?_
          rw [hz]
          rintro e w2 ⟨rfl, hb1⟩
          have c0 := kept (p := ⟨wr.heap.size, 0, none⟩) (x := .bool (decide ((k : Int) < 12))) hb1 (by go_simp)
          have c1 := kept (p := ⟨wr.heap.size, 1, none⟩) (x := .int .i64 ((k : Int) % 12)) hb1 (by go_simp)
          have HO3 := Lib.hid (owL HO2.out hb1)
          have HW2 := Lib.hid (bel_c HW.out (by simp) hb1)
          have hs2 := HW2.out.size
          simp at hs2
          clear hb1 HO2 HW HWW
          have HO4 := Lib.hid (owL HO3.out (bel0 w2 (.cells #[.bool (decide ((k : Int) < 12)), .int .i64 ((k : Int) % 12)] 71)))
          have HNW := Lib.hid (newsL w2 w2.heap.size #[.bool (decide ((k : Int) < 12)), .int .i64 ((k : Int) % 12)] 71 rfl)
          have HBS : Hid (w.heap.size + 1 ≤ (w2.alloc (.cells #[.bool (decide ((k : Int) < 12)), .int .i64 ((k : Int) % 12)] 71)).heap.size) := Lib.hid (by simp; omega)
          have HBE : Hid (Below (w.heap.size + 1) (w.alloc (.cells #[.int .i64 m, .int .i64 n, .slice b xs.length cap] 26)) (w2.alloc (.cells #[.bool (decide ((k : Int) < 12)), .int .i64 ((k : Int) % 12)] 71))) := Lib.hid (bel_n HW2.out (by simp) _)
          have hL := HL.out
          generalize (cutK f k).length = L at hL HO4 HL
          clear HO3 HW2
          go_wp2_with (at_builtin; refine wpList_append_lies _ rfl _ _ 66 rfl (w.heap.size + 1) 71 i0 _ 2 16 Try.underlying66 hi0 hz0 hz1 hz2 rfl (by decide) _ _ _ rfl HO4.out ⟨w2.heap.size, 0, none⟩ 1 1 [.bool (decide ((k : Int) < 12)), .int .i64 ((k : Int) % 12)] rfl rfl HNW.out (by simp [Value.oneCell']) (by omega) (by unfold maxLen; omega) (by omega) HBS.out (w2.heap.size + 1) (by simp) ?_; intro gg cc w5 hown5 hgrow hat hlt5; have hbw := (Below.refl (w.heap.size + 1) _).grown hgrow HBS.out (ogL HO4.out))
          have HN : Hid (w5.ownsRow (w.heap.size + 1) 71 2 (.slice (some ⟨gg, 0, none⟩) (L + 1) cc) (cutK f (k + 1)).length (placesCut (cutK f (k + 1)))) := Lib.hid (by
            rw [HY.out, placesCut_append, List.length_append]
            have hLL := HO4.out.1
            rw [placesCut_length] at hLL
            rw [show (cutK f k).length = L by omega]
            exact hown5)
          have HB6 := Lib.hid (HBE.out.trans hbw)
          clear hown5 hgrow hat hlt5 hbw HO4 HNW HBE HY
          go_wp2_with fail
          go_roundw
          case rel => exact ⟨k + 1, _, by omega, by go_num, rfl, HN, HB6.out⟩
          case measure => simp [intOf] <;> omega
        · have hz' : f (c24 k) = false := by simpa using hz
          have HY : Hid (cutK f (k + 1) = cutK f k) := Lib.hid (cutK_no hz')
          clear e24
          go_wp2_with fail
          refine (IC2.out k _ HWW.out).mono ?_
          rw [hz']
          rintro e w2 ⟨rfl, hb1⟩
          have HO3 : Hid (w2.ownsRow (w.heap.size + 1) 71 2 v (cutK f (k + 1)).length (placesCut (cutK f (k + 1)))) := Lib.hid (by rw [HY.out]; exact owL HO2.out hb1)
          have HW2 := Lib.hid (bel_c HW.out (by simp) hb1)
          clear hb1 HO2 HW HWW HY
          go_wp2_with fail
          go_roundw
          case rel => exact ⟨k + 1, _, by omega, by go_num, rfl, HO3, HW2.out⟩
          case measure => simp [intOf] <;> omega
      · obtain rfl : k = 24 := by omega
        have hin : CutIn (w.heap.size + 1) wr.heap.size wr v (cutK f 24) := CutIn.of_owns hown.out (by have := cutK_len f 24; omega)
        have HI := Lib.hid (hin.wide (lo' := w.heap.size) (hi' := wr.heap.size) (by omega) (Nat.le_refl _))
        have HBZ : Hid (Below w.heap.size w wr) := Lib.hid ((bel0 w _).trans (hbel.mono (by omega)))
        clear hin hown hbel
        go_wp2_with fail
        go_ret
        exact ⟨_, rfl, HI.out, HBZ.out⟩

end Go.Proofs.Ytboahceibeeifaa

set_option linter.unusedSimpArgs false
set_option linter.unusedVariables false
namespace Go.Proofs.Ytboahceibeeifaa
open Go.ChangeShapes Go.WideShapes Go.ChangeAt Go.RowKit

abbrev set3 (u : World) (p : Nat) (x0 x1 x2 : Value) : World := ((u.setCell ⟨p, 0, none⟩ x0).setCell ⟨p, 1, none⟩ x1).setCell ⟨p, 2, none⟩ x2
theorem set3_far {u : World} {p : Nat} {q : Addr} (h : p ≠ q.block) {x0 x1 x2 : Value} : (set3 u p x0 x1 x2).cell? q = u.cell? q := by
  have hn : ∀ o : Nat, (⟨p, o, none⟩ : Addr) ≠ q := fun o e => h (by rw [← e])
  unfold set3
  rw [World.cell?_setCell_other _ _ _ _ (hn _), World.cell?_setCell_other _ _ _ _ (hn _), World.cell?_setCell_other _ _ _ _ (hn _)]
theorem within3 {u : World} {p : Nat} {x0 x1 x2 : Value} : Within p (p + 1) u (set3 u p x0 x1 x2) := by
  unfold set3
  refine Within.setCell (Within.setCell (Within.setCell (Within.refl _ _ _) ?_ ?_ _) ?_ ?_ _) ?_ ?_ _ <;> simp
theorem row3 {lo hi p : Nat} {u : World} {v x0 x1 x2 : Value} {xs : List P5} (r : PatIn lo hi u v xs) (h : hi ≤ p ∨ p < lo) (hh : hi ≤ u.heap.size) : PatIn lo hi (set3 u p x0 x1 x2) v xs :=
  r.within within3 h hh
theorem BoxL.put3 {p : Nat} {x y z x' y' z' : Value} {u : World} (h : BoxL p x y z u) : BoxL p x' y' z' (set3 u p x' y' z') := by
  obtain ⟨h0, h1, h2, f0, f1, f2⟩ := h
  unfold set3
  refine ⟨?_, ?_, ?_, ?_, ?_, ?_⟩
  · rw [World.cell?_setCell_other _ _ _ _ (by simp), World.cell?_setCell_other _ _ _ _ (by simp)]; exact World.cell?_setCell_same _ _ _ h0
  · rw [World.cell?_setCell_other _ _ _ _ (by simp)]; exact World.cell?_setCell_same _ _ _ ((World.cell?_setCell_other _ _ _ _ (by simp)).trans h1)
  · exact World.cell?_setCell_same _ _ _ ((World.cell?_setCell_other _ _ _ _ (by simp)).trans ((World.cell?_setCell_other _ _ _ _ (by simp)).trans h2))
  all_goals
    rw [World.frozen?_setCell, World.frozen?_setCell, World.frozen?_setCell]
    assumption
theorem BoxL.far3 {p q : Nat} {x y z : Value} {u : World} (h : BoxL p x y z u) (hq : q ≠ p) {x0 x1 x2 : Value} : BoxL p x y z (set3 u q x0 x1 x2) := ((h.far hq _).far hq _).far hq _
/-- Two layouts in boxes of their own. -/
def WL (G : World) (M1 N1 M2 N2 : Int) (L1 L2 : List P5) (q t : Value) (u : World) : Prop :=
  ∃ pA pB vA vB k, q = .pointer (some ⟨pA, 0, none⟩) ∧ t = .pointer (some ⟨pB, 0, none⟩) ∧ Hid (BoxL pA (.int .i64 M1) (.int .i64 N1) vA u) ∧ Hid (BoxL pB (.int .i64 M2) (.int .i64 N2) vB u) ∧
    Hid (PatIn G.heap.size k u vA L1) ∧ Hid (PatIn G.heap.size k u vB L2) ∧ k ≤ u.heap.size ∧ Hid (Below G.heap.size G u)

set_option maxHeartbeats 6400000 in
set_option maxRecDepth 20000 in
theorem Sew_left (lo hi : Nat) (m n : Int) (v : Value) (xs : List P5) (c : C2) (rr : List C2) (w : World) (r : PatIn lo hi w v xs) (hhi : hi ≤ w.heap.size) (lay : LayOk m n xs) (hl1 : xs.length ≠ 1) (hcs : cutsL m n xs = c :: rr)
    (ih : ∀ (lo hi : Nat) (v : Value) (w : World), PatIn lo hi w v (pL1 m n c xs) → hi ≤ w.heap.size → Calls Try.prog 12 #[.agg #[.int .i64 (pM1 m c), .int .i64 (pN1 n c), v]] w (fun e w' => e = .returned (.bool false) ∧ Below w.heap.size w w')) :
    Calls Try.prog 12 #[.agg #[.int .i64 m, .int .i64 n, v]] w (fun e w' => e = .returned (.bool false) ∧ Below w.heap.size w w') := by
  have hc := first_cut hcs
  obtain ⟨b, cap, rfl⟩ := r.form
  have R := Lib.hid r
  have HL := Lib.hid lay
  have HC := Lib.hid hc
  have hd : ((xs.length : Int) == 1) = false := by simp; omega
  have LK : Hid (∀ u : World, Below w.heap.size w u → Calls Try.prog 37 #[.agg #[.int .i64 m, .int .i64 n, .slice b xs.length cap]] u fun e w' => e = .returned (.bool true) ∧ Below u.heap.size u w') := Lib.hid (fun u hb => by rw [lay_yes lay]; exact SpecLayoutOk_any lo hi m n _ xs u (r.below (hb.mono hhi)) (Nat.le_trans hhi hb.size))
  have CC : Hid (∀ u : World, Below w.heap.size w u → Calls Try.prog 38 #[.agg #[.int .i64 m, .int .i64 n, .slice b xs.length cap]] u (FreshCut (c :: rr) u)) := Lib.hid (fun u hb => by rw [← hcs, ← cuts_yes (lay_yes lay).symm]; exact SpecCutsOf_any lo hi m n _ xs u (r.below (hb.mono hhi)) (Nat.le_trans hhi hb.size))
  have HB0 : Hid (Below w.heap.size w (w.alloc (.cells #[.int .i64 m, .int .i64 n, .slice b xs.length cap] 26))) := Lib.hid (bel0 w _)
  have HIH := Lib.hid ih
  clear r lay hcs hc ih
  go_enter Try.func12, Try.ntmps12
  go_wp2_with fail
  refine (LK.out _ HB0.out).mono ?_
  rintro e w0 ⟨rfl, hb0⟩
  have a0 := kept (p := ⟨w.heap.size, 0, none⟩) (x := .int .i64 m) hb0 (by go_simp)
  have a1 := kept (p := ⟨w.heap.size, 1, none⟩) (x := .int .i64 n) hb0 (by go_simp)
  have a2 := kept (p := ⟨w.heap.size, 2, none⟩) (x := .slice b xs.length cap) hb0 (by go_simp)
  have HB00 := Lib.hid (bel_c HB0.out (Nat.le_refl _) hb0)
  clear hb0
  go_wp2_with fail
  refine (CC.out _ HB00.out).mono ?_
  rintro e w1 ⟨vc, rfl, RC, hb1⟩
  obtain ⟨ac, cc, rfl⟩ := RC.form
  obtain ⟨g, rfl, hg, hg1, ⟨e0, e1⟩, _⟩ := RC.at (Below.refl _ _) (i := 0) (by simp)
  obtain ⟨up, a⟩ := c
  simp only [Nat.zero_mul, Nat.zero_add, List.getD_cons_zero] at e0 e1
  have b0 := kept hb1 a0
  have b1 := kept hb1 a1
  have b2 := kept hb1 a2
  have hs1 := hb1.size
  have hs0 := HB00.out.size
  have HB1 := Lib.hid (bel_c HB00.out (Nat.le_refl _) hb1)
  clear hb1 RC a0 a1 a2 HB00 HB0
  generalize w1 = G at *
  obtain ⟨M1, hM1⟩ : ∃ M1, M1 = pM1 m ⟨up, a⟩ := ⟨_, rfl⟩
  obtain ⟨N1, hN1⟩ : ∃ N1, N1 = pN1 n ⟨up, a⟩ := ⟨_, rfl⟩
  obtain ⟨M2, hM2⟩ : ∃ M2, M2 = pM2 m ⟨up, a⟩ := ⟨_, rfl⟩
  obtain ⟨N2, hN2⟩ : ∃ N2, N2 = pN2 n ⟨up, a⟩ := ⟨_, rfl⟩
  obtain ⟨L1, hL1⟩ : ∃ L1, L1 = pL1 m n ⟨up, a⟩ xs := ⟨_, rfl⟩
  obtain ⟨L2, hL2⟩ : ∃ L2, L2 = pL2 m n ⟨up, a⟩ xs := ⟨_, rfl⟩
  have D0 : Below G.heap.size G G.drew := ⟨rfl, rfl, rfl, Nat.le_refl _, fun _ _ => rfl⟩
  have CS : Hid (∀ u : World, (u.cell? ⟨w.heap.size, 0, none⟩ = some (.int .i64 m) ∧ u.cell? ⟨w.heap.size, 1, none⟩ = some (.int .i64 n) ∧ u.cell? ⟨w.heap.size, 2, none⟩ = some (.slice b xs.length cap) ∧ u.cell? ⟨g, 0, none⟩ = some (.bool up) ∧ u.cell? ⟨g, 1, none⟩ = some (.int .i64 a) ∧ Below G.heap.size G u) → Calls Try.prog 39 #[.agg #[.int .i64 m, .int .i64 n, .slice b xs.length cap], .agg #[.bool up, .int .i64 a]] u (SplitLW M1 N1 L1 M2 N2 L2 true u)) := Lib.hid (fun u h => by
    have hu := bel_c HB1.out (Nat.le_refl _) h.2.2.2.2.2
    have hcb : cutB m n xs ⟨up, a⟩ = true := by rw [← cut_lay (lay_yes HL.out).symm]; exact HC.out
    have hsp := SpecSplitLayout_any lo hi m n _ xs up a u (R.out.below (hu.mono hhi)) (Nat.le_trans hhi hu.size)
    obtain ⟨e1, e2, e3, e4, e5, e6⟩ := s_yes hcb
    rw [e1, e2, e3, e4, e5, e6, hcb, ← hM1, ← hN1, ← hM2, ← hN2, ← hL1, ← hL2] at hsp
    exact hsp)
  have S0 : G.drew.cell? ⟨w.heap.size, 0, none⟩ = some (.int .i64 m) ∧ G.drew.cell? ⟨w.heap.size, 1, none⟩ = some (.int .i64 n) ∧ G.drew.cell? ⟨w.heap.size, 2, none⟩ = some (.slice b xs.length cap) ∧ G.drew.cell? ⟨g, 0, none⟩ = some (.bool up) ∧ G.drew.cell? ⟨g, 1, none⟩ = some (.int .i64 a) ∧ Below G.heap.size G G.drew := ⟨kept D0 b0, kept D0 b1, kept D0 b2, kept D0 e0, kept D0 e1, D0⟩
  rw [← hM1, ← hN1, ← hL1] at HIH
  clear hM1 hN1 hM2 hN2 hL1 hL2
  have KP : ∀ u v : World, Below u.heap.size u v → (u.cell? ⟨w.heap.size, 0, none⟩ = some (.int .i64 m) ∧ u.cell? ⟨w.heap.size, 1, none⟩ = some (.int .i64 n) ∧ u.cell? ⟨w.heap.size, 2, none⟩ = some (.slice b xs.length cap) ∧ u.cell? ⟨g, 0, none⟩ = some (.bool up) ∧ u.cell? ⟨g, 1, none⟩ = some (.int .i64 a) ∧ Below G.heap.size G u) → (v.cell? ⟨w.heap.size, 0, none⟩ = some (.int .i64 m) ∧ v.cell? ⟨w.heap.size, 1, none⟩ = some (.int .i64 n) ∧ v.cell? ⟨w.heap.size, 2, none⟩ = some (.slice b xs.length cap) ∧ v.cell? ⟨g, 0, none⟩ = some (.bool up) ∧ v.cell? ⟨g, 1, none⟩ = some (.int .i64 a) ∧ Below G.heap.size G v) := fun u v hb h => ⟨kept hb h.1, kept hb h.2.1, kept hb h.2.2.1, kept hb h.2.2.2.1, kept hb h.2.2.2.2.1, bel_c h.2.2.2.2.2 (Nat.le_refl _) hb⟩
  have KS : ∀ (u : World) (p : Nat) (x0 x1 x2 : Value), G.heap.size ≤ p → (u.cell? ⟨w.heap.size, 0, none⟩ = some (.int .i64 m) ∧ u.cell? ⟨w.heap.size, 1, none⟩ = some (.int .i64 n) ∧ u.cell? ⟨w.heap.size, 2, none⟩ = some (.slice b xs.length cap) ∧ u.cell? ⟨g, 0, none⟩ = some (.bool up) ∧ u.cell? ⟨g, 1, none⟩ = some (.int .i64 a) ∧ Below G.heap.size G u) → ((set3 u p x0 x1 x2).cell? ⟨w.heap.size, 0, none⟩ = some (.int .i64 m) ∧ (set3 u p x0 x1 x2).cell? ⟨w.heap.size, 1, none⟩ = some (.int .i64 n) ∧ (set3 u p x0 x1 x2).cell? ⟨w.heap.size, 2, none⟩ = some (.slice b xs.length cap) ∧ (set3 u p x0 x1 x2).cell? ⟨g, 0, none⟩ = some (.bool up) ∧ (set3 u p x0 x1 x2).cell? ⟨g, 1, none⟩ = some (.int .i64 a) ∧ Below G.heap.size G (set3 u p x0 x1 x2)) := fun u p x0 x1 x2 hp h => by
    have h1 : p ≠ w.heap.size := by omega
    have h2 : p ≠ g := by omega
    exact ⟨(set3_far h1).trans h.1, (set3_far h1).trans h.2.1, (set3_far h1).trans h.2.2.1, (set3_far h2).trans h.2.2.2.1, (set3_far h2).trans h.2.2.2.2.1, ((h.2.2.2.2.2.setCell hp _).setCell hp _).setCell hp _⟩
  have KP1 := Lib.hid KP
  have KS1 := Lib.hid KS
  clear KP KS D0
  go_upto_region 8 with fail
  go_cut [4, 5] (fun q t wx => WL G M1 N1 M2 N2 L1 L2 q t wx)
  case first =>
    (try simp only [List.append_eq, List.cons_append, List.nil_append])
    have hS := S0
    refine reg_begin (fun w' => w'.cell? ⟨w.heap.size, 0, none⟩ = some (.int .i64 m) ∧ w'.cell? ⟨w.heap.size, 1, none⟩ = some (.int .i64 n) ∧ w'.cell? ⟨w.heap.size, 2, none⟩ = some (.slice b xs.length cap) ∧ w'.cell? ⟨g, 0, none⟩ = some (.bool up) ∧ w'.cell? ⟨g, 1, none⟩ = some (.int .i64 a) ∧ Below G.heap.size G w') (by kernel_rfl) hS ?_
    refine reg_take 0 (v := ?_) rfl (by kernel_rfl) (by kernel_rfl) (by kernel_rfl) (fun _ _ _ h => h) (by rfl) (by intro w hSw; (try dsimp only at hSw); go_simp; first | done | with_reducible rfl) hS ?_
    (try simp only [Act.put, List.setIfInBounds_toArray, List.set_cons_zero, List.set_cons_succ])
    refine reg_take 1 (v := ?_) rfl (by kernel_rfl) (by kernel_rfl) (by kernel_rfl) (fun _ _ _ h => h) (by rfl) (by intro w hSw; (try dsimp only at hSw); go_simp; first | done | with_reducible rfl) hS ?_
    (try simp only [Act.put, List.setIfInBounds_toArray, List.set_cons_zero, List.set_cons_succ])
    refine reg_take 2 (v := ?_) rfl (by kernel_rfl) (by kernel_rfl) (by kernel_rfl) (fun _ _ _ h => h) (by rfl) (by intro w hSw; (try dsimp only at hSw); go_simp; first | done | with_reducible rfl) hS ?_
    (try simp only [Act.put, List.setIfInBounds_toArray, List.set_cons_zero, List.set_cons_succ])
    refine reg_take 3 (v := ?_) rfl (by kernel_rfl) (by kernel_rfl) (by kernel_rfl) (fun _ _ _ h => h) (by rfl) (by intro w hSw; (try dsimp only at hSw); go_simp; first | done | with_reducible rfl) hS ?_
    (try simp only [Act.put, List.setIfInBounds_toArray, List.set_cons_zero, List.set_cons_succ])
    have hz0 : G.drew.heap.size ≤ G.heap.size ∧ G.heap.size ≤ G.drew.heap.size := ⟨Nat.le_refl _, Nat.le_refl _⟩
    generalize G.drew = U0 at hS hz0 ⊢
    refine reg_three 4 9 10 rfl rfl rfl (by kernel_rfl) (by rfl) (by rfl) (by rfl) (fun K hK => ?_) (fun K hK => ?_) (fun K hK => ?_)
    · go_simp
      go_at_call 39
      refine (args_eqL (CS.out _ hS) (by with_reducible rfl)).mono ?_
      rintro e y1 ⟨vA, vB, rfl, RA, RB, hb⟩
      have RA0 := Lib.hid RA
      have RB0 := Lib.hid RB
      obtain ⟨aA, cA, rfl⟩ := RA.form
      obtain ⟨aB, cB, rfl⟩ := RB.form
      clear RA RB
      have hzy1 := hb.size
      refine hK.out _ _ (KP1.out _ _ hb hS) (fun hS' => ?_)
      clear hK K hS
      have hS := hS'
      clear hS'
      try (try simp only [Act.put, List.setIfInBounds_toArray, List.set_cons_zero, List.set_cons_succ])
      clear hb
      refine reg_take 5 (v := ?_) rfl (by kernel_rfl) (by kernel_rfl) (by kernel_rfl) (fun _ _ _ h => h) (by rfl) (by intro w hSw; (try dsimp only at hSw); go_simp; first | done | with_reducible rfl) hS ?_
      (try simp only [Act.put, List.setIfInBounds_toArray, List.set_cons_zero, List.set_cons_succ])
      refine reg_take 6 (v := ?_) rfl (by kernel_rfl) (by kernel_rfl) (by kernel_rfl) (fun _ _ _ h => h) (by rfl) (by intro w hSw; (try dsimp only at hSw); go_simp; first | done | with_reducible rfl) hS ?_
      (try simp only [Act.put, List.setIfInBounds_toArray, List.set_cons_zero, List.set_cons_succ])
      refine reg_take 7 (v := ?_) rfl (by kernel_rfl) (by kernel_rfl) (by kernel_rfl) (fun _ _ _ h => h) (by rfl) (by intro w hSw; (try dsimp only at hSw); go_simp; first | done | with_reducible rfl) hS ?_
      (try simp only [Act.put, List.setIfInBounds_toArray, List.set_cons_zero, List.set_cons_succ])
      refine reg_take 8 (v := ?_) rfl (by kernel_rfl) (by kernel_rfl) (by kernel_rfl) (fun _ _ _ h => h) (by rfl) (by intro w hSw; (try dsimp only at hSw); go_simp; first | done | with_reducible rfl) hS ?_
      (try simp only [Act.put, List.setIfInBounds_toArray, List.set_cons_zero, List.set_cons_succ])
      refine reg_two 9 10 rfl rfl (by kernel_rfl) (by rfl) (by rfl) (fun K hK => ?_) (fun K hK => ?_)
      · go_simp
        refine hK.out _ _ (KP1.out _ _ (bel0 _ _) hS) (fun hS' => ?_)
        clear hK K hS
        have hS := hS'
        clear hS'
        try (try simp only [Act.put, List.setIfInBounds_toArray, List.set_cons_zero, List.set_cons_succ])
        have hbe : Below y1.heap.size y1 (y1.alloc (.cells #[.int .i64 0, .int .i64 0, .slice none 0 0] 26)) := bel0 _ _
        have HX9 := Lib.hid (BoxL.new y1 (.int .i64 0) (.int .i64 0) (.slice none 0 0) 26)
        have hzV2 : (y1.alloc (.cells #[.int .i64 0, .int .i64 0, .slice none 0 0] 26)).heap.size ≤ y1.heap.size + 1 ∧ y1.heap.size + 1 ≤ (y1.alloc (.cells #[.int .i64 0, .int .i64 0, .slice none 0 0] 26)).heap.size := by simp
        have RA0 := Lib.hid (RA0.out.below (hbe.mono (by omega)))
        have RB0 := Lib.hid (RB0.out.below (hbe.mono (by omega)))
        obtain ⟨V2, hV⟩ : ∃ V, V = y1.alloc (.cells #[.int .i64 0, .int .i64 0, .slice none 0 0] 26) := ⟨_, rfl⟩
        rw [← hV] at hS HX9 hzV2 RA0 RB0 ⊢
        clear hV hbe
        refine reg_call 10 rfl (by kernel_rfl) (by rfl) (fun K hK => ?_)
        go_simp
        refine hK.out _ _ (KP1.out _ _ (bel0 _ _) hS) (fun hS' => ?_)
        clear hK K hS
        have hS := hS'
        clear hS'
        try (try simp only [Act.put, List.setIfInBounds_toArray, List.set_cons_zero, List.set_cons_succ])
        have hbe : Below V2.heap.size V2 (V2.alloc (.cells #[.int .i64 0, .int .i64 0, .slice none 0 0] 26)) := bel0 _ _
        have HX10 := Lib.hid (BoxL.new V2 (.int .i64 0) (.int .i64 0) (.slice none 0 0) 26)
        have hzV3 : (V2.alloc (.cells #[.int .i64 0, .int .i64 0, .slice none 0 0] 26)).heap.size ≤ V2.heap.size + 1 ∧ V2.heap.size + 1 ≤ (V2.alloc (.cells #[.int .i64 0, .int .i64 0, .slice none 0 0] 26)).heap.size := by simp
        have HX9 := Lib.hid (HX9.out.below hbe (by omega))
        have RA0 := Lib.hid (RA0.out.below (hbe.mono (by omega)))
        have RB0 := Lib.hid (RB0.out.below (hbe.mono (by omega)))
        obtain ⟨V3, hV⟩ : ∃ V, V = V2.alloc (.cells #[.int .i64 0, .int .i64 0, .slice none 0 0] 26) := ⟨_, rfl⟩
        rw [← hV] at hS HX9 HX10 hzV3 RA0 RB0 ⊢
        clear hV hbe
        clear KP1
        refine reg_call 11 rfl (by kernel_rfl) (by rfl) (fun K hK => ?_)
        have ec0 := HX9.out.1
        have ec1 := HX9.out.2.1
        have ec2 := HX9.out.2.2.1
        have ec3 := HX9.out.2.2.2.1
        have ec4 := HX9.out.2.2.2.2.1
        have ec5 := HX9.out.2.2.2.2.2
        go_simp
        refine hK.out _ _ (KS1.out _ y1.heap.size (.int .i64 M1) (.int .i64 N1) (.slice aA L1.length cA) (by omega) hS) (fun hS' => ?_)
        clear hK K hS ec0 ec1 ec2 ec3 ec4 ec5
        have hS := hS'
        clear hS'
        try (try simp only [Act.put, List.setIfInBounds_toArray, List.set_cons_zero, List.set_cons_succ])
        have HX9 : Hid (BoxL y1.heap.size (.int .i64 M1) (.int .i64 N1) (.slice aA L1.length cA) (set3 V3 y1.heap.size (.int .i64 M1) (.int .i64 N1) (.slice aA L1.length cA))) := Lib.hid (BoxL.put3 HX9.out)
        have HX10 : Hid (BoxL V2.heap.size (.int .i64 0) (.int .i64 0) (.slice none 0 0) (set3 V3 y1.heap.size (.int .i64 M1) (.int .i64 N1) (.slice aA L1.length cA))) := Lib.hid (BoxL.far3 HX10.out (show y1.heap.size ≠ V2.heap.size by omega))
        have RA0 : Hid (PatIn _ _ (set3 V3 y1.heap.size (.int .i64 M1) (.int .i64 N1) (.slice aA L1.length cA)) _ _) := Lib.hid (row3 RA0.out (by omega) (by first | omega | (simp [World.setCell] <;> omega)))
        have RB0 : Hid (PatIn _ _ (set3 V3 y1.heap.size (.int .i64 M1) (.int .i64 N1) (.slice aA L1.length cA)) _ _) := Lib.hid (row3 RB0.out (by omega) (by first | omega | (simp [World.setCell] <;> omega)))
        refine reg_call 12 rfl (by kernel_rfl) (by rfl) (fun K hK => ?_)
        have ec0 := HX10.out.1
        have ec1 := HX10.out.2.1
        have ec2 := HX10.out.2.2.1
        have ec3 := HX10.out.2.2.2.1
        have ec4 := HX10.out.2.2.2.2.1
        have ec5 := HX10.out.2.2.2.2.2
        go_simp
        refine hK.out _ _ (KS1.out _ V2.heap.size (.int .i64 M2) (.int .i64 N2) (.slice aB L2.length cB) (by omega) hS) (fun hS' => ?_)
        clear hK K hS ec0 ec1 ec2 ec3 ec4 ec5
        have hS := hS'
        clear hS'
        try (try simp only [Act.put, List.setIfInBounds_toArray, List.set_cons_zero, List.set_cons_succ])
        have HX10 : Hid (BoxL V2.heap.size (.int .i64 M2) (.int .i64 N2) (.slice aB L2.length cB) (set3 (set3 V3 y1.heap.size (.int .i64 M1) (.int .i64 N1) (.slice aA L1.length cA)) V2.heap.size (.int .i64 M2) (.int .i64 N2) (.slice aB L2.length cB))) := Lib.hid (BoxL.put3 HX10.out)
        have HX9 : Hid (BoxL y1.heap.size (.int .i64 M1) (.int .i64 N1) (.slice aA L1.length cA) (set3 (set3 V3 y1.heap.size (.int .i64 M1) (.int .i64 N1) (.slice aA L1.length cA)) V2.heap.size (.int .i64 M2) (.int .i64 N2) (.slice aB L2.length cB))) := Lib.hid (BoxL.far3 HX9.out (show V2.heap.size ≠ y1.heap.size by omega))
        have RA0 : Hid (PatIn _ _ (set3 (set3 V3 y1.heap.size (.int .i64 M1) (.int .i64 N1) (.slice aA L1.length cA)) V2.heap.size (.int .i64 M2) (.int .i64 N2) (.slice aB L2.length cB)) _ _) := Lib.hid (row3 RA0.out (by omega) (by first | omega | (simp [World.setCell] <;> omega)))
        have RB0 : Hid (PatIn _ _ (set3 (set3 V3 y1.heap.size (.int .i64 M1) (.int .i64 N1) (.slice aA L1.length cA)) V2.heap.size (.int .i64 M2) (.int .i64 N2) (.slice aB L2.length cB)) _ _) := Lib.hid (row3 RB0.out (by omega) (by first | omega | (simp [World.setCell] <;> omega)))
        refine reg_take 13 (v := ?_) rfl (by kernel_rfl) (by kernel_rfl) (by kernel_rfl) (fun _ _ _ h => h) (by rfl) (by intro w hSw; (try dsimp only at hSw); go_simp; first | done | with_reducible rfl) hS ?_
        (try simp only [Act.put, List.setIfInBounds_toArray, List.set_cons_zero, List.set_cons_succ])
        refine wpAnyH_done (by kernel_rfl) ?_ _
        have HBW := Lib.hid hS.2.2.2.2.2
        clear hS
        go_wp2_with fail
        go_meet
        exact ⟨_, _, _, _, y1.heap.size, rfl, rfl, HX9, HX10, Lib.hid (RA0.out.wide (by omega) (Nat.le_refl _)), Lib.hid (RB0.out.wide (by omega) (Nat.le_refl _)), by simp [World.setCell] <;> omega, HBW⟩
      · go_simp
        refine hK.out _ _ (KP1.out _ _ (bel0 _ _) hS) (fun hS' => ?_)
        clear hK K hS
        have hS := hS'
        clear hS'
        try (try simp only [Act.put, List.setIfInBounds_toArray, List.set_cons_zero, List.set_cons_succ])
        have hbe : Below y1.heap.size y1 (y1.alloc (.cells #[.int .i64 0, .int .i64 0, .slice none 0 0] 26)) := bel0 _ _
        have HX10 := Lib.hid (BoxL.new y1 (.int .i64 0) (.int .i64 0) (.slice none 0 0) 26)
        have hzV2 : (y1.alloc (.cells #[.int .i64 0, .int .i64 0, .slice none 0 0] 26)).heap.size ≤ y1.heap.size + 1 ∧ y1.heap.size + 1 ≤ (y1.alloc (.cells #[.int .i64 0, .int .i64 0, .slice none 0 0] 26)).heap.size := by simp
        have RA0 := Lib.hid (RA0.out.below (hbe.mono (by omega)))
        have RB0 := Lib.hid (RB0.out.below (hbe.mono (by omega)))
        obtain ⟨V2, hV⟩ : ∃ V, V = y1.alloc (.cells #[.int .i64 0, .int .i64 0, .slice none 0 0] 26) := ⟨_, rfl⟩
        rw [← hV] at hS HX10 hzV2 RA0 RB0 ⊢
        clear hV hbe
        refine reg_call 9 rfl (by kernel_rfl) (by rfl) (fun K hK => ?_)
        go_simp
        refine hK.out _ _ (KP1.out _ _ (bel0 _ _) hS) (fun hS' => ?_)
        clear hK K hS
        have hS := hS'
        clear hS'
        try (try simp only [Act.put, List.setIfInBounds_toArray, List.set_cons_zero, List.set_cons_succ])
        have hbe : Below V2.heap.size V2 (V2.alloc (.cells #[.int .i64 0, .int .i64 0, .slice none 0 0] 26)) := bel0 _ _
        have HX9 := Lib.hid (BoxL.new V2 (.int .i64 0) (.int .i64 0) (.slice none 0 0) 26)
        have hzV3 : (V2.alloc (.cells #[.int .i64 0, .int .i64 0, .slice none 0 0] 26)).heap.size ≤ V2.heap.size + 1 ∧ V2.heap.size + 1 ≤ (V2.alloc (.cells #[.int .i64 0, .int .i64 0, .slice none 0 0] 26)).heap.size := by simp
        have HX10 := Lib.hid (HX10.out.below hbe (by omega))
        have RA0 := Lib.hid (RA0.out.below (hbe.mono (by omega)))
        have RB0 := Lib.hid (RB0.out.below (hbe.mono (by omega)))
        obtain ⟨V3, hV⟩ : ∃ V, V = V2.alloc (.cells #[.int .i64 0, .int .i64 0, .slice none 0 0] 26) := ⟨_, rfl⟩
        rw [← hV] at hS HX10 HX9 hzV3 RA0 RB0 ⊢
        clear hV hbe
        clear KP1
        refine reg_call 11 rfl (by kernel_rfl) (by rfl) (fun K hK => ?_)
        have ec0 := HX9.out.1
        have ec1 := HX9.out.2.1
        have ec2 := HX9.out.2.2.1
        have ec3 := HX9.out.2.2.2.1
        have ec4 := HX9.out.2.2.2.2.1
        have ec5 := HX9.out.2.2.2.2.2
        go_simp
        refine hK.out _ _ (KS1.out _ V2.heap.size (.int .i64 M1) (.int .i64 N1) (.slice aA L1.length cA) (by omega) hS) (fun hS' => ?_)
        clear hK K hS ec0 ec1 ec2 ec3 ec4 ec5
        have hS := hS'
        clear hS'
        try (try simp only [Act.put, List.setIfInBounds_toArray, List.set_cons_zero, List.set_cons_succ])
        have HX9 : Hid (BoxL V2.heap.size (.int .i64 M1) (.int .i64 N1) (.slice aA L1.length cA) (set3 V3 V2.heap.size (.int .i64 M1) (.int .i64 N1) (.slice aA L1.length cA))) := Lib.hid (BoxL.put3 HX9.out)
        have HX10 : Hid (BoxL y1.heap.size (.int .i64 0) (.int .i64 0) (.slice none 0 0) (set3 V3 V2.heap.size (.int .i64 M1) (.int .i64 N1) (.slice aA L1.length cA))) := Lib.hid (BoxL.far3 HX10.out (show V2.heap.size ≠ y1.heap.size by omega))
        have RA0 : Hid (PatIn _ _ (set3 V3 V2.heap.size (.int .i64 M1) (.int .i64 N1) (.slice aA L1.length cA)) _ _) := Lib.hid (row3 RA0.out (by omega) (by first | omega | (simp [World.setCell] <;> omega)))
        have RB0 : Hid (PatIn _ _ (set3 V3 V2.heap.size (.int .i64 M1) (.int .i64 N1) (.slice aA L1.length cA)) _ _) := Lib.hid (row3 RB0.out (by omega) (by first | omega | (simp [World.setCell] <;> omega)))
        refine reg_call 12 rfl (by kernel_rfl) (by rfl) (fun K hK => ?_)
        have ec0 := HX10.out.1
        have ec1 := HX10.out.2.1
        have ec2 := HX10.out.2.2.1
        have ec3 := HX10.out.2.2.2.1
        have ec4 := HX10.out.2.2.2.2.1
        have ec5 := HX10.out.2.2.2.2.2
        go_simp
        refine hK.out _ _ (KS1.out _ y1.heap.size (.int .i64 M2) (.int .i64 N2) (.slice aB L2.length cB) (by omega) hS) (fun hS' => ?_)
        clear hK K hS ec0 ec1 ec2 ec3 ec4 ec5
        have hS := hS'
        clear hS'
        try (try simp only [Act.put, List.setIfInBounds_toArray, List.set_cons_zero, List.set_cons_succ])
        have HX10 : Hid (BoxL y1.heap.size (.int .i64 M2) (.int .i64 N2) (.slice aB L2.length cB) (set3 (set3 V3 V2.heap.size (.int .i64 M1) (.int .i64 N1) (.slice aA L1.length cA)) y1.heap.size (.int .i64 M2) (.int .i64 N2) (.slice aB L2.length cB))) := Lib.hid (BoxL.put3 HX10.out)
        have HX9 : Hid (BoxL V2.heap.size (.int .i64 M1) (.int .i64 N1) (.slice aA L1.length cA) (set3 (set3 V3 V2.heap.size (.int .i64 M1) (.int .i64 N1) (.slice aA L1.length cA)) y1.heap.size (.int .i64 M2) (.int .i64 N2) (.slice aB L2.length cB))) := Lib.hid (BoxL.far3 HX9.out (show y1.heap.size ≠ V2.heap.size by omega))
        have RA0 : Hid (PatIn _ _ (set3 (set3 V3 V2.heap.size (.int .i64 M1) (.int .i64 N1) (.slice aA L1.length cA)) y1.heap.size (.int .i64 M2) (.int .i64 N2) (.slice aB L2.length cB)) _ _) := Lib.hid (row3 RA0.out (by omega) (by first | omega | (simp [World.setCell] <;> omega)))
        have RB0 : Hid (PatIn _ _ (set3 (set3 V3 V2.heap.size (.int .i64 M1) (.int .i64 N1) (.slice aA L1.length cA)) y1.heap.size (.int .i64 M2) (.int .i64 N2) (.slice aB L2.length cB)) _ _) := Lib.hid (row3 RB0.out (by omega) (by first | omega | (simp [World.setCell] <;> omega)))
        refine reg_take 13 (v := ?_) rfl (by kernel_rfl) (by kernel_rfl) (by kernel_rfl) (fun _ _ _ h => h) (by rfl) (by intro w hSw; (try dsimp only at hSw); go_simp; first | done | with_reducible rfl) hS ?_
        (try simp only [Act.put, List.setIfInBounds_toArray, List.set_cons_zero, List.set_cons_succ])
        refine wpAnyH_done (by kernel_rfl) ?_ _
        have HBW := Lib.hid hS.2.2.2.2.2
        clear hS
        go_wp2_with fail
        go_meet
        exact ⟨_, _, _, _, y1.heap.size, rfl, rfl, HX9, HX10, Lib.hid (RA0.out.wide (by omega) (Nat.le_refl _)), Lib.hid (RB0.out.wide (by omega) (Nat.le_refl _)), by simp [World.setCell] <;> omega, HBW⟩
    · go_simp
      refine hK.out _ _ (KP1.out _ _ (bel0 _ _) hS) (fun hS' => ?_)
      clear hK K hS
      have hS := hS'
      clear hS'
      try (try simp only [Act.put, List.setIfInBounds_toArray, List.set_cons_zero, List.set_cons_succ])
      have hbe : Below U0.heap.size U0 (U0.alloc (.cells #[.int .i64 0, .int .i64 0, .slice none 0 0] 26)) := bel0 _ _
      have HX9 := Lib.hid (BoxL.new U0 (.int .i64 0) (.int .i64 0) (.slice none 0 0) 26)
      have hzV1 : (U0.alloc (.cells #[.int .i64 0, .int .i64 0, .slice none 0 0] 26)).heap.size ≤ U0.heap.size + 1 ∧ U0.heap.size + 1 ≤ (U0.alloc (.cells #[.int .i64 0, .int .i64 0, .slice none 0 0] 26)).heap.size := by simp
      obtain ⟨V1, hV⟩ : ∃ V, V = U0.alloc (.cells #[.int .i64 0, .int .i64 0, .slice none 0 0] 26) := ⟨_, rfl⟩
      rw [← hV] at hS HX9 hzV1 ⊢
      clear hV hbe
      refine reg_two 4 10 rfl rfl (by kernel_rfl) (by rfl) (by rfl) (fun K hK => ?_) (fun K hK => ?_)
      · go_simp
        go_at_call 39
        refine (args_eqL (CS.out _ hS) (by with_reducible rfl)).mono ?_
        rintro e y2 ⟨vA, vB, rfl, RA, RB, hb⟩
        have RA0 := Lib.hid RA
        have RB0 := Lib.hid RB
        obtain ⟨aA, cA, rfl⟩ := RA.form
        obtain ⟨aB, cB, rfl⟩ := RB.form
        clear RA RB
        have hzy2 := hb.size
        have HX9 := Lib.hid (HX9.out.below hb (by omega))
        refine hK.out _ _ (KP1.out _ _ hb hS) (fun hS' => ?_)
        clear hK K hS
        have hS := hS'
        clear hS'
        try (try simp only [Act.put, List.setIfInBounds_toArray, List.set_cons_zero, List.set_cons_succ])
        clear hb
        refine reg_take 5 (v := ?_) rfl (by kernel_rfl) (by kernel_rfl) (by kernel_rfl) (fun _ _ _ h => h) (by rfl) (by intro w hSw; (try dsimp only at hSw); go_simp; first | done | with_reducible rfl) hS ?_
        (try simp only [Act.put, List.setIfInBounds_toArray, List.set_cons_zero, List.set_cons_succ])
        refine reg_take 6 (v := ?_) rfl (by kernel_rfl) (by kernel_rfl) (by kernel_rfl) (fun _ _ _ h => h) (by rfl) (by intro w hSw; (try dsimp only at hSw); go_simp; first | done | with_reducible rfl) hS ?_
        (try simp only [Act.put, List.setIfInBounds_toArray, List.set_cons_zero, List.set_cons_succ])
        refine reg_take 7 (v := ?_) rfl (by kernel_rfl) (by kernel_rfl) (by kernel_rfl) (fun _ _ _ h => h) (by rfl) (by intro w hSw; (try dsimp only at hSw); go_simp; first | done | with_reducible rfl) hS ?_
        (try simp only [Act.put, List.setIfInBounds_toArray, List.set_cons_zero, List.set_cons_succ])
        refine reg_take 8 (v := ?_) rfl (by kernel_rfl) (by kernel_rfl) (by kernel_rfl) (fun _ _ _ h => h) (by rfl) (by intro w hSw; (try dsimp only at hSw); go_simp; first | done | with_reducible rfl) hS ?_
        (try simp only [Act.put, List.setIfInBounds_toArray, List.set_cons_zero, List.set_cons_succ])
        refine reg_call 10 rfl (by kernel_rfl) (by rfl) (fun K hK => ?_)
        go_simp
        refine hK.out _ _ (KP1.out _ _ (bel0 _ _) hS) (fun hS' => ?_)
        clear hK K hS
        have hS := hS'
        clear hS'
        try (try simp only [Act.put, List.setIfInBounds_toArray, List.set_cons_zero, List.set_cons_succ])
        have hbe : Below y2.heap.size y2 (y2.alloc (.cells #[.int .i64 0, .int .i64 0, .slice none 0 0] 26)) := bel0 _ _
        have HX10 := Lib.hid (BoxL.new y2 (.int .i64 0) (.int .i64 0) (.slice none 0 0) 26)
        have hzV3 : (y2.alloc (.cells #[.int .i64 0, .int .i64 0, .slice none 0 0] 26)).heap.size ≤ y2.heap.size + 1 ∧ y2.heap.size + 1 ≤ (y2.alloc (.cells #[.int .i64 0, .int .i64 0, .slice none 0 0] 26)).heap.size := by simp
        have HX9 := Lib.hid (HX9.out.below hbe (by omega))
        have RA0 := Lib.hid (RA0.out.below (hbe.mono (by omega)))
        have RB0 := Lib.hid (RB0.out.below (hbe.mono (by omega)))
        obtain ⟨V3, hV⟩ : ∃ V, V = y2.alloc (.cells #[.int .i64 0, .int .i64 0, .slice none 0 0] 26) := ⟨_, rfl⟩
        rw [← hV] at hS HX9 HX10 hzV3 RA0 RB0 ⊢
        clear hV hbe
        clear KP1
        refine reg_call 11 rfl (by kernel_rfl) (by rfl) (fun K hK => ?_)
        have ec0 := HX9.out.1
        have ec1 := HX9.out.2.1
        have ec2 := HX9.out.2.2.1
        have ec3 := HX9.out.2.2.2.1
        have ec4 := HX9.out.2.2.2.2.1
        have ec5 := HX9.out.2.2.2.2.2
        go_simp
        refine hK.out _ _ (KS1.out _ U0.heap.size (.int .i64 M1) (.int .i64 N1) (.slice aA L1.length cA) (by omega) hS) (fun hS' => ?_)
        clear hK K hS ec0 ec1 ec2 ec3 ec4 ec5
        have hS := hS'
        clear hS'
        try (try simp only [Act.put, List.setIfInBounds_toArray, List.set_cons_zero, List.set_cons_succ])
        have HX9 : Hid (BoxL U0.heap.size (.int .i64 M1) (.int .i64 N1) (.slice aA L1.length cA) (set3 V3 U0.heap.size (.int .i64 M1) (.int .i64 N1) (.slice aA L1.length cA))) := Lib.hid (BoxL.put3 HX9.out)
        have HX10 : Hid (BoxL y2.heap.size (.int .i64 0) (.int .i64 0) (.slice none 0 0) (set3 V3 U0.heap.size (.int .i64 M1) (.int .i64 N1) (.slice aA L1.length cA))) := Lib.hid (BoxL.far3 HX10.out (show U0.heap.size ≠ y2.heap.size by omega))
        have RA0 : Hid (PatIn _ _ (set3 V3 U0.heap.size (.int .i64 M1) (.int .i64 N1) (.slice aA L1.length cA)) _ _) := Lib.hid (row3 RA0.out (by omega) (by first | omega | (simp [World.setCell] <;> omega)))
        have RB0 : Hid (PatIn _ _ (set3 V3 U0.heap.size (.int .i64 M1) (.int .i64 N1) (.slice aA L1.length cA)) _ _) := Lib.hid (row3 RB0.out (by omega) (by first | omega | (simp [World.setCell] <;> omega)))
        refine reg_call 12 rfl (by kernel_rfl) (by rfl) (fun K hK => ?_)
        have ec0 := HX10.out.1
        have ec1 := HX10.out.2.1
        have ec2 := HX10.out.2.2.1
        have ec3 := HX10.out.2.2.2.1
        have ec4 := HX10.out.2.2.2.2.1
        have ec5 := HX10.out.2.2.2.2.2
        go_simp
        refine hK.out _ _ (KS1.out _ y2.heap.size (.int .i64 M2) (.int .i64 N2) (.slice aB L2.length cB) (by omega) hS) (fun hS' => ?_)
        clear hK K hS ec0 ec1 ec2 ec3 ec4 ec5
        have hS := hS'
        clear hS'
        try (try simp only [Act.put, List.setIfInBounds_toArray, List.set_cons_zero, List.set_cons_succ])
        have HX10 : Hid (BoxL y2.heap.size (.int .i64 M2) (.int .i64 N2) (.slice aB L2.length cB) (set3 (set3 V3 U0.heap.size (.int .i64 M1) (.int .i64 N1) (.slice aA L1.length cA)) y2.heap.size (.int .i64 M2) (.int .i64 N2) (.slice aB L2.length cB))) := Lib.hid (BoxL.put3 HX10.out)
        have HX9 : Hid (BoxL U0.heap.size (.int .i64 M1) (.int .i64 N1) (.slice aA L1.length cA) (set3 (set3 V3 U0.heap.size (.int .i64 M1) (.int .i64 N1) (.slice aA L1.length cA)) y2.heap.size (.int .i64 M2) (.int .i64 N2) (.slice aB L2.length cB))) := Lib.hid (BoxL.far3 HX9.out (show y2.heap.size ≠ U0.heap.size by omega))
        have RA0 : Hid (PatIn _ _ (set3 (set3 V3 U0.heap.size (.int .i64 M1) (.int .i64 N1) (.slice aA L1.length cA)) y2.heap.size (.int .i64 M2) (.int .i64 N2) (.slice aB L2.length cB)) _ _) := Lib.hid (row3 RA0.out (by omega) (by first | omega | (simp [World.setCell] <;> omega)))
        have RB0 : Hid (PatIn _ _ (set3 (set3 V3 U0.heap.size (.int .i64 M1) (.int .i64 N1) (.slice aA L1.length cA)) y2.heap.size (.int .i64 M2) (.int .i64 N2) (.slice aB L2.length cB)) _ _) := Lib.hid (row3 RB0.out (by omega) (by first | omega | (simp [World.setCell] <;> omega)))
        refine reg_take 13 (v := ?_) rfl (by kernel_rfl) (by kernel_rfl) (by kernel_rfl) (fun _ _ _ h => h) (by rfl) (by intro w hSw; (try dsimp only at hSw); go_simp; first | done | with_reducible rfl) hS ?_
        (try simp only [Act.put, List.setIfInBounds_toArray, List.set_cons_zero, List.set_cons_succ])
        refine wpAnyH_done (by kernel_rfl) ?_ _
        have HBW := Lib.hid hS.2.2.2.2.2
        clear hS
        go_wp2_with fail
        go_meet
        exact ⟨_, _, _, _, y2.heap.size, rfl, rfl, HX9, HX10, Lib.hid (RA0.out.wide (by omega) (Nat.le_refl _)), Lib.hid (RB0.out.wide (by omega) (Nat.le_refl _)), by simp [World.setCell] <;> omega, HBW⟩
      · go_simp
        refine hK.out _ _ (KP1.out _ _ (bel0 _ _) hS) (fun hS' => ?_)
        clear hK K hS
        have hS := hS'
        clear hS'
        try (try simp only [Act.put, List.setIfInBounds_toArray, List.set_cons_zero, List.set_cons_succ])
        have hbe : Below V1.heap.size V1 (V1.alloc (.cells #[.int .i64 0, .int .i64 0, .slice none 0 0] 26)) := bel0 _ _
        have HX10 := Lib.hid (BoxL.new V1 (.int .i64 0) (.int .i64 0) (.slice none 0 0) 26)
        have hzV2 : (V1.alloc (.cells #[.int .i64 0, .int .i64 0, .slice none 0 0] 26)).heap.size ≤ V1.heap.size + 1 ∧ V1.heap.size + 1 ≤ (V1.alloc (.cells #[.int .i64 0, .int .i64 0, .slice none 0 0] 26)).heap.size := by simp
        have HX9 := Lib.hid (HX9.out.below hbe (by omega))
        obtain ⟨V2, hV⟩ : ∃ V, V = V1.alloc (.cells #[.int .i64 0, .int .i64 0, .slice none 0 0] 26) := ⟨_, rfl⟩
        rw [← hV] at hS HX9 HX10 hzV2 ⊢
        clear hV hbe
        refine reg_call 4 rfl (by kernel_rfl) (by rfl) (fun K hK => ?_)
        go_simp
        go_at_call 39
        refine (args_eqL (CS.out _ hS) (by with_reducible rfl)).mono ?_
        rintro e y3 ⟨vA, vB, rfl, RA, RB, hb⟩
        have RA0 := Lib.hid RA
        have RB0 := Lib.hid RB
        obtain ⟨aA, cA, rfl⟩ := RA.form
        obtain ⟨aB, cB, rfl⟩ := RB.form
        clear RA RB
        have hzy3 := hb.size
        have HX9 := Lib.hid (HX9.out.below hb (by omega))
        have HX10 := Lib.hid (HX10.out.below hb (by omega))
        refine hK.out _ _ (KP1.out _ _ hb hS) (fun hS' => ?_)
        clear hK K hS
        have hS := hS'
        clear hS'
        try (try simp only [Act.put, List.setIfInBounds_toArray, List.set_cons_zero, List.set_cons_succ])
        clear hb
        refine reg_take 5 (v := ?_) rfl (by kernel_rfl) (by kernel_rfl) (by kernel_rfl) (fun _ _ _ h => h) (by rfl) (by intro w hSw; (try dsimp only at hSw); go_simp; first | done | with_reducible rfl) hS ?_
        (try simp only [Act.put, List.setIfInBounds_toArray, List.set_cons_zero, List.set_cons_succ])
        refine reg_take 6 (v := ?_) rfl (by kernel_rfl) (by kernel_rfl) (by kernel_rfl) (fun _ _ _ h => h) (by rfl) (by intro w hSw; (try dsimp only at hSw); go_simp; first | done | with_reducible rfl) hS ?_
        (try simp only [Act.put, List.setIfInBounds_toArray, List.set_cons_zero, List.set_cons_succ])
        refine reg_take 7 (v := ?_) rfl (by kernel_rfl) (by kernel_rfl) (by kernel_rfl) (fun _ _ _ h => h) (by rfl) (by intro w hSw; (try dsimp only at hSw); go_simp; first | done | with_reducible rfl) hS ?_
        (try simp only [Act.put, List.setIfInBounds_toArray, List.set_cons_zero, List.set_cons_succ])
        refine reg_take 8 (v := ?_) rfl (by kernel_rfl) (by kernel_rfl) (by kernel_rfl) (fun _ _ _ h => h) (by rfl) (by intro w hSw; (try dsimp only at hSw); go_simp; first | done | with_reducible rfl) hS ?_
        (try simp only [Act.put, List.setIfInBounds_toArray, List.set_cons_zero, List.set_cons_succ])
        clear KP1
        refine reg_call 11 rfl (by kernel_rfl) (by rfl) (fun K hK => ?_)
        have ec0 := HX9.out.1
        have ec1 := HX9.out.2.1
        have ec2 := HX9.out.2.2.1
        have ec3 := HX9.out.2.2.2.1
        have ec4 := HX9.out.2.2.2.2.1
        have ec5 := HX9.out.2.2.2.2.2
        go_simp
        refine hK.out _ _ (KS1.out _ U0.heap.size (.int .i64 M1) (.int .i64 N1) (.slice aA L1.length cA) (by omega) hS) (fun hS' => ?_)
        clear hK K hS ec0 ec1 ec2 ec3 ec4 ec5
        have hS := hS'
        clear hS'
        try (try simp only [Act.put, List.setIfInBounds_toArray, List.set_cons_zero, List.set_cons_succ])
        have HX9 : Hid (BoxL U0.heap.size (.int .i64 M1) (.int .i64 N1) (.slice aA L1.length cA) (set3 y3 U0.heap.size (.int .i64 M1) (.int .i64 N1) (.slice aA L1.length cA))) := Lib.hid (BoxL.put3 HX9.out)
        have HX10 : Hid (BoxL V1.heap.size (.int .i64 0) (.int .i64 0) (.slice none 0 0) (set3 y3 U0.heap.size (.int .i64 M1) (.int .i64 N1) (.slice aA L1.length cA))) := Lib.hid (BoxL.far3 HX10.out (show U0.heap.size ≠ V1.heap.size by omega))
        have RA0 : Hid (PatIn _ _ (set3 y3 U0.heap.size (.int .i64 M1) (.int .i64 N1) (.slice aA L1.length cA)) _ _) := Lib.hid (row3 RA0.out (by omega) (by first | omega | (simp [World.setCell] <;> omega)))
        have RB0 : Hid (PatIn _ _ (set3 y3 U0.heap.size (.int .i64 M1) (.int .i64 N1) (.slice aA L1.length cA)) _ _) := Lib.hid (row3 RB0.out (by omega) (by first | omega | (simp [World.setCell] <;> omega)))
        refine reg_call 12 rfl (by kernel_rfl) (by rfl) (fun K hK => ?_)
        have ec0 := HX10.out.1
        have ec1 := HX10.out.2.1
        have ec2 := HX10.out.2.2.1
        have ec3 := HX10.out.2.2.2.1
        have ec4 := HX10.out.2.2.2.2.1
        have ec5 := HX10.out.2.2.2.2.2
        go_simp
        refine hK.out _ _ (KS1.out _ V1.heap.size (.int .i64 M2) (.int .i64 N2) (.slice aB L2.length cB) (by omega) hS) (fun hS' => ?_)
        clear hK K hS ec0 ec1 ec2 ec3 ec4 ec5
        have hS := hS'
        clear hS'
        try (try simp only [Act.put, List.setIfInBounds_toArray, List.set_cons_zero, List.set_cons_succ])
        have HX10 : Hid (BoxL V1.heap.size (.int .i64 M2) (.int .i64 N2) (.slice aB L2.length cB) (set3 (set3 y3 U0.heap.size (.int .i64 M1) (.int .i64 N1) (.slice aA L1.length cA)) V1.heap.size (.int .i64 M2) (.int .i64 N2) (.slice aB L2.length cB))) := Lib.hid (BoxL.put3 HX10.out)
        have HX9 : Hid (BoxL U0.heap.size (.int .i64 M1) (.int .i64 N1) (.slice aA L1.length cA) (set3 (set3 y3 U0.heap.size (.int .i64 M1) (.int .i64 N1) (.slice aA L1.length cA)) V1.heap.size (.int .i64 M2) (.int .i64 N2) (.slice aB L2.length cB))) := Lib.hid (BoxL.far3 HX9.out (show V1.heap.size ≠ U0.heap.size by omega))
        have RA0 : Hid (PatIn _ _ (set3 (set3 y3 U0.heap.size (.int .i64 M1) (.int .i64 N1) (.slice aA L1.length cA)) V1.heap.size (.int .i64 M2) (.int .i64 N2) (.slice aB L2.length cB)) _ _) := Lib.hid (row3 RA0.out (by omega) (by first | omega | (simp [World.setCell] <;> omega)))
        have RB0 : Hid (PatIn _ _ (set3 (set3 y3 U0.heap.size (.int .i64 M1) (.int .i64 N1) (.slice aA L1.length cA)) V1.heap.size (.int .i64 M2) (.int .i64 N2) (.slice aB L2.length cB)) _ _) := Lib.hid (row3 RB0.out (by omega) (by first | omega | (simp [World.setCell] <;> omega)))
        refine reg_take 13 (v := ?_) rfl (by kernel_rfl) (by kernel_rfl) (by kernel_rfl) (fun _ _ _ h => h) (by rfl) (by intro w hSw; (try dsimp only at hSw); go_simp; first | done | with_reducible rfl) hS ?_
        (try simp only [Act.put, List.setIfInBounds_toArray, List.set_cons_zero, List.set_cons_succ])
        refine wpAnyH_done (by kernel_rfl) ?_ _
        have HBW := Lib.hid hS.2.2.2.2.2
        clear hS
        go_wp2_with fail
        go_meet
        exact ⟨_, _, _, _, y3.heap.size, rfl, rfl, HX9, HX10, Lib.hid (RA0.out.wide (by omega) (Nat.le_refl _)), Lib.hid (RB0.out.wide (by omega) (Nat.le_refl _)), by simp [World.setCell] <;> omega, HBW⟩
    · go_simp
      refine hK.out _ _ (KP1.out _ _ (bel0 _ _) hS) (fun hS' => ?_)
      clear hK K hS
      have hS := hS'
      clear hS'
      try (try simp only [Act.put, List.setIfInBounds_toArray, List.set_cons_zero, List.set_cons_succ])
      have hbe : Below U0.heap.size U0 (U0.alloc (.cells #[.int .i64 0, .int .i64 0, .slice none 0 0] 26)) := bel0 _ _
      have HX10 := Lib.hid (BoxL.new U0 (.int .i64 0) (.int .i64 0) (.slice none 0 0) 26)
      have hzV1 : (U0.alloc (.cells #[.int .i64 0, .int .i64 0, .slice none 0 0] 26)).heap.size ≤ U0.heap.size + 1 ∧ U0.heap.size + 1 ≤ (U0.alloc (.cells #[.int .i64 0, .int .i64 0, .slice none 0 0] 26)).heap.size := by simp
      obtain ⟨V1, hV⟩ : ∃ V, V = U0.alloc (.cells #[.int .i64 0, .int .i64 0, .slice none 0 0] 26) := ⟨_, rfl⟩
      rw [← hV] at hS HX10 hzV1 ⊢
      clear hV hbe
      refine reg_two 4 9 rfl rfl (by kernel_rfl) (by rfl) (by rfl) (fun K hK => ?_) (fun K hK => ?_)
      · go_simp
        go_at_call 39
        refine (args_eqL (CS.out _ hS) (by with_reducible rfl)).mono ?_
        rintro e y2 ⟨vA, vB, rfl, RA, RB, hb⟩
        have RA0 := Lib.hid RA
        have RB0 := Lib.hid RB
        obtain ⟨aA, cA, rfl⟩ := RA.form
        obtain ⟨aB, cB, rfl⟩ := RB.form
        clear RA RB
        have hzy2 := hb.size
        have HX10 := Lib.hid (HX10.out.below hb (by omega))
        refine hK.out _ _ (KP1.out _ _ hb hS) (fun hS' => ?_)
        clear hK K hS
        have hS := hS'
        clear hS'
        try (try simp only [Act.put, List.setIfInBounds_toArray, List.set_cons_zero, List.set_cons_succ])
        clear hb
        refine reg_take 5 (v := ?_) rfl (by kernel_rfl) (by kernel_rfl) (by kernel_rfl) (fun _ _ _ h => h) (by rfl) (by intro w hSw; (try dsimp only at hSw); go_simp; first | done | with_reducible rfl) hS ?_
        (try simp only [Act.put, List.setIfInBounds_toArray, List.set_cons_zero, List.set_cons_succ])
        refine reg_take 6 (v := ?_) rfl (by kernel_rfl) (by kernel_rfl) (by kernel_rfl) (fun _ _ _ h => h) (by rfl) (by intro w hSw; (try dsimp only at hSw); go_simp; first | done | with_reducible rfl) hS ?_
        (try simp only [Act.put, List.setIfInBounds_toArray, List.set_cons_zero, List.set_cons_succ])
        refine reg_take 7 (v := ?_) rfl (by kernel_rfl) (by kernel_rfl) (by kernel_rfl) (fun _ _ _ h => h) (by rfl) (by intro w hSw; (try dsimp only at hSw); go_simp; first | done | with_reducible rfl) hS ?_
        (try simp only [Act.put, List.setIfInBounds_toArray, List.set_cons_zero, List.set_cons_succ])
        refine reg_take 8 (v := ?_) rfl (by kernel_rfl) (by kernel_rfl) (by kernel_rfl) (fun _ _ _ h => h) (by rfl) (by intro w hSw; (try dsimp only at hSw); go_simp; first | done | with_reducible rfl) hS ?_
        (try simp only [Act.put, List.setIfInBounds_toArray, List.set_cons_zero, List.set_cons_succ])
        refine reg_call 9 rfl (by kernel_rfl) (by rfl) (fun K hK => ?_)
        go_simp
        refine hK.out _ _ (KP1.out _ _ (bel0 _ _) hS) (fun hS' => ?_)
        clear hK K hS
        have hS := hS'
        clear hS'
        try (try simp only [Act.put, List.setIfInBounds_toArray, List.set_cons_zero, List.set_cons_succ])
        have hbe : Below y2.heap.size y2 (y2.alloc (.cells #[.int .i64 0, .int .i64 0, .slice none 0 0] 26)) := bel0 _ _
        have HX9 := Lib.hid (BoxL.new y2 (.int .i64 0) (.int .i64 0) (.slice none 0 0) 26)
        have hzV3 : (y2.alloc (.cells #[.int .i64 0, .int .i64 0, .slice none 0 0] 26)).heap.size ≤ y2.heap.size + 1 ∧ y2.heap.size + 1 ≤ (y2.alloc (.cells #[.int .i64 0, .int .i64 0, .slice none 0 0] 26)).heap.size := by simp
        have HX10 := Lib.hid (HX10.out.below hbe (by omega))
        have RA0 := Lib.hid (RA0.out.below (hbe.mono (by omega)))
        have RB0 := Lib.hid (RB0.out.below (hbe.mono (by omega)))
        obtain ⟨V3, hV⟩ : ∃ V, V = y2.alloc (.cells #[.int .i64 0, .int .i64 0, .slice none 0 0] 26) := ⟨_, rfl⟩
        rw [← hV] at hS HX10 HX9 hzV3 RA0 RB0 ⊢
        clear hV hbe
        clear KP1
        refine reg_call 11 rfl (by kernel_rfl) (by rfl) (fun K hK => ?_)
        have ec0 := HX9.out.1
        have ec1 := HX9.out.2.1
        have ec2 := HX9.out.2.2.1
        have ec3 := HX9.out.2.2.2.1
        have ec4 := HX9.out.2.2.2.2.1
        have ec5 := HX9.out.2.2.2.2.2
        go_simp
        refine hK.out _ _ (KS1.out _ y2.heap.size (.int .i64 M1) (.int .i64 N1) (.slice aA L1.length cA) (by omega) hS) (fun hS' => ?_)
        clear hK K hS ec0 ec1 ec2 ec3 ec4 ec5
        have hS := hS'
        clear hS'
        try (try simp only [Act.put, List.setIfInBounds_toArray, List.set_cons_zero, List.set_cons_succ])
        have HX9 : Hid (BoxL y2.heap.size (.int .i64 M1) (.int .i64 N1) (.slice aA L1.length cA) (set3 V3 y2.heap.size (.int .i64 M1) (.int .i64 N1) (.slice aA L1.length cA))) := Lib.hid (BoxL.put3 HX9.out)
        have HX10 : Hid (BoxL U0.heap.size (.int .i64 0) (.int .i64 0) (.slice none 0 0) (set3 V3 y2.heap.size (.int .i64 M1) (.int .i64 N1) (.slice aA L1.length cA))) := Lib.hid (BoxL.far3 HX10.out (show y2.heap.size ≠ U0.heap.size by omega))
        have RA0 : Hid (PatIn _ _ (set3 V3 y2.heap.size (.int .i64 M1) (.int .i64 N1) (.slice aA L1.length cA)) _ _) := Lib.hid (row3 RA0.out (by omega) (by first | omega | (simp [World.setCell] <;> omega)))
        have RB0 : Hid (PatIn _ _ (set3 V3 y2.heap.size (.int .i64 M1) (.int .i64 N1) (.slice aA L1.length cA)) _ _) := Lib.hid (row3 RB0.out (by omega) (by first | omega | (simp [World.setCell] <;> omega)))
        refine reg_call 12 rfl (by kernel_rfl) (by rfl) (fun K hK => ?_)
        have ec0 := HX10.out.1
        have ec1 := HX10.out.2.1
        have ec2 := HX10.out.2.2.1
        have ec3 := HX10.out.2.2.2.1
        have ec4 := HX10.out.2.2.2.2.1
        have ec5 := HX10.out.2.2.2.2.2
        go_simp
        refine hK.out _ _ (KS1.out _ U0.heap.size (.int .i64 M2) (.int .i64 N2) (.slice aB L2.length cB) (by omega) hS) (fun hS' => ?_)
        clear hK K hS ec0 ec1 ec2 ec3 ec4 ec5
        have hS := hS'
        clear hS'
        try (try simp only [Act.put, List.setIfInBounds_toArray, List.set_cons_zero, List.set_cons_succ])
        have HX10 : Hid (BoxL U0.heap.size (.int .i64 M2) (.int .i64 N2) (.slice aB L2.length cB) (set3 (set3 V3 y2.heap.size (.int .i64 M1) (.int .i64 N1) (.slice aA L1.length cA)) U0.heap.size (.int .i64 M2) (.int .i64 N2) (.slice aB L2.length cB))) := Lib.hid (BoxL.put3 HX10.out)
        have HX9 : Hid (BoxL y2.heap.size (.int .i64 M1) (.int .i64 N1) (.slice aA L1.length cA) (set3 (set3 V3 y2.heap.size (.int .i64 M1) (.int .i64 N1) (.slice aA L1.length cA)) U0.heap.size (.int .i64 M2) (.int .i64 N2) (.slice aB L2.length cB))) := Lib.hid (BoxL.far3 HX9.out (show U0.heap.size ≠ y2.heap.size by omega))
        have RA0 : Hid (PatIn _ _ (set3 (set3 V3 y2.heap.size (.int .i64 M1) (.int .i64 N1) (.slice aA L1.length cA)) U0.heap.size (.int .i64 M2) (.int .i64 N2) (.slice aB L2.length cB)) _ _) := Lib.hid (row3 RA0.out (by omega) (by first | omega | (simp [World.setCell] <;> omega)))
        have RB0 : Hid (PatIn _ _ (set3 (set3 V3 y2.heap.size (.int .i64 M1) (.int .i64 N1) (.slice aA L1.length cA)) U0.heap.size (.int .i64 M2) (.int .i64 N2) (.slice aB L2.length cB)) _ _) := Lib.hid (row3 RB0.out (by omega) (by first | omega | (simp [World.setCell] <;> omega)))
        refine reg_take 13 (v := ?_) rfl (by kernel_rfl) (by kernel_rfl) (by kernel_rfl) (fun _ _ _ h => h) (by rfl) (by intro w hSw; (try dsimp only at hSw); go_simp; first | done | with_reducible rfl) hS ?_
        (try simp only [Act.put, List.setIfInBounds_toArray, List.set_cons_zero, List.set_cons_succ])
        refine wpAnyH_done (by kernel_rfl) ?_ _
        have HBW := Lib.hid hS.2.2.2.2.2
        clear hS
        go_wp2_with fail
        go_meet
        exact ⟨_, _, _, _, y2.heap.size, rfl, rfl, HX9, HX10, Lib.hid (RA0.out.wide (by omega) (Nat.le_refl _)), Lib.hid (RB0.out.wide (by omega) (Nat.le_refl _)), by simp [World.setCell] <;> omega, HBW⟩
      · go_simp
        refine hK.out _ _ (KP1.out _ _ (bel0 _ _) hS) (fun hS' => ?_)
        clear hK K hS
        have hS := hS'
        clear hS'
        try (try simp only [Act.put, List.setIfInBounds_toArray, List.set_cons_zero, List.set_cons_succ])
        have hbe : Below V1.heap.size V1 (V1.alloc (.cells #[.int .i64 0, .int .i64 0, .slice none 0 0] 26)) := bel0 _ _
        have HX9 := Lib.hid (BoxL.new V1 (.int .i64 0) (.int .i64 0) (.slice none 0 0) 26)
        have hzV2 : (V1.alloc (.cells #[.int .i64 0, .int .i64 0, .slice none 0 0] 26)).heap.size ≤ V1.heap.size + 1 ∧ V1.heap.size + 1 ≤ (V1.alloc (.cells #[.int .i64 0, .int .i64 0, .slice none 0 0] 26)).heap.size := by simp
        have HX10 := Lib.hid (HX10.out.below hbe (by omega))
        obtain ⟨V2, hV⟩ : ∃ V, V = V1.alloc (.cells #[.int .i64 0, .int .i64 0, .slice none 0 0] 26) := ⟨_, rfl⟩
        rw [← hV] at hS HX10 HX9 hzV2 ⊢
        clear hV hbe
        refine reg_call 4 rfl (by kernel_rfl) (by rfl) (fun K hK => ?_)
        go_simp
        go_at_call 39
        refine (args_eqL (CS.out _ hS) (by with_reducible rfl)).mono ?_
        rintro e y3 ⟨vA, vB, rfl, RA, RB, hb⟩
        have RA0 := Lib.hid RA
        have RB0 := Lib.hid RB
        obtain ⟨aA, cA, rfl⟩ := RA.form
        obtain ⟨aB, cB, rfl⟩ := RB.form
        clear RA RB
        have hzy3 := hb.size
        have HX10 := Lib.hid (HX10.out.below hb (by omega))
        have HX9 := Lib.hid (HX9.out.below hb (by omega))
        refine hK.out _ _ (KP1.out _ _ hb hS) (fun hS' => ?_)
        clear hK K hS
        have hS := hS'
        clear hS'
        try (try simp only [Act.put, List.setIfInBounds_toArray, List.set_cons_zero, List.set_cons_succ])
        clear hb
        refine reg_take 5 (v := ?_) rfl (by kernel_rfl) (by kernel_rfl) (by kernel_rfl) (fun _ _ _ h => h) (by rfl) (by intro w hSw; (try dsimp only at hSw); go_simp; first | done | with_reducible rfl) hS ?_
        (try simp only [Act.put, List.setIfInBounds_toArray, List.set_cons_zero, List.set_cons_succ])
        refine reg_take 6 (v := ?_) rfl (by kernel_rfl) (by kernel_rfl) (by kernel_rfl) (fun _ _ _ h => h) (by rfl) (by intro w hSw; (try dsimp only at hSw); go_simp; first | done | with_reducible rfl) hS ?_
        (try simp only [Act.put, List.setIfInBounds_toArray, List.set_cons_zero, List.set_cons_succ])
        refine reg_take 7 (v := ?_) rfl (by kernel_rfl) (by kernel_rfl) (by kernel_rfl) (fun _ _ _ h => h) (by rfl) (by intro w hSw; (try dsimp only at hSw); go_simp; first | done | with_reducible rfl) hS ?_
        (try simp only [Act.put, List.setIfInBounds_toArray, List.set_cons_zero, List.set_cons_succ])
        refine reg_take 8 (v := ?_) rfl (by kernel_rfl) (by kernel_rfl) (by kernel_rfl) (fun _ _ _ h => h) (by rfl) (by intro w hSw; (try dsimp only at hSw); go_simp; first | done | with_reducible rfl) hS ?_
        (try simp only [Act.put, List.setIfInBounds_toArray, List.set_cons_zero, List.set_cons_succ])
        clear KP1
        refine reg_call 11 rfl (by kernel_rfl) (by rfl) (fun K hK => ?_)
        have ec0 := HX9.out.1
        have ec1 := HX9.out.2.1
        have ec2 := HX9.out.2.2.1
        have ec3 := HX9.out.2.2.2.1
        have ec4 := HX9.out.2.2.2.2.1
        have ec5 := HX9.out.2.2.2.2.2
        go_simp
        refine hK.out _ _ (KS1.out _ V1.heap.size (.int .i64 M1) (.int .i64 N1) (.slice aA L1.length cA) (by omega) hS) (fun hS' => ?_)
        clear hK K hS ec0 ec1 ec2 ec3 ec4 ec5
        have hS := hS'
        clear hS'
        try (try simp only [Act.put, List.setIfInBounds_toArray, List.set_cons_zero, List.set_cons_succ])
        have HX9 : Hid (BoxL V1.heap.size (.int .i64 M1) (.int .i64 N1) (.slice aA L1.length cA) (set3 y3 V1.heap.size (.int .i64 M1) (.int .i64 N1) (.slice aA L1.length cA))) := Lib.hid (BoxL.put3 HX9.out)
        have HX10 : Hid (BoxL U0.heap.size (.int .i64 0) (.int .i64 0) (.slice none 0 0) (set3 y3 V1.heap.size (.int .i64 M1) (.int .i64 N1) (.slice aA L1.length cA))) := Lib.hid (BoxL.far3 HX10.out (show V1.heap.size ≠ U0.heap.size by omega))
        have RA0 : Hid (PatIn _ _ (set3 y3 V1.heap.size (.int .i64 M1) (.int .i64 N1) (.slice aA L1.length cA)) _ _) := Lib.hid (row3 RA0.out (by omega) (by first | omega | (simp [World.setCell] <;> omega)))
        have RB0 : Hid (PatIn _ _ (set3 y3 V1.heap.size (.int .i64 M1) (.int .i64 N1) (.slice aA L1.length cA)) _ _) := Lib.hid (row3 RB0.out (by omega) (by first | omega | (simp [World.setCell] <;> omega)))
        refine reg_call 12 rfl (by kernel_rfl) (by rfl) (fun K hK => ?_)
        have ec0 := HX10.out.1
        have ec1 := HX10.out.2.1
        have ec2 := HX10.out.2.2.1
        have ec3 := HX10.out.2.2.2.1
        have ec4 := HX10.out.2.2.2.2.1
        have ec5 := HX10.out.2.2.2.2.2
        go_simp
        refine hK.out _ _ (KS1.out _ U0.heap.size (.int .i64 M2) (.int .i64 N2) (.slice aB L2.length cB) (by omega) hS) (fun hS' => ?_)
        clear hK K hS ec0 ec1 ec2 ec3 ec4 ec5
        have hS := hS'
        clear hS'
        try (try simp only [Act.put, List.setIfInBounds_toArray, List.set_cons_zero, List.set_cons_succ])
        have HX10 : Hid (BoxL U0.heap.size (.int .i64 M2) (.int .i64 N2) (.slice aB L2.length cB) (set3 (set3 y3 V1.heap.size (.int .i64 M1) (.int .i64 N1) (.slice aA L1.length cA)) U0.heap.size (.int .i64 M2) (.int .i64 N2) (.slice aB L2.length cB))) := Lib.hid (BoxL.put3 HX10.out)
        have HX9 : Hid (BoxL V1.heap.size (.int .i64 M1) (.int .i64 N1) (.slice aA L1.length cA) (set3 (set3 y3 V1.heap.size (.int .i64 M1) (.int .i64 N1) (.slice aA L1.length cA)) U0.heap.size (.int .i64 M2) (.int .i64 N2) (.slice aB L2.length cB))) := Lib.hid (BoxL.far3 HX9.out (show U0.heap.size ≠ V1.heap.size by omega))
        have RA0 : Hid (PatIn _ _ (set3 (set3 y3 V1.heap.size (.int .i64 M1) (.int .i64 N1) (.slice aA L1.length cA)) U0.heap.size (.int .i64 M2) (.int .i64 N2) (.slice aB L2.length cB)) _ _) := Lib.hid (row3 RA0.out (by omega) (by first | omega | (simp [World.setCell] <;> omega)))
        have RB0 : Hid (PatIn _ _ (set3 (set3 y3 V1.heap.size (.int .i64 M1) (.int .i64 N1) (.slice aA L1.length cA)) U0.heap.size (.int .i64 M2) (.int .i64 N2) (.slice aB L2.length cB)) _ _) := Lib.hid (row3 RB0.out (by omega) (by first | omega | (simp [World.setCell] <;> omega)))
        refine reg_take 13 (v := ?_) rfl (by kernel_rfl) (by kernel_rfl) (by kernel_rfl) (fun _ _ _ h => h) (by rfl) (by intro w hSw; (try dsimp only at hSw); go_simp; first | done | with_reducible rfl) hS ?_
        (try simp only [Act.put, List.setIfInBounds_toArray, List.set_cons_zero, List.set_cons_succ])
        refine wpAnyH_done (by kernel_rfl) ?_ _
        have HBW := Lib.hid hS.2.2.2.2.2
        clear hS
        go_wp2_with fail
        go_meet
        exact ⟨_, _, _, _, y3.heap.size, rfl, rfl, HX9, HX10, Lib.hid (RA0.out.wide (by omega) (Nat.le_refl _)), Lib.hid (RB0.out.wide (by omega) (Nat.le_refl _)), by simp [World.setCell] <;> omega, HBW⟩
  case rest =>
    obtain ⟨pA, pB, vA, vB, k, rfl, rfl, HA, HB, RA, RB, hk, HBW⟩ := hcut
    have hsx := HBW.out.size
    obtain ⟨a0, a1, a2, _, _, _⟩ := HA.out
    clear b0 b1 b2 e0 e1 S0 CS CC KP1 KS1
    go_wp2_with fail
    refine (HIH.out G.heap.size k vA _ RA.out hk).mono ?_
    rintro e y ⟨rfl, hby⟩
    have hsy := hby.size
    have HBY : Hid (Below w.heap.size w y) := Lib.hid (bel_c (HB1.out.trans (HBW.out.mono (by omega))) (Nat.le_refl _) hby)
    clear hby a0 a1 a2
    go_wp2_with fail
    go_ret
    exact ⟨rfl, HBY.out⟩

set_option maxHeartbeats 6400000 in
set_option maxRecDepth 20000 in
theorem Sew_right (lo hi : Nat) (m n : Int) (v : Value) (xs : List P5) (c : C2) (rr : List C2) (z : Bool) (w : World) (r : PatIn lo hi w v xs) (hhi : hi ≤ w.heap.size) (lay : LayOk m n xs) (hl1 : xs.length ≠ 1) (hcs : cutsL m n xs = c :: rr)
    (ih : ∀ (lo hi : Nat) (v : Value) (w : World), PatIn lo hi w v (pL1 m n c xs) → hi ≤ w.heap.size → Calls Try.prog 12 #[.agg #[.int .i64 (pM1 m c), .int .i64 (pN1 n c), v]] w (fun e w' => e = .returned (.bool true) ∧ Below w.heap.size w w'))
    (ih2 : ∀ (lo hi : Nat) (v : Value) (w : World), PatIn lo hi w v (pL2 m n c xs) → hi ≤ w.heap.size → Calls Try.prog 12 #[.agg #[.int .i64 (pM2 m c), .int .i64 (pN2 n c), v]] w (fun e w' => e = .returned (.bool z) ∧ Below w.heap.size w w')) :
    Calls Try.prog 12 #[.agg #[.int .i64 m, .int .i64 n, v]] w (fun e w' => e = .returned (.bool z) ∧ Below w.heap.size w w') := by
  have hc := first_cut hcs
  obtain ⟨b, cap, rfl⟩ := r.form
  have R := Lib.hid r
  have HL := Lib.hid lay
  have HC := Lib.hid hc
  have hd : ((xs.length : Int) == 1) = false := by simp; omega
  have LK : Hid (∀ u : World, Below w.heap.size w u → Calls Try.prog 37 #[.agg #[.int .i64 m, .int .i64 n, .slice b xs.length cap]] u fun e w' => e = .returned (.bool true) ∧ Below u.heap.size u w') := Lib.hid (fun u hb => by rw [lay_yes lay]; exact SpecLayoutOk_any lo hi m n _ xs u (r.below (hb.mono hhi)) (Nat.le_trans hhi hb.size))
  have CC : Hid (∀ u : World, Below w.heap.size w u → Calls Try.prog 38 #[.agg #[.int .i64 m, .int .i64 n, .slice b xs.length cap]] u (FreshCut (c :: rr) u)) := Lib.hid (fun u hb => by rw [← hcs, ← cuts_yes (lay_yes lay).symm]; exact SpecCutsOf_any lo hi m n _ xs u (r.below (hb.mono hhi)) (Nat.le_trans hhi hb.size))
  have HB0 : Hid (Below w.heap.size w (w.alloc (.cells #[.int .i64 m, .int .i64 n, .slice b xs.length cap] 26))) := Lib.hid (bel0 w _)
  have HIH := Lib.hid ih
  have HIH2 := Lib.hid ih2
  clear r lay hcs hc ih ih2
  go_enter Try.func12, Try.ntmps12
  go_wp2_with fail
  refine (LK.out _ HB0.out).mono ?_
  rintro e w0 ⟨rfl, hb0⟩
  have a0 := kept (p := ⟨w.heap.size, 0, none⟩) (x := .int .i64 m) hb0 (by go_simp)
  have a1 := kept (p := ⟨w.heap.size, 1, none⟩) (x := .int .i64 n) hb0 (by go_simp)
  have a2 := kept (p := ⟨w.heap.size, 2, none⟩) (x := .slice b xs.length cap) hb0 (by go_simp)
  have HB00 := Lib.hid (bel_c HB0.out (Nat.le_refl _) hb0)
  clear hb0
  go_wp2_with fail
  refine (CC.out _ HB00.out).mono ?_
  rintro e w1 ⟨vc, rfl, RC, hb1⟩
  obtain ⟨ac, cc, rfl⟩ := RC.form
  obtain ⟨g, rfl, hg, hg1, ⟨e0, e1⟩, _⟩ := RC.at (Below.refl _ _) (i := 0) (by simp)
  obtain ⟨up, a⟩ := c
  simp only [Nat.zero_mul, Nat.zero_add, List.getD_cons_zero] at e0 e1
  have b0 := kept hb1 a0
  have b1 := kept hb1 a1
  have b2 := kept hb1 a2
  have hs1 := hb1.size
  have hs0 := HB00.out.size
  have HB1 := Lib.hid (bel_c HB00.out (Nat.le_refl _) hb1)
  clear hb1 RC a0 a1 a2 HB00 HB0
  generalize w1 = G at *
  obtain ⟨M1, hM1⟩ : ∃ M1, M1 = pM1 m ⟨up, a⟩ := ⟨_, rfl⟩
  obtain ⟨N1, hN1⟩ : ∃ N1, N1 = pN1 n ⟨up, a⟩ := ⟨_, rfl⟩
  obtain ⟨M2, hM2⟩ : ∃ M2, M2 = pM2 m ⟨up, a⟩ := ⟨_, rfl⟩
  obtain ⟨N2, hN2⟩ : ∃ N2, N2 = pN2 n ⟨up, a⟩ := ⟨_, rfl⟩
  obtain ⟨L1, hL1⟩ : ∃ L1, L1 = pL1 m n ⟨up, a⟩ xs := ⟨_, rfl⟩
  obtain ⟨L2, hL2⟩ : ∃ L2, L2 = pL2 m n ⟨up, a⟩ xs := ⟨_, rfl⟩
  have D0 : Below G.heap.size G G.drew := ⟨rfl, rfl, rfl, Nat.le_refl _, fun _ _ => rfl⟩
  have CS : Hid (∀ u : World, (u.cell? ⟨w.heap.size, 0, none⟩ = some (.int .i64 m) ∧ u.cell? ⟨w.heap.size, 1, none⟩ = some (.int .i64 n) ∧ u.cell? ⟨w.heap.size, 2, none⟩ = some (.slice b xs.length cap) ∧ u.cell? ⟨g, 0, none⟩ = some (.bool up) ∧ u.cell? ⟨g, 1, none⟩ = some (.int .i64 a) ∧ Below G.heap.size G u) → Calls Try.prog 39 #[.agg #[.int .i64 m, .int .i64 n, .slice b xs.length cap], .agg #[.bool up, .int .i64 a]] u (SplitLW M1 N1 L1 M2 N2 L2 true u)) := Lib.hid (fun u h => by
    have hu := bel_c HB1.out (Nat.le_refl _) h.2.2.2.2.2
    have hcb : cutB m n xs ⟨up, a⟩ = true := by rw [← cut_lay (lay_yes HL.out).symm]; exact HC.out
    have hsp := SpecSplitLayout_any lo hi m n _ xs up a u (R.out.below (hu.mono hhi)) (Nat.le_trans hhi hu.size)
    obtain ⟨e1, e2, e3, e4, e5, e6⟩ := s_yes hcb
    rw [e1, e2, e3, e4, e5, e6, hcb, ← hM1, ← hN1, ← hM2, ← hN2, ← hL1, ← hL2] at hsp
    exact hsp)
  have S0 : G.drew.cell? ⟨w.heap.size, 0, none⟩ = some (.int .i64 m) ∧ G.drew.cell? ⟨w.heap.size, 1, none⟩ = some (.int .i64 n) ∧ G.drew.cell? ⟨w.heap.size, 2, none⟩ = some (.slice b xs.length cap) ∧ G.drew.cell? ⟨g, 0, none⟩ = some (.bool up) ∧ G.drew.cell? ⟨g, 1, none⟩ = some (.int .i64 a) ∧ Below G.heap.size G G.drew := ⟨kept D0 b0, kept D0 b1, kept D0 b2, kept D0 e0, kept D0 e1, D0⟩
  rw [← hM1, ← hN1, ← hL1] at HIH
  rw [← hM2, ← hN2, ← hL2] at HIH2
  clear hM1 hN1 hM2 hN2 hL1 hL2
  have KP : ∀ u v : World, Below u.heap.size u v → (u.cell? ⟨w.heap.size, 0, none⟩ = some (.int .i64 m) ∧ u.cell? ⟨w.heap.size, 1, none⟩ = some (.int .i64 n) ∧ u.cell? ⟨w.heap.size, 2, none⟩ = some (.slice b xs.length cap) ∧ u.cell? ⟨g, 0, none⟩ = some (.bool up) ∧ u.cell? ⟨g, 1, none⟩ = some (.int .i64 a) ∧ Below G.heap.size G u) → (v.cell? ⟨w.heap.size, 0, none⟩ = some (.int .i64 m) ∧ v.cell? ⟨w.heap.size, 1, none⟩ = some (.int .i64 n) ∧ v.cell? ⟨w.heap.size, 2, none⟩ = some (.slice b xs.length cap) ∧ v.cell? ⟨g, 0, none⟩ = some (.bool up) ∧ v.cell? ⟨g, 1, none⟩ = some (.int .i64 a) ∧ Below G.heap.size G v) := fun u v hb h => ⟨kept hb h.1, kept hb h.2.1, kept hb h.2.2.1, kept hb h.2.2.2.1, kept hb h.2.2.2.2.1, bel_c h.2.2.2.2.2 (Nat.le_refl _) hb⟩
  have KS : ∀ (u : World) (p : Nat) (x0 x1 x2 : Value), G.heap.size ≤ p → (u.cell? ⟨w.heap.size, 0, none⟩ = some (.int .i64 m) ∧ u.cell? ⟨w.heap.size, 1, none⟩ = some (.int .i64 n) ∧ u.cell? ⟨w.heap.size, 2, none⟩ = some (.slice b xs.length cap) ∧ u.cell? ⟨g, 0, none⟩ = some (.bool up) ∧ u.cell? ⟨g, 1, none⟩ = some (.int .i64 a) ∧ Below G.heap.size G u) → ((set3 u p x0 x1 x2).cell? ⟨w.heap.size, 0, none⟩ = some (.int .i64 m) ∧ (set3 u p x0 x1 x2).cell? ⟨w.heap.size, 1, none⟩ = some (.int .i64 n) ∧ (set3 u p x0 x1 x2).cell? ⟨w.heap.size, 2, none⟩ = some (.slice b xs.length cap) ∧ (set3 u p x0 x1 x2).cell? ⟨g, 0, none⟩ = some (.bool up) ∧ (set3 u p x0 x1 x2).cell? ⟨g, 1, none⟩ = some (.int .i64 a) ∧ Below G.heap.size G (set3 u p x0 x1 x2)) := fun u p x0 x1 x2 hp h => by
    have h1 : p ≠ w.heap.size := by omega
    have h2 : p ≠ g := by omega
    exact ⟨(set3_far h1).trans h.1, (set3_far h1).trans h.2.1, (set3_far h1).trans h.2.2.1, (set3_far h2).trans h.2.2.2.1, (set3_far h2).trans h.2.2.2.2.1, ((h.2.2.2.2.2.setCell hp _).setCell hp _).setCell hp _⟩
  have KP1 := Lib.hid KP
  have KS1 := Lib.hid KS
  clear KP KS D0
  go_upto_region 8 with fail
  go_cut [4, 5] (fun q t wx => WL G M1 N1 M2 N2 L1 L2 q t wx)
  case first =>
    (try simp only [List.append_eq, List.cons_append, List.nil_append])
    have hS := S0
    refine reg_begin (fun w' => w'.cell? ⟨w.heap.size, 0, none⟩ = some (.int .i64 m) ∧ w'.cell? ⟨w.heap.size, 1, none⟩ = some (.int .i64 n) ∧ w'.cell? ⟨w.heap.size, 2, none⟩ = some (.slice b xs.length cap) ∧ w'.cell? ⟨g, 0, none⟩ = some (.bool up) ∧ w'.cell? ⟨g, 1, none⟩ = some (.int .i64 a) ∧ Below G.heap.size G w') (by kernel_rfl) hS ?_
    refine reg_take 0 (v := ?_) rfl (by kernel_rfl) (by kernel_rfl) (by kernel_rfl) (fun _ _ _ h => h) (by rfl) (by intro w hSw; (try dsimp only at hSw); go_simp; first | done | with_reducible rfl) hS ?_
    (try simp only [Act.put, List.setIfInBounds_toArray, List.set_cons_zero, List.set_cons_succ])
    refine reg_take 1 (v := ?_) rfl (by kernel_rfl) (by kernel_rfl) (by kernel_rfl) (fun _ _ _ h => h) (by rfl) (by intro w hSw; (try dsimp only at hSw); go_simp; first | done | with_reducible rfl) hS ?_
    (try simp only [Act.put, List.setIfInBounds_toArray, List.set_cons_zero, List.set_cons_succ])
    refine reg_take 2 (v := ?_) rfl (by kernel_rfl) (by kernel_rfl) (by kernel_rfl) (fun _ _ _ h => h) (by rfl) (by intro w hSw; (try dsimp only at hSw); go_simp; first | done | with_reducible rfl) hS ?_
    (try simp only [Act.put, List.setIfInBounds_toArray, List.set_cons_zero, List.set_cons_succ])
    refine reg_take 3 (v := ?_) rfl (by kernel_rfl) (by kernel_rfl) (by kernel_rfl) (fun _ _ _ h => h) (by rfl) (by intro w hSw; (try dsimp only at hSw); go_simp; first | done | with_reducible rfl) hS ?_
    (try simp only [Act.put, List.setIfInBounds_toArray, List.set_cons_zero, List.set_cons_succ])
    have hz0 : G.drew.heap.size ≤ G.heap.size ∧ G.heap.size ≤ G.drew.heap.size := ⟨Nat.le_refl _, Nat.le_refl _⟩
    generalize G.drew = U0 at hS hz0 ⊢
    refine reg_three 4 9 10 rfl rfl rfl (by kernel_rfl) (by rfl) (by rfl) (by rfl) (fun K hK => ?_) (fun K hK => ?_) (fun K hK => ?_)
    · go_simp
      go_at_call 39
      refine (args_eqL (CS.out _ hS) (by with_reducible rfl)).mono ?_
      rintro e y1 ⟨vA, vB, rfl, RA, RB, hb⟩
      have RA0 := Lib.hid RA
      have RB0 := Lib.hid RB
      obtain ⟨aA, cA, rfl⟩ := RA.form
      obtain ⟨aB, cB, rfl⟩ := RB.form
      clear RA RB
      have hzy1 := hb.size
      refine hK.out _ _ (KP1.out _ _ hb hS) (fun hS' => ?_)
      clear hK K hS
      have hS := hS'
      clear hS'
      try (try simp only [Act.put, List.setIfInBounds_toArray, List.set_cons_zero, List.set_cons_succ])
      clear hb
      refine reg_take 5 (v := ?_) rfl (by kernel_rfl) (by kernel_rfl) (by kernel_rfl) (fun _ _ _ h => h) (by rfl) (by intro w hSw; (try dsimp only at hSw); go_simp; first | done | with_reducible rfl) hS ?_
      (try simp only [Act.put, List.setIfInBounds_toArray, List.set_cons_zero, List.set_cons_succ])
      refine reg_take 6 (v := ?_) rfl (by kernel_rfl) (by kernel_rfl) (by kernel_rfl) (fun _ _ _ h => h) (by rfl) (by intro w hSw; (try dsimp only at hSw); go_simp; first | done | with_reducible rfl) hS ?_
      (try simp only [Act.put, List.setIfInBounds_toArray, List.set_cons_zero, List.set_cons_succ])
      refine reg_take 7 (v := ?_) rfl (by kernel_rfl) (by kernel_rfl) (by kernel_rfl) (fun _ _ _ h => h) (by rfl) (by intro w hSw; (try dsimp only at hSw); go_simp; first | done | with_reducible rfl) hS ?_
      (try simp only [Act.put, List.setIfInBounds_toArray, List.set_cons_zero, List.set_cons_succ])
      refine reg_take 8 (v := ?_) rfl (by kernel_rfl) (by kernel_rfl) (by kernel_rfl) (fun _ _ _ h => h) (by rfl) (by intro w hSw; (try dsimp only at hSw); go_simp; first | done | with_reducible rfl) hS ?_
      (try simp only [Act.put, List.setIfInBounds_toArray, List.set_cons_zero, List.set_cons_succ])
      refine reg_two 9 10 rfl rfl (by kernel_rfl) (by rfl) (by rfl) (fun K hK => ?_) (fun K hK => ?_)
      · go_simp
        refine hK.out _ _ (KP1.out _ _ (bel0 _ _) hS) (fun hS' => ?_)
        clear hK K hS
        have hS := hS'
        clear hS'
        try (try simp only [Act.put, List.setIfInBounds_toArray, List.set_cons_zero, List.set_cons_succ])
        have hbe : Below y1.heap.size y1 (y1.alloc (.cells #[.int .i64 0, .int .i64 0, .slice none 0 0] 26)) := bel0 _ _
        have HX9 := Lib.hid (BoxL.new y1 (.int .i64 0) (.int .i64 0) (.slice none 0 0) 26)
        have hzV2 : (y1.alloc (.cells #[.int .i64 0, .int .i64 0, .slice none 0 0] 26)).heap.size ≤ y1.heap.size + 1 ∧ y1.heap.size + 1 ≤ (y1.alloc (.cells #[.int .i64 0, .int .i64 0, .slice none 0 0] 26)).heap.size := by simp
        have RA0 := Lib.hid (RA0.out.below (hbe.mono (by omega)))
        have RB0 := Lib.hid (RB0.out.below (hbe.mono (by omega)))
        obtain ⟨V2, hV⟩ : ∃ V, V = y1.alloc (.cells #[.int .i64 0, .int .i64 0, .slice none 0 0] 26) := ⟨_, rfl⟩
        rw [← hV] at hS HX9 hzV2 RA0 RB0 ⊢
        clear hV hbe
        refine reg_call 10 rfl (by kernel_rfl) (by rfl) (fun K hK => ?_)
        go_simp
        refine hK.out _ _ (KP1.out _ _ (bel0 _ _) hS) (fun hS' => ?_)
        clear hK K hS
        have hS := hS'
        clear hS'
        try (try simp only [Act.put, List.setIfInBounds_toArray, List.set_cons_zero, List.set_cons_succ])
        have hbe : Below V2.heap.size V2 (V2.alloc (.cells #[.int .i64 0, .int .i64 0, .slice none 0 0] 26)) := bel0 _ _
        have HX10 := Lib.hid (BoxL.new V2 (.int .i64 0) (.int .i64 0) (.slice none 0 0) 26)
        have hzV3 : (V2.alloc (.cells #[.int .i64 0, .int .i64 0, .slice none 0 0] 26)).heap.size ≤ V2.heap.size + 1 ∧ V2.heap.size + 1 ≤ (V2.alloc (.cells #[.int .i64 0, .int .i64 0, .slice none 0 0] 26)).heap.size := by simp
        have HX9 := Lib.hid (HX9.out.below hbe (by omega))
        have RA0 := Lib.hid (RA0.out.below (hbe.mono (by omega)))
        have RB0 := Lib.hid (RB0.out.below (hbe.mono (by omega)))
        obtain ⟨V3, hV⟩ : ∃ V, V = V2.alloc (.cells #[.int .i64 0, .int .i64 0, .slice none 0 0] 26) := ⟨_, rfl⟩
        rw [← hV] at hS HX9 HX10 hzV3 RA0 RB0 ⊢
        clear hV hbe
        clear KP1
        refine reg_call 11 rfl (by kernel_rfl) (by rfl) (fun K hK => ?_)
        have ec0 := HX9.out.1
        have ec1 := HX9.out.2.1
        have ec2 := HX9.out.2.2.1
        have ec3 := HX9.out.2.2.2.1
        have ec4 := HX9.out.2.2.2.2.1
        have ec5 := HX9.out.2.2.2.2.2
        go_simp
        refine hK.out _ _ (KS1.out _ y1.heap.size (.int .i64 M1) (.int .i64 N1) (.slice aA L1.length cA) (by omega) hS) (fun hS' => ?_)
        clear hK K hS ec0 ec1 ec2 ec3 ec4 ec5
        have hS := hS'
        clear hS'
        try (try simp only [Act.put, List.setIfInBounds_toArray, List.set_cons_zero, List.set_cons_succ])
        have HX9 : Hid (BoxL y1.heap.size (.int .i64 M1) (.int .i64 N1) (.slice aA L1.length cA) (set3 V3 y1.heap.size (.int .i64 M1) (.int .i64 N1) (.slice aA L1.length cA))) := Lib.hid (BoxL.put3 HX9.out)
        have HX10 : Hid (BoxL V2.heap.size (.int .i64 0) (.int .i64 0) (.slice none 0 0) (set3 V3 y1.heap.size (.int .i64 M1) (.int .i64 N1) (.slice aA L1.length cA))) := Lib.hid (BoxL.far3 HX10.out (show y1.heap.size ≠ V2.heap.size by omega))
        have RA0 : Hid (PatIn _ _ (set3 V3 y1.heap.size (.int .i64 M1) (.int .i64 N1) (.slice aA L1.length cA)) _ _) := Lib.hid (row3 RA0.out (by omega) (by first | omega | (simp [World.setCell] <;> omega)))
        have RB0 : Hid (PatIn _ _ (set3 V3 y1.heap.size (.int .i64 M1) (.int .i64 N1) (.slice aA L1.length cA)) _ _) := Lib.hid (row3 RB0.out (by omega) (by first | omega | (simp [World.setCell] <;> omega)))
        refine reg_call 12 rfl (by kernel_rfl) (by rfl) (fun K hK => ?_)
        have ec0 := HX10.out.1
        have ec1 := HX10.out.2.1
        have ec2 := HX10.out.2.2.1
        have ec3 := HX10.out.2.2.2.1
        have ec4 := HX10.out.2.2.2.2.1
        have ec5 := HX10.out.2.2.2.2.2
        go_simp
        refine hK.out _ _ (KS1.out _ V2.heap.size (.int .i64 M2) (.int .i64 N2) (.slice aB L2.length cB) (by omega) hS) (fun hS' => ?_)
        clear hK K hS ec0 ec1 ec2 ec3 ec4 ec5
        have hS := hS'
        clear hS'
        try (try simp only [Act.put, List.setIfInBounds_toArray, List.set_cons_zero, List.set_cons_succ])
        have HX10 : Hid (BoxL V2.heap.size (.int .i64 M2) (.int .i64 N2) (.slice aB L2.length cB) (set3 (set3 V3 y1.heap.size (.int .i64 M1) (.int .i64 N1) (.slice aA L1.length cA)) V2.heap.size (.int .i64 M2) (.int .i64 N2) (.slice aB L2.length cB))) := Lib.hid (BoxL.put3 HX10.out)
        have HX9 : Hid (BoxL y1.heap.size (.int .i64 M1) (.int .i64 N1) (.slice aA L1.length cA) (set3 (set3 V3 y1.heap.size (.int .i64 M1) (.int .i64 N1) (.slice aA L1.length cA)) V2.heap.size (.int .i64 M2) (.int .i64 N2) (.slice aB L2.length cB))) := Lib.hid (BoxL.far3 HX9.out (show V2.heap.size ≠ y1.heap.size by omega))
        have RA0 : Hid (PatIn _ _ (set3 (set3 V3 y1.heap.size (.int .i64 M1) (.int .i64 N1) (.slice aA L1.length cA)) V2.heap.size (.int .i64 M2) (.int .i64 N2) (.slice aB L2.length cB)) _ _) := Lib.hid (row3 RA0.out (by omega) (by first | omega | (simp [World.setCell] <;> omega)))
        have RB0 : Hid (PatIn _ _ (set3 (set3 V3 y1.heap.size (.int .i64 M1) (.int .i64 N1) (.slice aA L1.length cA)) V2.heap.size (.int .i64 M2) (.int .i64 N2) (.slice aB L2.length cB)) _ _) := Lib.hid (row3 RB0.out (by omega) (by first | omega | (simp [World.setCell] <;> omega)))
        refine reg_take 13 (v := ?_) rfl (by kernel_rfl) (by kernel_rfl) (by kernel_rfl) (fun _ _ _ h => h) (by rfl) (by intro w hSw; (try dsimp only at hSw); go_simp; first | done | with_reducible rfl) hS ?_
        (try simp only [Act.put, List.setIfInBounds_toArray, List.set_cons_zero, List.set_cons_succ])
        refine wpAnyH_done (by kernel_rfl) ?_ _
        have HBW := Lib.hid hS.2.2.2.2.2
        clear hS
        go_wp2_with fail
        go_meet
        exact ⟨_, _, _, _, y1.heap.size, rfl, rfl, HX9, HX10, Lib.hid (RA0.out.wide (by omega) (Nat.le_refl _)), Lib.hid (RB0.out.wide (by omega) (Nat.le_refl _)), by simp [World.setCell] <;> omega, HBW⟩
      · go_simp
        refine hK.out _ _ (KP1.out _ _ (bel0 _ _) hS) (fun hS' => ?_)
        clear hK K hS
        have hS := hS'
        clear hS'
        try (try simp only [Act.put, List.setIfInBounds_toArray, List.set_cons_zero, List.set_cons_succ])
        have hbe : Below y1.heap.size y1 (y1.alloc (.cells #[.int .i64 0, .int .i64 0, .slice none 0 0] 26)) := bel0 _ _
        have HX10 := Lib.hid (BoxL.new y1 (.int .i64 0) (.int .i64 0) (.slice none 0 0) 26)
        have hzV2 : (y1.alloc (.cells #[.int .i64 0, .int .i64 0, .slice none 0 0] 26)).heap.size ≤ y1.heap.size + 1 ∧ y1.heap.size + 1 ≤ (y1.alloc (.cells #[.int .i64 0, .int .i64 0, .slice none 0 0] 26)).heap.size := by simp
        have RA0 := Lib.hid (RA0.out.below (hbe.mono (by omega)))
        have RB0 := Lib.hid (RB0.out.below (hbe.mono (by omega)))
        obtain ⟨V2, hV⟩ : ∃ V, V = y1.alloc (.cells #[.int .i64 0, .int .i64 0, .slice none 0 0] 26) := ⟨_, rfl⟩
        rw [← hV] at hS HX10 hzV2 RA0 RB0 ⊢
        clear hV hbe
        refine reg_call 9 rfl (by kernel_rfl) (by rfl) (fun K hK => ?_)
        go_simp
        refine hK.out _ _ (KP1.out _ _ (bel0 _ _) hS) (fun hS' => ?_)
        clear hK K hS
        have hS := hS'
        clear hS'
        try (try simp only [Act.put, List.setIfInBounds_toArray, List.set_cons_zero, List.set_cons_succ])
        have hbe : Below V2.heap.size V2 (V2.alloc (.cells #[.int .i64 0, .int .i64 0, .slice none 0 0] 26)) := bel0 _ _
        have HX9 := Lib.hid (BoxL.new V2 (.int .i64 0) (.int .i64 0) (.slice none 0 0) 26)
        have hzV3 : (V2.alloc (.cells #[.int .i64 0, .int .i64 0, .slice none 0 0] 26)).heap.size ≤ V2.heap.size + 1 ∧ V2.heap.size + 1 ≤ (V2.alloc (.cells #[.int .i64 0, .int .i64 0, .slice none 0 0] 26)).heap.size := by simp
        have HX10 := Lib.hid (HX10.out.below hbe (by omega))
        have RA0 := Lib.hid (RA0.out.below (hbe.mono (by omega)))
        have RB0 := Lib.hid (RB0.out.below (hbe.mono (by omega)))
        obtain ⟨V3, hV⟩ : ∃ V, V = V2.alloc (.cells #[.int .i64 0, .int .i64 0, .slice none 0 0] 26) := ⟨_, rfl⟩
        rw [← hV] at hS HX10 HX9 hzV3 RA0 RB0 ⊢
        clear hV hbe
        clear KP1
        refine reg_call 11 rfl (by kernel_rfl) (by rfl) (fun K hK => ?_)
        have ec0 := HX9.out.1
        have ec1 := HX9.out.2.1
        have ec2 := HX9.out.2.2.1
        have ec3 := HX9.out.2.2.2.1
        have ec4 := HX9.out.2.2.2.2.1
        have ec5 := HX9.out.2.2.2.2.2
        go_simp
        refine hK.out _ _ (KS1.out _ V2.heap.size (.int .i64 M1) (.int .i64 N1) (.slice aA L1.length cA) (by omega) hS) (fun hS' => ?_)
        clear hK K hS ec0 ec1 ec2 ec3 ec4 ec5
        have hS := hS'
        clear hS'
        try (try simp only [Act.put, List.setIfInBounds_toArray, List.set_cons_zero, List.set_cons_succ])
        have HX9 : Hid (BoxL V2.heap.size (.int .i64 M1) (.int .i64 N1) (.slice aA L1.length cA) (set3 V3 V2.heap.size (.int .i64 M1) (.int .i64 N1) (.slice aA L1.length cA))) := Lib.hid (BoxL.put3 HX9.out)
        have HX10 : Hid (BoxL y1.heap.size (.int .i64 0) (.int .i64 0) (.slice none 0 0) (set3 V3 V2.heap.size (.int .i64 M1) (.int .i64 N1) (.slice aA L1.length cA))) := Lib.hid (BoxL.far3 HX10.out (show V2.heap.size ≠ y1.heap.size by omega))
        have RA0 : Hid (PatIn _ _ (set3 V3 V2.heap.size (.int .i64 M1) (.int .i64 N1) (.slice aA L1.length cA)) _ _) := Lib.hid (row3 RA0.out (by omega) (by first | omega | (simp [World.setCell] <;> omega)))
        have RB0 : Hid (PatIn _ _ (set3 V3 V2.heap.size (.int .i64 M1) (.int .i64 N1) (.slice aA L1.length cA)) _ _) := Lib.hid (row3 RB0.out (by omega) (by first | omega | (simp [World.setCell] <;> omega)))
        refine reg_call 12 rfl (by kernel_rfl) (by rfl) (fun K hK => ?_)
        have ec0 := HX10.out.1
        have ec1 := HX10.out.2.1
        have ec2 := HX10.out.2.2.1
        have ec3 := HX10.out.2.2.2.1
        have ec4 := HX10.out.2.2.2.2.1
        have ec5 := HX10.out.2.2.2.2.2
        go_simp
        refine hK.out _ _ (KS1.out _ y1.heap.size (.int .i64 M2) (.int .i64 N2) (.slice aB L2.length cB) (by omega) hS) (fun hS' => ?_)
        clear hK K hS ec0 ec1 ec2 ec3 ec4 ec5
        have hS := hS'
        clear hS'
        try (try simp only [Act.put, List.setIfInBounds_toArray, List.set_cons_zero, List.set_cons_succ])
        have HX10 : Hid (BoxL y1.heap.size (.int .i64 M2) (.int .i64 N2) (.slice aB L2.length cB) (set3 (set3 V3 V2.heap.size (.int .i64 M1) (.int .i64 N1) (.slice aA L1.length cA)) y1.heap.size (.int .i64 M2) (.int .i64 N2) (.slice aB L2.length cB))) := Lib.hid (BoxL.put3 HX10.out)
        have HX9 : Hid (BoxL V2.heap.size (.int .i64 M1) (.int .i64 N1) (.slice aA L1.length cA) (set3 (set3 V3 V2.heap.size (.int .i64 M1) (.int .i64 N1) (.slice aA L1.length cA)) y1.heap.size (.int .i64 M2) (.int .i64 N2) (.slice aB L2.length cB))) := Lib.hid (BoxL.far3 HX9.out (show y1.heap.size ≠ V2.heap.size by omega))
        have RA0 : Hid (PatIn _ _ (set3 (set3 V3 V2.heap.size (.int .i64 M1) (.int .i64 N1) (.slice aA L1.length cA)) y1.heap.size (.int .i64 M2) (.int .i64 N2) (.slice aB L2.length cB)) _ _) := Lib.hid (row3 RA0.out (by omega) (by first | omega | (simp [World.setCell] <;> omega)))
        have RB0 : Hid (PatIn _ _ (set3 (set3 V3 V2.heap.size (.int .i64 M1) (.int .i64 N1) (.slice aA L1.length cA)) y1.heap.size (.int .i64 M2) (.int .i64 N2) (.slice aB L2.length cB)) _ _) := Lib.hid (row3 RB0.out (by omega) (by first | omega | (simp [World.setCell] <;> omega)))
        refine reg_take 13 (v := ?_) rfl (by kernel_rfl) (by kernel_rfl) (by kernel_rfl) (fun _ _ _ h => h) (by rfl) (by intro w hSw; (try dsimp only at hSw); go_simp; first | done | with_reducible rfl) hS ?_
        (try simp only [Act.put, List.setIfInBounds_toArray, List.set_cons_zero, List.set_cons_succ])
        refine wpAnyH_done (by kernel_rfl) ?_ _
        have HBW := Lib.hid hS.2.2.2.2.2
        clear hS
        go_wp2_with fail
        go_meet
        exact ⟨_, _, _, _, y1.heap.size, rfl, rfl, HX9, HX10, Lib.hid (RA0.out.wide (by omega) (Nat.le_refl _)), Lib.hid (RB0.out.wide (by omega) (Nat.le_refl _)), by simp [World.setCell] <;> omega, HBW⟩
    · go_simp
      refine hK.out _ _ (KP1.out _ _ (bel0 _ _) hS) (fun hS' => ?_)
      clear hK K hS
      have hS := hS'
      clear hS'
      try (try simp only [Act.put, List.setIfInBounds_toArray, List.set_cons_zero, List.set_cons_succ])
      have hbe : Below U0.heap.size U0 (U0.alloc (.cells #[.int .i64 0, .int .i64 0, .slice none 0 0] 26)) := bel0 _ _
      have HX9 := Lib.hid (BoxL.new U0 (.int .i64 0) (.int .i64 0) (.slice none 0 0) 26)
      have hzV1 : (U0.alloc (.cells #[.int .i64 0, .int .i64 0, .slice none 0 0] 26)).heap.size ≤ U0.heap.size + 1 ∧ U0.heap.size + 1 ≤ (U0.alloc (.cells #[.int .i64 0, .int .i64 0, .slice none 0 0] 26)).heap.size := by simp
      obtain ⟨V1, hV⟩ : ∃ V, V = U0.alloc (.cells #[.int .i64 0, .int .i64 0, .slice none 0 0] 26) := ⟨_, rfl⟩
      rw [← hV] at hS HX9 hzV1 ⊢
      clear hV hbe
      refine reg_two 4 10 rfl rfl (by kernel_rfl) (by rfl) (by rfl) (fun K hK => ?_) (fun K hK => ?_)
      · go_simp
        go_at_call 39
        refine (args_eqL (CS.out _ hS) (by with_reducible rfl)).mono ?_
        rintro e y2 ⟨vA, vB, rfl, RA, RB, hb⟩
        have RA0 := Lib.hid RA
        have RB0 := Lib.hid RB
        obtain ⟨aA, cA, rfl⟩ := RA.form
        obtain ⟨aB, cB, rfl⟩ := RB.form
        clear RA RB
        have hzy2 := hb.size
        have HX9 := Lib.hid (HX9.out.below hb (by omega))
        refine hK.out _ _ (KP1.out _ _ hb hS) (fun hS' => ?_)
        clear hK K hS
        have hS := hS'
        clear hS'
        try (try simp only [Act.put, List.setIfInBounds_toArray, List.set_cons_zero, List.set_cons_succ])
        clear hb
        refine reg_take 5 (v := ?_) rfl (by kernel_rfl) (by kernel_rfl) (by kernel_rfl) (fun _ _ _ h => h) (by rfl) (by intro w hSw; (try dsimp only at hSw); go_simp; first | done | with_reducible rfl) hS ?_
        (try simp only [Act.put, List.setIfInBounds_toArray, List.set_cons_zero, List.set_cons_succ])
        refine reg_take 6 (v := ?_) rfl (by kernel_rfl) (by kernel_rfl) (by kernel_rfl) (fun _ _ _ h => h) (by rfl) (by intro w hSw; (try dsimp only at hSw); go_simp; first | done | with_reducible rfl) hS ?_
        (try simp only [Act.put, List.setIfInBounds_toArray, List.set_cons_zero, List.set_cons_succ])
        refine reg_take 7 (v := ?_) rfl (by kernel_rfl) (by kernel_rfl) (by kernel_rfl) (fun _ _ _ h => h) (by rfl) (by intro w hSw; (try dsimp only at hSw); go_simp; first | done | with_reducible rfl) hS ?_
        (try simp only [Act.put, List.setIfInBounds_toArray, List.set_cons_zero, List.set_cons_succ])
        refine reg_take 8 (v := ?_) rfl (by kernel_rfl) (by kernel_rfl) (by kernel_rfl) (fun _ _ _ h => h) (by rfl) (by intro w hSw; (try dsimp only at hSw); go_simp; first | done | with_reducible rfl) hS ?_
        (try simp only [Act.put, List.setIfInBounds_toArray, List.set_cons_zero, List.set_cons_succ])
        refine reg_call 10 rfl (by kernel_rfl) (by rfl) (fun K hK => ?_)
        go_simp
        refine hK.out _ _ (KP1.out _ _ (bel0 _ _) hS) (fun hS' => ?_)
        clear hK K hS
        have hS := hS'
        clear hS'
        try (try simp only [Act.put, List.setIfInBounds_toArray, List.set_cons_zero, List.set_cons_succ])
        have hbe : Below y2.heap.size y2 (y2.alloc (.cells #[.int .i64 0, .int .i64 0, .slice none 0 0] 26)) := bel0 _ _
        have HX10 := Lib.hid (BoxL.new y2 (.int .i64 0) (.int .i64 0) (.slice none 0 0) 26)
        have hzV3 : (y2.alloc (.cells #[.int .i64 0, .int .i64 0, .slice none 0 0] 26)).heap.size ≤ y2.heap.size + 1 ∧ y2.heap.size + 1 ≤ (y2.alloc (.cells #[.int .i64 0, .int .i64 0, .slice none 0 0] 26)).heap.size := by simp
        have HX9 := Lib.hid (HX9.out.below hbe (by omega))
        have RA0 := Lib.hid (RA0.out.below (hbe.mono (by omega)))
        have RB0 := Lib.hid (RB0.out.below (hbe.mono (by omega)))
        obtain ⟨V3, hV⟩ : ∃ V, V = y2.alloc (.cells #[.int .i64 0, .int .i64 0, .slice none 0 0] 26) := ⟨_, rfl⟩
        rw [← hV] at hS HX9 HX10 hzV3 RA0 RB0 ⊢
        clear hV hbe
        clear KP1
        refine reg_call 11 rfl (by kernel_rfl) (by rfl) (fun K hK => ?_)
        have ec0 := HX9.out.1
        have ec1 := HX9.out.2.1
        have ec2 := HX9.out.2.2.1
        have ec3 := HX9.out.2.2.2.1
        have ec4 := HX9.out.2.2.2.2.1
        have ec5 := HX9.out.2.2.2.2.2
        go_simp
        refine hK.out _ _ (KS1.out _ U0.heap.size (.int .i64 M1) (.int .i64 N1) (.slice aA L1.length cA) (by omega) hS) (fun hS' => ?_)
        clear hK K hS ec0 ec1 ec2 ec3 ec4 ec5
        have hS := hS'
        clear hS'
        try (try simp only [Act.put, List.setIfInBounds_toArray, List.set_cons_zero, List.set_cons_succ])
        have HX9 : Hid (BoxL U0.heap.size (.int .i64 M1) (.int .i64 N1) (.slice aA L1.length cA) (set3 V3 U0.heap.size (.int .i64 M1) (.int .i64 N1) (.slice aA L1.length cA))) := Lib.hid (BoxL.put3 HX9.out)
        have HX10 : Hid (BoxL y2.heap.size (.int .i64 0) (.int .i64 0) (.slice none 0 0) (set3 V3 U0.heap.size (.int .i64 M1) (.int .i64 N1) (.slice aA L1.length cA))) := Lib.hid (BoxL.far3 HX10.out (show U0.heap.size ≠ y2.heap.size by omega))
        have RA0 : Hid (PatIn _ _ (set3 V3 U0.heap.size (.int .i64 M1) (.int .i64 N1) (.slice aA L1.length cA)) _ _) := Lib.hid (row3 RA0.out (by omega) (by first | omega | (simp [World.setCell] <;> omega)))
        have RB0 : Hid (PatIn _ _ (set3 V3 U0.heap.size (.int .i64 M1) (.int .i64 N1) (.slice aA L1.length cA)) _ _) := Lib.hid (row3 RB0.out (by omega) (by first | omega | (simp [World.setCell] <;> omega)))
        refine reg_call 12 rfl (by kernel_rfl) (by rfl) (fun K hK => ?_)
        have ec0 := HX10.out.1
        have ec1 := HX10.out.2.1
        have ec2 := HX10.out.2.2.1
        have ec3 := HX10.out.2.2.2.1
        have ec4 := HX10.out.2.2.2.2.1
        have ec5 := HX10.out.2.2.2.2.2
        go_simp
        refine hK.out _ _ (KS1.out _ y2.heap.size (.int .i64 M2) (.int .i64 N2) (.slice aB L2.length cB) (by omega) hS) (fun hS' => ?_)
        clear hK K hS ec0 ec1 ec2 ec3 ec4 ec5
        have hS := hS'
        clear hS'
        try (try simp only [Act.put, List.setIfInBounds_toArray, List.set_cons_zero, List.set_cons_succ])
        have HX10 : Hid (BoxL y2.heap.size (.int .i64 M2) (.int .i64 N2) (.slice aB L2.length cB) (set3 (set3 V3 U0.heap.size (.int .i64 M1) (.int .i64 N1) (.slice aA L1.length cA)) y2.heap.size (.int .i64 M2) (.int .i64 N2) (.slice aB L2.length cB))) := Lib.hid (BoxL.put3 HX10.out)
        have HX9 : Hid (BoxL U0.heap.size (.int .i64 M1) (.int .i64 N1) (.slice aA L1.length cA) (set3 (set3 V3 U0.heap.size (.int .i64 M1) (.int .i64 N1) (.slice aA L1.length cA)) y2.heap.size (.int .i64 M2) (.int .i64 N2) (.slice aB L2.length cB))) := Lib.hid (BoxL.far3 HX9.out (show y2.heap.size ≠ U0.heap.size by omega))
        have RA0 : Hid (PatIn _ _ (set3 (set3 V3 U0.heap.size (.int .i64 M1) (.int .i64 N1) (.slice aA L1.length cA)) y2.heap.size (.int .i64 M2) (.int .i64 N2) (.slice aB L2.length cB)) _ _) := Lib.hid (row3 RA0.out (by omega) (by first | omega | (simp [World.setCell] <;> omega)))
        have RB0 : Hid (PatIn _ _ (set3 (set3 V3 U0.heap.size (.int .i64 M1) (.int .i64 N1) (.slice aA L1.length cA)) y2.heap.size (.int .i64 M2) (.int .i64 N2) (.slice aB L2.length cB)) _ _) := Lib.hid (row3 RB0.out (by omega) (by first | omega | (simp [World.setCell] <;> omega)))
        refine reg_take 13 (v := ?_) rfl (by kernel_rfl) (by kernel_rfl) (by kernel_rfl) (fun _ _ _ h => h) (by rfl) (by intro w hSw; (try dsimp only at hSw); go_simp; first | done | with_reducible rfl) hS ?_
        (try simp only [Act.put, List.setIfInBounds_toArray, List.set_cons_zero, List.set_cons_succ])
        refine wpAnyH_done (by kernel_rfl) ?_ _
        have HBW := Lib.hid hS.2.2.2.2.2
        clear hS
        go_wp2_with fail
        go_meet
        exact ⟨_, _, _, _, y2.heap.size, rfl, rfl, HX9, HX10, Lib.hid (RA0.out.wide (by omega) (Nat.le_refl _)), Lib.hid (RB0.out.wide (by omega) (Nat.le_refl _)), by simp [World.setCell] <;> omega, HBW⟩
      · go_simp
        refine hK.out _ _ (KP1.out _ _ (bel0 _ _) hS) (fun hS' => ?_)
        clear hK K hS
        have hS := hS'
        clear hS'
        try (try simp only [Act.put, List.setIfInBounds_toArray, List.set_cons_zero, List.set_cons_succ])
        have hbe : Below V1.heap.size V1 (V1.alloc (.cells #[.int .i64 0, .int .i64 0, .slice none 0 0] 26)) := bel0 _ _
        have HX10 := Lib.hid (BoxL.new V1 (.int .i64 0) (.int .i64 0) (.slice none 0 0) 26)
        have hzV2 : (V1.alloc (.cells #[.int .i64 0, .int .i64 0, .slice none 0 0] 26)).heap.size ≤ V1.heap.size + 1 ∧ V1.heap.size + 1 ≤ (V1.alloc (.cells #[.int .i64 0, .int .i64 0, .slice none 0 0] 26)).heap.size := by simp
        have HX9 := Lib.hid (HX9.out.below hbe (by omega))
        obtain ⟨V2, hV⟩ : ∃ V, V = V1.alloc (.cells #[.int .i64 0, .int .i64 0, .slice none 0 0] 26) := ⟨_, rfl⟩
        rw [← hV] at hS HX9 HX10 hzV2 ⊢
        clear hV hbe
        refine reg_call 4 rfl (by kernel_rfl) (by rfl) (fun K hK => ?_)
        go_simp
        go_at_call 39
        refine (args_eqL (CS.out _ hS) (by with_reducible rfl)).mono ?_
        rintro e y3 ⟨vA, vB, rfl, RA, RB, hb⟩
        have RA0 := Lib.hid RA
        have RB0 := Lib.hid RB
        obtain ⟨aA, cA, rfl⟩ := RA.form
        obtain ⟨aB, cB, rfl⟩ := RB.form
        clear RA RB
        have hzy3 := hb.size
        have HX9 := Lib.hid (HX9.out.below hb (by omega))
        have HX10 := Lib.hid (HX10.out.below hb (by omega))
        refine hK.out _ _ (KP1.out _ _ hb hS) (fun hS' => ?_)
        clear hK K hS
        have hS := hS'
        clear hS'
        try (try simp only [Act.put, List.setIfInBounds_toArray, List.set_cons_zero, List.set_cons_succ])
        clear hb
        refine reg_take 5 (v := ?_) rfl (by kernel_rfl) (by kernel_rfl) (by kernel_rfl) (fun _ _ _ h => h) (by rfl) (by intro w hSw; (try dsimp only at hSw); go_simp; first | done | with_reducible rfl) hS ?_
        (try simp only [Act.put, List.setIfInBounds_toArray, List.set_cons_zero, List.set_cons_succ])
        refine reg_take 6 (v := ?_) rfl (by kernel_rfl) (by kernel_rfl) (by kernel_rfl) (fun _ _ _ h => h) (by rfl) (by intro w hSw; (try dsimp only at hSw); go_simp; first | done | with_reducible rfl) hS ?_
        (try simp only [Act.put, List.setIfInBounds_toArray, List.set_cons_zero, List.set_cons_succ])
        refine reg_take 7 (v := ?_) rfl (by kernel_rfl) (by kernel_rfl) (by kernel_rfl) (fun _ _ _ h => h) (by rfl) (by intro w hSw; (try dsimp only at hSw); go_simp; first | done | with_reducible rfl) hS ?_
        (try simp only [Act.put, List.setIfInBounds_toArray, List.set_cons_zero, List.set_cons_succ])
        refine reg_take 8 (v := ?_) rfl (by kernel_rfl) (by kernel_rfl) (by kernel_rfl) (fun _ _ _ h => h) (by rfl) (by intro w hSw; (try dsimp only at hSw); go_simp; first | done | with_reducible rfl) hS ?_
        (try simp only [Act.put, List.setIfInBounds_toArray, List.set_cons_zero, List.set_cons_succ])
        clear KP1
        refine reg_call 11 rfl (by kernel_rfl) (by rfl) (fun K hK => ?_)
        have ec0 := HX9.out.1
        have ec1 := HX9.out.2.1
        have ec2 := HX9.out.2.2.1
        have ec3 := HX9.out.2.2.2.1
        have ec4 := HX9.out.2.2.2.2.1
        have ec5 := HX9.out.2.2.2.2.2
        go_simp
        refine hK.out _ _ (KS1.out _ U0.heap.size (.int .i64 M1) (.int .i64 N1) (.slice aA L1.length cA) (by omega) hS) (fun hS' => ?_)
        clear hK K hS ec0 ec1 ec2 ec3 ec4 ec5
        have hS := hS'
        clear hS'
        try (try simp only [Act.put, List.setIfInBounds_toArray, List.set_cons_zero, List.set_cons_succ])
        have HX9 : Hid (BoxL U0.heap.size (.int .i64 M1) (.int .i64 N1) (.slice aA L1.length cA) (set3 y3 U0.heap.size (.int .i64 M1) (.int .i64 N1) (.slice aA L1.length cA))) := Lib.hid (BoxL.put3 HX9.out)
        have HX10 : Hid (BoxL V1.heap.size (.int .i64 0) (.int .i64 0) (.slice none 0 0) (set3 y3 U0.heap.size (.int .i64 M1) (.int .i64 N1) (.slice aA L1.length cA))) := Lib.hid (BoxL.far3 HX10.out (show U0.heap.size ≠ V1.heap.size by omega))
        have RA0 : Hid (PatIn _ _ (set3 y3 U0.heap.size (.int .i64 M1) (.int .i64 N1) (.slice aA L1.length cA)) _ _) := Lib.hid (row3 RA0.out (by omega) (by first | omega | (simp [World.setCell] <;> omega)))
        have RB0 : Hid (PatIn _ _ (set3 y3 U0.heap.size (.int .i64 M1) (.int .i64 N1) (.slice aA L1.length cA)) _ _) := Lib.hid (row3 RB0.out (by omega) (by first | omega | (simp [World.setCell] <;> omega)))
        refine reg_call 12 rfl (by kernel_rfl) (by rfl) (fun K hK => ?_)
        have ec0 := HX10.out.1
        have ec1 := HX10.out.2.1
        have ec2 := HX10.out.2.2.1
        have ec3 := HX10.out.2.2.2.1
        have ec4 := HX10.out.2.2.2.2.1
        have ec5 := HX10.out.2.2.2.2.2
        go_simp
        refine hK.out _ _ (KS1.out _ V1.heap.size (.int .i64 M2) (.int .i64 N2) (.slice aB L2.length cB) (by omega) hS) (fun hS' => ?_)
        clear hK K hS ec0 ec1 ec2 ec3 ec4 ec5
        have hS := hS'
        clear hS'
        try (try simp only [Act.put, List.setIfInBounds_toArray, List.set_cons_zero, List.set_cons_succ])
        have HX10 : Hid (BoxL V1.heap.size (.int .i64 M2) (.int .i64 N2) (.slice aB L2.length cB) (set3 (set3 y3 U0.heap.size (.int .i64 M1) (.int .i64 N1) (.slice aA L1.length cA)) V1.heap.size (.int .i64 M2) (.int .i64 N2) (.slice aB L2.length cB))) := Lib.hid (BoxL.put3 HX10.out)
        have HX9 : Hid (BoxL U0.heap.size (.int .i64 M1) (.int .i64 N1) (.slice aA L1.length cA) (set3 (set3 y3 U0.heap.size (.int .i64 M1) (.int .i64 N1) (.slice aA L1.length cA)) V1.heap.size (.int .i64 M2) (.int .i64 N2) (.slice aB L2.length cB))) := Lib.hid (BoxL.far3 HX9.out (show V1.heap.size ≠ U0.heap.size by omega))
        have RA0 : Hid (PatIn _ _ (set3 (set3 y3 U0.heap.size (.int .i64 M1) (.int .i64 N1) (.slice aA L1.length cA)) V1.heap.size (.int .i64 M2) (.int .i64 N2) (.slice aB L2.length cB)) _ _) := Lib.hid (row3 RA0.out (by omega) (by first | omega | (simp [World.setCell] <;> omega)))
        have RB0 : Hid (PatIn _ _ (set3 (set3 y3 U0.heap.size (.int .i64 M1) (.int .i64 N1) (.slice aA L1.length cA)) V1.heap.size (.int .i64 M2) (.int .i64 N2) (.slice aB L2.length cB)) _ _) := Lib.hid (row3 RB0.out (by omega) (by first | omega | (simp [World.setCell] <;> omega)))
        refine reg_take 13 (v := ?_) rfl (by kernel_rfl) (by kernel_rfl) (by kernel_rfl) (fun _ _ _ h => h) (by rfl) (by intro w hSw; (try dsimp only at hSw); go_simp; first | done | with_reducible rfl) hS ?_
        (try simp only [Act.put, List.setIfInBounds_toArray, List.set_cons_zero, List.set_cons_succ])
        refine wpAnyH_done (by kernel_rfl) ?_ _
        have HBW := Lib.hid hS.2.2.2.2.2
        clear hS
        go_wp2_with fail
        go_meet
        exact ⟨_, _, _, _, y3.heap.size, rfl, rfl, HX9, HX10, Lib.hid (RA0.out.wide (by omega) (Nat.le_refl _)), Lib.hid (RB0.out.wide (by omega) (Nat.le_refl _)), by simp [World.setCell] <;> omega, HBW⟩
    · go_simp
      refine hK.out _ _ (KP1.out _ _ (bel0 _ _) hS) (fun hS' => ?_)
      clear hK K hS
      have hS := hS'
      clear hS'
      try (try simp only [Act.put, List.setIfInBounds_toArray, List.set_cons_zero, List.set_cons_succ])
      have hbe : Below U0.heap.size U0 (U0.alloc (.cells #[.int .i64 0, .int .i64 0, .slice none 0 0] 26)) := bel0 _ _
      have HX10 := Lib.hid (BoxL.new U0 (.int .i64 0) (.int .i64 0) (.slice none 0 0) 26)
      have hzV1 : (U0.alloc (.cells #[.int .i64 0, .int .i64 0, .slice none 0 0] 26)).heap.size ≤ U0.heap.size + 1 ∧ U0.heap.size + 1 ≤ (U0.alloc (.cells #[.int .i64 0, .int .i64 0, .slice none 0 0] 26)).heap.size := by simp
      obtain ⟨V1, hV⟩ : ∃ V, V = U0.alloc (.cells #[.int .i64 0, .int .i64 0, .slice none 0 0] 26) := ⟨_, rfl⟩
      rw [← hV] at hS HX10 hzV1 ⊢
      clear hV hbe
      refine reg_two 4 9 rfl rfl (by kernel_rfl) (by rfl) (by rfl) (fun K hK => ?_) (fun K hK => ?_)
      · go_simp
        go_at_call 39
        refine (args_eqL (CS.out _ hS) (by with_reducible rfl)).mono ?_
        rintro e y2 ⟨vA, vB, rfl, RA, RB, hb⟩
        have RA0 := Lib.hid RA
        have RB0 := Lib.hid RB
        obtain ⟨aA, cA, rfl⟩ := RA.form
        obtain ⟨aB, cB, rfl⟩ := RB.form
        clear RA RB
        have hzy2 := hb.size
        have HX10 := Lib.hid (HX10.out.below hb (by omega))
        refine hK.out _ _ (KP1.out _ _ hb hS) (fun hS' => ?_)
        clear hK K hS
        have hS := hS'
        clear hS'
        try (try simp only [Act.put, List.setIfInBounds_toArray, List.set_cons_zero, List.set_cons_succ])
        clear hb
        refine reg_take 5 (v := ?_) rfl (by kernel_rfl) (by kernel_rfl) (by kernel_rfl) (fun _ _ _ h => h) (by rfl) (by intro w hSw; (try dsimp only at hSw); go_simp; first | done | with_reducible rfl) hS ?_
        (try simp only [Act.put, List.setIfInBounds_toArray, List.set_cons_zero, List.set_cons_succ])
        refine reg_take 6 (v := ?_) rfl (by kernel_rfl) (by kernel_rfl) (by kernel_rfl) (fun _ _ _ h => h) (by rfl) (by intro w hSw; (try dsimp only at hSw); go_simp; first | done | with_reducible rfl) hS ?_
        (try simp only [Act.put, List.setIfInBounds_toArray, List.set_cons_zero, List.set_cons_succ])
        refine reg_take 7 (v := ?_) rfl (by kernel_rfl) (by kernel_rfl) (by kernel_rfl) (fun _ _ _ h => h) (by rfl) (by intro w hSw; (try dsimp only at hSw); go_simp; first | done | with_reducible rfl) hS ?_
        (try simp only [Act.put, List.setIfInBounds_toArray, List.set_cons_zero, List.set_cons_succ])
        refine reg_take 8 (v := ?_) rfl (by kernel_rfl) (by kernel_rfl) (by kernel_rfl) (fun _ _ _ h => h) (by rfl) (by intro w hSw; (try dsimp only at hSw); go_simp; first | done | with_reducible rfl) hS ?_
        (try simp only [Act.put, List.setIfInBounds_toArray, List.set_cons_zero, List.set_cons_succ])
        refine reg_call 9 rfl (by kernel_rfl) (by rfl) (fun K hK => ?_)
        go_simp
        refine hK.out _ _ (KP1.out _ _ (bel0 _ _) hS) (fun hS' => ?_)
        clear hK K hS
        have hS := hS'
        clear hS'
        try (try simp only [Act.put, List.setIfInBounds_toArray, List.set_cons_zero, List.set_cons_succ])
        have hbe : Below y2.heap.size y2 (y2.alloc (.cells #[.int .i64 0, .int .i64 0, .slice none 0 0] 26)) := bel0 _ _
        have HX9 := Lib.hid (BoxL.new y2 (.int .i64 0) (.int .i64 0) (.slice none 0 0) 26)
        have hzV3 : (y2.alloc (.cells #[.int .i64 0, .int .i64 0, .slice none 0 0] 26)).heap.size ≤ y2.heap.size + 1 ∧ y2.heap.size + 1 ≤ (y2.alloc (.cells #[.int .i64 0, .int .i64 0, .slice none 0 0] 26)).heap.size := by simp
        have HX10 := Lib.hid (HX10.out.below hbe (by omega))
        have RA0 := Lib.hid (RA0.out.below (hbe.mono (by omega)))
        have RB0 := Lib.hid (RB0.out.below (hbe.mono (by omega)))
        obtain ⟨V3, hV⟩ : ∃ V, V = y2.alloc (.cells #[.int .i64 0, .int .i64 0, .slice none 0 0] 26) := ⟨_, rfl⟩
        rw [← hV] at hS HX10 HX9 hzV3 RA0 RB0 ⊢
        clear hV hbe
        clear KP1
        refine reg_call 11 rfl (by kernel_rfl) (by rfl) (fun K hK => ?_)
        have ec0 := HX9.out.1
        have ec1 := HX9.out.2.1
        have ec2 := HX9.out.2.2.1
        have ec3 := HX9.out.2.2.2.1
        have ec4 := HX9.out.2.2.2.2.1
        have ec5 := HX9.out.2.2.2.2.2
        go_simp
        refine hK.out _ _ (KS1.out _ y2.heap.size (.int .i64 M1) (.int .i64 N1) (.slice aA L1.length cA) (by omega) hS) (fun hS' => ?_)
        clear hK K hS ec0 ec1 ec2 ec3 ec4 ec5
        have hS := hS'
        clear hS'
        try (try simp only [Act.put, List.setIfInBounds_toArray, List.set_cons_zero, List.set_cons_succ])
        have HX9 : Hid (BoxL y2.heap.size (.int .i64 M1) (.int .i64 N1) (.slice aA L1.length cA) (set3 V3 y2.heap.size (.int .i64 M1) (.int .i64 N1) (.slice aA L1.length cA))) := Lib.hid (BoxL.put3 HX9.out)
        have HX10 : Hid (BoxL U0.heap.size (.int .i64 0) (.int .i64 0) (.slice none 0 0) (set3 V3 y2.heap.size (.int .i64 M1) (.int .i64 N1) (.slice aA L1.length cA))) := Lib.hid (BoxL.far3 HX10.out (show y2.heap.size ≠ U0.heap.size by omega))
        have RA0 : Hid (PatIn _ _ (set3 V3 y2.heap.size (.int .i64 M1) (.int .i64 N1) (.slice aA L1.length cA)) _ _) := Lib.hid (row3 RA0.out (by omega) (by first | omega | (simp [World.setCell] <;> omega)))
        have RB0 : Hid (PatIn _ _ (set3 V3 y2.heap.size (.int .i64 M1) (.int .i64 N1) (.slice aA L1.length cA)) _ _) := Lib.hid (row3 RB0.out (by omega) (by first | omega | (simp [World.setCell] <;> omega)))
        refine reg_call 12 rfl (by kernel_rfl) (by rfl) (fun K hK => ?_)
        have ec0 := HX10.out.1
        have ec1 := HX10.out.2.1
        have ec2 := HX10.out.2.2.1
        have ec3 := HX10.out.2.2.2.1
        have ec4 := HX10.out.2.2.2.2.1
        have ec5 := HX10.out.2.2.2.2.2
        go_simp
        refine hK.out _ _ (KS1.out _ U0.heap.size (.int .i64 M2) (.int .i64 N2) (.slice aB L2.length cB) (by omega) hS) (fun hS' => ?_)
        clear hK K hS ec0 ec1 ec2 ec3 ec4 ec5
        have hS := hS'
        clear hS'
        try (try simp only [Act.put, List.setIfInBounds_toArray, List.set_cons_zero, List.set_cons_succ])
        have HX10 : Hid (BoxL U0.heap.size (.int .i64 M2) (.int .i64 N2) (.slice aB L2.length cB) (set3 (set3 V3 y2.heap.size (.int .i64 M1) (.int .i64 N1) (.slice aA L1.length cA)) U0.heap.size (.int .i64 M2) (.int .i64 N2) (.slice aB L2.length cB))) := Lib.hid (BoxL.put3 HX10.out)
        have HX9 : Hid (BoxL y2.heap.size (.int .i64 M1) (.int .i64 N1) (.slice aA L1.length cA) (set3 (set3 V3 y2.heap.size (.int .i64 M1) (.int .i64 N1) (.slice aA L1.length cA)) U0.heap.size (.int .i64 M2) (.int .i64 N2) (.slice aB L2.length cB))) := Lib.hid (BoxL.far3 HX9.out (show U0.heap.size ≠ y2.heap.size by omega))
        have RA0 : Hid (PatIn _ _ (set3 (set3 V3 y2.heap.size (.int .i64 M1) (.int .i64 N1) (.slice aA L1.length cA)) U0.heap.size (.int .i64 M2) (.int .i64 N2) (.slice aB L2.length cB)) _ _) := Lib.hid (row3 RA0.out (by omega) (by first | omega | (simp [World.setCell] <;> omega)))
        have RB0 : Hid (PatIn _ _ (set3 (set3 V3 y2.heap.size (.int .i64 M1) (.int .i64 N1) (.slice aA L1.length cA)) U0.heap.size (.int .i64 M2) (.int .i64 N2) (.slice aB L2.length cB)) _ _) := Lib.hid (row3 RB0.out (by omega) (by first | omega | (simp [World.setCell] <;> omega)))
        refine reg_take 13 (v := ?_) rfl (by kernel_rfl) (by kernel_rfl) (by kernel_rfl) (fun _ _ _ h => h) (by rfl) (by intro w hSw; (try dsimp only at hSw); go_simp; first | done | with_reducible rfl) hS ?_
        (try simp only [Act.put, List.setIfInBounds_toArray, List.set_cons_zero, List.set_cons_succ])
        refine wpAnyH_done (by kernel_rfl) ?_ _
        have HBW := Lib.hid hS.2.2.2.2.2
        clear hS
        go_wp2_with fail
        go_meet
        exact ⟨_, _, _, _, y2.heap.size, rfl, rfl, HX9, HX10, Lib.hid (RA0.out.wide (by omega) (Nat.le_refl _)), Lib.hid (RB0.out.wide (by omega) (Nat.le_refl _)), by simp [World.setCell] <;> omega, HBW⟩
      · go_simp
        refine hK.out _ _ (KP1.out _ _ (bel0 _ _) hS) (fun hS' => ?_)
        clear hK K hS
        have hS := hS'
        clear hS'
        try (try simp only [Act.put, List.setIfInBounds_toArray, List.set_cons_zero, List.set_cons_succ])
        have hbe : Below V1.heap.size V1 (V1.alloc (.cells #[.int .i64 0, .int .i64 0, .slice none 0 0] 26)) := bel0 _ _
        have HX9 := Lib.hid (BoxL.new V1 (.int .i64 0) (.int .i64 0) (.slice none 0 0) 26)
        have hzV2 : (V1.alloc (.cells #[.int .i64 0, .int .i64 0, .slice none 0 0] 26)).heap.size ≤ V1.heap.size + 1 ∧ V1.heap.size + 1 ≤ (V1.alloc (.cells #[.int .i64 0, .int .i64 0, .slice none 0 0] 26)).heap.size := by simp
        have HX10 := Lib.hid (HX10.out.below hbe (by omega))
        obtain ⟨V2, hV⟩ : ∃ V, V = V1.alloc (.cells #[.int .i64 0, .int .i64 0, .slice none 0 0] 26) := ⟨_, rfl⟩
        rw [← hV] at hS HX10 HX9 hzV2 ⊢
        clear hV hbe
        refine reg_call 4 rfl (by kernel_rfl) (by rfl) (fun K hK => ?_)
        go_simp
        go_at_call 39
        refine (args_eqL (CS.out _ hS) (by with_reducible rfl)).mono ?_
        rintro e y3 ⟨vA, vB, rfl, RA, RB, hb⟩
        have RA0 := Lib.hid RA
        have RB0 := Lib.hid RB
        obtain ⟨aA, cA, rfl⟩ := RA.form
        obtain ⟨aB, cB, rfl⟩ := RB.form
        clear RA RB
        have hzy3 := hb.size
        have HX10 := Lib.hid (HX10.out.below hb (by omega))
        have HX9 := Lib.hid (HX9.out.below hb (by omega))
        refine hK.out _ _ (KP1.out _ _ hb hS) (fun hS' => ?_)
        clear hK K hS
        have hS := hS'
        clear hS'
        try (try simp only [Act.put, List.setIfInBounds_toArray, List.set_cons_zero, List.set_cons_succ])
        clear hb
        refine reg_take 5 (v := ?_) rfl (by kernel_rfl) (by kernel_rfl) (by kernel_rfl) (fun _ _ _ h => h) (by rfl) (by intro w hSw; (try dsimp only at hSw); go_simp; first | done | with_reducible rfl) hS ?_
        (try simp only [Act.put, List.setIfInBounds_toArray, List.set_cons_zero, List.set_cons_succ])
        refine reg_take 6 (v := ?_) rfl (by kernel_rfl) (by kernel_rfl) (by kernel_rfl) (fun _ _ _ h => h) (by rfl) (by intro w hSw; (try dsimp only at hSw); go_simp; first | done | with_reducible rfl) hS ?_
        (try simp only [Act.put, List.setIfInBounds_toArray, List.set_cons_zero, List.set_cons_succ])
        refine reg_take 7 (v := ?_) rfl (by kernel_rfl) (by kernel_rfl) (by kernel_rfl) (fun _ _ _ h => h) (by rfl) (by intro w hSw; (try dsimp only at hSw); go_simp; first | done | with_reducible rfl) hS ?_
        (try simp only [Act.put, List.setIfInBounds_toArray, List.set_cons_zero, List.set_cons_succ])
        refine reg_take 8 (v := ?_) rfl (by kernel_rfl) (by kernel_rfl) (by kernel_rfl) (fun _ _ _ h => h) (by rfl) (by intro w hSw; (try dsimp only at hSw); go_simp; first | done | with_reducible rfl) hS ?_
        (try simp only [Act.put, List.setIfInBounds_toArray, List.set_cons_zero, List.set_cons_succ])
        clear KP1
        refine reg_call 11 rfl (by kernel_rfl) (by rfl) (fun K hK => ?_)
        have ec0 := HX9.out.1
        have ec1 := HX9.out.2.1
        have ec2 := HX9.out.2.2.1
        have ec3 := HX9.out.2.2.2.1
        have ec4 := HX9.out.2.2.2.2.1
        have ec5 := HX9.out.2.2.2.2.2
        go_simp
        refine hK.out _ _ (KS1.out _ V1.heap.size (.int .i64 M1) (.int .i64 N1) (.slice aA L1.length cA) (by omega) hS) (fun hS' => ?_)
        clear hK K hS ec0 ec1 ec2 ec3 ec4 ec5
        have hS := hS'
        clear hS'
        try (try simp only [Act.put, List.setIfInBounds_toArray, List.set_cons_zero, List.set_cons_succ])
        have HX9 : Hid (BoxL V1.heap.size (.int .i64 M1) (.int .i64 N1) (.slice aA L1.length cA) (set3 y3 V1.heap.size (.int .i64 M1) (.int .i64 N1) (.slice aA L1.length cA))) := Lib.hid (BoxL.put3 HX9.out)
        have HX10 : Hid (BoxL U0.heap.size (.int .i64 0) (.int .i64 0) (.slice none 0 0) (set3 y3 V1.heap.size (.int .i64 M1) (.int .i64 N1) (.slice aA L1.length cA))) := Lib.hid (BoxL.far3 HX10.out (show V1.heap.size ≠ U0.heap.size by omega))
        have RA0 : Hid (PatIn _ _ (set3 y3 V1.heap.size (.int .i64 M1) (.int .i64 N1) (.slice aA L1.length cA)) _ _) := Lib.hid (row3 RA0.out (by omega) (by first | omega | (simp [World.setCell] <;> omega)))
        have RB0 : Hid (PatIn _ _ (set3 y3 V1.heap.size (.int .i64 M1) (.int .i64 N1) (.slice aA L1.length cA)) _ _) := Lib.hid (row3 RB0.out (by omega) (by first | omega | (simp [World.setCell] <;> omega)))
        refine reg_call 12 rfl (by kernel_rfl) (by rfl) (fun K hK => ?_)
        have ec0 := HX10.out.1
        have ec1 := HX10.out.2.1
        have ec2 := HX10.out.2.2.1
        have ec3 := HX10.out.2.2.2.1
        have ec4 := HX10.out.2.2.2.2.1
        have ec5 := HX10.out.2.2.2.2.2
        go_simp
        refine hK.out _ _ (KS1.out _ U0.heap.size (.int .i64 M2) (.int .i64 N2) (.slice aB L2.length cB) (by omega) hS) (fun hS' => ?_)
        clear hK K hS ec0 ec1 ec2 ec3 ec4 ec5
        have hS := hS'
        clear hS'
        try (try simp only [Act.put, List.setIfInBounds_toArray, List.set_cons_zero, List.set_cons_succ])
        have HX10 : Hid (BoxL U0.heap.size (.int .i64 M2) (.int .i64 N2) (.slice aB L2.length cB) (set3 (set3 y3 V1.heap.size (.int .i64 M1) (.int .i64 N1) (.slice aA L1.length cA)) U0.heap.size (.int .i64 M2) (.int .i64 N2) (.slice aB L2.length cB))) := Lib.hid (BoxL.put3 HX10.out)
        have HX9 : Hid (BoxL V1.heap.size (.int .i64 M1) (.int .i64 N1) (.slice aA L1.length cA) (set3 (set3 y3 V1.heap.size (.int .i64 M1) (.int .i64 N1) (.slice aA L1.length cA)) U0.heap.size (.int .i64 M2) (.int .i64 N2) (.slice aB L2.length cB))) := Lib.hid (BoxL.far3 HX9.out (show U0.heap.size ≠ V1.heap.size by omega))
        have RA0 : Hid (PatIn _ _ (set3 (set3 y3 V1.heap.size (.int .i64 M1) (.int .i64 N1) (.slice aA L1.length cA)) U0.heap.size (.int .i64 M2) (.int .i64 N2) (.slice aB L2.length cB)) _ _) := Lib.hid (row3 RA0.out (by omega) (by first | omega | (simp [World.setCell] <;> omega)))
        have RB0 : Hid (PatIn _ _ (set3 (set3 y3 V1.heap.size (.int .i64 M1) (.int .i64 N1) (.slice aA L1.length cA)) U0.heap.size (.int .i64 M2) (.int .i64 N2) (.slice aB L2.length cB)) _ _) := Lib.hid (row3 RB0.out (by omega) (by first | omega | (simp [World.setCell] <;> omega)))
        refine reg_take 13 (v := ?_) rfl (by kernel_rfl) (by kernel_rfl) (by kernel_rfl) (fun _ _ _ h => h) (by rfl) (by intro w hSw; (try dsimp only at hSw); go_simp; first | done | with_reducible rfl) hS ?_
        (try simp only [Act.put, List.setIfInBounds_toArray, List.set_cons_zero, List.set_cons_succ])
        refine wpAnyH_done (by kernel_rfl) ?_ _
        have HBW := Lib.hid hS.2.2.2.2.2
        clear hS
        go_wp2_with fail
        go_meet
        exact ⟨_, _, _, _, y3.heap.size, rfl, rfl, HX9, HX10, Lib.hid (RA0.out.wide (by omega) (Nat.le_refl _)), Lib.hid (RB0.out.wide (by omega) (Nat.le_refl _)), by simp [World.setCell] <;> omega, HBW⟩
  case rest =>
    obtain ⟨pA, pB, vA, vB, k, rfl, rfl, HA, HB, RA, RB, hk, HBW⟩ := hcut
    have hsx := HBW.out.size
    obtain ⟨a0, a1, a2, _, _, _⟩ := HA.out
    clear b0 b1 b2 e0 e1 S0 CS CC KP1 KS1
    go_wp2_with fail
    refine (HIH.out G.heap.size k vA _ RA.out hk).mono ?_
    rintro e y ⟨rfl, hby⟩
    have hsy := hby.size
    have HBY : Hid (Below w.heap.size w y) := Lib.hid (bel_c (HB1.out.trans (HBW.out.mono (by omega))) (Nat.le_refl _) hby)
    obtain ⟨c0, c1, c2, _, _, _⟩ := (HB.out.below hby HB.out.lt)
    have RB2 := Lib.hid (RB.out.below (hby.mono hk))
    clear hby a0 a1 a2
    go_wp2_with fail
    refine (HIH2.out G.heap.size k vB _ RB2.out (by omega)).mono ?_
    rintro e z ⟨rfl, hbz⟩
    have HBZ := Lib.hid (bel_c HBY.out (Nat.le_refl _) hbz)
    clear hbz
    go_wp2_with fail
    go_ret
    exact ⟨rfl, HBZ.out⟩

set_option maxHeartbeats 3200000 in
set_option maxRecDepth 20000 in
theorem Sew_one (lo hi : Nat) (m n : Int) (v : Value) (xs : List P5) (w : World) (r : PatIn lo hi w v xs) (hhi : hi ≤ w.heap.size) (lay : LayOk m n xs) (hl1 : xs.length = 1) :
    Calls Try.prog 12 #[.agg #[.int .i64 m, .int .i64 n, v]] w (fun e w' => e = .returned (.bool true) ∧ Below w.heap.size w w') := by
  obtain ⟨b, cap, rfl⟩ := r.form
  have hl2 : ((xs.length : Nat) : Int) = 1 := by omega
  have LK : Hid (∀ u : World, Below w.heap.size w u → Calls Try.prog 37 #[.agg #[.int .i64 m, .int .i64 n, .slice b xs.length cap]] u fun e w' => e = .returned (.bool true) ∧ Below u.heap.size u w') := Lib.hid (fun u hb => by rw [lay_yes lay]; exact SpecLayoutOk_any lo hi m n _ xs u (r.below (hb.mono hhi)) (Nat.le_trans hhi hb.size))
  rw [hl1] at LK ⊢
  have HB0 : Hid (Below w.heap.size w (w.alloc (.cells #[.int .i64 m, .int .i64 n, .slice b 1 cap] 26))) := Lib.hid (bel0 w _)
  clear r lay
  go_enter Try.func12, Try.ntmps12
  go_wp2_with fail
  refine (LK.out _ HB0.out).mono ?_
  rintro e w0 ⟨rfl, hb0⟩
  have a0 := kept (p := ⟨w.heap.size, 0, none⟩) (x := .int .i64 m) hb0 (by go_simp)
  have a1 := kept (p := ⟨w.heap.size, 1, none⟩) (x := .int .i64 n) hb0 (by go_simp)
  have a2 := kept (p := ⟨w.heap.size, 2, none⟩) (x := .slice b 1 cap) hb0 (by go_simp)
  have HBZ := Lib.hid (bel_c HB0.out (Nat.le_refl _) hb0)
  clear hb0
  go_wp2_with fail
  go_ret
  exact ⟨rfl, HBZ.out⟩
set_option maxHeartbeats 3200000 in
set_option maxRecDepth 20000 in
theorem Sew_here (lo hi : Nat) (m n : Int) (v : Value) (xs : List P5) (w : World) (r : PatIn lo hi w v xs) (hhi : hi ≤ w.heap.size) (lay : LayOk m n xs) (hl1 : xs.length ≠ 1) (hcs : cutsL m n xs = []) :
    Calls Try.prog 12 #[.agg #[.int .i64 m, .int .i64 n, v]] w (fun e w' => e = .returned (.bool false) ∧ Below w.heap.size w w') := by
  obtain ⟨b, cap, rfl⟩ := r.form
  have hd : ((xs.length : Int) == 1) = false := by simp; omega
  have LK : Hid (∀ u : World, Below w.heap.size w u → Calls Try.prog 37 #[.agg #[.int .i64 m, .int .i64 n, .slice b xs.length cap]] u fun e w' => e = .returned (.bool true) ∧ Below u.heap.size u w') := Lib.hid (fun u hb => by rw [lay_yes lay]; exact SpecLayoutOk_any lo hi m n _ xs u (r.below (hb.mono hhi)) (Nat.le_trans hhi hb.size))
  have CC : Hid (∀ u : World, Below w.heap.size w u → Calls Try.prog 38 #[.agg #[.int .i64 m, .int .i64 n, .slice b xs.length cap]] u (FreshCut [] u)) := Lib.hid (fun u hb => by rw [← hcs, ← cuts_yes (lay_yes lay).symm]; exact SpecCutsOf_any lo hi m n _ xs u (r.below (hb.mono hhi)) (Nat.le_trans hhi hb.size))
  have HB0 : Hid (Below w.heap.size w (w.alloc (.cells #[.int .i64 m, .int .i64 n, .slice b xs.length cap] 26))) := Lib.hid (bel0 w _)
  clear r lay hcs
  go_enter Try.func12, Try.ntmps12
  go_wp2_with fail
  refine (LK.out _ HB0.out).mono ?_
  rintro e w0 ⟨rfl, hb0⟩
  have a0 := kept (p := ⟨w.heap.size, 0, none⟩) (x := .int .i64 m) hb0 (by go_simp)
  have a1 := kept (p := ⟨w.heap.size, 1, none⟩) (x := .int .i64 n) hb0 (by go_simp)
  have a2 := kept (p := ⟨w.heap.size, 2, none⟩) (x := .slice b xs.length cap) hb0 (by go_simp)
  have HB00 := Lib.hid (bel_c HB0.out (Nat.le_refl _) hb0)
  clear hb0
  go_wp2_with fail
  refine (CC.out _ HB00.out).mono ?_
  rintro e w1 ⟨vc, rfl, RC, hb1⟩
  obtain ⟨ac, cc, rfl⟩ := RC.form
  have HBZ := Lib.hid (bel_c HB00.out (Nat.le_refl _) hb1)
  clear hb1 RC
  go_wp2_with fail
  go_ret
  exact ⟨rfl, HBZ.out⟩
theorem SpecSew_is {m n : Int} {xs : List P5} {q : Option (Int × Int × List P5)} (h : KnotIs m n xs q) : ∀ (lo hi : Nat) (v : Value) (w : World), PatIn lo hi w v xs → hi ≤ w.heap.size →
    Calls Try.prog 12 #[.agg #[.int .i64 m, .int .i64 n, v]] w (fun e w' => e = .returned (.bool q.isNone) ∧ Below w.heap.size w w') := by
  induction h with
  | one h hl => intro lo hi v w r hhi; exact Sew_one lo hi _ _ v _ w r hhi h hl
  | knot h hl hc => intro lo hi v w r hhi; exact Sew_here lo hi _ _ v _ w r hhi h hl hc
  | left h hl hc h1 ih => intro lo hi v w r hhi; exact Sew_left lo hi _ _ v _ _ _ w r hhi h hl hc ih
  | right h hl hc h1 h2 ih1 ih2 => intro lo hi v w r hhi; exact Sew_right lo hi _ _ v _ _ _ _ w r hhi h hl hc ih1 ih2
theorem SpecCanSew_any (lo hi : Nat) (m n : Int) (v : Value) (xs : List P5) (w : World) (r : PatIn lo hi w v xs) (hhi : hi ≤ w.heap.size) :
    Calls Try.prog 12 #[.agg #[.int .i64 m, .int .i64 n, v]] w (fun e w' => e = .returned (.bool (sewB m n xs)) ∧ Below w.heap.size w w') := by
  by_cases h : layB m n xs = false
  · rw [← sew_no_lay h]
    obtain ⟨b, cap, rfl⟩ := r.form
    have LK : Hid (∀ u : World, Below w.heap.size w u → Calls Try.prog 37 #[.agg #[.int .i64 m, .int .i64 n, .slice b xs.length cap]] u fun e w' => e = .returned (.bool false) ∧ Below u.heap.size u w') := Lib.hid (fun u hb => by rw [← h]; exact SpecLayoutOk_any lo hi m n _ xs u (r.below (hb.mono hhi)) (Nat.le_trans hhi hb.size))
    have HB0 : Hid (Below w.heap.size w (w.alloc (.cells #[.int .i64 m, .int .i64 n, .slice b xs.length cap] 26))) := Lib.hid (bel0 w _)
    clear r h
    go_enter Try.func12, Try.ntmps12
    go_wp2_with fail
    refine (LK.out _ HB0.out).mono ?_
    rintro e w0 ⟨rfl, hb0⟩
    have HBZ := Lib.hid (bel_c HB0.out (Nat.le_refl _) hb0)
    clear hb0
    go_wp2_with fail
    go_ret
    exact ⟨rfl, HBZ.out⟩
  · have h' : layB m n xs = true := by simpa using h
    have := SpecSew_is (knotR_is h') lo hi v w r hhi
    rwa [sew_lay h'] at this
end Go.Proofs.Ytboahceibeeifaa
