/- Layouts: all common sides together are the seams; layouts turned. Layouts: SampleLayout of both. Contracts of the drawing cursor: each drawing function returns a number of its range and touches the cursor's block alone. -/
import Derived.Test.YtlkiacgpiodkiaaM08
import Derived.Test.YtlkiacgpiodkiaaM07
import Derived.Test.YtlkiacgpiodkiaaM10
import Derived.Test.YtlkiacgpiodkiaaM06
import Derived.Test.YtlkiacgpiodkiaaRows
import Derived.Test.YtlkiacgpiodkiaaM00
import Derived.WalkKit
import Derived.ProofKit
import Derived.OpenShut
import Derived.WalkSmall
import Derived.BigQuiet
import Derived.Deep.QuietTactic
import Derived.Outline
import Derived.IntWalk
import Derived.Lib.Hide

set_option linter.unusedSimpArgs false
set_option linter.unusedVariables false
namespace Go.Proofs.Ytlkiacgpiodkiaa

variable {m n : Int} {xs : List P5}

/-- Beside each other; what they have in common. -/
def besD (p q : P5) : Bool := decide ((cwP p q = 0 ∧ 0 < chP p q) ∨ (chP p q = 0 ∧ 0 < cwP p q))
def comL (p q : P5) : Int := if besD p q then max (cwP p q) (chP p q) else 0
def dV (p q : P5) : Int := if p.x + p.w = q.x then max 0 (chP p q) else 0
def dH (p q : P5) : Int := if p.y + p.h = q.y then max 0 (cwP p q) else 0
theorem com_is {p q : P5} (hp : InP p) (hq : InP q) : comL p q = (dV p q + dH p q) + (dV q p + dH q p) := by
  obtain ⟨⟨_, _, _⟩, _, _, _⟩ := hp
  obtain ⟨⟨_, _, _⟩, _, _, _⟩ := hq
  unfold comL besD dV dH
  simp only [decide_eq_true_eq]
  unfold cwP chP cmn
  by_cases c1 : p.x + p.w = q.x <;> by_cases c2 : q.x + q.w = p.x <;> by_cases c3 : p.y + p.h = q.y <;> by_cases c4 : q.y + q.h = p.y
  all_goals
    simp only [c1, c2, c3, c4, if_true, if_false]
    split <;> omega
theorem inP_of (h : LayOk m n xs) {i : Nat} (hi : i < xs.length) : InP (pat xs i) := (h.fit hi).inp h.1.2 h.2.1.2
theorem bes_D (h : LayOk m n xs) {i k : Nat} (hi : i < xs.length) (hk : k < i) : besB m n xs i k = besD (pat xs i) (pat xs k) ∧ besB m n xs k i = besD (pat xs i) (pat xs k) := by
  have hk' : k < xs.length := by omega
  have hh := (h.2.2.2.1 i hi).2 k hk
  have hp := inP_of h hi
  have hq := inP_of h hk'
  have e : Bes (pat xs i) (pat xs k) ↔ besD (pat xs i) (pat xs k) = true := by
    unfold besD
    rw [decide_eq_true_eq]
    generalize pat xs i = p at *
    generalize pat xs k = q at *
    obtain ⟨⟨_, _, _⟩, _, _, _⟩ := hp
    obtain ⟨⟨_, _, _⟩, _, _, _⟩ := hq
    unfold Hit at hh
    unfold Bes cwP chP cmn
    omega
  have e2 : Bes (pat xs k) (pat xs i) ↔ Bes (pat xs i) (pat xs k) := by unfold Bes; omega
  have hb := (lay_yes h).symm
  constructor
  · by_cases z : Bes (pat xs i) (pat xs k)
    · rw [← bes_t hb hi hk' (by omega) z, e.1 z]
    · rw [← bes_f (m := m) (n := n) z]; exact (Bool.eq_false_iff.2 (fun k => z (e.2 k))).symm
  · by_cases z : Bes (pat xs i) (pat xs k)
    · rw [← bes_t hb hk' hi (by omega) (e2.2 z), e.1 z]
    · rw [← bes_f (m := m) (n := n) (fun k => z (e2.1 k))]; exact (Bool.eq_false_iff.2 (fun k => z (e.2 k))).symm

/-- The upright seams that end at one patch. -/
theorem v_one (h : LayOk m n xs) {q : Nat} (hq : q < xs.length) : sm xs.length (fun p => dV (pat xs p) (pat xs q)) = if (pat xs q).x = 0 then 0 else (pat xs q).h := by
  obtain ⟨g0, g1, g2, g3, _⟩ := h.fit hq
  have e1 : ∀ p, p < xs.length → dV (pat xs p) (pat xs q) = sm n.toNat (fun y => (if (pat xs p).x + (pat xs p).w = (pat xs q).x then 1 else 0) * iv (pat xs p).y (pat xs p).h y * iv (pat xs q).y (pat xs q).h y) := fun p hp => by
    obtain ⟨f0, f1, f2, f3, _⟩ := h.fit hp
    rw [sm_congr (g := fun y => (if (pat xs p).x + (pat xs p).w = (pat xs q).x then 1 else 0) * (iv (pat xs p).y (pat xs p).h y * iv (pat xs q).y (pat xs q).h y)) (fun y _ => Int.mul_assoc _ _ _), sm_mul, iv_both (by omega) (by omega) (by omega)]
    unfold dV chP cmn
    split <;> omega
  rw [sm_congr e1, sm_swap]
  have e2 : ∀ y, y < n.toNat → sm xs.length (fun p => (if (pat xs p).x + (pat xs p).w = (pat xs q).x then 1 else 0) * iv (pat xs p).y (pat xs p).h y * iv (pat xs q).y (pat xs q).h y) = (if (pat xs q).x = 0 then 0 else 1) * iv (pat xs q).y (pat xs q).h y := fun y hy => by
    rw [sm_mul_r]
    rcases iv_01 (pat xs q).y (pat xs q).h y with z | z
    · rw [z]; simp
    · congr 1
      by_cases c : (pat xs q).x = 0
      · rw [if_pos c]
        refine (sm_congr (g := fun _ => 0) (fun p hp => ?_)).trans (sm_zero _)
        obtain ⟨f0, f1, f2, f3, _⟩ := h.fit hp
        rw [if_neg (by omega)]; simp
      · rw [if_neg c]
        refine (sm_congr (g := fun p => cv (pat xs p) ((pat xs q).x - 1).toNat y) (fun p hp => ?_)).trans (one_each h ((pat xs q).x - 1).toNat y (by omega) (by omega))
        obtain ⟨f0, f1, f2, f3, _⟩ := h.fit hp
        unfold cv
        rcases iv_01 (pat xs p).y (pat xs p).h y with w | w
        · rw [w]; simp
        · rw [w, Int.mul_one, Int.mul_one]
          obtain ⟨z0, z1⟩ := iv_1.1 z
          obtain ⟨w0, w1⟩ := iv_1.1 w
          by_cases d : (pat xs p).x + (pat xs p).w = (pat xs q).x
          · rw [if_pos d]; exact ((iv_1 (a := (pat xs p).x) (l := (pat xs p).w) (x := ((pat xs q).x - 1).toNat)).2 ⟨by omega, by omega⟩).symm
          · rw [if_neg d]
            rcases iv_01 (pat xs p).x (pat xs p).w ((pat xs q).x - 1).toNat with v | v
            · exact v.symm
            · exfalso
              obtain ⟨v0, v1⟩ := iv_1.1 v
              have hne : p ≠ q := by
                rintro rfl
                omega
              have hit : Hit (pat xs p) (pat xs q) := by unfold Hit; omega
              rcases Nat.lt_or_gt_of_ne hne with h' | h'
              · exact (h.2.2.2.1 q hq).2 p h' ⟨hit.2.1, hit.1, hit.2.2.2, hit.2.2.1⟩
              · exact (h.2.2.2.1 p hp).2 q h' hit
  rw [sm_congr e2, sm_mul, iv_len (by omega) (by omega) (by omega)]
  split <;> omega
/-- All upright seams. -/
theorem v_sum (h : LayOk m n xs) : sm xs.length (fun p => sm xs.length (fun q => dV (pat xs p) (pat xs q))) = sm xs.length (fun q => (pat xs q).h) - n := by
  rw [sm_swap, sm_congr (fun q hq => v_one h hq)]
  have e : sm xs.length (fun q => if (pat xs q).x = 0 then (pat xs q).h else 0) = n := by
    rw [sm_congr (g := fun q => sm n.toNat (fun y => cv (pat xs q) 0 y)) (fun q hq => by
      obtain ⟨f0, f1, f2, f3, _⟩ := h.fit hq
      rw [sm_congr (g := fun y => (if (pat xs q).x = 0 then 1 else 0) * iv (pat xs q).y (pat xs q).h y) (fun y _ => by
        unfold cv; congr 1; unfold iv; split <;> split <;> omega), sm_mul, iv_len (by omega) (by omega) (by omega)]
      split <;> omega), sm_swap]
    rw [sm_congr (g := fun _ => 1) (fun y hy => one_each h 0 y (by have := h.1; omega) (by omega)), sm_const]
    have := h.2.1; omega
  have e2 : sm xs.length (fun q => (if (pat xs q).x = 0 then 0 else (pat xs q).h) + (if (pat xs q).x = 0 then (pat xs q).h else 0)) = sm xs.length (fun q => (pat xs q).h) := sm_congr (fun q _ => by split <;> omega)
  rw [sm_add, e] at e2
  omega

/-- Width and height exchanged. -/
def trP (p : P5) : P5 := ⟨p.y, p.x, p.h, p.w, p.c⟩
theorem pat_map {f : P5 → P5} {i : Nat} (hi : i < xs.length) : pat (xs.map f) i = f (pat xs i) := by simp [pat, List.getD, hi]
theorem ar_is (xs : List P5) (k : Nat) : ar xs k = sm k (fun i => (pat xs i).w * (pat xs i).h) := rfl
theorem lay_map {f : P5 → P5} (h : LayOk m n xs) (hf : ∀ p, Fit m n p → Fit n m (f p)) (hh : ∀ p q, Hit (f p) (f q) → Hit p q) (ha : ∀ p, (f p).w * (f p).h = p.w * p.h) : LayOk n m (xs.map f) := by
  refine ⟨h.2.1, h.1, by simpa using h.2.2.1, fun i hi => ?_, ?_⟩
  · have hi' : i < xs.length := by simpa using hi
    refine ⟨by rw [pat_map hi']; exact hf _ (h.fit hi'), fun j hj k => ?_⟩
    rw [pat_map hi', pat_map (show j < xs.length by omega)] at k
    exact (h.2.2.2.1 i hi').2 j hj (hh _ _ k)
  · rw [Int.mul_comm, ← h.2.2.2.2, ar_is, ar_is, List.length_map]
    exact sm_congr (fun i hi => by rw [pat_map hi, ha])
theorem lay_tr (h : LayOk m n xs) : LayOk n m (xs.map trP) := lay_map h (fun p k => by obtain ⟨_, _, _, _, _⟩ := k; unfold Fit trP; simp only; omega) (fun p q k => by unfold Hit trP at *; simp only at *; omega) (fun p => Int.mul_comm _ _)
theorem h_sum (h : LayOk m n xs) : sm xs.length (fun p => sm xs.length (fun q => dH (pat xs p) (pat xs q))) = sm xs.length (fun q => (pat xs q).w) - m := by
  have e := v_sum (lay_tr h)
  rw [List.length_map] at e
  have e1 : sm xs.length (fun q => (pat (xs.map trP) q).h) = sm xs.length (fun q => (pat xs q).w) := sm_congr (fun q hq => by rw [pat_map hq]; rfl)
  rw [e1] at e
  rw [← e]
  refine sm_congr (fun p hp => sm_congr (fun q hq => ?_))
  rw [pat_map hp, pat_map hq]
  rfl
/-- All common sides together are the seams. -/
theorem com_sum (h : LayOk m n xs) : sm xs.length (fun i => sm i (fun k => comL (pat xs i) (pat xs k))) = half xs xs.length - m - n := by
  have e1 : sm xs.length (fun i => sm i (fun k => comL (pat xs i) (pat xs k))) = sm xs.length (fun i => sm i (fun k => (dV (pat xs i) (pat xs k) + dH (pat xs i) (pat xs k)) + (dV (pat xs k) (pat xs i) + dH (pat xs k) (pat xs i)))) :=
    sm_congr (fun i hi => sm_congr (fun k hk => com_is (inP_of h hi) (inP_of h (by omega))))
  have t := sm_tri (fun i k => dV (pat xs i) (pat xs k) + dH (pat xs i) (pat xs k)) xs.length
  have dz : sm xs.length (fun i => dV (pat xs i) (pat xs i) + dH (pat xs i) (pat xs i)) = 0 := by
    rw [← sm_zero xs.length]
    refine sm_congr (fun i hi => ?_)
    obtain ⟨f0, f1, f2, f3, _⟩ := h.fit hi
    unfold dV dH
    rw [if_neg (by omega), if_neg (by omega)]; rfl
  have s : sm xs.length (fun i => sm xs.length (fun k => dV (pat xs i) (pat xs k) + dH (pat xs i) (pat xs k))) = (sm xs.length (fun q => (pat xs q).h) - n) + (sm xs.length (fun q => (pat xs q).w) - m) := by
    rw [sm_congr (fun i _ => sm_add _ _ _), sm_add, v_sum h, h_sum h]
  have hf : half xs xs.length = sm xs.length (fun q => (pat xs q).w) + sm xs.length (fun q => (pat xs q).h) := sm_add _ _ _
  rw [e1]
  omega

/-- Turned by a quarter. -/
theorem lay_turn (h : LayOk m n xs) : LayOk n m (turL n xs) := lay_map h (fun p k => by obtain ⟨_, _, _, _, _⟩ := k; unfold Fit turP; simp only; omega) (fun p q k => by unfold Hit turP at *; simp only at *; omega) (fun p => Int.mul_comm _ _)
theorem turL_length (n : Int) (xs : List P5) : (turL n xs).length = xs.length := by simp [turL]
theorem seam_turn (h : LayOk m n xs) : seamL n m (turL n xs) = half xs xs.length - m - n := by
  have e : half (turL n xs) (turL n xs).length = half xs xs.length := by
    rw [turL_length]
    refine sm_congr (fun i hi => ?_)
    show (pat (xs.map (turP n)) i).w + (pat (xs.map (turP n)) i).h = _
    rw [pat_map hi]
    show (pat xs i).h + (pat xs i).w = _
    omega
  unfold seamL
  rw [(lay_yes (lay_turn h)).symm, if_pos rfl, e]; omega
theorem seam_val (h : LayOk m n xs) : seamL m n xs = half xs xs.length - m - n := by
  unfold seamL
  rw [(lay_yes h).symm, if_pos rfl]
theorem turn_four (m n : Int) (xs : List P5) : turL m (turL n (turL m (turL n xs))) = xs := by
  unfold turL
  rw [List.map_map, List.map_map, List.map_map]
  conv => rhs; rw [← List.map_id xs]
  refine List.map_congr_left (fun p _ => ?_)
  obtain ⟨x, y, w, h, c⟩ := p
  simp only [Function.comp_apply, turP, id]
  congr 1 <;> omega
theorem smp_ok : LayOk 3 3 smpL := by
  refine ⟨by decide, by decide, by decide, fun i hi => ?_, by decide⟩
  have hi' : i < 5 := hi
  have : i = 0 ∨ i = 1 ∨ i = 2 ∨ i = 3 ∨ i = 4 := by omega
  rcases this with rfl | rfl | rfl | rfl | rfl
  all_goals
    refine ⟨by unfold Fit; decide, fun j hj => ?_⟩
    have hj' : j < 5 := by omega
    have : j = 0 ∨ j = 1 ∨ j = 2 ∨ j = 3 ∨ j = 4 := by omega
    rcases this with rfl | rfl | rfl | rfl | rfl <;> first | (exfalso; omega) | (unfold Hit; decide)
theorem smp_seam : seamL 3 3 smpL = 8 := by rw [seam_val smp_ok]; decide

end Go.Proofs.Ytlkiacgpiodkiaa

set_option linter.unusedSimpArgs false
set_option linter.unusedVariables false
namespace Go.Proofs.Ytlkiacgpiodkiaa
open Go.ChangeShapes Go.WideShapes Go.ChangeAt Go.RowKit

theorem SpecSampleLayout_any (w : World) :
    Calls Try.prog 49 #[] w (FreshL 3 3 smpL w) := by
  have hown := World.ownsRow_lit (base := w.heap.size + 1) (e := 73) (size := 5) (w.alloc (.cells #[.int .i64 3, .int .i64 3, .slice (some ⟨w.heap.size + 1, 0, none⟩) 5 5] 50)) #[.int .i64 0, .int .i64 0, .int .i64 2, .int .i64 1, .int .i64 0, .int .i64 2, .int .i64 0, .int .i64 1, .int .i64 2, .int .i64 1, .int .i64 1, .int .i64 2, .int .i64 2, .int .i64 1, .int .i64 2, .int .i64 0, .int .i64 1, .int .i64 1, .int .i64 2, .int .i64 3, .int .i64 1, .int .i64 1, .int .i64 1, .int .i64 1, .int .i64 4] 5 (by simp) (by decide) rfl
  have hin : PatIn (w.heap.size + 1) ((w.alloc (.cells #[.int .i64 3, .int .i64 3, .slice (some ⟨w.heap.size + 1, 0, none⟩) 5 5] 50)).alloc (.cells #[.int .i64 0, .int .i64 0, .int .i64 2, .int .i64 1, .int .i64 0, .int .i64 2, .int .i64 0, .int .i64 1, .int .i64 2, .int .i64 1, .int .i64 1, .int .i64 2, .int .i64 2, .int .i64 1, .int .i64 2, .int .i64 0, .int .i64 1, .int .i64 1, .int .i64 2, .int .i64 3, .int .i64 1, .int .i64 1, .int .i64 1, .int .i64 1, .int .i64 4] 73)).heap.size ((w.alloc (.cells #[.int .i64 3, .int .i64 3, .slice (some ⟨w.heap.size + 1, 0, none⟩) 5 5] 50)).alloc (.cells #[.int .i64 0, .int .i64 0, .int .i64 2, .int .i64 1, .int .i64 0, .int .i64 2, .int .i64 0, .int .i64 1, .int .i64 2, .int .i64 1, .int .i64 1, .int .i64 2, .int .i64 2, .int .i64 1, .int .i64 2, .int .i64 0, .int .i64 1, .int .i64 1, .int .i64 2, .int .i64 3, .int .i64 1, .int .i64 1, .int .i64 1, .int .i64 1, .int .i64 4] 73)) (.slice (some ⟨w.heap.size + 1, 0, none⟩) 5 5) smpL := PatIn.of_owns (xs := smpL) (by simpa [smpL, placesPat] using hown) (by decide)
  have HI := Lib.hid (hin.wide (lo' := w.heap.size + 1) (hi' := w.heap.size + 1 + 1) (Nat.le_refl _) (by simp))
  clear hown hin
  go_enter Try.func49, Try.ntmps49
  go_wp2_with fail
  refine bodyPost_ret (v := .agg #[.int .i64 3, .int .i64 3, .slice (some ⟨w.heap.size + 1, 0, none⟩) 5 5]) (by simp [results, Try.results49, go_sem]) rfl ⟨_, rfl, ?_, ?_⟩
  · exact HI.out.wide (by omega) (by simp)
  · exact bel_n (bel0 w _) (Nat.le_refl _) _

end Go.Proofs.Ytlkiacgpiodkiaa

set_option linter.unusedSimpArgs false
set_option linter.unusedVariables false
namespace Go.Proofs.Ytlkiacgpiodkiaa
open Go.ChangeShapes Go.WideShapes Go.ChangeAt Go.RowKit

set_option maxHeartbeats 400000 in
theorem Byte_any (b : Nat) (a : Option Addr) (len cap : Nat) (w : World) (hcur : Cur w b a len cap) :
    Calls Try.prog 53 #[.pointer (some ⟨b, 0, none⟩)] w (Drawn (fun x => 0 ≤ x ∧ x ≤ 255) b a len cap w) := by
  obtain ⟨k, h, hk, c0, c1, c2, f1, f2, hs⟩ := hcur
  have HS := Lib.hid hs
  obtain ⟨hm, hs⟩ := hs
  have hl : len ≤ 9223372036854775807 := by unfold maxLen at hm; omega
  clear hm
  by_cases hlt : k < len
  · rcases hs with hs | ⟨xb, xo, rfl, hne0, hc⟩
    · omega
    have hne : xb ≠ b := Nat.ne_of_lt hne0
    clear hne0
    obtain ⟨v, hv, hv0, hv1⟩ := hc k hlt
    clear hc
    go_enter Try.func53, Try.ntmps53
    go_wp2_with fail
    go_quiet (fail)
    go_wp2_with fail
    go_quiet (fail)
    go_wp2_with fail
    go_quiet (fail)
    go_wp2_with fail
    go_ret
    have hb : ∀ (n : Nat) (u v : Value), But b w (((w.setCell ⟨b, 2, none⟩ u).drewN n).setCell ⟨b, 1, none⟩ v) := fun n u v => (((But.refl b w).setCell (.inl rfl) u).drewN n).setCell (.inl rfl) v
    refine ⟨_, i64_and255 _, rfl, ⟨k + 1, wrap64 (wrap64 (h * 6364136223846793005) + 1442695040888963407), by omega, ?_, ?_, ?_, ?_, ?_, HS.out.but (hb _ _ _)⟩, hb _ _ _⟩
    all_goals go_simp
  · clear hs
    go_enter Try.func53, Try.ntmps53
    go_wp2_with fail
    go_quiet (fail)
    go_wp2_with fail
    go_quiet (fail)
    go_wp2_with fail
    go_ret
    have hb : ∀ (m n : Nat) (u : Value), But b w (((w.setCell ⟨b, 2, none⟩ u).drewN m).drewN n) := fun m n u => (((But.refl b w).setCell (.inl rfl) u).drewN m).drewN n
    refine ⟨_, i64_and255 _, rfl, ⟨k, wrap64 (wrap64 (h * 6364136223846793005) + 1442695040888963407), hk, ?_, ?_, ?_, ?_, ?_, HS.out.but (hb _ _ _)⟩, hb _ _ _⟩
    all_goals go_simp

theorem Below_any (b : Nat) (a : Option Addr) (len cap : Nat) (n : Int) (w : World) (hcur : Cur w b a len cap) (h0 : 0 < n) (h1 : n ≤ 9223372036854775807) :
    Calls Try.prog 47 #[.pointer (some ⟨b, 0, none⟩), .int .i64 n] w (Drawn (fun x => 0 ≤ x ∧ x < n) b a len cap w) := by
  by_cases hs : n ≤ 256
  · go_enter Try.func47, Try.ntmps47
    go_wp2_with (go_at_call 53; refine (Byte_any b a len cap _ hcur).mono ?_; rintro e w' ⟨x, ⟨x0, x1⟩, rfl, hcur1, hb1⟩)
    go_ret
    exact ⟨x % n, ⟨Int.emod_nonneg _ (by omega), Int.emod_lt_of_pos _ h0⟩, rfl, hcur1, hb1⟩
  · go_enter Try.func47, Try.ntmps47
    go_wp2_with fail
    refine (Byte_any b a len cap _ hcur).mono ?_
    rintro e w1 ⟨x, ⟨x0, x1⟩, rfl, hcur1, hb1⟩
    go_wp2_with fail
    refine (Byte_any b a len cap _ hcur1).mono ?_
    rintro e w2 ⟨y, ⟨y0, y1⟩, rfl, hcur2, hb2⟩
    go_wp2_with fail
    refine (Byte_any b a len cap _ hcur2).mono ?_
    rintro e w3 ⟨z, ⟨z0, z1⟩, rfl, hcur3, hb3⟩
    go_wp2_with fail
    refine (Byte_any b a len cap _ hcur3).mono ?_
    rintro e w4 ⟨v, ⟨v0, v1⟩, rfl, hcur4, hb4⟩
    go_wp2_with fail
    go_ret
    exact ⟨_, ⟨Int.emod_nonneg _ (by omega), Int.emod_lt_of_pos _ h0⟩, rfl, hcur4, ((hb1.trans hb2).trans hb3).trans hb4⟩

theorem New_any (a : Option Addr) (len cap : Nat) (w : World) (hs : Src w w.heap.size a len) (hlen : len ≤ 1048576) :
    Calls Try.prog 33 #[.slice a len cap] w fun e w' => e = .returned (.pointer (some ⟨w.heap.size, 0, none⟩)) ∧ Cur w' w.heap.size a len cap ∧ Below w.heap.size w w' := by
  have HS := Lib.hid hs
  obtain ⟨hm, hs⟩ := hs
  clear hm
  go_enter Try.func33, Try.ntmps33
  go_wp2_with fail
  go_loop [3, 4] (fun h i => ∃ (k : Nat) (n : Int), k ≤ len ∧ 0 ≤ n ∧ n ≤ 1073774825 ∧ i = .int .i64 k ∧ h = .int .i64 n) (fun _ i => len - (intOf i).toNat)
  case atStart => exact ⟨0, 33041 + len, Nat.zero_le _, by omega, by omega, rfl, rfl⟩
  case round =>
    obtain ⟨k, n, hk, n0, n1, rfl, rfl⟩ := hrel
    by_cases hlt : k < len
    · rcases hs with hs | ⟨xb, xo, rfl, hne, hc⟩
      · omega
      obtain ⟨v, hv, hv0, hv1⟩ := hc k hlt
      clear hc
      have N1 := Lib.hid n1
      clear n1
      by_cases h4 : (k : Int) < 4000
      · go_wp2_with fail
        go_round
        case rel => exact ⟨k + 1, _, by omega, (i64_and30 _).1, Int.le_trans (i64_and30 _).2 (by omega), by go_num, rfl⟩
        case measure => simp [intOf]; omega
      · go_wp2_with fail
        go_ret
        refine ⟨rfl, ⟨0, n, Nat.zero_le _, ?_, ?_, ?_, ?_, ?_, HS.out.but ((But.refl _ _).alloc _)⟩, (Below.refl _ _).alloc (Nat.le_refl _) _⟩
        all_goals go_simp
    · go_wp2_with fail
      go_ret
      refine ⟨rfl, ⟨0, n, Nat.zero_le _, ?_, ?_, ?_, ?_, ?_, HS.out.but ((But.refl _ _).alloc _)⟩, (Below.refl _ _).alloc (Nat.le_refl _) _⟩
      all_goals go_simp
/-- The laws' own bound. -/
theorem Big_no (a : Option Addr) (len cap : Nat) (w : World) (hlen : len ≤ 1048576) :
    Calls Try.prog 9 #[.slice a len cap] w fun e w' => e = .returned (.bool false) ∧ w = w' := by
  have hd : decide (1048576 < (len : Int)) = false := by simp; omega
  go_enter Try.func9, Try.ntmps9
  go_wp2
  go_ret
  exact ⟨rfl, rfl⟩
theorem Big_yes (a : Option Addr) (len cap : Nat) (w : World) (hm : len ≤ 9223372036854775807) (hlen : 1048576 < len) :
    Calls Try.prog 9 #[.slice a len cap] w fun e w' => e = .returned (.bool true) ∧ w = w' := by
  have hd : decide (1048576 < (len : Int)) = true := by simp; omega
  go_enter Try.func9, Try.ntmps9
  go_wp2
  go_ret
  exact ⟨rfl, rfl⟩
end Go.Proofs.Ytlkiacgpiodkiaa
