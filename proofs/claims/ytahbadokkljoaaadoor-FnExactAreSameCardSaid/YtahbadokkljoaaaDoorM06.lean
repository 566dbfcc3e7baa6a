/- Plain facts on decimal digits. The walks of FormatInt, the model's and the program's. One digit: the model's FormatInt. Cells: CellText of both. -/
import Derived.Test.YtahbadokkljoaaaDoorM05
import Derived.Lib.ItoaNum
import Derived.Test.YtahbadokkljoaaaDoorM00
import Derived.Deep.RegionHeld3

namespace Go.Proofs.YtahbadokkljoaaaDoor
open Go.RowKit

/-- The digits of a number, none of 0. -/
def dg (m : Nat) : List UInt8 := if m = 0 then [] else Lib.decDigits m
theorem hexDig_dec (k : Nat) (h : k < 10) : hexDig k = UInt8.ofNat (48 + k) := by unfold hexDig; rw [if_pos h]
theorem dg_step (m : Nat) (h : 0 < m) : dg m = dg (m / 10) ++ [hexDig (m % 10)] := by
  unfold dg
  rw [if_neg (by omega), hexDig_dec _ (by omega), Lib.decDigits]
  by_cases h1 : m < 10
  · rw [dif_pos h1, if_pos (by omega), Nat.mod_eq_of_lt h1]; rfl
  · rw [dif_neg h1, if_neg (by omega)]
theorem itoa_pos (m : Nat) (h : 0 < m) : Lib.itoa (m : Int) = dg m := by
  unfold Lib.itoa dg
  rw [if_neg (by omega), if_neg (by omega)]; rfl
theorem itoa_neg (m : Nat) (h : 0 < m) : Lib.itoa (-(m : Int)) = 45 :: dg m := by
  unfold Lib.itoa dg
  rw [if_pos (by omega), if_neg (by omega)]
  congr 2
  omega
theorem dg_length : ∀ (k n : Nat), n < 10 ^ k → (dg n).length ≤ k
  | 0, n, h => by simp at h; subst h; simp [dg]
  | k + 1, n, h => by
    rcases Nat.eq_zero_or_pos n with rfl | h0
    · simp [dg]
    · rw [dg_step n h0]
      have h1 := dg_length k (n / 10) (by rw [Nat.pow_succ] at h; omega)
      simp
      exact h1
theorem dg_19 (n : Nat) (h : n ≤ 9223372036854775808) : (dg n).length ≤ 19 := dg_length 19 n (by have e : (10 : Nat) ^ 19 = 10000000000000000000 := by decide
                                                                                                 omega)
theorem dg_room {m n : Nat} {t : ByteArray} (hn : n ≤ 9223372036854775808) (h : dg m ++ t.data.toList = dg n) : t.size ≤ 19 := by
  have h1 := dg_19 n hn
  rw [← h, List.length_append] at h1
  simp at h1
  omega
/-- 'string([]byte{c})'. -/
theorem string_one {P : Program} (w : World) (c : UInt8) {src dst e : Nat} (hs : P.underlying src = some (.slice e)) (he : P.underlying e = some (.int .u8)) (hd : P.underlying dst = some .string) :
    (convert src dst (.slice (some ⟨w.heap.size, 0, none⟩) 1 1)).run P (w.alloc (.cells #[.int .u8 (c.toNat : Int)] e)) = .ok (.string ⟨#[c]⟩) (w.alloc (.cells #[.int .u8 (c.toNat : Int)] e)) :=
  string_own (base := w.heap.size) (l := [c]) (v := .slice (some ⟨w.heap.size, 0, none⟩) 1 1)
    ⟨rfl, .inr ⟨_, 1, #[.int .u8 (c.toNat : Int)], rfl, Nat.le_refl _, heap_alloc_new _ _, by simp, by simp [maxLen], rfl, rfl⟩⟩ hs he hd
end Go.Proofs.YtahbadokkljoaaaDoor

namespace Go.Proofs.YtahbadokkljoaaaDoor
open Go.ChangeShapes Go.WideShapes Go.ChangeAt Go.RowKit

theorem dg_after {m n : Nat} {t : ByteArray} (hz : 0 < m) (h : dg m ++ t.data.toList = dg n) : dg (m / 10) ++ (({ data := #[hexDig (m % 10)] } : ByteArray) ++ t).data.toList = dg n := by
  rw [← h, dg_step m hz]
  simp

set_option maxHeartbeats 400000 in
theorem SpecFormat_pos (n : Nat) (w : World) (h0 : 0 < n) (h1 : n ≤ 9223372036854775807) :
    Calls Tryd.prog 50 #[.int .i64 n] w fun e w' => e = .returned (.string ⟨(Lib.itoa n).toArray⟩) ∧ Below w.heap.size w w' := by
  have HI := Lib.hid (itoa_pos n h0)
  have q1 : ((n : Int) == 0) = false := by simp; omega
  have q2 : decide ((n : Int) < 0) = false := by simp
  go_enter Tryd.func50, Tryd.ntmps50
  go_wp2_with fail
  clear q1 q2
  go_loopw [0, 4] (fun v s wr => ∃ (m : Nat) (t : ByteArray), m ≤ 9223372036854775807 ∧ v = .int .i64 m ∧ s = .string t ∧ Hid (dg m ++ t.data.toList = dg n) ∧ Below w.heap.size w wr) (fun v _ _ => (intOf v).toNat)
  case atStart => exact ⟨n, _, h1, rfl, rfl, by simp [Hid], Below.refl _ _⟩
  case round =>
    obtain ⟨m, t, hm, rfl, rfl, hd, hbel⟩ := hrel
    have ht := dg_room (by omega) hd.out
    by_cases hz : 0 < m
    · have cv := fun (w : World) => string_one (P := Tryd.prog) w (hexDig (m % 10)) Tryd.underlying71 Tryd.underlying5 Tryd.underlying9
      go_wp2_with (go_at_call 69; refine (Figure_at (m % 10) _ _ (by omega) (by omega)).mono ?_; rintro e w' ⟨rfl, rfl⟩)
      go_roundw
      case rel => exact ⟨m / 10, _, by omega, rfl, rfl, dg_after hz hd.out, hbel.alloc hbel.size _⟩
      case measure => simp [intOf]; omega
    · obtain rfl : m = 0 := by omega
      go_wp2_with fail
      go_ret
      have e1 : t.data.toList = Lib.itoa n := by rw [HI.out, ← hd.out]; rfl
      exact ⟨by rw [← e1]; rfl, hbel⟩

set_option maxHeartbeats 400000 in
theorem SpecFormat_neg (n : Nat) (w : World) (h0 : 0 < n) (h1 : n ≤ 9223372036854775808) :
    Calls Tryd.prog 50 #[.int .i64 (-(n : Int))] w fun e w' => e = .returned (.string ⟨(Lib.itoa (-(n : Int))).toArray⟩) ∧ Below w.heap.size w w' := by
  have HI := Lib.hid (itoa_neg n h0)
  have q1 : (-(n : Int) == 0) = false := by simp; omega
  have q2 : decide (-(n : Int) < 0) = true := by simp; omega
  go_enter Tryd.func50, Tryd.ntmps50
  go_wp2_with fail
  clear q1 q2
  go_loopw [0, 4] (fun v s wr => ∃ (m : Nat) (t : ByteArray), m ≤ 9223372036854775808 ∧ v = .int .i64 (-(m : Int)) ∧ s = .string t ∧ Hid (dg m ++ t.data.toList = dg n) ∧ Below w.heap.size w wr) (fun v _ _ => (intOf v).natAbs)
  case atStart => exact ⟨n, _, h1, rfl, rfl, by simp [Hid], Below.refl _ _⟩
  case round =>
    obtain ⟨m, t, hm, rfl, rfl, hd, hbel⟩ := hrel
    have ht := dg_room (by omega) hd.out
    by_cases hz : 0 < m
    · have cv := fun (w : World) => string_one (P := Tryd.prog) w (hexDig (m % 10)) Tryd.underlying71 Tryd.underlying5 Tryd.underlying9
      have e1 : (-(m : Int)).tmod 10 = -((m : Int) % 10) := by rw [Int.neg_tmod, Int.tmod_eq_emod_of_nonneg (by omega)]
      have e2 : (-(m : Int)).tdiv 10 = -((m : Int) / 10) := by rw [Int.neg_tdiv, Int.tdiv_eq_ediv_of_nonneg (by omega)]
      by_cases hs : (m : Int) % 10 = 0
      · go_wp2_with (go_at_call 69; refine (Figure_at (m % 10) _ _ (by omega) (by omega)).mono ?_; rintro e w' ⟨rfl, rfl⟩)
        go_roundw
        case rel => exact ⟨m / 10, _, by omega, rfl, rfl, dg_after hz hd.out, hbel.alloc hbel.size _⟩
        case measure => simp [intOf]; omega
      · have hs : 0 < (m : Int) % 10 := by omega
        go_wp2_with (go_at_call 69; refine (Figure_at (m % 10) _ _ (by omega) (by omega)).mono ?_; rintro e w' ⟨rfl, rfl⟩)
        go_roundw
        case rel => exact ⟨m / 10, _, by omega, rfl, rfl, dg_after hz hd.out, hbel.alloc hbel.size _⟩
        case measure => simp [intOf]; omega
    · obtain rfl : m = 0 := by omega
      go_wp2_with fail
      go_ret
      have e1 : 45 :: t.data.toList = Lib.itoa (-(n : Int)) := by rw [HI.out, ← hd.out]; rfl
      exact ⟨by rw [← e1]; rfl, hbel⟩
end Go.Proofs.YtahbadokkljoaaaDoor

namespace Go.Proofs.YtahbadokkljoaaaDoor
open Go.ChangeShapes Go.WideShapes Go.ChangeAt Go.RowKit

theorem itoa_dgt {n : Int} (h0 : 0 ≤ n) (h1 : n ≤ 9) : (⟨(Lib.itoa n).toArray⟩ : ByteArray) = dgt n := by
  unfold Lib.itoa dgt
  rw [if_neg (by omega), Lib.decDigits_one (by omega)]

theorem SpecDigit_any (n : Int) (w : World) (h0 : 0 ≤ n) (h1 : n ≤ 9) :
    Calls Tryd.prog 50 #[.int .i64 n] w fun e w' => e = .returned (.string (dgt n)) ∧ Below w.heap.size w w' := by
  rw [← itoa_dgt h0 h1]
  by_cases hz : n = 0
  · subst hz
    have e0 : Lib.itoa 0 = [48] := by unfold Lib.itoa; rw [if_neg (by omega), Lib.decDigits]; rfl
    have E0 := Lib.hid e0
    clear e0
    go_enter Tryd.func50, Tryd.ntmps50
    go_wp2_with fail
    go_ret
    exact ⟨by rw [E0.out]; rfl, Below.refl _ _⟩
  · obtain ⟨k, rfl⟩ : ∃ k : Nat, n = k := ⟨n.toNat, by omega⟩
    exact SpecFormat_pos k w (by omega) (by omega)

end Go.Proofs.YtahbadokkljoaaaDoor

namespace Go.Proofs.YtahbadokkljoaaaDoor
open Go.ChangeShapes Go.WideShapes Go.ChangeAt Go.RowKit

/-- The text of a cell. -/
def cellTxt (s a b : Int) : ByteArray := if OkC s a b then (if s = 1 then dgt a ++ ⟨#[47]⟩ ++ dgt b else if s = 2 then dgt a ++ ⟨#[92]⟩ ++ dgt b else dgt a) else ⟨#[]⟩
theorem txt_bad {s a b : Int} (k : ¬ OkC s a b) : cellTxt s a b = ⟨#[]⟩ := if_neg k
theorem txt_up {a b : Int} (k : OkC 1 a b) : cellTxt 1 a b = dgt a ++ ⟨#[47]⟩ ++ dgt b := by unfold cellTxt; rw [if_pos k, if_pos rfl]
theorem txt_down {a b : Int} (k : OkC 2 a b) : cellTxt 2 a b = dgt a ++ ⟨#[92]⟩ ++ dgt b := by unfold cellTxt; rw [if_pos k, if_neg (by omega), if_pos rfl]
theorem txt_whole {a b : Int} (k : OkC 0 a b) : cellTxt 0 a b = dgt a := by unfold cellTxt; rw [if_pos k, if_neg (by omega), if_neg (by omega)]

theorem keep_cell {u v : World} {p : Addr} {x : Value} (hb : Below u.heap.size u v) (h : u.cell? p = some x) : v.cell? p = some x :=
  (World.cell?_of_block (hb.block p.block (lt_of_cell h))).trans h
theorem bel_new' {b : Nat} {w u : World} (h : Below b w u) (hb : b ≤ w.heap.size) (o : Obj) : Below b w (u.alloc o) := h.alloc (Nat.le_trans hb h.size) _
theorem bel_call' {b : Nat} {w u v : World} (h : Below b w u) (hb : b ≤ w.heap.size) (k : Below u.heap.size u v) : Below b w v := h.trans (k.mono (Nat.le_trans hb h.size))

theorem bel_drewN {b : Nat} {w u : World} (h : Below b w u) (n : Nat) : Below b w (u.drewN n) := ⟨h.os, h.tape, h.output, h.size, h.block⟩

set_option maxRecDepth 100000 in
theorem ImplText_any (s a b : Int) (w : World) :
    Calls Tryd.prog 31 #[.agg #[.int .i64 s, .int .i64 a, .int .i64 b]] w fun e w' => e = .returned (.string (cellTxt s a b)) ∧ Below w.heap.size w w' := by
  by_cases k : OkC s a b
  · have k' := Lib.hid (decide_eq_true k)
    have hs : s = 0 ∨ s = 1 ∨ s = 2 := by unfold OkC at k; omega
    have ha : 0 ≤ a ∧ a ≤ 5 := by unfold OkC at k; omega
    have hb : 0 ≤ b ∧ b ≤ 5 := by unfold OkC at k; omega
    have CA := fun w => ImplDigit_any a w ha.1 (by omega)
    have CB := fun w => ImplDigit_any b w hb.1 (by omega)
    clear ha hb
    rcases hs with rfl | rfl | rfl
    · rw [txt_whole k]
      clear k
      go_enter Tryd.func31, Tryd.ntmps31
      go_wp2_with (first | (refine (ImplOk_any _ _ _ _).mono ?_; rw [k'.out]; rintro e w' ⟨rfl, rfl⟩) | (refine (CA _).mono ?_; rintro e w' ⟨rfl, rfl⟩))
      go_ret
      exact ⟨rfl, ((Below.refl _ _).alloc (Nat.le_refl _) _).alloc (by simp) _⟩
    · rw [txt_up k]
      clear k
      have za := dgt_size a
      have zb := dgt_size b
      generalize dgt a = ta at CA za ⊢
      generalize dgt b = tb at CB zb ⊢
      go_enter Tryd.func31, Tryd.ntmps31
      go_wp2_with (refine (ImplOk_any _ _ _ _).mono ?_; rw [k'.out]; rintro e w' ⟨rfl, rfl⟩)
      go_quiet (first | (go_at_call 54; first | exact Calls.quiet_of_same (CA _) | exact Calls.quiet_of_same (CB _)))
      go_wp2_with fail
      go_ret
      exact ⟨rfl, bel_drewN (((Below.refl _ _).alloc (Nat.le_refl _) _).alloc (by simp) _) _⟩
    · rw [txt_down k]
      clear k
      have za := dgt_size a
      have zb := dgt_size b
      generalize dgt a = ta at CA za ⊢
      generalize dgt b = tb at CB zb ⊢
      go_enter Tryd.func31, Tryd.ntmps31
      go_wp2_with (refine (ImplOk_any _ _ _ _).mono ?_; rw [k'.out]; rintro e w' ⟨rfl, rfl⟩)
      go_quiet (first | (go_at_call 54; first | exact Calls.quiet_of_same (CA _) | exact Calls.quiet_of_same (CB _)))
      go_wp2_with fail
      go_ret
      exact ⟨rfl, bel_drewN (((Below.refl _ _).alloc (Nat.le_refl _) _).alloc (by simp) _) _⟩
  · rw [txt_bad k]
    have k' := Lib.hid (decide_eq_false k)
    clear k
    go_enter Tryd.func31, Tryd.ntmps31
    go_wp2_with (refine (ImplOk_any _ _ _ _).mono ?_; rw [k'.out]; rintro e w' ⟨rfl, rfl⟩)
    go_ret
    exact ⟨rfl, ((Below.refl _ _).alloc (Nat.le_refl _) _).alloc (by simp) _⟩

set_option maxRecDepth 100000 in
theorem SpecText_any (s a b : Int) (w : World) :
    Calls Tryd.prog 28 #[.agg #[.int .i64 s, .int .i64 a, .int .i64 b]] w fun e w' => e = .returned (.string (cellTxt s a b)) ∧ Below w.heap.size w w' := by
  by_cases k : OkC s a b
  · have k' := Lib.hid (decide_eq_true k)
    have hs : s = 0 ∨ s = 1 ∨ s = 2 := by unfold OkC at k; omega
    have ha : 0 ≤ a ∧ a ≤ 5 := by unfold OkC at k; omega
    have hb : 0 ≤ b ∧ b ≤ 5 := by unfold OkC at k; omega
    have CF : ∀ (n : Int) (w : World), 0 ≤ n ∧ n ≤ 9 → Calls Tryd.prog 50 #[.int .i64 n] w fun e w' => e = .returned (.string (dgt n)) ∧ Below w.heap.size w w' := fun n w h => SpecDigit_any n w h.1 h.2
    have ha' : 0 ≤ a ∧ a ≤ 9 := by omega
    have hb' : 0 ≤ b ∧ b ≤ 9 := by omega
    clear ha hb
    rcases hs with rfl | rfl | rfl
    · rw [txt_whole k]
      clear k
      go_enter Tryd.func28, Tryd.ntmps28
      go_wp2_with (first | (refine (SpecOk_any _ _ _ _).mono ?_; rw [k'.out]; rintro e w' ⟨rfl, rfl⟩) | fail)
      refine (CF _ _ ha').mono ?_
      rintro e w1 ⟨rfl, hb1⟩
      go_wp2_with fail
      go_ret
      exact ⟨rfl, bel_call' (((Below.refl _ _).alloc (Nat.le_refl _) _).alloc (by simp) _) (Nat.le_refl _) hb1⟩
    · rw [txt_up k]
      clear k
      have za := dgt_size a
      have zb := dgt_size b
      generalize dgt = f at CF za zb ⊢
      have KP : ∀ u v, Below u.heap.size u v → (u.cell? ⟨w.heap.size, 1, none⟩ = some (.int .i64 a) ∧ u.cell? ⟨w.heap.size, 2, none⟩ = some (.int .i64 b)) → (v.cell? ⟨w.heap.size, 1, none⟩ = some (.int .i64 a) ∧ v.cell? ⟨w.heap.size, 2, none⟩ = some (.int .i64 b)) := fun u v hb h => ⟨keep_cell hb h.1, keep_cell hb h.2⟩
      go_enter Tryd.func28, Tryd.ntmps28
      go_wp2_with (refine (SpecOk_any _ _ _ _).mono ?_; rw [k'.out]; rintro e w' ⟨rfl, rfl⟩)
      go_region_held3 (fun w' => w'.cell? ⟨w.heap.size, 1, none⟩ = some (.int .i64 a) ∧ w'.cell? ⟨w.heap.size, 2, none⟩ = some (.int .i64 b)) (first | (refine KP _ _ (by assumption) ?_; assumption) | go_keep)
        (first | (go_at_call 50; refine (CF _ _ (by assumption)).mono ?_; rintro e w1 ⟨rfl, hb1⟩))
      all_goals
        go_wp2_with fail
        go_ret
        exact ⟨rfl, bel_call' (bel_call' (bel_drewN (((Below.refl _ _).alloc (Nat.le_refl _) _).alloc (by simp) _) 1) (Nat.le_refl _) (by assumption)) (Nat.le_refl _) hb1⟩
    · rw [txt_down k]
      clear k
      have za := dgt_size a
      have zb := dgt_size b
      generalize dgt = f at CF za zb ⊢
      have KP : ∀ u v, Below u.heap.size u v → (u.cell? ⟨w.heap.size, 1, none⟩ = some (.int .i64 a) ∧ u.cell? ⟨w.heap.size, 2, none⟩ = some (.int .i64 b)) → (v.cell? ⟨w.heap.size, 1, none⟩ = some (.int .i64 a) ∧ v.cell? ⟨w.heap.size, 2, none⟩ = some (.int .i64 b)) := fun u v hb h => ⟨keep_cell hb h.1, keep_cell hb h.2⟩
      go_enter Tryd.func28, Tryd.ntmps28
      go_wp2_with (refine (SpecOk_any _ _ _ _).mono ?_; rw [k'.out]; rintro e w' ⟨rfl, rfl⟩)
      go_region_held3 (fun w' => w'.cell? ⟨w.heap.size, 1, none⟩ = some (.int .i64 a) ∧ w'.cell? ⟨w.heap.size, 2, none⟩ = some (.int .i64 b)) (first | (refine KP _ _ (by assumption) ?_; assumption) | go_keep)
        (first | (go_at_call 50; refine (CF _ _ (by assumption)).mono ?_; rintro e w1 ⟨rfl, hb1⟩))
      all_goals
        go_wp2_with fail
        go_ret
        exact ⟨rfl, bel_call' (bel_call' (bel_drewN (((Below.refl _ _).alloc (Nat.le_refl _) _).alloc (by simp) _) 1) (Nat.le_refl _) (by assumption)) (Nat.le_refl _) hb1⟩
  · rw [txt_bad k]
    have k' := Lib.hid (decide_eq_false k)
    clear k
    go_enter Tryd.func28, Tryd.ntmps28
    go_wp2_with (refine (SpecOk_any _ _ _ _).mono ?_; rw [k'.out]; rintro e w' ⟨rfl, rfl⟩)
    go_ret
    exact ⟨rfl, ((Below.refl _ _).alloc (Nat.le_refl _) _).alloc (by simp) _⟩

end Go.Proofs.YtahbadokkljoaaaDoor
