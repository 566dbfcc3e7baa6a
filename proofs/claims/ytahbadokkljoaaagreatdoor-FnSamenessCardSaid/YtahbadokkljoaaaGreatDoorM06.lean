/- Plain facts on decimal digits. The walks of FormatInt, the model's and the program's. One digit: the model's FormatInt. Cells: CellText of both. -/
import Derived.Test.YtahbadokkljoaaaGreatDoorM05
import Derived.Lib.ItoaNum
import Derived.Test.YtahbadokkljoaaaGreatDoorM00
import Derived.Deep.RegionHeld3

namespace Go.Proofs.YtahbadokkljoaaaGreatDoor
open Go.RowKit

/-- The digits of a number, none of 0. -/
def dg (m : Nat) : List UInt8 := if m = 0 then [] else Lib.decDigits m
theorem hexDig_dec (k : Nat) (h : k < 10) : hexDig k = UInt8.ofNat (48 + k) := by unfold hexDig; rw [if_pos h]
theorem dg_step (m : Nat) (h : 0 < m) : dg m = dg (m / 10) ++ [hexDig (m % 10)] := by
  unfold dg
  rw [if_neg (by omega), hexDig_dec _ (by omega), Lib.decDigits]
  by_cases h1 : m < 10
  · rw [dif_pos h1, if_pos (by omega), Nat.mod_eq_of_lt h1]; rfl
  · rw [dif_neg h1, if_neg (by omega)]
theorem itoa_pos (m : Nat) (h : 0 < m) : Lib.itoa (m : Int) = dg m := by
  unfold Lib.itoa dg
  rw [if_neg (by omega), if_neg (by omega)]; rfl
theorem itoa_neg (m : Nat) (h : 0 < m) : Lib.itoa (-(m : Int)) = 45 :: dg m := by
  unfold Lib.itoa dg
  rw [if_pos (by omega), if_neg (by omega)]
  congr 2
  omega
theorem dg_length : ∀ (k n : Nat), n < 10 ^ k → (dg n).length ≤ k
  | 0, n, h => by simp at h; subst h; simp [dg]
  | k + 1, n, h => by
    rcases Nat.eq_zero_or_pos n with rfl | h0
    · simp [dg]
    · rw [dg_step n h0]
      have h1 := dg_length k (n / 10) (by rw [Nat.pow_succ] at h; omega)
      simp
      exact h1
theorem dg_19 (n : Nat) (h : n ≤ 9223372036854775808) : (dg n).length ≤ 19 := dg_length 19 n (by have e : (10 : Nat) ^ 19 = 10000000000000000000 := by decide
                                                                                                 omega)
theorem dg_room {m n : Nat} {t : ByteArray} (hn : n ≤ 9223372036854775808) (h : dg m ++ t.data.toList = dg n) : t.size ≤ 19 := by
  have h1 := dg_19 n hn
  rw [← h, List.length_append] at h1
  simp at h1
  omega
/-- 'string([]byte{c})'. -/
theorem string_one {P : Program} (w : World) (c : UInt8) {src dst e : Nat} (hs : P.underlying src = some (.slice e)) (he : P.underlying e = some (.int .u8)) (hd : P.underlying dst = some .string) :
    (convert src dst (.slice (some ⟨w.heap.size, 0, none⟩) 1 1)).run P (w.alloc (.cells #[.int .u8 (c.toNat : Int)] e)) = .ok (.string ⟨#[c]⟩) (w.alloc (.cells #[.int .u8 (c.toNat : Int)] e)) :=
  string_own (base := w.heap.size) (l := [c]) (v := .slice (some ⟨w.heap.size, 0, none⟩) 1 1)
    ⟨rfl, .inr ⟨_, 1, #[.int .u8 (c.toNat : Int)], rfl, Nat.le_refl _, heap_alloc_new _ _, by simp, by simp [maxLen], rfl, rfl⟩⟩ hs he hd
end Go.Proofs.YtahbadokkljoaaaGreatDoor

namespace Go.Proofs.YtahbadokkljoaaaGreatDoor
open Go.ChangeShapes Go.WideShapes Go.ChangeAt Go.RowKit

theorem dg_after {m n : Nat} {t : ByteArray} (hz : 0 < m) (h : dg m ++ t.data.toList = dg n) : dg (m / 10) ++ (({ data := #[hexDig (m % 10)] } : ByteArray) ++ t).data.toList = dg n := by
  rw [← h, dg_step m hz]
  simp

end Go.Proofs.YtahbadokkljoaaaGreatDoor

namespace Go.Proofs.YtahbadokkljoaaaGreatDoor
open Go.ChangeShapes Go.WideShapes Go.ChangeAt Go.RowKit

theorem itoa_dgt {n : Int} (h0 : 0 ≤ n) (h1 : n ≤ 9) : (⟨(Lib.itoa n).toArray⟩ : ByteArray) = dgt n := by
  unfold Lib.itoa dgt
  rw [if_neg (by omega), Lib.decDigits_one (by omega)]

end Go.Proofs.YtahbadokkljoaaaGreatDoor

namespace Go.Proofs.YtahbadokkljoaaaGreatDoor
open Go.ChangeShapes Go.WideShapes Go.ChangeAt Go.RowKit

/-- The text of a cell. -/
def cellTxt (s a b : Int) : ByteArray := if OkC s a b then (if s = 1 then dgt a ++ ⟨#[47]⟩ ++ dgt b else if s = 2 then dgt a ++ ⟨#[92]⟩ ++ dgt b else dgt a) else ⟨#[]⟩
theorem txt_bad {s a b : Int} (k : ¬ OkC s a b) : cellTxt s a b = ⟨#[]⟩ := if_neg k
theorem txt_up {a b : Int} (k : OkC 1 a b) : cellTxt 1 a b = dgt a ++ ⟨#[47]⟩ ++ dgt b := by unfold cellTxt; rw [if_pos k, if_pos rfl]
theorem txt_down {a b : Int} (k : OkC 2 a b) : cellTxt 2 a b = dgt a ++ ⟨#[92]⟩ ++ dgt b := by unfold cellTxt; rw [if_pos k, if_neg (by omega), if_pos rfl]
theorem txt_whole {a b : Int} (k : OkC 0 a b) : cellTxt 0 a b = dgt a := by unfold cellTxt; rw [if_pos k, if_neg (by omega), if_neg (by omega)]

theorem keep_cell {u v : World} {p : Addr} {x : Value} (hb : Below u.heap.size u v) (h : u.cell? p = some x) : v.cell? p = some x :=
  (World.cell?_of_block (hb.block p.block (lt_of_cell h))).trans h
theorem bel_new' {b : Nat} {w u : World} (h : Below b w u) (hb : b ≤ w.heap.size) (o : Obj) : Below b w (u.alloc o) := h.alloc (Nat.le_trans hb h.size) _
theorem bel_call' {b : Nat} {w u v : World} (h : Below b w u) (hb : b ≤ w.heap.size) (k : Below u.heap.size u v) : Below b w v := h.trans (k.mono (Nat.le_trans hb h.size))

theorem bel_drewN {b : Nat} {w u : World} (h : Below b w u) (n : Nat) : Below b w (u.drewN n) := ⟨h.os, h.tape, h.output, h.size, h.block⟩

set_option maxRecDepth 100000 in
theorem ImplText_any (s a b : Int) (w : World) :
    Calls Tryz.prog 37 #[.agg #[.int .i64 s, .int .i64 a, .int .i64 b]] w fun e w' => e = .returned (.string (cellTxt s a b)) ∧ Below w.heap.size w w' := by
  by_cases k : OkC s a b
  · have k' := Lib.hid (decide_eq_true k)
    have hs : s = 0 ∨ s = 1 ∨ s = 2 := by unfold OkC at k; omega
    have ha : 0 ≤ a ∧ a ≤ 5 := by unfold OkC at k; omega
    have hb : 0 ≤ b ∧ b ≤ 5 := by unfold OkC at k; omega
    have CA := fun w => ImplDigit_any a w ha.1 (by omega)
    have CB := fun w => ImplDigit_any b w hb.1 (by omega)
    clear ha hb
    rcases hs with rfl | rfl | rfl
    · rw [txt_whole k]
      clear k
      go_enter Tryz.func37, Tryz.ntmps37
      go_wp2_with (first | (refine (ImplOk_any _ _ _ _).mono ?_; rw [k'.out]; rintro e w' ⟨rfl, rfl⟩) | (refine (CA _).mono ?_; rintro e w' ⟨rfl, rfl⟩))
      go_ret
      exact ⟨rfl, ((Below.refl _ _).alloc (Nat.le_refl _) _).alloc (by simp) _⟩
    · rw [txt_up k]
      clear k
      have za := dgt_size a
      have zb := dgt_size b
      generalize dgt a = ta at CA za ⊢
      generalize dgt b = tb at CB zb ⊢
      go_enter Tryz.func37, Tryz.ntmps37
      go_wp2_with (refine (ImplOk_any _ _ _ _).mono ?_; rw [k'.out]; rintro e w' ⟨rfl, rfl⟩)
      go_quiet (first | (go_at_call 56; first | exact Calls.quiet_of_same (CA _) | exact Calls.quiet_of_same (CB _)))
      go_wp2_with fail
      go_ret
      exact ⟨rfl, bel_drewN (((Below.refl _ _).alloc (Nat.le_refl _) _).alloc (by simp) _) _⟩
    · rw [txt_down k]
      clear k
      have za := dgt_size a
      have zb := dgt_size b
      generalize dgt a = ta at CA za ⊢
      generalize dgt b = tb at CB zb ⊢
      go_enter Tryz.func37, Tryz.ntmps37
      go_wp2_with (refine (ImplOk_any _ _ _ _).mono ?_; rw [k'.out]; rintro e w' ⟨rfl, rfl⟩)
      go_quiet (first | (go_at_call 56; first | exact Calls.quiet_of_same (CA _) | exact Calls.quiet_of_same (CB _)))
      go_wp2_with fail
      go_ret
      exact ⟨rfl, bel_drewN (((Below.refl _ _).alloc (Nat.le_refl _) _).alloc (by simp) _) _⟩
  · rw [txt_bad k]
    have k' := Lib.hid (decide_eq_false k)
    clear k
    go_enter Tryz.func37, Tryz.ntmps37
    go_wp2_with (refine (ImplOk_any _ _ _ _).mono ?_; rw [k'.out]; rintro e w' ⟨rfl, rfl⟩)
    go_ret
    exact ⟨rfl, ((Below.refl _ _).alloc (Nat.le_refl _) _).alloc (by simp) _⟩

end Go.Proofs.YtahbadokkljoaaaGreatDoor
