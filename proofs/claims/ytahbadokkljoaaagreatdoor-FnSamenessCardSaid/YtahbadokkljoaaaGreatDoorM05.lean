/- Cells: the program's CellOk. One digit: the program's FormatInt. Plain functions on lists of bytes: the hexadecimal text. The model's digit. -/
import Derived.Test.YtahbadokkljoaaaGreatDoorM00
import Derived.Test.YtahbadokkljoaaaGreatDoorRows
import Derived.WalkKit
import Derived.ProofKit
import Derived.OpenShut
import Derived.WalkSmall
import Derived.Outline
import Derived.IntWalk
import Derived.Lib.Hide
import Derived.ShutString
import Derived.OneCell
import Derived.Laws.IdiomStrings
import Derived.OwnWalk
import Derived.Shelf.Strings.Search1
import Derived.BigQuiet
import Derived.Deep.QuietTactic
import Derived.StillTailTactics
import Derived.Deep.RegionHeld3
import Derived.Deep.AppendLies

namespace Go.Proofs.YtahbadokkljoaaaGreatDoor
open Go.ChangeShapes Go.WideShapes Go.ChangeAt Go.RowKit

theorem Color_yes (x : Int) (w : World) (h0 : 0 ≤ x) (h1 : x ≤ 5) :
    Calls Tryz.prog 68 #[.int .i64 x] w fun e w' => e = .returned (.bool true) ∧ w' = w := by
  have h2 : x < 6 := by omega
  go_enter Tryz.func68, Tryz.ntmps68
  go_wp2
  go_ret
  exact ⟨rfl, rfl⟩

theorem Color_no (x : Int) (w : World) (h : x < 0 ∨ 5 < x) :
    Calls Tryz.prog 68 #[.int .i64 x] w fun e w' => e = .returned (.bool false) ∧ w' = w := by
  by_cases h0 : 0 ≤ x
  · have h1 : ¬ x < 6 := by omega
    clear h
    go_enter Tryz.func68, Tryz.ntmps68
    go_wp2
    go_ret
    exact ⟨ret_bool (by simp), rfl⟩
  · clear h
    go_enter Tryz.func68, Tryz.ntmps68
    go_wp2
    go_ret
    exact ⟨rfl, rfl⟩

theorem ImplOk_any (s a b : Int) (w : World) :
    Calls Tryz.prog 53 #[.agg #[.int .i64 s, .int .i64 a, .int .i64 b]] w fun e w' => e = .returned (.bool (decide (OkC s a b))) ∧ w' = w.alloc (.cells #[.int .i64 s, .int .i64 a, .int .i64 b] 50) := by
  by_cases s0 : s < 0
  · go_enter Tryz.func53, Tryz.ntmps53
    go_wp2_with fail
    go_ret
    exact ⟨ret_bool (decide_eq_false (by unfold OkC; omega)).symm, rfl⟩
  by_cases s1 : 2 < s
  · go_enter Tryz.func53, Tryz.ntmps53
    go_wp2_with fail
    go_ret
    exact ⟨ret_bool (decide_eq_false (by unfold OkC; omega)).symm, rfl⟩
  by_cases h2 : 0 ≤ a ∧ a ≤ 5
  · obtain ⟨a0, a1⟩ := h2
    by_cases h3 : 0 ≤ b ∧ b ≤ 5
    · obtain ⟨b0, b1⟩ := h3
      go_enter Tryz.func53, Tryz.ntmps53
      go_wp2_with (refine (Color_yes _ _ (by assumption) (by assumption)).mono ?_; rintro e w' ⟨rfl, rfl⟩)
      go_ret
      exact ⟨ret_bool (okB (by omega) (by omega) a0 a1 b0 b1).symm, rfl⟩
    · have h3' : b < 0 ∨ 5 < b := by omega
      clear h3
      go_enter Tryz.func53, Tryz.ntmps53
      go_wp2_with (first | (refine (Color_yes _ _ (by assumption) (by assumption)).mono ?_; rintro e w' ⟨rfl, rfl⟩) | (refine (Color_no _ _ (by assumption)).mono ?_; rintro e w' ⟨rfl, rfl⟩))
      go_ret
      exact ⟨ret_bool (decide_eq_false (by unfold OkC; omega)).symm, rfl⟩
  · have h2' : a < 0 ∨ 5 < a := by omega
    clear h2
    go_enter Tryz.func53, Tryz.ntmps53
    go_wp2_with (first | (refine (Color_yes _ _ (by assumption) (by assumption)).mono ?_; rintro e w' ⟨rfl, rfl⟩) | (refine (Color_no _ _ (by assumption)).mono ?_; rintro e w' ⟨rfl, rfl⟩))
    go_ret
    exact ⟨ret_bool (decide_eq_false (by unfold OkC; omega)).symm, rfl⟩

end Go.Proofs.YtahbadokkljoaaaGreatDoor

namespace Go.Proofs.YtahbadokkljoaaaGreatDoor
open Go.ChangeShapes Go.WideShapes Go.ChangeAt Go.RowKit

/-- The text of one digit. -/
def dgt (n : Int) : ByteArray := ⟨#[UInt8.ofNat (48 + n.toNat)]⟩
theorem dgt_size (n : Int) : (dgt n).size = 1 := rfl

theorem digits10 {n : Int} (h0 : 0 ≤ n) (h1 : n ≤ 9) : n = 0 ∨ n = 1 ∨ n = 2 ∨ n = 3 ∨ n = 4 ∨ n = 5 ∨ n = 6 ∨ n = 7 ∨ n = 8 ∨ n = 9 := by omega

set_option maxHeartbeats 1000000 in
theorem Small_any (n : Int) (w : World) (h0 : 0 ≤ n) (h1 : n ≤ 9) :
    Calls Tryz.prog 95 #[.int .i64 n] w fun e w' => e = .returned (.string (dgt n)) ∧ w' = w := by
  rcases digits10 h0 h1 with rfl | rfl | rfl | rfl | rfl | rfl | rfl | rfl | rfl | rfl
  all_goals
    clear h0 h1
    go_enter Tryz.func95, Tryz.ntmps95
    go_wp2
    go_ret
    exact ⟨rfl, rfl⟩

theorem Fmt10_any (n : Int) (w : World) (h0 : 0 ≤ n) (h1 : n ≤ 9) :
    Calls Tryz.prog 94 #[.int .i64 n, .int .i64 10] w fun e w' => e = .returned (.string (dgt n)) ∧ w' = w := by
  have h2 : n < 100 := by omega
  have HS := fun w => Small_any n w h0 h1
  clear h1
  go_enter Tryz.func94, Tryz.ntmps94
  go_wp2_with fail
  refine (HS _).mono ?_
  rintro e w' ⟨rfl, rfl⟩
  go_wp2_with fail
  go_ret
  exact ⟨rfl, rfl⟩

theorem ItoaIn_any (n : Int) (w : World) (h0 : 0 ≤ n) (h1 : n ≤ 9) :
    Calls Tryz.prog 90 #[.int .i64 n] w fun e w' => e = .returned (.string (dgt n)) ∧ w' = w := by
  have h2 : n < 100 := by omega
  have HS := fun w => Fmt10_any n w h0 h1
  clear h1
  go_enter Tryz.func90, Tryz.ntmps90
  go_wp2_with fail
  refine (HS _).mono ?_
  rintro e w' ⟨rfl, rfl⟩
  go_wp2_with fail
  go_ret
  exact ⟨rfl, rfl⟩

theorem Itoa_any (n : Int) (w : World) (h0 : 0 ≤ n) (h1 : n ≤ 9) :
    Calls Tryz.prog 79 #[.int .i64 n] w fun e w' => e = .returned (.string (dgt n)) ∧ w' = w := by
  have h2 : n < 100 := by omega
  have HS := fun w => ItoaIn_any n w h0 h1
  clear h1
  go_enter Tryz.func79, Tryz.ntmps79
  go_wp2_with fail
  refine (HS _).mono ?_
  rintro e w' ⟨rfl, rfl⟩
  go_wp2_with fail
  go_ret
  exact ⟨rfl, rfl⟩

theorem ImplDigit_any (n : Int) (w : World) (h0 : 0 ≤ n) (h1 : n ≤ 9) :
    Calls Tryz.prog 56 #[.int .i64 n] w fun e w' => e = .returned (.string (dgt n)) ∧ w' = w := by
  have h2 : n < 100 := by omega
  have HS := fun w => Itoa_any n w h0 h1
  clear h1
  go_enter Tryz.func56, Tryz.ntmps56
  go_wp2_with fail
  refine (HS _).mono ?_
  rintro e w' ⟨rfl, rfl⟩
  go_wp2_with fail
  go_ret
  exact ⟨rfl, rfl⟩

end Go.Proofs.YtahbadokkljoaaaGreatDoor

namespace Go.Proofs.YtahbadokkljoaaaGreatDoor
open Go.RowKit

/-- The cells of bytes. -/
def bs (l : List UInt8) : List Value := l.map fun b => Value.int .u8 (b.toNat : Int)
theorem bs_append (a b : List UInt8) : bs (a ++ b) = bs a ++ bs b := by simp [bs]
theorem bs_length (a : List UInt8) : (bs a).length = a.length := by simp [bs]
theorem bs_one (l : List UInt8) : ∀ u ∈ bs l, u.oneCell' = true := by
  intro u hu
  simp [bs] at hu
  obtain ⟨b, _, rfl⟩ := hu
  rfl

/-- 'string(out)' of a row that the call owns. -/
theorem string_own {P : Program} {w : World} {base e src dst : Nat} {v : Value} {l : List UInt8} (hown : w.ownsRow base e 1 v l.length (bs l)) (hs : P.underlying src = some (.slice e)) (he : P.underlying e = some (.int .u8)) (hd : P.underlying dst = some .string) :
    (convert src dst v).run P w = .ok (.string ⟨l.toArray⟩) w := by
  obtain ⟨_, h⟩ := hown
  rcases h with ⟨rfl, h0⟩ | ⟨g, cap, cur, rfl, hb, hg, hle, hcap, hsz, ht⟩
  · have : l = [] := List.length_eq_zero_iff.1 h0
    subst this
    rw [run_convert_bytes_string w src dst e _ 0 0 hs he hd]
    rfl
  · refine run_convert_bytes_back w src dst e _ cap l hs he hd fun j hj => ?_
    have h1 : (bs l)[j]? = some (Value.int .u8 (l[j].toNat : Int)) := by simp [bs, hj]
    rw [← ht] at h1
    rw [List.getElem?_take_of_lt (by omega)] at h1
    have e1 : (⟨g, 0, none⟩ : Addr).add j = ⟨g, j, none⟩ := by cases j <;> simp [Addr.add]
    rw [e1]
    simp [World.cell?, hg]
    simpa using h1

/-- A hexadecimal digit's byte. -/
def hexDig (k : Nat) : UInt8 := if k < 10 then UInt8.ofNat (48 + k) else UInt8.ofNat (87 + k)
def encB (b : UInt8) : List UInt8 := [hexDig (b.toNat / 16), hexDig (b.toNat % 16)]
def enc (l : List UInt8) : List UInt8 := l.flatMap encB
theorem enc_length (l : List UInt8) : (enc l).length = 2 * l.length := by
  induction l with
  | nil => rfl
  | cons b l ih => simp [enc, encB] at *; omega
theorem take_snoc (s : ByteArray) (k : Nat) (h : k < s.size) : s.data.toList.take (k + 1) = s.data.toList.take k ++ [s[k]] := by
  rw [List.take_succ_eq_append_getElem (by simpa using h)]; rfl
theorem enc_snoc (s : ByteArray) (k : Nat) (h : k < s.size) : enc (s.data.toList.take (k + 1)) = enc (s.data.toList.take k) ++ encB s[k] := by
  rw [take_snoc s k h]; simp [enc]

/-- What a hexadecimal digit stands for; -1 where it is none. -/
def hv (c : UInt8) : Int := if 48 ≤ c.toNat ∧ c.toNat ≤ 57 then (c.toNat : Int) - 48 else if 97 ≤ c.toNat ∧ c.toNat ≤ 102 then (c.toNat : Int) - 87 else -1
theorem hv_bd (c : UInt8) : -1 ≤ hv c ∧ hv c ≤ 15 := by
  unfold hv
  split
  · omega
  · split <;> omega
def pairB (a b : UInt8) : UInt8 := UInt8.ofNat (16 * hv a + hv b).toNat
/-- The bytes of the first k pairs. -/
def decP (l : List UInt8) (k : Nat) : List UInt8 := (List.range k).map fun j => pairB (l.getD (2 * j) 0) (l.getD (2 * j + 1) 0)
def decOk (l : List UInt8) (k : Nat) : Prop := ∀ j, j < k → 0 ≤ hv (l.getD (2 * j) 0) ∧ 0 ≤ hv (l.getD (2 * j + 1) 0)
theorem decP_length (l : List UInt8) (k : Nat) : (decP l k).length = k := by simp [decP]
theorem getD_byte (s : ByteArray) (k : Nat) (h : k < s.size) : s.data.toList.getD k 0 = s[k] := by
  have h1 : s.data.toList[k]? = some s[k] := by rw [List.getElem?_eq_getElem (by simpa using h)]; rfl
  simp [List.getD, h1]
theorem decP_snoc (s : ByteArray) (m : Nat) (h2 : m % 2 = 0) (h : m + 1 < s.size) : decP s.data.toList ((m + 2) / 2) = decP s.data.toList (m / 2) ++ [pairB s[m] s[m + 1]] := by
  have e : (m + 2) / 2 = m / 2 + 1 := by omega
  have e1 : 2 * (m / 2) = m := by omega
  rw [e]
  simp only [decP, List.range_succ, List.map_append, List.map_cons, List.map_nil, e1]
  rw [getD_byte s m (by omega), getD_byte s (m + 1) h]
theorem decOk_succ (s : ByteArray) (m : Nat) (h2 : m % 2 = 0) (h : m + 1 < s.size) (ho : decOk s.data.toList (m / 2)) (a : 0 ≤ hv s[m]) (b : 0 ≤ hv s[m + 1]) : decOk s.data.toList ((m + 2) / 2) := by
  intro j hj
  by_cases e : j < m / 2
  · exact ho j e
  · obtain rfl : j = m / 2 := by omega
    have e1 : 2 * (m / 2) = m := by omega
    rw [e1, getD_byte s m (by omega), getD_byte s (m + 1) h]
    exact ⟨a, b⟩
theorem decOk_bad (s : ByteArray) (m : Nat) (h2 : m % 2 = 0) (h : m + 1 < s.size) (hs : s.size % 2 = 0) (a : hv s[m] < 0 ∨ hv s[m + 1] < 0) : ¬ decOk s.data.toList (s.size / 2) := by
  intro ho
  have h3 := ho (m / 2) (by omega)
  have e1 : 2 * (m / 2) = m := by omega
  rw [e1, getD_byte s m (by omega), getD_byte s (m + 1) h] at h3
  omega
theorem dec_step {w1 : World} {B e m : Nat} {v : Value} {s : ByteArray} (h2 : m % 2 = 0) (hlt : m + 1 < s.size) (h : w1.ownsRow B e 1 v ((decP s.data.toList (m / 2)).length + 1) (bs (decP s.data.toList (m / 2)) ++ [.int .u8 (pairB s[m] s[m + 1]).toNat])) :
    w1.ownsRow B e 1 v (decP s.data.toList ((m + 2) / 2)).length (bs (decP s.data.toList ((m + 2) / 2))) := by
  rw [decP_snoc s m h2 hlt, bs_append, List.length_append]; exact h
theorem pairB_nat (a b : UInt8) (ha : 0 ≤ hv a) (hb : 0 ≤ hv b) : ((pairB a b).toNat : Int) = 16 * hv a + hv b := by
  have h1 := hv_bd a
  have h2 := hv_bd b
  unfold pairB
  simp
  omega
theorem hv_index : ∀ c : UInt8, Lib.indexByte [48, 49, 50, 51, 52, 53, 54, 55, 56, 57, 97, 98, 99, 100, 101, 102] c = hv c := by
  have h : ∀ n : Fin 256, Lib.indexByte [48, 49, 50, 51, 52, 53, 54, 55, 56, 57, 97, 98, 99, 100, 101, 102] (UInt8.ofNat n.val) = hv (UInt8.ofNat n.val) := by decide +kernel
  intro c
  have h1 := h ⟨c.toNat, c.toNat_lt⟩
  simpa using h1
end Go.Proofs.YtahbadokkljoaaaGreatDoor

namespace Go.Proofs.YtahbadokkljoaaaGreatDoor
open Go.ChangeShapes Go.WideShapes Go.ChangeAt Go.RowKit

theorem hexDig_lo (k : Nat) (h : k < 10) : ((hexDig k).toNat : Int) = 48 + k := by
  unfold hexDig; rw [if_pos h]; simp; omega
theorem hexDig_hi (k : Nat) (h : ¬ k < 10) (h2 : k < 16) : ((hexDig k).toNat : Int) = 87 + k := by
  unfold hexDig; rw [if_neg h]; simp; omega

end Go.Proofs.YtahbadokkljoaaaGreatDoor
