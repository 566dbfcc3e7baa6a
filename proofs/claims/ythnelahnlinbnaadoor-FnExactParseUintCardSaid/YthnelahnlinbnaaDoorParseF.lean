/- Plain facts on parsing decimal digits. -/
import Derived.Test.YthnelahnlinbnaaDoorNumF
import Derived.Lib.AtoiAll
namespace Go.Proofs.YthnelahnlinbnaaDoor
open Go.RowKit

/-- The value of digits behind a number. -/
def valF (acc : Nat) (l : List UInt8) : Nat := l.foldl (fun a c => 10 * a + (c.toNat - 48)) acc
def val (l : List UInt8) : Nat := valF 0 l
def isDig (c : UInt8) : Prop := 48 ≤ c.toNat ∧ c.toNat ≤ 57
theorem val_snoc (l : List UInt8) (c : UInt8) : val (l ++ [c]) = 10 * val l + (c.toNat - 48) := by simp [val, valF]
theorem ofNat_dig (k : Nat) (h : k < 10) : (UInt8.ofNat (48 + k)).toNat = 48 + k := by simp; omega
theorem dd_eq (n : Nat) : Lib.decDigits n = if n < 10 then [UInt8.ofNat (48 + n)] else Lib.decDigits (n / 10) ++ [UInt8.ofNat (48 + n % 10)] := by
  rw [Lib.decDigits]
  by_cases h : n < 10
  · rw [dif_pos h, if_pos h]
  · rw [dif_neg h, if_neg h]
theorem val_dd (n : Nat) : val (Lib.decDigits n) = n := by
  induction n using Nat.strongRecOn with
  | _ n ih =>
    rw [dd_eq]
    by_cases h : n < 10
    · rw [if_pos h]
      show 10 * 0 + ((UInt8.ofNat (48 + n)).toNat - 48) = n
      rw [ofNat_dig n h]; omega
    · rw [if_neg h, val_snoc, ih (n / 10) (by omega), ofNat_dig _ (by omega)]; omega
theorem dig_dd (n : Nat) : ∀ c ∈ Lib.decDigits n, isDig c := by
  induction n using Nat.strongRecOn with
  | _ n ih =>
    intro c hc
    rw [dd_eq] at hc
    by_cases h : n < 10
    · rw [if_pos h] at hc
      simp only [List.mem_singleton] at hc
      subst hc
      unfold isDig; rw [ofNat_dig n h]; omega
    · rw [if_neg h] at hc
      rcases List.mem_append.1 hc with h1 | h1
      · exact ih (n / 10) (by omega) c h1
      · simp only [List.mem_singleton] at h1
        subst h1
        unfold isDig; rw [ofNat_dig _ (by omega)]; omega
theorem dd_ne (n : Nat) : Lib.decDigits n ≠ [] := by
  rw [dd_eq]
  by_cases h : n < 10
  · rw [if_pos h]; simp
  · rw [if_neg h]; simp
theorem dd_length : ∀ (k n : Nat), n < 10 ^ (k + 1) → (Lib.decDigits n).length ≤ k + 1
  | 0, n, h => by rw [dd_eq, if_pos (by simpa using h)]; simp
  | k + 1, n, h => by
    rw [dd_eq]
    by_cases h1 : n < 10
    · rw [if_pos h1]; simp
    · rw [if_neg h1]
      have h2 := dd_length k (n / 10) (by rw [Nat.pow_succ] at h; omega)
      simp
      exact h2
theorem itoa_nat (n : Nat) : Lib.itoa (n : Int) = Lib.decDigits n := by unfold Lib.itoa; rw [if_neg (by omega)]; rfl
theorem valF_ge (l : List UInt8) : ∀ acc, acc ≤ valF acc l := by
  induction l with
  | nil => intro acc; exact Nat.le_refl _
  | cons c r ih => intro acc; have := ih (10 * acc + (c.toNat - 48)); show acc ≤ valF (10 * acc + (c.toNat - 48)) r; omega
theorem parse_dig (l : List UInt8) : ∀ acc, (∀ c ∈ l, isDig c) → valF acc l ≤ 10000000000 → Lib.parseUint10 acc l = .ok (valF acc l) := by
  induction l with
  | nil => intro acc _ _; rfl
  | cons c r ih =>
    intro acc hd hv
    have h1 : 48 ≤ c.toNat ∧ c.toNat ≤ 57 := hd c (List.mem_cons_self ..)
    have h2 : valF acc (c :: r) = valF (10 * acc + (c.toNat - 48)) r := rfl
    have h3 := valF_ge r (10 * acc + (c.toNat - 48))
    rw [h2] at hv ⊢
    have e : acc * 10 + (c.toNat - 48) = 10 * acc + (c.toNat - 48) := by omega
    rw [Lib.parseUint10, if_pos h1, if_neg (by omega), if_neg (by omega), e]
    exact ih _ (fun x hx => hd x (List.mem_cons_of_mem _ hx)) hv
theorem atoi_itoa (n : Nat) (h : n ≤ 1000000000) : Lib.atoiAll (Lib.itoa (n : Int)) = .ok (n : Int) := by
  rw [itoa_nat]
  have hp := parse_dig (Lib.decDigits n) 0 (dig_dd n) (by have := val_dd n; unfold val at this; omega)
  have hv : valF 0 (Lib.decDigits n) = n := val_dd n
  rw [hv] at hp
  have hd := dig_dd n
  have hne := dd_ne n
  generalize Lib.decDigits n = l at *
  match l, hne with
  | c :: r, _ =>
    have h1 : 48 ≤ c.toNat ∧ c.toNat ≤ 57 := hd c (List.mem_cons_self ..)
    have hm : Lib.parseMag (c :: r) = .ok n := by unfold Lib.parseMag; rw [if_neg (by simp)]; exact hp
    simp only [Lib.atoiAll]
    rw [if_neg (by omega), hm]
    simp only
    rw [if_neg (by omega), if_neg (by omega), if_neg (by omega)]
theorem itoa_inj {m n : Nat} (h : Lib.itoa (m : Int) = Lib.itoa (n : Int)) : m = n := by
  rw [itoa_nat, itoa_nat] at h
  rw [← val_dd m, h, val_dd n]
/-- The text is that of a number within the limit. -/
def isNum (l : List UInt8) (n : Nat) : Prop := n ≤ 1000000000 ∧ Lib.itoa (n : Int) = l
def noNum (l : List UInt8) : Prop := ∀ n : Nat, n ≤ 1000000000 → Lib.itoa (n : Int) ≠ l
theorem noNum_long {l : List UInt8} (h : 10 < l.length) : noNum l := by
  intro n hn he
  rw [itoa_nat] at he
  have := dd_length 9 n (by have e : (10 : Nat) ^ (9 + 1) = 10000000000 := by decide
                            omega)
  rw [he] at this
  omega
theorem noNum_bad {l : List UInt8} {c : UInt8} (hc : c ∈ l) (hd : ¬ isDig c) : noNum l := by
  intro n _ he
  rw [itoa_nat] at he
  exact hd (dig_dd n c (by rw [he]; exact hc))
theorem noNum_val {l : List UInt8} (h : 1000000000 < val l) : noNum l := by
  intro n hn he
  rw [itoa_nat] at he
  rw [← he, val_dd] at h
  omega
theorem noNum_text {l : List UInt8} (h : Lib.itoa (val l : Int) ≠ l) : noNum l := by
  intro n _ he
  rw [itoa_nat] at he
  have h1 : val l = n := by rw [← he, val_dd]
  rw [h1, itoa_nat] at h
  exact h he
theorem noNum_atoi {l : List UInt8} (h : ∀ n : Nat, n ≤ 1000000000 → Lib.atoiAll l ≠ .ok (n : Int)) : noNum l := by
  intro n hn he
  exact h n hn (by rw [← he]; exact atoi_itoa n hn)
end Go.Proofs.YthnelahnlinbnaaDoor
