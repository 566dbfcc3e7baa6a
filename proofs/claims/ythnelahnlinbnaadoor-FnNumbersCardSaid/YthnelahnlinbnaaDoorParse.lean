/- The walks of ParseUint, the model's and the program's. -/
import Derived.Test.YthnelahnlinbnaaDoorFmtLaw
import Derived.Test.YthnelahnlinbnaaDoorParseF
import Derived.Test.YthnelahnlinbnaaDoorErrs
namespace Go.Proofs.YthnelahnlinbnaaDoor
open Go.ChangeShapes Go.WideShapes Go.ChangeAt Go.RowKit

/-- What ParseUint answers. -/
def NumPost (s : ByteArray) (w : World) (e : Ending) (w' : World) : Prop :=
  ((∃ n : Nat, isNum s.data.toList n ∧ e = .returned (.tuple #[.int .i64 (n : Int), .bool true])) ∨ (noNum s.data.toList ∧ e = .returned (.tuple #[.int .i64 0, .bool false]))) ∧ Below w.heap.size w w'

theorem bytes_toList (s : ByteArray) : s.toList = s.data.toList := ByteArray.toList_eq s
theorem val_take (s : ByteArray) (k : Nat) (h : k < s.size) : val (s.data.toList.take (k + 1)) = 10 * val (s.data.toList.take k) + (s[k].toNat - 48) := by
  rw [take_snoc s k h, val_snoc]
theorem val_lt (s : ByteArray) : ∀ k, k ≤ 10 → (∀ c ∈ s.data.toList.take k, isDig c) → k ≤ s.size → val (s.data.toList.take k) < 10 ^ k
  | 0, _, _, _ => by simp [val, valF]
  | k + 1, hk, hd, hs => by
    have hlt : k < s.size := by omega
    have h1 := val_lt s k (by omega) (fun c hc => hd c (by rw [take_snoc s k hlt]; exact List.mem_append_left _ hc)) (by omega)
    have h2 : isDig s[k] := hd _ (by rw [take_snoc s k hlt]; simp)
    unfold isDig at h2
    rw [val_take s k hlt, Nat.pow_succ]
    omega
theorem dig_take (s : ByteArray) (k : Nat) (h : k < s.size) (hd : ∀ c ∈ s.data.toList.take k, isDig c) (a : 48 ≤ s[k].toNat) (b : s[k].toNat ≤ 57) : ∀ c ∈ s.data.toList.take (k + 1), isDig c := by
  intro c hc
  rw [take_snoc s k h] at hc
  rcases List.mem_append.1 hc with h1 | h1
  · exact hd c h1
  · simp only [List.mem_singleton] at h1
    subst h1
    exact ⟨a, b⟩

set_option maxHeartbeats 400000 in
theorem SpecParse_short (s : ByteArray) (w : World) (hs : s.size ≤ 10) :
    Calls Tryd.prog 20 #[.string s] w (NumPost s w) := by
  have q0 : decide ((10 : Int) < (s.size : Int)) = false := by simp; omega
  go_enter Tryd.func20, Tryd.ntmps20
  go_wp2_with fail
  clear q0
  go_loop [4, 5] (fun n i => ∃ (k m : Nat), k ≤ s.size ∧ i = .int .i64 k ∧ n = .int .i64 m ∧ m ≤ 9999999999 ∧ Hid (m = val (s.data.toList.take k)) ∧ Hid (∀ c ∈ s.data.toList.take k, isDig c)) (fun _ i => s.size - (intOf i).toNat)
  case atStart => exact ⟨0, 0, Nat.zero_le _, rfl, rfl, by omega, rfl, fun c hc => by simp at hc⟩
  case round =>
    obtain ⟨k, m, hk, rfl, rfl, hm, hv, hd⟩ := hrel
    by_cases hlt : k < s.size
    · have n0 : s[k].toNat < 256 := s[k].toNat_lt
      by_cases c1 : s[k].toNat < 48
      · go_wp2_with fail
        go_ret2
        exact ⟨.inr ⟨noNum_bad (c := s[k]) (by rw [← getD_byte s k hlt]; simp [List.getD, hlt]) (by unfold isDig; omega), rfl⟩, Below.refl _ _⟩
      · by_cases c2 : 57 < s[k].toNat
        · go_wp2_with fail
          go_ret2
          exact ⟨.inr ⟨noNum_bad (c := s[k]) (by rw [← getD_byte s k hlt]; simp [List.getD, hlt]) (by unfold isDig; omega), rfl⟩, Below.refl _ _⟩
        · have hd1 := dig_take s k hlt hd.out (by omega) (by omega)
          have hv1 := val_take s k hlt
          have hb := val_lt s (k + 1) (by omega) hd1 (by omega)
          have hb2 : (10 : Nat) ^ (k + 1) ≤ 10 ^ 10 := Nat.pow_le_pow_right (by decide) (by omega)
          have e10 : (10 : Nat) ^ 10 = 10000000000 := by decide
          have HV : Hid (val (s.data.toList.take (k + 1)) = 10 * m + (s[k].toNat - 48) ∧ val (s.data.toList.take (k + 1)) ≤ 9999999999) := by
            have := hv.out
            exact ⟨by omega, by omega⟩
          have HD := Lib.hid hd1
          clear hd1 hv1 hb hb2 e10
          go_wp2_with fail
          go_round
          case rel => exact ⟨k + 1, val (s.data.toList.take (k + 1)), by omega, by go_num, by rw [HV.out.1]; go_num, HV.out.2, rfl, HD.out⟩
          case measure => simp [intOf]; omega
    · obtain rfl : k = s.size := by omega
      have hall : s.data.toList.take s.size = s.data.toList := List.take_of_length_le (by simp)
      by_cases c1 : 1000000000 < m
      · go_wp2_with fail
        go_ret2
        exact ⟨.inr ⟨noNum_val (by rw [← hall, ← hv.out]; exact c1), rfl⟩, Below.refl _ _⟩
      · have HA := Lib.hid hall
        clear hall
        go_wp2_with fail
        refine (SpecFormat_any m _ (by omega) (by omega)).mono ?_
        rintro e w1 ⟨rfl, hb1⟩
        by_cases he : Lib.itoa (m : Int) = s.data.toList
        · have HE := Lib.hid he
          have hq : (Lib.itoa (m : Int) == s.toList) = true := by rw [bytes_toList, he]; simp
          clear he
          go_wp2_with fail
          go_ret2
          exact ⟨.inl ⟨m, ⟨by omega, HE.out⟩, rfl⟩, hb1⟩
        · have HE := Lib.hid he
          have hq : (Lib.itoa (m : Int) == s.toList) = false := by rw [bytes_toList]; simpa using he
          clear he
          go_wp2_with fail
          go_ret2
          exact ⟨.inr ⟨noNum_text (by rw [← HA.out, ← hv.out, HA.out]; exact HE.out), rfl⟩, hb1⟩

theorem SpecParse_any (s : ByteArray) (w : World) (hm : s.size ≤ 9223372036854775807) :
    Calls Tryd.prog 20 #[.string s] w (NumPost s w) := by
  by_cases hs : s.size ≤ 10
  · exact SpecParse_short s w hs
  · go_enter Tryd.func20, Tryd.ntmps20
    go_wp2_with fail
    go_ret2
    exact ⟨.inr ⟨noNum_long (by simp; omega), rfl⟩, Below.refl _ _⟩

/-- What the program's Atoi leaves. -/
def AtoiPost (s : ByteArray) (w : World) (e : Ending) (w' : World) : Prop :=
  ((∃ v : Int, Lib.atoiAll s.data.toList = .ok v ∧ e = .returned (.tuple #[.int .i64 v, .nilIface])) ∨ (∃ (v : Int) (t : TypeId) (x : Value), noNum s.data.toList ∧ e = .returned (.tuple #[.int .i64 v, .iface t x]))) ∧ Below w.heap.size w w'

theorem Atoi_any (s : ByteArray) (w : World) (hm : s.size ≤ 1048576) (h1 : ErrVar "strconv.ErrSyntax" w) (h2 : ErrVar "strconv.ErrRange" w) :
    Calls Tryd.prog 29 #[.string s] w (AtoiPost s w) := by
  rcases ha : Lib.atoiAll s.data.toList with v | _ | _
  · refine (Tryd.strconv_Atoi_ok s (by omega) v ha w).mono ?_
    rintro e w' ⟨rfl, hw⟩
    refine ⟨.inl ⟨v, ha, rfl⟩, ?_⟩
    rcases hw with rfl | ⟨t, rfl⟩
    · exact Below.refl _ _
    · exact Lib.bytesWorld_below w _ t
  · obtain ⟨tp, p, hv⟩ := h1
    refine (Any.strconv_Atoi_syntax_var Tryd.laysC172 s (by omega) ha tp p w hv).mono ?_
    rintro e w' ⟨N, rfl, _, _, hb⟩
    exact ⟨.inr ⟨_, _, _, noNum_atoi (fun n _ => by rw [ha]; simp), rfl⟩, hb⟩
  · obtain ⟨tp, p, hv⟩ := h2
    refine (Any.strconv_Atoi_range_var Tryd.laysC172 s (by omega) ha tp p w hv).mono ?_
    rintro e w' ⟨N, rfl, _, _, hb⟩
    exact ⟨.inr ⟨_, _, _, noNum_atoi (fun n _ => by rw [ha]; simp), rfl⟩, hb⟩

theorem noNum_other {l : List UInt8} {v : Int} (h : Lib.atoiAll l = .ok v) (hv : v < 0 ∨ 1000000000 < v) : noNum l :=
  noNum_atoi (fun n hn e => by rw [h] at e; injection e with e; omega)
theorem noNum_itoa {l : List UInt8} {v : Int} (h : Lib.atoiAll l = .ok v) (hv : Lib.itoa v ≠ l) : noNum l := by
  intro n hn he
  have h1 := atoi_itoa n hn
  rw [he, h] at h1
  injection h1 with h1
  subst h1
  exact hv he

set_option maxHeartbeats 400000 in
theorem ImplParse_any (s : ByteArray) (w : World) (hm : s.size ≤ 1048576) (h1 : ErrVar "strconv.ErrSyntax" w) (h2 : ErrVar "strconv.ErrRange" w) (ht : Lib.TabIs Tryd.prog w "internal/strconv.uint64pow10" .u64 Lib.pow10Tab) :
    Calls Tryd.prog 14 #[.string s] w (NumPost s w) := by
  have H1 := Lib.hid h1
  have H2 := Lib.hid h2
  have HT := Lib.hid ht
  clear h1 h2 ht
  go_enter Tryd.func14, Tryd.ntmps14
  go_wp2_with fail
  refine (Atoi_any s _ hm H1.out H2.out).mono ?_
  rintro e w1 ⟨⟨v, ha, rfl⟩ | ⟨v, t, x, hn, rfl⟩, hb1⟩
  · have HA := Lib.hid ha
    have HT1 := Lib.hid (tab_kept HT.out hb1)
    clear ha
    by_cases c1 : v < 0
    · go_wp2_with fail
      go_ret2
      exact ⟨.inr ⟨noNum_other HA.out (.inl c1), rfl⟩, hb1⟩
    · by_cases c2 : 1000000000 < v
      · go_wp2_with fail
        go_ret2
        exact ⟨.inr ⟨noNum_other HA.out (.inr c2), rfl⟩, hb1⟩
      · go_wp2_with fail
        refine (ImplFormat_any v _ (by omega) (by omega) HT1.out).mono ?_
        rintro e w2 ⟨rfl, hb2⟩
        by_cases he : Lib.itoa v = s.data.toList
        · have HE := Lib.hid he
          have hq : (Lib.itoa v == s.toList) = true := by rw [bytes_toList, he]; simp
          clear he
          go_wp2_with fail
          go_ret2
          obtain ⟨n, rfl⟩ : ∃ n : Nat, v = n := ⟨v.toNat, by omega⟩
          exact ⟨.inl ⟨n, ⟨by omega, HE.out⟩, rfl⟩, hb1.trans (hb2.mono hb1.size)⟩
        · have HE := Lib.hid he
          have hq : (Lib.itoa v == s.toList) = false := by rw [bytes_toList]; simpa using he
          clear he
          go_wp2_with fail
          go_ret2
          exact ⟨.inr ⟨noNum_itoa HA.out HE.out, rfl⟩, hb1.trans (hb2.mono hb1.size)⟩
  · have HN := Lib.hid hn
    clear hn
    go_wp2_with fail
    go_outline
    go_ret2
    exact ⟨.inr ⟨HN.out, rfl⟩, hb1⟩
end Go.Proofs.YthnelahnlinbnaaDoor
