/- The walks of DecodeHex, the model's and the program's. -/
import Derived.Test.YthnelahnlinbnaaDoorHexI
import Derived.Test.YthnelahnlinbnaaDoorShelf
namespace Go.Proofs.YthnelahnlinbnaaDoor
open Go.ChangeShapes Go.WideShapes Go.ChangeAt Go.RowKit
theorem Index_any (c : UInt8) (w : World) :
    Calls Tryd.prog 27 #[.string { data := #[48, 49, 50, 51, 52, 53, 54, 55, 56, 57, 97, 98, 99, 100, 101, 102] }, .int .u8 (c.toNat)] w fun e w' => e = .returned (.int .i64 (hv c)) ∧ w' = w := by
  refine (Tryd.strings_IndexByte _ _ w).mono ?_
  rintro e w' ⟨rfl, rfl⟩
  refine ⟨?_, rfl⟩
  have e1 : ((c.toNat : Int)).toNat.toUInt8 = c := by simp
  rw [e1, ← hv_index c]

theorem or_join (a b : Int) (a0 : 0 ≤ a) (a1 : a ≤ 15) (b0 : 0 ≤ b) (b1 : b ≤ 15) : bits .or .i64 (a * 16) b = a * 16 + b := by
  have e1 : (2 : Int) ^ 8 = 256 := by decide
  have e2 : (2 : Int) ^ 4 = 16 := by decide
  refine bits_join .i64 8 (by decide) (fun n h0 h1 => ?_) 4 (a * 16) b (by omega) (by rw [e2]; omega) (by rw [e1]; omega) b0 (by rw [e2]; omega) (by rw [e1]; omega)
  rw [e1] at h1
  exact IntWalk.i64_in _ (by omega)

/-- What DecodeHex answers where the length is even and within the limit. -/
def DecPost (s : ByteArray) (w : World) (e : Ending) (w' : World) : Prop :=
  ((decOk s.data.toList (s.size / 2) ∧ e = .returned (.tuple #[.string ⟨(decP s.data.toList (s.size / 2)).toArray⟩, .bool true])) ∨
   (¬ decOk s.data.toList (s.size / 2) ∧ e = .returned (.tuple #[.string ⟨#[]⟩, .bool false]))) ∧ Below w.heap.size w w'

set_option maxHeartbeats 600000 in
theorem ImplDecode_even (s : ByteArray) (w : World) (hs : s.size ≤ 40000) (h2 : s.size % 2 = 0) :
    Calls Tryd.prog 12 #[.string s] w (DecPost s w) := by
  obtain ⟨i0, hi, hz0, hz1, hz2⟩ := info_parts info_u8
  have q0 : decide ((40000 : Int) < (s.size : Int)) = false := by simp; omega
  have q1 : ((s.size : Int) % 2) = 0 := by omega
  go_enter Tryd.func12, Tryd.ntmps12
  go_wp2_with (at_make; refine wpList_make_own _ rfl _ _ 22 rfl w.heap.size 5 i0 (.int .u8 0) 1 Tryd.underlying22 hi hz0 hz1 .i64 .i64 _ (s.size / 2) rfl rfl (by omega) (by rw [hz2]; omega) (by unfold maxLen; omega) (Nat.le_refl _) ?_; intro w0 hown0 hgrow0)
  have hb0 : Below w.heap.size w w0 := (Below.refl _ _).grown hgrow0 (Nat.le_refl _) (by intro k hk; cases hk)
  have HB := Lib.hid hb0
  have HW := Lib.hid hown0
  clear hb0 hown0 hgrow0
  have Q0 := Lib.hid q0
  have Q1 := Lib.hid q1
  have H2 := Lib.hid h2
  clear q0 q1 h2
  go_loopw [4, 5] (fun v i wr => ∃ m : Nat, m ≤ s.size ∧ Hid (m % 2 = 0) ∧ i = .int .i64 m ∧ Hid (decOk s.data.toList (m / 2)) ∧ wr.ownsRow w.heap.size 5 1 v (decP s.data.toList (m / 2)).length (bs (decP s.data.toList (m / 2))) ∧ Below w.heap.size w wr) (fun _ i _ => s.size - (intOf i).toNat)
  case atStart => exact ⟨0, Nat.zero_le _, rfl, rfl, (fun j hj => by omega), HW.out, HB.out⟩
  case round =>
    obtain ⟨m, hm, hev, rfl, hok, hown, hbel⟩ := hrel
    have hel : (decP s.data.toList (m / 2)).length ≤ 20000 := by rw [decP_length]; omega
    by_cases hlt : m < s.size
    · have hlt1 : m + 1 < s.size := by have := H2.out; have := hev.out; omega
      have b1 := hv_bd s[m]
      have b2 := hv_bd s[m + 1]
      have n0 : s[m].toNat < 256 := s[m].toNat_lt
      have n1 : s[m + 1].toNat < 256 := s[m + 1].toNat_lt
      go_wp2_with fail
      refine (Index_any s[m] wr).mono ?_
      rintro e w' ⟨rfl, rfl⟩
      go_wp2_with fail
      refine (Index_any s[m + 1] _).mono ?_
      rintro e w' ⟨rfl, rfl⟩
      by_cases c1 : hv s[m] < 0
      · go_wp2_with fail
        go_ret2
        exact ⟨.inr ⟨decOk_bad s m hev.out hlt1 H2.out (.inl c1), rfl⟩, hbel⟩
      · by_cases c2 : hv s[m + 1] < 0
        · go_wp2_with fail
          go_ret2
          exact ⟨.inr ⟨decOk_bad s m hev.out hlt1 H2.out (.inr c2), rfl⟩, hbel⟩
        · have R0 := decOk_succ s m hev.out hlt1 hok.out (by omega) (by omega)
          have R1 := Lib.hid R0
          have P1 := Lib.hid (pairB_nat s[m] s[m + 1] (by omega) (by omega))
          clear R0
          have E1 := or_join (hv s[m]) (hv s[m + 1]) (by omega) (by omega) (by omega) (by omega)
          have P2 : Hid (((pairB s[m] s[m + 1]).toNat : Int) = hv s[m] * 16 + hv s[m + 1]) := Lib.hid (by have := P1.out; omega)
          go_wp2_with (at_builtin; refine wpList_append_lies _ rfl _ _ 22 rfl w.heap.size 5 i0 (.int .u8 0) 1 1 Tryd.underlying22 hi hz0 hz1 hz2 rfl (by decide) _ _ _ rfl (hown.alloc _) ⟨w'.heap.size, 0, none⟩ 1 1 [.int .u8 (hv s[m] * 16 + hv s[m + 1])] rfl rfl (World.news_of_block (cs := #[.int .u8 (hv s[m] * 16 + hv s[m + 1])]) (t := 5) (fr := (0, 0)) (heap_alloc_new w' _)) (by simp [Value.oneCell']) (by omega) (by unfold maxLen; omega) (by omega) (by have := hbel.size; simp; omega) (w'.heap.size + 1) (by simp) ?_; intro gg cap w1 hown1 hgrow hat hlt2)
          rw [← P2.out] at hown1
          have R := dec_step hev.out hlt1 hown1
          have hb1 : Below w.heap.size w w1 := ((hbel.alloc hbel.size _).grown hgrow (by have := hbel.size; simp; omega) (hown.own_ge))
          clear hown1 hgrow hat hlt2
          go_wp2_with fail
          go_roundw
          case rel => exact ⟨m + 2, by omega, (show (m + 2) % 2 = 0 by have := hev.out; omega), by go_num, R1.out, R, hb1⟩
          case measure => simp [intOf]; omega
    · obtain rfl : m = s.size := by omega
      have hcv := string_own (P := Tryd.prog) (src := 22) (dst := 9) hown Tryd.underlying22 Tryd.underlying5 Tryd.underlying9
      clear hown hel
      go_wp2_with fail
      go_ret2
      exact ⟨.inl ⟨hok.out, rfl⟩, hbel⟩

theorem ImplDecode_no (s : ByteArray) (w : World) (h : 40000 < s.size ∨ s.size % 2 = 1) (hm : s.size ≤ 9223372036854775807) :
    Calls Tryd.prog 12 #[.string s] w fun e w' => e = .returned (.tuple #[.string ⟨#[]⟩, .bool false]) ∧ w = w' := by
  by_cases h1 : s.size % 2 = 1
  · have q1 : ((s.size : Int) % 2) = 1 := by omega
    clear h
    go_enter Tryd.func12, Tryd.ntmps12
    go_wp2_with fail
    go_ret2
    exact ⟨rfl, rfl⟩
  · have q0 : decide ((40000 : Int) < (s.size : Int)) = true := by simp; omega
    have q1 : ((s.size : Int) % 2) = 0 := by omega
    clear h
    go_enter Tryd.func12, Tryd.ntmps12
    go_wp2_with fail
    go_ret2
    exact ⟨rfl, rfl⟩
end Go.Proofs.YthnelahnlinbnaaDoor
