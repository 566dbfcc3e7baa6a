/- A string can be decoded from its hexadecimal text: the walk of FnHexText. -/
import Derived.Test.YthnelahnlinbnaaDoorDecI
import Derived.Test.YthnelahnlinbnaaDoorHexBack
import Derived.Test.YthnelahnlinbnaaDoorText
import Derived.Test.YthnelahnlinbnaaDoorFmtLawI
namespace Go.Proofs.YthnelahnlinbnaaDoor
open Go.ChangeShapes Go.WideShapes Go.ChangeAt Go.RowKit

theorem DrawEncode_any (a : Option Addr) (len cap : Nat) (w : World) (hs : Src w w.heap.size a len) (hlen : len ≤ 1048576) :
    Calls Tryd.prog 9 #[.slice a len cap] w (DrawnT (fun s => s.size ≤ 20001) w) := by
  go_enter Tryd.func9, Tryd.ntmps9
  go_wp2_with fail
  refine (New_any a len cap w hs hlen).mono ?_
  rintro e w1 ⟨rfl, hc1, hb1⟩
  go_wp2_with fail
  refine (Once_any _ a len cap _ w1 hc1 (by omega) (by omega)).mono ?_
  rintro e w2 ⟨x, rfl, hc2, hb2⟩
  cases x
  · go_wp2_with fail
    refine (Below_any _ a len cap _ w2 hc2 (by omega) (by omega)).mono ?_
    rintro e w3 ⟨x, ⟨x0, x1⟩, rfl, hc3, hb3⟩
    obtain ⟨n, rfl⟩ : ∃ n : Nat, x = n := ⟨x.toNat, by omega⟩
    go_wp2_with fail
    refine (Text_any _ a len cap n w3 hc3 (by omega)).mono ?_
    rintro e w4 ⟨s, hq, rfl, hc4, hb4⟩
    have HQ := Lib.hid hq
    clear hq
    go_wp2_with fail
    go_ret
    exact ⟨s, by have := HQ.out; omega, rfl, hb1.trans (((hb2.trans hb3).trans hb4).below (Nat.le_refl _) hb1.size)⟩
  · go_wp2_with fail
    refine (Below_any _ a len cap _ w2 hc2 (by omega) (by omega)).mono ?_
    rintro e w3 ⟨x, ⟨x0, x1⟩, rfl, hc3, hb3⟩
    obtain ⟨n, rfl⟩ : ∃ n : Nat, x = n := ⟨x.toNat, by omega⟩
    go_wp2_with fail
    refine (Long_at (20000 + n) _ 200 w3 (by omega) (by omega)).mono ?_
    rintro e w4 ⟨rfl, hb4⟩
    go_wp2_with fail
    go_ret
    exact ⟨_, by show (List.replicate (20000 + n) (200 : UInt8)).toArray.size ≤ 20001; simp; omega, rfl, (hb1.trans ((hb2.trans hb3).below (Nat.le_refl _) hb1.size)).trans (hb4.mono (Nat.le_trans hb1.size (Nat.le_trans hb2.size hb3.size)))⟩

theorem HexText_walk (a : Option Addr) (len cap : Nat) (w : World) (hs : Src w w.heap.size a len) (ht : Lib.TabIs Tryd.prog w "internal/strconv.uint64pow10" .u64 Lib.pow10Tab) :
    Calls Tryd.prog 3 #[.slice a len cap] w fun e w' => e = .returned (.bool true) ∧ Below w.heap.size w w' := by
  have HS := Lib.hid hs
  have HT := Lib.hid ht
  clear ht
  obtain ⟨hm, _⟩ := hs
  have hl : len ≤ 9223372036854775807 := by unfold maxLen at hm; omega
  clear hm
  by_cases hb : len ≤ 1048576
  · go_enter Tryd.func3, Tryd.ntmps3
    go_wp2_with fail
    refine (Big_no a len cap w hb).mono ?_
    rintro e w' ⟨rfl, rfl⟩
    go_wp2_with fail
    refine (DrawEncode_any a len cap w HS.out hb).mono ?_
    rintro e w1 ⟨s, hq, rfl, hb1⟩
    by_cases h2 : s.size ≤ 20000
    · go_wp2_with fail
      refine (ImplEncode_yes s w1 h2).mono ?_
      rintro e w2 ⟨rfl, hb2⟩
      have hsz : (⟨(enc s.data.toList).toArray⟩ : ByteArray).size = 2 * s.size := by
        show (enc s.data.toList).toArray.size = _
        simp [enc_length]
      have HZ := Lib.hid hsz
      clear hsz
      go_wp2_with fail
      refine (ImplDecode_even _ w2 (by have := HZ.out; omega) (by have := HZ.out; omega)).mono ?_
      rintro e w3 ⟨hd, hb3⟩
      have hdec : decP (enc s.data.toList) s.size = s.data.toList := by
        have := dec_enc s.data.toList
        simpa using this
      have hdok : decOk (enc s.data.toList) s.size := by
        have := decOk_enc s.data.toList
        simpa using this
      have hd2 : e = .returned (.tuple #[.string s, .bool true]) := by
        rw [HZ.out] at hd
        have e1 : 2 * s.size / 2 = s.size := by omega
        rw [e1] at hd
        rcases hd with ⟨_, hd⟩ | ⟨hd, _⟩
        · rw [hd]
          have e2 : decP (({ data := (enc s.data.toList).toArray } : ByteArray).data.toList) s.size = s.data.toList := hdec
          rw [e2]
        · exact absurd hdok hd
      have q : (((enc s.data.toList).length : Int) == 2 * (s.size : Int)) = true := by rw [enc_length]; simp
      clear hd hdec hdok
      subst hd2
      go_wp2_with fail
      go_ret
      refine ⟨?_, (hb1.trans (hb2.mono hb1.size)).trans (hb3.mono (Nat.le_trans hb1.size hb2.size))⟩
      rfl
    · go_wp2_with fail
      refine (ImplEncode_no s w1 (by omega) (by omega)).mono ?_
      rintro e w2 ⟨rfl, rfl⟩
      go_wp2_with fail
      refine (ImplFormat_any 10 _ (by omega) (by omega) (tab_kept HT.out hb1)).mono ?_
      rintro e w3 ⟨rfl, hb3⟩
      have q : (Lib.itoa 10 == [49, 48]) = true := by
        have e1 : Lib.itoa 10 = Lib.decDigits 10 := rfl
        rw [e1, Lib.decDigits, dif_neg (by omega), Lib.decDigits, dif_pos (by omega)]
        rfl
      go_wp2_with fail
      go_ret
      refine ⟨?_, hb1.trans (hb3.mono hb1.size)⟩
      rfl
  · go_enter Tryd.func3, Tryd.ntmps3
    go_wp2_with fail
    refine (Big_yes a len cap w hl (by omega)).mono ?_
    rintro e w' ⟨rfl, rfl⟩
    go_wp2_with fail
    go_ret
    exact ⟨rfl, Below.refl _ _⟩
end Go.Proofs.YthnelahnlinbnaaDoor
