/- The walk of SplitFields, the program. -/
import Derived.Test.YthnelahnlinbnaaDoorSplitS
import Derived.Test.YthnelahnlinbnaaDoorShelf
import Derived.WalkMore
namespace Go.Proofs.YthnelahnlinbnaaDoor
open Go.ChangeShapes Go.WideShapes Go.ChangeAt Go.RowKit

/-- A row of strings that the call owns is handed back. -/
def OwnsPost (B : Nat) (fs : List ByteArray) (w : World) (e : Ending) (w' : World) : Prop :=
  ∃ v, e = .returned v ∧ w'.ownsRow B 9 1 v fs.length (strs fs) ∧ Below B w w'

theorem isEmpty_no {t : ByteArray} (h : 0 < t.size) : t.toList.isEmpty = false := by
  rw [ByteArray.toList_eq]
  have h1 : t.data.toList.length = t.size := by simp
  cases e : t.data.toList with
  | nil => rw [e] at h1; simp at h1; omega
  | cons a b => rfl
theorem isEmpty_yes {t : ByteArray} (h : t.size = 0) : t.toList.isEmpty = true := by
  rw [ByteArray.toList_eq]
  have h1 : t.data.toList.length = t.size := by simp
  cases e : t.data.toList with
  | nil => rfl
  | cons a b => rw [e] at h1; simp at h1; omega

theorem Clone_any (s : ByteArray) (w : World) (hlim : s.size ≤ 281474976710656) :
    Calls Tryd.prog 39 #[.string s] w fun e w' => e = .returned (.string s) ∧ Below w.heap.size w w' := by
  go_enter Tryd.func39, Tryd.ntmps39
  go_wp2_with fail
  refine (Tryd.stringslite_Clone s w hlim).mono ?_
  rintro e w1 ⟨rfl, hb1⟩
  go_wp2_with fail
  go_ret
  exact ⟨rfl, hb1⟩

theorem AppField_no (B : Nat) (v : Value) (fs : List ByteArray) (t : ByteArray) (w : World) (hown : w.ownsRow B 9 1 v fs.length (strs fs)) (ht : t.size = 0) :
    Calls Tryd.prog 31 #[v, .string t] w (OwnsPost B fs w) := by
  have q := isEmpty_yes ht
  go_enter Tryd.func31, Tryd.ntmps31
  go_wp2_with fail
  go_ret
  exact ⟨v, rfl, hown, Below.refl _ _⟩

theorem AppField_yes (B : Nat) (v : Value) (fs : List ByteArray) (t : ByteArray) (w : World) (hown : w.ownsRow B 9 1 v fs.length (strs fs)) (hB : B ≤ w.heap.size) (h0 : 0 < t.size) (h1 : t.size ≤ 1048576) (hn : fs.length ≤ 1048576) :
    Calls Tryd.prog 31 #[v, .string t] w (OwnsPost B (fs ++ [t]) w) := by
  obtain ⟨i0, hi, hz0, hz1, hz2⟩ := info_parts infoStr
  have q := isEmpty_no h0
  go_enter Tryd.func31, Tryd.ntmps31
  go_wp2_with fail
  refine Clone_any t w (by omega) |>.mono ?_
  rintro e w1 ⟨rfl, hb1⟩
  have hown1 := owns_below hown hb1
  have hB1 := hb1.size
  go_wp2_with (at_builtin; refine wpList_append_lies _ rfl _ _ 31 rfl B 9 i0 (.string ⟨#[]⟩) 1 16 Tryd.underlying31 hi hz0 hz1 hz2 rfl (by decide) _ _ _ rfl (hown1.alloc _) ⟨w1.heap.size, 0, none⟩ 1 1 (strs [t]) rfl rfl (World.news_of_block (cs := #[.string t]) (t := 9) (fr := (0, 0)) (heap_alloc_new w1 _)) (strs_one _) (by omega) (by unfold maxLen; omega) (by omega) (by simp; omega) (w1.heap.size + 1) (by simp) ?_; intro gg cap w2 hown2 hgrow hat hlt2)
  go_wp2_with fail
  go_ret
  exact ⟨_, rfl, by rw [strs_append, List.length_append]; exact hown2, (hb1.mono hB).trans (((Below.refl _ _).alloc (Nat.le_trans hB hB1) _).grown hgrow (by simp; omega) (ownsGe hown))⟩

theorem AppField_any (B : Nat) (v : Value) (s : ByteArray) (fs : List ByteArray) (b k : Nat) (w : World) (hown : w.ownsRow B 9 1 v fs.length (strs fs)) (hB : B ≤ w.heap.size) (hbk : b ≤ k) (hk : k ≤ s.size) (h1 : s.size ≤ 600) (hn : fs.length ≤ 1048576) :
    Calls Tryd.prog 31 #[v, .string (s.extract b k)] w (OwnsPost B (addF s fs b k) w) := by
  have hz : (s.extract b k).size = k - b := by rw [ByteArray.size_extract]; omega
  by_cases h : b < k
  · rw [addF_yes h]
    exact AppField_yes B v fs _ w hown hB (by omega) (by omega) hn
  · rw [addF_no h]
    exact AppField_no B v fs _ w hown (by omega)
theorem addF_length (s : ByteArray) (fs : List ByteArray) (b k : Nat) : (addF s fs b k).length ≤ fs.length + 1 := by
  unfold addF
  split <;> simp

set_option maxHeartbeats 800000 in
theorem ImplSplit_short (s : ByteArray) (w : World) (hs : s.size ≤ 600) :
    Calls Tryd.prog 16 #[.string s] w (SplitPost 9 s w) := by
  have q0 : decide ((600 : Int) < (s.size : Int)) = false := by simp; omega
  go_enter Tryd.func16, Tryd.ntmps16
  go_wp2_with fail
  go_step3
  go_wp2_with fail
  go_step3
  go_wp2_with fail
  clear q0
  go_loopw [4, 5, 6] (fun v bb i wr => ∃ (k b : Nat) (fs : List ByteArray), i = .int .i64 k ∧ bb = .int .i64 b ∧ k ≤ s.size ∧ b ≤ k ∧ fs.length ≤ k ∧ wr.ownsRow w.heap.size 9 1 v fs.length (strs fs) ∧ Below w.heap.size w wr ∧ Hid (SInv s k fs b)) (fun _ _ i _ => s.size - (intOf i).toNat)
  case atStart => exact ⟨0, 0, [], rfl, rfl, Nat.zero_le _, Nat.le_refl _, Nat.le_refl _, World.ownsRow_nil _ _ _ _, Below.refl _ _, SInv_start s⟩
  case round =>
    obtain ⟨k, b, fs, rfl, rfl, hk, hbk, hfl, hown, hbel, hinv⟩ := hrel
    obtain ⟨va, vc, rfl⟩ := owns_slice hown
    by_cases h1 : k < s.size
    · have n0 : s[k].toNat < 256 := s[k].toNat_lt
      by_cases c1 : s[k].toNat < 32
      · have d1 : decide ((s[k].toNat : Int) < 32) = true := by simp; omega
        go_wp2_with fail
        (try rw [Exit.noGoto_ret])
        go_ret2
        exact ⟨_, [], .inr ⟨okTo_bad h1 (.inl c1), rfl, rfl⟩, World.ownsRow_nil _ _ _ _, hbel⟩
      · by_cases c2 : 126 < s[k].toNat
        · have d1 : decide ((s[k].toNat : Int) < 32) = false := by simp; omega
          have d2 : decide (126 < (s[k].toNat : Int)) = true := by simp; omega
          go_wp2_with fail
          (try rw [Exit.noGoto_ret])
          go_ret2
          exact ⟨_, [], .inr ⟨okTo_bad h1 (.inr c2), rfl, rfl⟩, World.ownsRow_nil _ _ _ _, hbel⟩
        · have d1 : decide ((s[k].toNat : Int) < 32) = false := by simp; omega
          have d2 : decide (126 < (s[k].toNat : Int)) = false := by simp; omega
          by_cases c3 : s[k].toNat = 32
          · have HI := Lib.hid (SInv_cut h1 hinv.out c3)
            have hal := addF_length s fs b k
            have c3' : (s[k].toNat : Int) = 32 := by omega
            have q : ((s[k].toNat : Int) == 32) = true := by rw [c3']; rfl
            clear hinv c3 c3'
            go_wp2_with fail
            refine (AppField_any w.heap.size _ s fs b k _ hown hbel.size hbk (by omega) hs (by omega)).mono ?_
            rintro e w1 ⟨v1, rfl, hown1, hB1⟩
            have hbel1 := hbel.trans hB1
            go_wp2_with fail
            go_roundw
            case rel => exact ⟨k + 1, k + 1, _, by go_num, by go_num, by omega, Nat.le_refl _, by omega, hown1, hbel1, HI.out⟩
            case measure => simp [intOf] <;> omega
          · have HI := Lib.hid (SInv_skip h1 hinv.out c3 (by omega) (by omega))
            have q : ((s[k].toNat : Int) == 32) = false := by simp; omega
            clear hinv
            go_wp2_with fail
            go_roundw
            case rel => exact ⟨k + 1, b, fs, by go_num, rfl, by omega, by omega, by omega, hown, hbel, HI.out⟩
            case measure => simp [intOf] <;> omega
    · obtain rfl : k = s.size := by omega
      have HA := Lib.hid (SInv_all (SInv_end hinv.out))
      have hal := addF_length s fs b s.size
      clear hinv
      go_wp2_with fail
      refine (AppField_any w.heap.size _ s fs b s.size _ hown hbel.size hbk (by omega) hs (by omega)).mono ?_
      rintro e w1 ⟨v1, rfl, hown1, hB1⟩
      have hbel1 := hbel.trans hB1
      obtain ⟨va1, vc1, rfl⟩ := owns_slice hown1
      by_cases c5 : 24 < (addF s fs b s.size).length
      · go_wp2_with fail
        (try rw [Exit.noGoto_ret])
        go_ret2
        exact ⟨_, [], .inr ⟨fun ho => by have := ho.2.2; rw [← HA.out.1] at this; omega, rfl, rfl⟩, World.ownsRow_nil _ _ _ _, hbel1⟩
      · go_wp2_with fail
        (try rw [Exit.noGoto_ret])
        go_ret2
        exact ⟨_, _, .inl ⟨⟨hs, HA.out.2, by rw [← HA.out.1]; omega⟩, HA.out.1, rfl⟩, hown1, hbel1⟩

theorem ImplSplit_any (s : ByteArray) (w : World) (hm : s.size ≤ 9223372036854775807) :
    Calls Tryd.prog 16 #[.string s] w (SplitPost 9 s w) := by
  by_cases hs : s.size ≤ 600
  · exact ImplSplit_short s w hs
  · go_enter Tryd.func16, Tryd.ntmps16
    go_wp2_with fail
    go_step3
    go_wp2_with fail
    (try rw [Exit.noGoto_ret])
    go_ret2
    exact ⟨_, [], .inr ⟨fun ho => hs ho.1, rfl, rfl⟩, World.ownsRow_nil _ _ _ _, Below.refl _ _⟩
end Go.Proofs.YthnelahnlinbnaaDoor
