/- The walk of SplitFields, the model. -/
import Derived.Test.YthnelahnlinbnaaDoorRows
import Derived.Test.YthnelahnlinbnaaDoorBase
import Derived.Test.YthnelahnlinbnaaDoorFieldF
import Derived.WalkKit
import Derived.ProofKit
import Derived.OpenShut
import Derived.BigQuiet
import Derived.Deep.QuietTactic
import Derived.Deep.AppendLies
import Derived.Outline
import Derived.IntWalk
import Derived.Lib.Hide
namespace Go.Proofs.YthnelahnlinbnaaDoor
open Go.ChangeShapes Go.WideShapes Go.ChangeAt Go.RowKit

theorem infoStr : (Tryd.prog.info? 9).map (fun i => (i.zero, i.size, i.bytes)) = some (some (.string ⟨#[]⟩), 1, 16) := by kernel_rfl
theorem ownsNewS (w : World) (e : Nat) : (w.alloc (.cells #[] e)).ownsRow w.heap.size e 1 (.slice (some ⟨w.heap.size, 0, none⟩) 0 0) 0 [] :=
  ⟨by simp, .inr ⟨_, 0, #[], rfl, Nat.le_refl _, heap_alloc_new _ _, by simp, by simp, rfl, rfl⟩⟩
theorem ownsNewAt {w' : World} {B : Nat} (hb : B ≤ w'.heap.size) (e : Nat) : (w'.alloc (.cells #[] e)).ownsRow B e 1 (.slice (some ⟨w'.heap.size, 0, none⟩) 0 0) 0 [] :=
  ⟨by simp, .inr ⟨_, 0, #[], rfl, hb, heap_alloc_new _ _, by simp, by simp, rfl, rfl⟩⟩
theorem ownsGe {w : World} {base e size n : Nat} {v : Value} {xs : List Value} (h : w.ownsRow base e size v n xs) : ∀ k, v.ownBlock = some k → base ≤ k := by
  intro k hk
  obtain ⟨_, h | ⟨g, cap, cur, hv, hg, _⟩⟩ := h
  · rw [h.1] at hk; cases hk
  · rw [hv] at hk; simp [Value.ownBlock] at hk; omega

set_option maxHeartbeats 800000 in
theorem SpecSplit_short (s : ByteArray) (w : World) (hs : s.size ≤ 600) :
    Calls Tryd.prog 17 #[.string s] w (SplitPost 9 s w) := by
  obtain ⟨i0, hi, hz0, hz1, hz2⟩ := info_parts infoStr
  have q0 : decide ((600 : Int) < (s.size : Int)) = false := by simp; omega
  go_enter Tryd.func17, Tryd.ntmps17
  go_wp2_with fail
  clear q0
  go_loopw [4, 5, 6] (fun v bb i wr => ∃ (k b : Nat) (fs : List ByteArray), i = .int .i64 k ∧ bb = .int .i64 b ∧ k ≤ s.size + 1 ∧ b ≤ k ∧ fs.length ≤ k ∧ wr.ownsRow w.heap.size 9 1 v fs.length (strs fs) ∧ Below w.heap.size w wr ∧ Hid (SInv s k fs b)) (fun _ _ i _ => s.size + 1 - (intOf i).toNat)
  case atStart => exact ⟨0, 0, [], rfl, rfl, Nat.zero_le _, Nat.le_refl _, Nat.le_refl _, ownsNewS _ _, (Below.refl _ _).alloc (Nat.le_refl _) _, SInv_start s⟩
  case round =>
    obtain ⟨k, b, fs, rfl, rfl, hk, hbk, hfl, hown, hbel, hinv⟩ := hrel
    by_cases h1 : k < s.size
    · have n0 : s[k].toNat < 256 := s[k].toNat_lt
      by_cases c1 : s[k].toNat < 32
      · go_wp2_with fail
        go_ret2
        exact ⟨_, [], .inr ⟨okTo_bad h1 (.inl c1), rfl, rfl⟩, ownsNewAt hbel.size _, hbel.alloc hbel.size _⟩
      · by_cases c2 : 126 < s[k].toNat
        · go_wp2_with fail
          go_ret2
          exact ⟨_, [], .inr ⟨okTo_bad h1 (.inr c2), rfl, rfl⟩, ownsNewAt hbel.size _, hbel.alloc hbel.size _⟩
        · by_cases c3 : s[k].toNat = 32
          · by_cases c4 : b < k
            · go_wp2_with (at_builtin; refine wpList_append_lies _ rfl _ _ 31 rfl w.heap.size 9 i0 (.string ⟨#[]⟩) 1 16 Tryd.underlying31 hi hz0 hz1 hz2 rfl (by decide) _ _ _ rfl (hown.alloc _) ⟨wr.heap.size, 0, none⟩ 1 1 (strs [s.extract b k]) rfl rfl (World.news_of_block (cs := #[.string (s.extract b k)]) (t := 9) (fr := (0, 0)) (heap_alloc_new wr _)) (strs_one _) (by omega) (by unfold maxLen; omega) (by omega) (by have := hbel.size; simp; omega) (wr.heap.size + 1) (by simp) ?_; intro gg cap w2 hown2 hgrow hat hlt2)
              have hB : Below w.heap.size w w2 := (hbel.alloc hbel.size _).grown hgrow (by have := hbel.size; simp; omega) (ownsGe hown)
              have HI := Lib.hid (SInv_cut h1 hinv.out c3)
              rw [addF_yes c4] at HI
              have R : w2.ownsRow w.heap.size 9 1 (.slice (some ⟨gg, 0, none⟩) (fs.length + 1) cap) (fs ++ [s.extract b k]).length (strs (fs ++ [s.extract b k])) := by rw [strs_append, List.length_append]; exact hown2
              clear hown2 hgrow hat hlt2 hown hbel hinv
              go_wp2_with fail
              go_roundw
              case rel => exact ⟨k + 1, k + 1, _, by go_num, by go_num, by omega, Nat.le_refl _, by simp; omega, R, hB, HI.out⟩
              case measure => simp [intOf] <;> omega
            · have HI := Lib.hid (SInv_cut h1 hinv.out c3)
              rw [addF_no c4] at HI
              clear hinv
              go_wp2_with fail
              go_roundw
              case rel => exact ⟨k + 1, k + 1, _, by go_num, by go_num, by omega, Nat.le_refl _, by omega, hown, hbel, HI.out⟩
              case measure => simp [intOf] <;> omega
          · have HI := Lib.hid (SInv_skip h1 hinv.out c3 (by omega) (by omega))
            clear hinv
            go_wp2_with fail
            go_roundw
            case rel => exact ⟨k + 1, b, fs, by go_num, rfl, by omega, by omega, by omega, hown, hbel, HI.out⟩
            case measure => simp [intOf] <;> omega
    · by_cases h2 : k = s.size
      · subst h2
        by_cases c4 : b < s.size
        · go_wp2_with (at_builtin; refine wpList_append_lies _ rfl _ _ 31 rfl w.heap.size 9 i0 (.string ⟨#[]⟩) 1 16 Tryd.underlying31 hi hz0 hz1 hz2 rfl (by decide) _ _ _ rfl (hown.alloc _) ⟨wr.heap.size, 0, none⟩ 1 1 (strs [s.extract b s.size]) rfl rfl (World.news_of_block (cs := #[.string (s.extract b s.size)]) (t := 9) (fr := (0, 0)) (heap_alloc_new wr _)) (strs_one _) (by omega) (by unfold maxLen; omega) (by omega) (by have := hbel.size; simp; omega) (wr.heap.size + 1) (by simp) ?_; intro gg cap w2 hown2 hgrow hat hlt2)
          have hB : Below w.heap.size w w2 := (hbel.alloc hbel.size _).grown hgrow (by have := hbel.size; simp; omega) (ownsGe hown)
          have HI := Lib.hid (SInv_end hinv.out)
          rw [addF_yes c4] at HI
          have R : w2.ownsRow w.heap.size 9 1 (.slice (some ⟨gg, 0, none⟩) (fs.length + 1) cap) (fs ++ [s.extract b s.size]).length (strs (fs ++ [s.extract b s.size])) := by rw [strs_append, List.length_append]; exact hown2
          clear hown2 hgrow hat hlt2 hown hbel hinv
          go_wp2_with fail
          go_roundw
          case rel => exact ⟨s.size + 1, s.size + 1, _, by go_num, by go_num, by omega, Nat.le_refl _, by simp; omega, R, hB, HI.out⟩
          case measure => simp [intOf] <;> omega
        · have HI := Lib.hid (SInv_end hinv.out)
          rw [addF_no c4] at HI
          clear hinv
          go_wp2_with fail
          go_roundw
          case rel => exact ⟨s.size + 1, s.size + 1, _, by go_num, by go_num, by omega, Nat.le_refl _, by omega, hown, hbel, HI.out⟩
          case measure => simp [intOf] <;> omega
      · have hgt : s.size < k := by omega
        have HA : Hid (fs = allF s ∧ okTo s s.size) := by
          have hk1 : k = s.size + 1 := by omega
          have := hinv.out
          rw [hk1] at this
          exact SInv_all this
        clear hinv h1 h2
        obtain ⟨va, vc, rfl⟩ := owns_slice hown
        by_cases c5 : 24 < fs.length
        · go_wp2_with fail
          go_ret2
          exact ⟨_, [], .inr ⟨fun ho => by have := ho.2.2; rw [← HA.out.1] at this; omega, rfl, rfl⟩, ownsNewAt hbel.size _, hbel.alloc hbel.size _⟩
        · go_wp2_with fail
          go_ret2
          exact ⟨_, fs, .inl ⟨⟨hs, HA.out.2, by rw [← HA.out.1]; omega⟩, HA.out.1, rfl⟩, hown, hbel⟩

theorem SpecSplit_any (s : ByteArray) (w : World) (hm : s.size ≤ 9223372036854775807) :
    Calls Tryd.prog 17 #[.string s] w (SplitPost 9 s w) := by
  by_cases hs : s.size ≤ 600
  · exact SpecSplit_short s w hs
  · go_enter Tryd.func17, Tryd.ntmps17
    go_wp2_with fail
    go_ret2
    exact ⟨_, [], .inr ⟨fun ho => hs ho.1, rfl, rfl⟩, ownsNewS _ _, (Below.refl _ _).alloc (Nat.le_refl _) _⟩
end Go.Proofs.YthnelahnlinbnaaDoor
