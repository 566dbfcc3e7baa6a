/- The walks of EncodeHex and DecodeHex. -/
import Derived.Test.YthnelahnlinbnaaDoorRows
import Derived.Test.YthnelahnlinbnaaDoorBase
import Derived.Test.YthnelahnlinbnaaDoorHexF
import Derived.Test.YthnelahnlinbnaaDoorFig
import Derived.WalkKit
import Derived.ProofKit
import Derived.OpenShut
import Derived.WalkSmall
import Derived.BigQuiet
import Derived.Deep.QuietTactic
import Derived.StillTailTactics
import Derived.Deep.RegionHeld3
import Derived.Deep.AppendLies
import Derived.Outline
import Derived.IntWalk
import Derived.Lib.Hide
import Derived.ShutString
namespace Go.Proofs.YthnelahnlinbnaaDoor
open Go.ChangeShapes Go.WideShapes Go.ChangeAt Go.RowKit
theorem info_u8 : (Tryd.prog.info? 5).map (fun i => (i.zero, i.size, i.bytes)) = some (some (.int .u8 0), 1, 1) := by kernel_rfl

theorem ownsRow_new (w : World) (e : Nat) : (w.alloc (.cells #[] e)).ownsRow w.heap.size e 1 (.slice (some ⟨w.heap.size, 0, none⟩) 0 0) 0 [] :=
  ⟨by simp, .inr ⟨_, 0, #[], rfl, Nat.le_refl _, heap_alloc_new _ _, by simp, by simp, rfl, rfl⟩⟩

theorem enc_step {w1 : World} {B e k : Nat} {v : Value} {s : ByteArray} (hlt : k < s.size) (h : w1.ownsRow B e 1 v ((enc (s.data.toList.take k)).length + 2) (bs (enc (s.data.toList.take k)) ++ [.int .u8 (hexDig (s[k].toNat / 16)).toNat, .int .u8 (hexDig (s[k].toNat % 16)).toNat])) :
    w1.ownsRow B e 1 v (enc (s.data.toList.take (k + 1))).length (bs (enc (s.data.toList.take (k + 1)))) := by
  rw [enc_snoc s k hlt, bs_append, List.length_append]; exact h

theorem _root_.Go.World.ownsRow.own_ge {w : World} {base e size n : Nat} {v : Value} {xs : List Value} (h : w.ownsRow base e size v n xs) : ∀ k, v.ownBlock = some k → base ≤ k := by
  intro k hk
  obtain ⟨_, h | ⟨g, cap, cur, hv, hg, _⟩⟩ := h
  · rw [h.1] at hk; cases hk
  · rw [hv] at hk; simp [Value.ownBlock] at hk; omega

theorem hex_index (m : Nat) (hm : m < 16) (w : World) :
    (Instr.index 9 (.string { data := #[48, 49, 50, 51, 52, 53, 54, 55, 56, 57, 97, 98, 99, 100, 101, 102] }) (.int .u8 (m : Int))).run Tryd.prog w = .ok (.int .u8 ((hexDig m).toNat : Int)) w := by
  have e : ∀ m : Fin 16, ((#[48, 49, 50, 51, 52, 53, 54, 55, 56, 57, 97, 98, 99, 100, 101, 102] : Array UInt8)[m.val]'(by simp)) = hexDig m.val := by decide
  have e1 := e ⟨m, hm⟩
  go_simp
  rw [dif_pos (by omega)]
  exact congrArg (fun x : UInt8 => Result.ok (Value.int IntKind.u8 (x.toNat : Int)) w) e1

set_option maxHeartbeats 400000 in
theorem ImplEncode_yes (s : ByteArray) (w : World) (hs : s.size ≤ 20000) :
    Calls Tryd.prog 10 #[.string s] w fun e w' => e = .returned (.tuple #[.string ⟨(enc s.data.toList).toArray⟩, .bool true]) ∧ Below w.heap.size w w' := by
  obtain ⟨i0, hi, hz0, hz1, hz2⟩ := info_parts info_u8
  go_enter Tryd.func10, Tryd.ntmps10
  go_wp2_with (at_make; refine wpList_make_own _ rfl _ _ 22 rfl w.heap.size 5 i0 (.int .u8 0) 1 Tryd.underlying22 hi hz0 hz1 .i64 .i64 _ (2 * s.size) rfl rfl (by omega) (by rw [hz2]; omega) (by unfold maxLen; omega) (Nat.le_refl _) ?_; intro w0 hown0 hgrow0)
  have hb0 : Below w.heap.size w w0 := (Below.refl _ _).grown hgrow0 (Nat.le_refl _) (by intro k hk; cases hk)
  have HB := Lib.hid hb0
  have HW := Lib.hid hown0
  clear hb0 hown0 hgrow0
  go_loopw [4, 15] (fun v i wr => ∃ k : Nat, k ≤ s.size ∧ i = .int .i64 k ∧ wr.ownsRow w.heap.size 5 1 v (enc (s.data.toList.take k)).length (bs (enc (s.data.toList.take k))) ∧ Below w.heap.size w wr) (fun _ i _ => s.size - (intOf i).toNat)
  case atStart => exact ⟨0, Nat.zero_le _, rfl, HW.out, HB.out⟩
  case round =>
    obtain ⟨k, hk, rfl, hown, hbel⟩ := hrel
    have hel : (enc (s.data.toList.take k)).length ≤ 40000 := by rw [enc_length]; simp; omega
    by_cases hlt : k < s.size
    · have n0 : s[k].toNat < 256 := s[k].toNat_lt
      go_wp2_with fail
      have a1 : bits .and .u8 (s[k].toNat : Int) 15 = (s[k].toNat : Int) % 16 := u8_and15 _ (by omega) (by omega)
      have x1 : ∀ w, (Instr.index 9 (.string { data := #[48, 49, 50, 51, 52, 53, 54, 55, 56, 57, 97, 98, 99, 100, 101, 102] }) (.int .u8 ((s[k].toNat : Int) / 16))).run Tryd.prog w = .ok (.int .u8 ((hexDig (s[k].toNat / 16)).toNat : Int)) w := fun w => hex_index (s[k].toNat / 16) (by omega) w
      have x2 : ∀ w, (Instr.index 9 (.string { data := #[48, 49, 50, 51, 52, 53, 54, 55, 56, 57, 97, 98, 99, 100, 101, 102] }) (.int .u8 ((s[k].toNat : Int) % 16))).run Tryd.prog w = .ok (.int .u8 ((hexDig (s[k].toNat % 16)).toNat : Int)) w := fun w => hex_index (s[k].toNat % 16) (by omega) w
      go_region_held3 (fun _ => True) (first | trivial | go_keep)
        (first
          | (refine step_append_lies _ (by rfl) _ _ _ (by rfl) w.heap.size 5 i0 _ 1 1 Tryd.underlying22 hi hz0 hz1 hz2 rfl (by omega) _ _ _ (by rfl) ((hown.alloc _).drew) ⟨wr.heap.size, 0, none⟩ 2 2 [.int .u8 (hexDig (s[k].toNat / 16)).toNat, .int .u8 (hexDig (s[k].toNat % 16)).toNat] (by rfl) (by rfl) (World.news_of_block (cs := #[.int .u8 (hexDig (s[k].toNat / 16)).toNat, .int .u8 (hexDig (s[k].toNat % 16)).toNat]) (t := 5) (fr := (0, 0)) (heap_alloc_new wr _)) (by simp [Value.oneCell']) (by omega) (by unfold maxLen; omega) (by omega) (by have := hbel.size; simp; omega) (wr.heap.size + 1) (by simp) ?_; intro gg cap w1 hown1 hgrow hat hlt1))
      all_goals
        have R := enc_step hlt hown1
        have hb1 : Below w.heap.size w w1 := (((hbel.alloc hbel.size _).drew).grown hgrow (by have := hbel.size; simp; omega) (hown.own_ge))
        clear hown1 hgrow hat hlt1 a1 x1 x2
        go_wp2_with fail
        go_roundw
        case rel => exact ⟨k + 1, by omega, by go_num, R, hb1⟩
        case measure => simp [intOf]; omega
    · obtain rfl : k = s.size := by omega
      have hall : s.data.toList.take s.size = s.data.toList := List.take_of_length_le (by simp)
      rw [hall] at hown
      have hcv := string_own (P := Tryd.prog) (src := 22) (dst := 9) hown Tryd.underlying22 Tryd.underlying5 Tryd.underlying9
      clear hall hown hel
      go_wp2_with fail
      go_ret2
      exact ⟨rfl, hbel⟩

theorem ImplEncode_no (s : ByteArray) (w : World) (hs : 20000 < s.size) (hm : s.size ≤ 9223372036854775807) :
    Calls Tryd.prog 10 #[.string s] w fun e w' => e = .returned (.tuple #[.string ⟨#[]⟩, .bool false]) ∧ w = w' := by
  go_enter Tryd.func10, Tryd.ntmps10
  go_wp2_with fail
  go_ret2
  exact ⟨rfl, rfl⟩
end Go.Proofs.YthnelahnlinbnaaDoor
