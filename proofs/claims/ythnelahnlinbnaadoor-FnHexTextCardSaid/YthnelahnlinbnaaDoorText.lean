/- The drawn texts: l01Text and l01Long. -/
import Derived.Test.YthnelahnlinbnaaDoorDraw
import Derived.Test.YthnelahnlinbnaaDoorHexF
import Derived.StillTailTactics
import Derived.Deep.AppendLies
namespace Go.Proofs.YthnelahnlinbnaaDoor
open Go.ChangeShapes Go.WideShapes Go.ChangeAt Go.RowKit

theorem infoU8 : (Tryd.prog.info? 5).map (fun i => (i.zero, i.size, i.bytes)) = some (some (.int .u8 0), 1, 1) := by kernel_rfl
theorem ownsNew (w : World) (e : Nat) : (w.alloc (.cells #[] e)).ownsRow w.heap.size e 1 (.slice (some ⟨w.heap.size, 0, none⟩) 0 0) 0 [] :=
  ⟨by simp, .inr ⟨_, 0, #[], rfl, Nat.le_refl _, heap_alloc_new _ _, by simp, by simp, rfl, rfl⟩⟩
theorem owns_ge {w : World} {base e size n : Nat} {v : Value} {xs : List Value} (h : w.ownsRow base e size v n xs) : ∀ k, v.ownBlock = some k → base ≤ k := by
  intro k hk
  obtain ⟨_, h | ⟨g, cap, cur, hv, hg, _⟩⟩ := h
  · rw [h.1] at hk; cases hk
  · rw [hv] at hk; simp [Value.ownBlock] at hk; omega

/-- A text is drawn. -/
def DrawnS (Q : ByteArray → Prop) (b : Nat) (a : Option Addr) (len cap : Nat) (w : World) (e : Ending) (w' : World) : Prop :=
  ∃ s : ByteArray, Q s ∧ e = .returned (.string s) ∧ Cur w' b a len cap ∧ But b w w'

theorem byte_of {x : Int} (h0 : 0 ≤ x) (h1 : x ≤ 255) : ∃ c : UInt8, x = (c.toNat : Int) := ⟨UInt8.ofNat x.toNat, by simp; omega⟩

set_option maxHeartbeats 400000 in
theorem Text_any (b : Nat) (a : Option Addr) (len cap : Nat) (n : Nat) (w : World) (hcur : Cur w b a len cap) (hn : n ≤ 5000) :
    Calls Tryd.prog 25 #[.pointer (some ⟨b, 0, none⟩), .int .i64 n] w (DrawnS (fun s => s.size = n) b a len cap w) := by
  obtain ⟨i0, hi, hz0, hz1, hz2⟩ := info_parts infoU8
  have q0 : decide ((5000 : Int) < (n : Int)) = false := by simp; omega
  have hb0 : b < w.heap.size := hcur.lt
  go_enter Tryd.func25, Tryd.ntmps25
  go_wp2_with fail
  clear q0
  go_loopw [5, 6] (fun v i wr => ∃ l : List UInt8, l.length ≤ n ∧ i = .int .i64 l.length ∧ wr.ownsRow w.heap.size 5 1 v l.length (bs l) ∧ Cur wr b a len cap ∧ But b w wr) (fun _ i _ => n - (intOf i).toNat)
  case atStart => exact ⟨[], Nat.zero_le _, rfl, ownsNew _ _, hcur.alloc _, (But.refl _ _).alloc _⟩
  case round =>
    obtain ⟨l, hk, rfl, hown, hc, hbut⟩ := hrel
    by_cases hlt : l.length < n
    · go_wp2_with fail
      refine (Byte_any b a len cap _ hc).mono ?_
      rintro e w1 ⟨x, ⟨x0, x1⟩, rfl, hc1, hb1⟩
      obtain ⟨c, rfl⟩ := byte_of x0 x1
      have n0 : c.toNat < 256 := c.toNat_lt
      have hown1 := owns_but hown hb1 hb0
      have hbut1 := hbut.trans hb1
      clear hown hc hbut hb1
      go_wp2_with (at_builtin; refine wpList_append_lies _ rfl _ _ 22 rfl w.heap.size 5 i0 (.int .u8 0) 1 1 Tryd.underlying22 hi hz0 hz1 hz2 rfl (by decide) _ _ _ rfl (hown1.alloc _) ⟨w1.heap.size, 0, none⟩ 1 1 (bs [c]) rfl rfl (World.news_of_block (cs := #[.int .u8 (c.toNat : Int)]) (t := 5) (fr := (0, 0)) (heap_alloc_new w1 _)) (bs_one _) (by omega) (by unfold maxLen; omega) (by omega) (by have := hbut1.size; simp; omega) (w1.heap.size + 1) (by simp) ?_; intro gg cap w2 hown2 hgrow hat hlt2)
      have R : w2.ownsRow w.heap.size 5 1 (.slice (some ⟨gg, 0, none⟩) (l.length + 1) cap) (l ++ [c]).length (bs (l ++ [c])) := by rw [bs_append, List.length_append]; exact hown2
      have hB : Below w.heap.size w1 w2 := ((Below.refl _ _).alloc hbut1.size _).grown hgrow (by have := hbut1.size; simp; omega) (owns_ge hown1)
      have hc2 := hc1.below hB hb0
      have hbut2 := hbut1.thenBelow hB
      clear hown2 hgrow hat hlt2 hown1 hc1 hbut1 hB
      go_wp2_with fail
      go_roundw
      case rel => exact ⟨l ++ [c], by simp; omega, by rw [List.length_append]; go_num, R, hc2, hbut2⟩
      case measure => simp [intOf]; omega
    · have hcv := string_own (P := Tryd.prog) (src := 22) (dst := 9) hown Tryd.underlying22 Tryd.underlying5 Tryd.underlying9
      have HB := Lib.hid hbut
      have HC := Lib.hid hc
      clear hown hbut hc
      go_wp2_with fail
      go_ret
      exact ⟨_, by show l.toArray.size = n; simp; omega, rfl, HC.out, HB.out⟩

theorem long_step {w1 : World} {B e k n : Nat} {v : Value} {x : UInt8} (hlt : k < n) (h : w1.ownsRow B e 1 v n ((bs (List.replicate k x ++ List.replicate (n - k) 0)).set k (.int .u8 (x.toNat : Int)))) :
    w1.ownsRow B e 1 v n (bs (List.replicate (k + 1) x ++ List.replicate (n - (k + 1)) 0)) := by
  have e1 : (bs (List.replicate k x ++ List.replicate (n - k) 0)).set k (.int .u8 (x.toNat : Int)) = bs (List.replicate (k + 1) x ++ List.replicate (n - (k + 1)) 0) := by
    have e2 : n - k = (n - (k + 1)) + 1 := by omega
    rw [e2, List.replicate_succ, List.replicate_succ']
    simp [bs]
  rw [← e1]; exact h

set_option maxHeartbeats 400000 in
theorem Long_any (n : Nat) (x : UInt8) (w : World) (hn : n ≤ 100000) :
    Calls Tryd.prog 23 #[.int .i64 n, .int .u8 (x.toNat : Int)] w fun e w' => e = .returned (.string ⟨(List.replicate n x).toArray⟩) ∧ Below w.heap.size w w' := by
  obtain ⟨i0, hi, hz0, hz1, hz2⟩ := info_parts infoU8
  go_enter Tryd.func23, Tryd.ntmps23
  go_wp2_with (at_make; refine wpList_make_full _ rfl _ _ 22 rfl w.heap.size 5 i0 (.int .u8 0) 1 Tryd.underlying22 hi hz0 hz1 .i64 .i64 _ _ n rfl rfl rfl rfl (by rw [hz2]; omega) (by unfold maxLen; omega) (Nat.le_refl _) ?_; intro w0 hown0 hgrow0)
  have hb0 : Below w.heap.size w w0 := (Below.refl _ _).grown hgrow0 (Nat.le_refl _) (by intro k hk; cases hk)
  have hown1 : w0.ownsRow w.heap.size 5 1 (.slice (some ⟨w.heap.size, 0, none⟩) n n) n (bs (List.replicate 0 x ++ List.replicate (n - 0) 0)) := by
    have e1 : (madeCells (Value.int .u8 0).cells (n * 1)).toList = bs (List.replicate 0 x ++ List.replicate (n - 0) 0) := by
      rw [Nat.mul_one]
      refine (toList_madeCells_one _ _).trans ?_
      simp [bs]
    rw [← e1]; exact hown0
  have HB := Lib.hid hb0
  have HW := Lib.hid hown1
  clear hb0 hown0 hgrow0 hown1
  go_loopw [6] (fun i wr => ∃ k : Nat, k ≤ n ∧ i = .int .i64 k ∧ wr.ownsRow w.heap.size 5 1 (.slice (some ⟨w.heap.size, 0, none⟩) n n) n (bs (List.replicate k x ++ List.replicate (n - k) 0)) ∧ Below w.heap.size w wr) (fun i _ => n - (intOf i).toNat)
  case atStart => exact ⟨0, Nat.zero_le _, rfl, HW.out, HB.out⟩
  case round =>
    obtain ⟨k, hk, rfl, hown, hbel⟩ := hrel
    by_cases hlt : k < n
    · have hc : wr.cell? ⟨w.heap.size, k, none⟩ = some (.int .u8 0) := by
        rw [hown.cellAt k (by omega)]
        simp [bs, List.getElem?_append_right]
        rw [List.getElem?_replicate, if_pos (by omega)]
      have hf := hown.frozenAt k
      have R := long_step hlt (hown.stored k (.int .u8 (x.toNat : Int))).1
      have hB := hbel.setCell (p := ⟨w.heap.size, k, none⟩) (Nat.le_refl _) (.int .u8 (x.toNat : Int))
      have RH := Lib.hid R
      have HB2 := Lib.hid hB
      clear R hB hown
      go_wp2_with fail
      go_roundw
      case rel => exact ⟨k + 1, by omega, by go_num, RH.out, HB2.out⟩
      case measure => simp [intOf]; omega
    · obtain rfl : k = n := by omega
      have hown2 : wr.ownsRow w.heap.size 5 1 (.slice (some ⟨w.heap.size, 0, none⟩) k k) (List.replicate k x).length (bs (List.replicate k x)) := by
        have := hown
        simp at this
        simpa using this
      have hcv := string_own (P := Tryd.prog) (src := 22) (dst := 9) hown2 Tryd.underlying22 Tryd.underlying5 Tryd.underlying9
      have HB2 := Lib.hid hbel
      clear hown hown2 hbel
      go_wp2_with fail
      go_ret
      exact ⟨rfl, HB2.out⟩
theorem Long_at (n : Nat) (m : Int) (x : UInt8) (w : World) (hn : n ≤ 100000) (hm : m = n) :
    Calls Tryd.prog 23 #[.int .i64 m, .int .u8 (x.toNat : Int)] w fun e w' => e = .returned (.string ⟨(List.replicate n x).toArray⟩) ∧ Below w.heap.size w w' := by
  subst hm
  exact Long_any n x w hn
/-- A text is drawn, and what was there is as it was. -/
def DrawnT (Q : ByteArray → Prop) (w : World) (e : Ending) (w' : World) : Prop :=
  ∃ s : ByteArray, Q s ∧ e = .returned (.string s) ∧ Below w.heap.size w w'
end Go.Proofs.YthnelahnlinbnaaDoor
