/- Areas: the program's AreaTable. -/
import Derived.Test.YtelpibdbnjmliaaAreIm
import Derived.Test.YtelpibdbnjmliaaIntF
namespace Go.Proofs.Ytelpibdbnjmliaa
open Go.ChangeShapes Go.WideShapes Go.ChangeAt Go.RowKit Go.Maps

/-- Six new numbers. -/
theorem six_new (w : World) : IntIn w.heap.size (w.heap.size + 1) (w.alloc (.cells #[.int .i64 0, .int .i64 0, .int .i64 0, .int .i64 0, .int .i64 0, .int .i64 0] 3)) (.slice (some ⟨w.heap.size, 0, none⟩) 6 6) [0, 0, 0, 0, 0, 0] := by
  refine ⟨by simp, .inr ⟨w.heap.size, 6, rfl, Nat.le_refl _, Nat.lt_succ_self _, fun i hi => ?_⟩⟩
  have : i = 0 ∨ i = 1 ∨ i = 2 ∨ i = 3 ∨ i = 4 ∨ i = 5 := by simp at hi; omega
  rcases this with rfl | rfl | rfl | rfl | rfl | rfl <;> exact ⟨by simp, by simp⟩
theorem make6 (w : World) : (Instr.makeSlice 28 (.int .i64 6) (.int .i64 6)).run Try.prog w = .ok (.slice (some ⟨w.heap.size, 0, none⟩) 6 6) (w.alloc (.cells #[.int .i64 0, .int .i64 0, .int .i64 0, .int .i64 0, .int .i64 0, .int .i64 0] 3)) := by kernel_rfl
set_option maxHeartbeats 1000000 in
theorem ImplTable_any (lo hi : Nat) (n : Int) (v : Value) (xs : List C3) (w : World) (r : CellIn lo hi w v xs) (hhi : hi ≤ w.heap.size) :
    Calls Try.prog 12 #[.agg #[.int .i64 n, v]] w (FreshI (areaTable n xs) w) := by
  obtain ⟨a, cap, rfl⟩ := r.form
  have hl := r.1
  have HR := Lib.hid (fun W (hb : Below w.heap.size w W) => r.below (hb.mono hhi))
  clear r
  by_cases hb : BlkOk n xs
  · have HB := Lib.hid hb
    have HF : Hid (∀ c : Nat, c < 6 → areaOf n xs c = (tab xs 6).getD c 0) := Lib.hid (fun c hc => by rw [area_yes _ hb, tab_at xs hc])
    have htl := tab_length xs 6
    have hmk := make6
    rw [table_yes hb]
    clear hb
    generalize tab xs 6 = t at HF htl ⊢
    go_enter Try.func12, Try.ntmps12
    go_wp2_with fail
    refine (ImplBlockOk_yes lo hi n _ xs _ (HR.out _ (bel0 _ _)) (by simp; omega) HB.out).mono ?_
    rintro e w1 ⟨rfl, hb1⟩
    have p0 := kept (p := ⟨w.heap.size, 0, none⟩) (x := .int .i64 n) hb1 (by go_simp)
    have p1 := kept (p := ⟨w.heap.size, 1, none⟩) (x := .slice a xs.length cap) hb1 (by go_simp)
    have B1 := Lib.hid (bel_c (bel0 w _) (Nat.le_refl _) hb1)
    clear hb1
    go_wp2_with fail
    refine (AreasMap_any lo hi n _ xs _ (HR.out _ B1.out) (Nat.le_trans hhi B1.out.size)).mono ?_
    rintro e w2 ⟨b, q, rfl, hm, hbw, hb2⟩
    have B2 := Lib.hid (bel_c B1.out (Nat.le_refl _) hb2)
    have HMI := Lib.hid hm.mapI
    generalize areaOf n xs = F at HF HMI
    have hbl : b < w2.heap.size := by obtain ⟨D, hD⟩ := HMI.out; exact hD.lt
    have hsw := B2.out.size
    clear hb2 hm hbw p0 p1
    go_wp2_with fail
    go_loopw [14] (fun i wr => ∃ (c : Nat) (zs : List Int), c ≤ 6 ∧ i = .int .i64 c ∧ Hid (IntIn w2.heap.size (w2.heap.size + 1) wr (.slice (some ⟨w2.heap.size, 0, none⟩) 6 6) zs) ∧ Hid (UpToI c t zs) ∧ Hid (Below w2.heap.size w2 wr)) (fun i _ => 6 - (intOf i).toNat)
    case atStart => exact ⟨0, [0, 0, 0, 0, 0, 0], Nat.zero_le _, rfl, Lib.hid (six_new w2), Lib.hid ⟨by simp [htl], fun i hi => absurd hi (by omega)⟩, Lib.hid (bel0 w2 _)⟩
    case round =>
      obtain ⟨c, zs, hk, rfl, hin, hup, hbel⟩ := hrel
      by_cases hlt : c < 6
      · have hzl : zs.length = 6 := hup.out.1.trans htl
        obtain ⟨g, hg, _, _, e0, f0⟩ := hin.out.at (Below.refl _ _) (i := c) (by omega)
        simp only [Option.some.injEq, Addr.mk.injEq, and_true] at hg
        subst hg
        generalize zs.getD c 0 = z0 at e0
        obtain ⟨D, hD⟩ := HMI.out.below hbel.out hbl
        have wc : (Lit.int .i64 (c : Int)).wf = true := wf_small (by omega) (by omega)
        go_wp2_with (at_lookup; refine wpList_lookup_own_int _ rfl _ _ 55 rfl 3 3 .i64 mlaw Try.underlying55 Try.underlying3 (mzero _) b q _ rfl hD.1 _ _ rfl (keyOf_int_mk Try.underlying3 wc) ?_; intro z hat hwz; have ez := Lib.hid (hD.at wc hat); clear hat)
        go_roundw
        case rel => exact ⟨c + 1, zs.set c z, by omega, by go_num, Lib.hid (hin.out.set c (by omega) z), Lib.hid (hup.out.set (by omega) (ez.out.trans (HF.out c hlt))), Lib.hid (hbel.out.setCell (Nat.le_refl _) _)⟩
        case measure => simp [intOf] <;> omega
      · obtain rfl : c = 6 := by omega
        have hzl : zs = t := by have := hup.out; rw [← htl] at this; exact this.all
        subst hzl
        have hq : w2.heap.size < wr.heap.size := by
          obtain ⟨g, hg, _, _, e0, _⟩ := hin.out.at (Below.refl _ _) (i := 0) (by omega)
          simp only [Option.some.injEq, Addr.mk.injEq, and_true] at hg
          subst hg
          exact lt_of_cell e0
        go_wp2_with fail
        go_ret
        exact ⟨_, rfl, hin.out.wide hsw hq, B2.out.trans (hbel.out.mono hsw)⟩
  · rw [table_no hb]
    have HB := Lib.hid hb
    clear hb
    go_enter Try.func12, Try.ntmps12
    go_wp2_with fail
    refine (ImplBlockOk_no lo hi n _ xs _ (HR.out _ (bel0 _ _)) (by simp; omega) HB.out).mono ?_
    rintro e w1 ⟨rfl, hb1⟩
    go_wp2_with fail
    go_ret
    exact ⟨_, rfl, ⟨by simp, .inl ⟨rfl, _, _, rfl⟩⟩, bel_c (bel0 w _) (Nat.le_refl _) hb1⟩

end Go.Proofs.Ytelpibdbnjmliaa
