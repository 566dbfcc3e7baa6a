/- Blocks: the program's ColorsOf. -/
import Derived.Test.YtelpibdbnjmliaaBlkIa
import Derived.Test.YtelpibdbnjmliaaBlkU
namespace Go.Proofs.Ytelpibdbnjmliaa
open Go.ChangeShapes Go.WideShapes Go.ChangeAt Go.RowKit

/-- The six marks at block q: mark c is f c. -/
def Seen (u : World) (q : Nat) (f : Nat → Bool) : Prop := ∀ c, c < 6 → u.cell? ⟨q, c, none⟩ = some (.bool (f c)) ∧ u.frozen? ⟨q, c, none⟩ = false
theorem Seen.below {u v : World} {q B : Nat} {f : Nat → Bool} (h : Seen u q f) (hb : Below B u v) (hq : q < B) : Seen v q f := fun c hc =>
  ⟨(hb.cell (p := ⟨q, c, none⟩) hq).trans (h c hc).1, (hb.frozen (p := ⟨q, c, none⟩) hq).trans (h c hc).2⟩
theorem Seen.set {u : World} {q : Nat} {f : Nat → Bool} (h : Seen u q f) (j : Nat) : Seen (u.setCell ⟨q, j, none⟩ (.bool true)) q (fun c => f c || decide (j = c)) := fun c hc => by
  refine ⟨?_, by rw [World.frozen?_setCell]; exact (h c hc).2⟩
  by_cases e : j = c
  · subst e
    rw [World.cell?_setCell_same _ _ _ (h j hc).1]
    simp
  · rw [World.cell?_setCell_other _ _ _ _ (by simp), (h c hc).1]
    simp [e]
theorem Seen.new (w : World) (T : TypeId) : Seen (w.alloc (.cells #[.bool false, .bool false, .bool false, .bool false, .bool false, .bool false] T)) w.heap.size (fun _ => false) := fun c hc => by
  have : c = 0 ∨ c = 1 ∨ c = 2 ∨ c = 3 ∨ c = 4 ∨ c = 5 := by omega
  rcases this with rfl | rfl | rfl | rfl | rfl | rfl <;> exact ⟨by simp, by simp⟩
theorem Seen.congr {u : World} {q : Nat} {f g : Nat → Bool} (h : Seen u q f) (e : ∀ c, c < 6 → f c = g c) : Seen u q g := fun c hc => by rw [← e c hc]; exact h c hc
theorem usd_zero (xs : List C3) (c : Int) : usd xs c 0 = false := by simp [usd]
theorem idx_arr0 (f : Nat → Bool) (w : World) : (Instr.index 73 (.agg #[.bool (f 0), .bool (f 1), .bool (f 2), .bool (f 3), .bool (f 4), .bool (f 5)]) (.int .i64 0)).run Try.prog w = .ok (.bool (f 0)) w := by kernel_rfl
theorem idx_arr1 (f : Nat → Bool) (w : World) : (Instr.index 73 (.agg #[.bool (f 0), .bool (f 1), .bool (f 2), .bool (f 3), .bool (f 4), .bool (f 5)]) (.int .i64 1)).run Try.prog w = .ok (.bool (f 1)) w := by kernel_rfl
theorem idx_arr2 (f : Nat → Bool) (w : World) : (Instr.index 73 (.agg #[.bool (f 0), .bool (f 1), .bool (f 2), .bool (f 3), .bool (f 4), .bool (f 5)]) (.int .i64 2)).run Try.prog w = .ok (.bool (f 2)) w := by kernel_rfl
theorem idx_arr3 (f : Nat → Bool) (w : World) : (Instr.index 73 (.agg #[.bool (f 0), .bool (f 1), .bool (f 2), .bool (f 3), .bool (f 4), .bool (f 5)]) (.int .i64 3)).run Try.prog w = .ok (.bool (f 3)) w := by kernel_rfl
theorem idx_arr4 (f : Nat → Bool) (w : World) : (Instr.index 73 (.agg #[.bool (f 0), .bool (f 1), .bool (f 2), .bool (f 3), .bool (f 4), .bool (f 5)]) (.int .i64 4)).run Try.prog w = .ok (.bool (f 4)) w := by kernel_rfl
theorem idx_arr5 (f : Nat → Bool) (w : World) : (Instr.index 73 (.agg #[.bool (f 0), .bool (f 1), .bool (f 2), .bool (f 3), .bool (f 4), .bool (f 5)]) (.int .i64 5)).run Try.prog w = .ok (.bool (f 5)) w := by kernel_rfl
theorem idx_arr (f : Nat → Bool) (c : Nat) (hc : c < 6) (w : World) : (Instr.index 73 (.agg #[.bool (f 0), .bool (f 1), .bool (f 2), .bool (f 3), .bool (f 4), .bool (f 5)]) (.int .i64 c)).run Try.prog w = .ok (.bool (f c)) w := by
  match c, hc with
  | 0, _ => exact idx_arr0 f w
  | 1, _ => exact idx_arr1 f w
  | 2, _ => exact idx_arr2 f w
  | 3, _ => exact idx_arr3 f w
  | 4, _ => exact idx_arr4 f w
  | 5, _ => exact idx_arr5 f w

set_option maxHeartbeats 1000000 in
theorem ImplColors_any (lo hi : Nat) (n : Int) (v : Value) (xs : List C3) (w : World) (r : CellIn lo hi w v xs) (hhi : hi ≤ w.heap.size) :
    Calls Try.prog 41 #[.agg #[.int .i64 n, v]] w (FreshI (colorsOf n xs) w) := by
  obtain ⟨i0, hi0, hz0, hz1, hz2⟩ : ∃ i, Try.prog.info? 3 = some i ∧ i.zero = some (.int .i64 0) ∧ i.size = 1 ∧ i.bytes = 8 := info_parts3 info_int
  obtain ⟨a, cap, rfl⟩ := r.form
  have hl := r.1
  have R : ∀ W, Below w.heap.size w W → CellIn lo hi W (.slice a xs.length cap) xs := fun W hb => r.below (hb.mono hhi)
  have HR := Lib.hid R
  clear r R
  by_cases hb : BlkOk n xs
  · rw [colors_yes hb]
    have HB := Lib.hid hb
    clear hb
    go_enter Try.func41, Try.ntmps41
    go_wp2_with fail
    refine (ImplBlockOk_yes lo hi n _ xs _ (HR.out _ (bel0 _ _)) (by simp; omega) HB.out).mono ?_
    rintro e w1 ⟨rfl, hb1⟩
    have p1 : ∀ o, (w1.alloc o).cell? ⟨w.heap.size, 1, none⟩ = some (.slice a xs.length cap) := fun o => kept (bel0 w1 o) (kept (p := ⟨w.heap.size, 1, none⟩) (x := .slice a xs.length cap) hb1 (by go_simp))
    have B1 := bel_c (bel0 w _) (Nat.le_refl _) hb1
    go_wp2_with fail
    have hq0 : w.heap.size + 1 ≤ w1.heap.size := by have := hb1.size; simpa using this
    have HB0 := Lib.hid (bel_n B1 (Nat.le_refl _) (.cells #[.bool false, .bool false, .bool false, .bool false, .bool false, .bool false] 73))
    have HS0 := Lib.hid (Seen.new w1 73)
    clear p1 B1 hb1
    go_loopw [15] (fun i wr => ∃ k : Nat, k ≤ xs.length ∧ i = .int .i64 k ∧ Hid (Seen wr w1.heap.size (fun c => usd xs c k)) ∧ Hid (Below w.heap.size w wr) ∧ w1.heap.size + 1 ≤ wr.heap.size) (fun i _ => xs.length - (intOf i).toNat)
    case atStart => exact ⟨0, Nat.zero_le _, rfl, Lib.hid (HS0.out.congr (fun c _ => (usd_zero xs c).symm)), HB0, by simp⟩
    case round =>
      obtain ⟨k, hk, rfl, hseen, hbel, hsz⟩ := hrel
      by_cases hlt : k < xs.length
      · obtain ⟨g, rfl, _, _, ⟨e0, e1, e2⟩, _⟩ := (HR.out _ hbel.out).at (Below.refl _ _) hlt
        have hok : (xs.getD k C3.zero).Ok := HB.out.2.2 _ (by simp [List.getD, hlt])
        have HU := Lib.hid (fun c : Int => usd_succ xs c k hlt)
        generalize xs.getD k C3.zero = x at e0 e1 e2 HU hok
        obtain ⟨xs', xa, xb⟩ := x
        change OkC xs' xa xb at hok
        unfold OkC at hok
        obtain ⟨ja, hja⟩ : ∃ ja : Nat, xa = ja := ⟨xa.toNat, by omega⟩
        obtain ⟨jb, hjb⟩ : ∃ jb : Nat, xb = jb := ⟨xb.toNat, by omega⟩
        subst hja hjb
        have hja : ja < 6 := by omega
        have hjb : jb < 6 := by omega
        have hs1 := hseen.out.below (bel0 wr (.cells #[.int .i64 xs', .int .i64 ja, .int .i64 jb] 34)) (by omega)
        have hs2 := hs1.set ja
        have hs3 := hs2.set jb
        obtain ⟨sa, fa⟩ := hs1 ja hja
        obtain ⟨sb, fb⟩ := hs2 jb hjb
        have ne1 : w1.heap.size ≠ wr.heap.size := by omega
        have ne2 : wr.heap.size ≠ w1.heap.size := by omega
        have HS := Lib.hid (hs3.congr (g := fun c => usd xs c (k + 1)) (fun c hc => by
          have h1 := HU.out c
          have e1 : ∀ j : Nat, ((j : Int) == (c : Int)) = decide (j = c) := fun j => by
            by_cases h : j = c
            · simp [h]
            · have h' : ¬ (j : Int) = (c : Int) := by omega
              simp [h, h']
          dsimp only at h1 ⊢
          rw [h1, e1, e1]))
        have HBN := Lib.hid (Below.setCell (Below.setCell (bel_n hbel.out (Nat.le_refl _) (.cells #[.int .i64 xs', .int .i64 ja, .int .i64 jb] 34)) (p := ⟨w1.heap.size, ja, none⟩) (by show w.heap.size ≤ w1.heap.size; omega) (.bool true)) (p := ⟨w1.heap.size, jb, none⟩) (by show w.heap.size ≤ w1.heap.size; omega) (.bool true))
        clear hseen hbel hs1 hs2 hs3 HU hok
        go_wp2_with fail
        go_roundw
        case rel => exact ⟨k + 1, by omega, by go_num, HS, HBN, by simp [World.setCell]; omega⟩
        case measure => simp [intOf] <;> omega
      · obtain rfl : k = xs.length := by omega
        obtain ⟨f, hf⟩ : ∃ f : Nat → Bool, ∀ c, f c = usd xs (c : Int) xs.length := ⟨_, fun _ => rfl⟩
        have hs := hseen.out.congr (g := f) (fun c _ => (hf c).symm)
        have s0 := (hs 0 (by omega)).1
        have s1 := (hs 1 (by omega)).1
        have s2 := (hs 2 (by omega)).1
        have s3 := (hs 3 (by omega)).1
        have s4 := (hs 4 (by omega)).1
        have s5 := (hs 5 (by omega)).1
        have HF := Lib.hid hf
        have HO : Hid (wr.ownsRow (w.heap.size + 1) 3 1 (.slice none 0 0) (cols xs 0).length (ivals (cols xs 0))) := Lib.hid ⟨rfl, .inl ⟨rfl, rfl⟩⟩
        have hz : w.heap.size + 1 ≤ wr.heap.size := by omega
        clear hseen hs hf
        go_wp2_with fail
        clear s0 s1 s2 s3 s4 s5
        go_loopw [6, 27] (fun q i wx => ∃ c : Nat, c ≤ 6 ∧ i = .int .i64 c ∧ Hid (wx.ownsRow (w.heap.size + 1) 3 1 q (cols xs c).length (ivals (cols xs c))) ∧ Hid (Below w.heap.size w wx) ∧ w.heap.size + 1 ≤ wx.heap.size) (fun _ i _ => 6 - (intOf i).toNat)
        case atStart => exact ⟨0, Nat.zero_le _, rfl, HO, hbel, hz⟩
        case round =>
          obtain ⟨c, hc, rfl, hown, hbel2, hsz2⟩ := hrel
          by_cases hlt2 : c < 6
          · have ix := idx_arr f c hlt2
            have HS := Lib.hid (cols_succ xs c)
            rw [← HF.out c] at HS
            generalize hu : f c = u at HS ix
            clear hu
            cases u
            · have HN : Hid (cols xs (c + 1) = cols xs c) := Lib.hid (by rw [HS.out]; simp)
              clear HS
              go_wp2_with fail
              go_roundw
              case rel => exact ⟨c + 1, by omega, by go_num, by rw [HN.out]; exact hown, hbel2, hsz2⟩
              case measure => simp [intOf] <;> omega
            · have HN : Hid (cols xs (c + 1) = cols xs c ++ [(c : Int)]) := Lib.hid (by rw [HS.out]; simp)
              have hcl := cols_le xs c
              have HO1 := Lib.hid (owns_below1 hown.out (bel0 wr (.cells #[.int .i64 c] 3)))
              have HNW := Lib.hid (news_one wr wr.heap.size (.int .i64 c) 3 rfl)
              have hb2 : w.heap.size + 1 ≤ (wr.alloc (.cells #[.int .i64 c] 3)).heap.size := by simp; omega
              have HB2 := Lib.hid hb2
              have HB3 := Lib.hid (bel_n hbel2.out (Nat.le_refl _) (.cells #[.int .i64 c] 3))
              clear HS hb2 hown hbel2
              go_wp2_with (at_builtin; refine wpList_append_lies _ rfl _ _ 28 rfl (w.heap.size + 1) 3 i0 (.int .i64 0) 1 8 Try.underlying28 hi0 hz0 hz1 hz2 rfl (by decide) _ _ _ rfl HO1.out ⟨wr.heap.size, 0, none⟩ 1 1 [.int .i64 c] rfl rfl HNW.out (by simp [Value.oneCell']) (by omega) (by unfold maxLen; omega) (by omega) HB2.out (wr.heap.size + 1) (by simp) ?_; intro gg cc w2 hown2 hgrow hat hlt3)
              have hbw := (Below.refl (w.heap.size + 1) _).grown hgrow HB2.out (own_ge1 HO1.out)
              have HN2 : Hid (w2.ownsRow (w.heap.size + 1) 3 1 (.slice (some ⟨gg, 0, none⟩) ((cols xs c).length + 1) cc) (cols xs (c + 1)).length (ivals (cols xs (c + 1)))) := Lib.hid (by rw [HN.out, List.length_append]; unfold ivals at hown2 ⊢; rw [List.map_append]; exact hown2)
              have HB4 := Lib.hid (HB3.out.trans (hbw.mono (by omega)))
              have hs4 : w.heap.size + 1 ≤ w2.heap.size := Nat.le_trans HB2.out hbw.size
              clear hown2 hgrow hat hlt3 hbw HO1 HNW
              go_wp2_with fail
              go_roundw
              case rel => exact ⟨c + 1, by omega, by go_num, HN2, HB4, hs4⟩
              case measure => simp [intOf] <;> omega
          · obtain rfl : c = 6 := by omega
            have hin := IntIn.of_owns (zs := cols xs 6) hown.out (by have := cols_le xs 6; omega)
            have HI := Lib.hid hin
            clear hin hown
            go_wp2_with fail
            go_ret
            exact ⟨_, rfl, HI.out.wide (by omega) (Nat.le_refl _), hbel2.out⟩
  · rw [colors_no hb]
    have HB := Lib.hid hb
    clear hb
    go_enter Try.func41, Try.ntmps41
    go_wp2_with fail
    refine (ImplBlockOk_no lo hi n _ xs _ (HR.out _ (bel0 _ _)) (by simp; omega) HB.out).mono ?_
    rintro e w1 ⟨rfl, hb1⟩
    go_wp2_with fail
    go_ret
    exact ⟨_, rfl, ⟨by simp, .inl ⟨rfl, _, _, rfl⟩⟩, bel_c (bel0 w _) (Nat.le_refl _) hb1⟩

end Go.Proofs.Ytelpibdbnjmliaa
