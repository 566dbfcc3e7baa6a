/- Areas: the model's AreaTable. -/
import Derived.Test.YtfidnhhlcdbaeaaAreO
import Derived.Test.YtfidnhhlcdbaeaaBlkN
namespace Go.Proofs.Ytfidnhhlcdbaeaa
open Go.ChangeShapes Go.WideShapes Go.ChangeAt Go.RowKit

set_option maxHeartbeats 1000000 in
theorem SpecTable_any (lo hi : Nat) (n : Int) (v : Value) (xs : List C3) (w : World) (r : CellIn lo hi w v xs) (hhi : hi ≤ w.heap.size) :
    Calls Try.prog 16 #[.agg #[.int .i64 n, v]] w (FreshI (areaTable n xs) w) := by
  obtain ⟨i0, hi0, hz0, hz1, hz2⟩ : ∃ i, Try.prog.info? 3 = some i ∧ i.zero = some (.int .i64 0) ∧ i.size = 1 ∧ i.bytes = 8 := info_parts3 info_int
  obtain ⟨a, cap, rfl⟩ := r.form
  have hl := r.1
  have HR := Lib.hid (fun W (hb : Below w.heap.size w W) => r.below (hb.mono hhi))
  clear r
  by_cases hb : BlkOk n xs
  · rw [table_yes hb]
    have HB := Lib.hid hb
    clear hb
    have HT : Hid (Two w.heap.size (.int .i64 n) (.slice a xs.length cap) ((w.alloc (.cells #[.int .i64 n, .slice a xs.length cap] 26)).alloc (.cells #[] 3))) := Lib.hid ((Two.new w (.int .i64 n) (.slice a xs.length cap) 26).keep (bel0 _ _))
    have HO : Hid (((w.alloc (.cells #[.int .i64 n, .slice a xs.length cap] 26)).alloc (.cells #[] 3)).ownsRow (w.heap.size + 1) 3 1 (.slice (some ⟨w.heap.size + 1, 0, none⟩) 0 0) (tab xs 0).length (ivals (tab xs 0))) := Lib.hid (own_new1 _ _ _ (by simp))
    have HB1 := Lib.hid (bel_n (bel0 w (.cells #[.int .i64 n, .slice a xs.length cap] 26)) (Nat.le_refl _) (.cells #[] 3))
    go_enter Try.func16, Try.ntmps16
    go_wp2_with fail
    go_loopw [3, 4] (fun q i wr => ∃ c : Nat, c ≤ 6 ∧ i = .int .i64 c ∧ Hid (wr.ownsRow (w.heap.size + 1) 3 1 q (tab xs c).length (ivals (tab xs c))) ∧ Hid (Two w.heap.size (.int .i64 n) (.slice a xs.length cap) wr) ∧ Hid (Below w.heap.size w wr) ∧ w.heap.size + 1 ≤ wr.heap.size) (fun _ i _ => 6 - (intOf i).toNat)
    case atStart => exact ⟨0, Nat.zero_le _, rfl, HO, HT, HB1, by simp⟩
    case round =>
      obtain ⟨c, hc, rfl, hown, hp, hbel, hsz⟩ := hrel
      obtain ⟨p0, p1⟩ := hp.out
      by_cases hlt : c < 6
      · go_wp2_with fail
        refine (SpecBlockOk_yes lo hi n _ xs _ (HR.out _ hbel.out) (by have := hbel.out.size; omega) HB.out).mono ?_
        rintro e w1 ⟨rfl, hb1⟩
        have hp1 := hp.out.keep hb1
        obtain ⟨q0, q1⟩ := id hp1
        have B1 := bel_c hbel.out (Nat.le_refl _) hb1
        have O1 := owns_below1 hown.out hb1
        have s1 := hb1.size
        clear hb1 hown hp hbel p0 p1
        go_wp2_with fail
        refine (SpecAreaOf_any lo hi n (c : Int) _ xs _ (HR.out _ B1) (by have := B1.size; omega)).mono ?_
        rw [area_yes _ HB.out]
        rintro e w2 ⟨rfl, hb2⟩
        have hp2 := Lib.hid (hp1.keep hb2)
        have B2 := bel_c B1 (Nat.le_refl _) hb2
        have O2 := owns_below1 O1 hb2
        have s2 := hb2.size
        have HS := Lib.hid (tab_succ xs c)
        generalize arL xs (c : Int) xs.length = z at HS ⊢
        have HO1 := Lib.hid (owns_below1 O2 (bel0 w2 (.cells #[.int .i64 z] 3)))
        have HNW := Lib.hid (news_one w2 w2.heap.size (.int .i64 z) 3 rfl)
        have hb3 : w.heap.size + 1 ≤ (w2.alloc (.cells #[.int .i64 z] 3)).heap.size := by simp; omega
        have HB2 := Lib.hid hb3
        have HP2 := Lib.hid (hp2.out.keep (bel0 w2 (.cells #[.int .i64 z] 3)))
        have HB3 := Lib.hid (bel_n B2 (Nat.le_refl _) (.cells #[.int .i64 z] 3))
        have hl6 : (tab xs c).length ≤ 6 := by rw [tab_length]; omega
        clear hb2 O1 O2 B1 B2 hb3 q0 q1 hp1 hp2
        go_wp2_with (at_builtin; refine wpList_append_lies _ rfl _ _ 32 rfl (w.heap.size + 1) 3 i0 (.int .i64 0) 1 8 Try.underlying32 hi0 hz0 hz1 hz2 rfl (by decide) _ _ _ rfl HO1.out ⟨w2.heap.size, 0, none⟩ 1 1 [.int .i64 z] rfl rfl HNW.out (by simp [Value.oneCell']) (by omega) (by unfold maxLen; omega) (by omega) HB2.out (w2.heap.size + 1) (by simp) ?_; intro gg cc w3 hown2 hgrow hat hlt3)
        have hbw := (Below.refl (w.heap.size + 1) _).grown hgrow HB2.out (own_ge1 HO1.out)
        have HN2 : Hid (w3.ownsRow (w.heap.size + 1) 3 1 (.slice (some ⟨gg, 0, none⟩) ((tab xs c).length + 1) cc) (tab xs (c + 1)).length (ivals (tab xs (c + 1)))) := Lib.hid (by rw [HS.out, List.length_append]; unfold ivals at hown2 ⊢; rw [List.map_append]; exact hown2)
        have HP3 : Hid (Two w.heap.size (.int .i64 n) (.slice a xs.length cap) w3) := Lib.hid ⟨(hbw.cell (p := ⟨w.heap.size, 0, none⟩) (Nat.lt_succ_self _)).trans HP2.out.1, (hbw.cell (p := ⟨w.heap.size, 1, none⟩) (Nat.lt_succ_self _)).trans HP2.out.2⟩
        have HB4 := Lib.hid (HB3.out.trans (hbw.mono (by omega)))
        have hs4 : w.heap.size + 1 ≤ w3.heap.size := Nat.le_trans HB2.out hbw.size
        clear hown2 hgrow hat hlt3 hbw HO1 HNW
        go_wp2_with fail
        go_roundw
        case rel => exact ⟨c + 1, by omega, by go_num, HN2, HP3, HB4, hs4⟩
        case measure => simp [intOf] <;> omega
      · obtain rfl : c = 6 := by omega
        have hin := IntIn.of_owns (zs := tab xs 6) hown.out (by rw [tab_length]; omega)
        have HI := Lib.hid hin
        clear hin hown
        go_wp2_with fail
        go_ret
        exact ⟨_, rfl, HI.out.wide (by omega) (Nat.le_refl _), hbel.out⟩
  · rw [table_no hb]
    have HB := Lib.hid hb
    clear hb
    have HT := Lib.hid ((Two.new w (.int .i64 n) (.slice a xs.length cap) 26).keep (bel0 _ (.cells #[] 3)))
    have HB1 := Lib.hid (bel_n (bel0 w (.cells #[.int .i64 n, .slice a xs.length cap] 26)) (Nat.le_refl _) (.cells #[] 3))
    go_enter Try.func16, Try.ntmps16
    go_wp2_with fail
    refine wp_loop_rounds 1 ?_
    rw [rounds_succ]
    go_wp2_with fail
    refine (SpecBlockOk_no lo hi n _ xs _ (HR.out _ HB1.out) (by simp; omega) HB.out).mono ?_
    rintro e w1 ⟨rfl, hb1⟩
    go_wp2_with fail
    go_ret
    exact ⟨_, rfl, ⟨by simp, .inl ⟨rfl, _, _, rfl⟩⟩, bel_c HB1.out (Nat.le_refl _) hb1⟩

end Go.Proofs.Ytfidnhhlcdbaeaa
