/- Turns: the program's moveCells, TurnBlock and MirrorBlock. -/
import Derived.Test.YtfidnhhlcdbaeaaTurIc
import Derived.Test.YtfidnhhlcdbaeaaBlkG
import Derived.Test.YtfidnhhlcdbaeaaBlkIa
import Derived.Deep.AppendLies
namespace Go.Proofs.Ytfidnhhlcdbaeaa
open Go.ChangeShapes Go.WideShapes Go.ChangeAt Go.RowKit

theorem cells_of {u : World} {b n : Nat} {v : Value} {xs : List C3} (h : u.ownsRow b 29 3 v n (places xs)) (hn : xs.length = n) (hl : n ≤ 1048576) : CellIn b u.heap.size u v xs := by
  subst hn
  exact CellIn.of_owns h hl

set_option maxHeartbeats 1000000 in
theorem MoveTurn_any (lo hi : Nat) (n : Int) (v : Value) (xs : List C3) (w : World) (r : CellIn lo hi w v xs) (hhi : hi ≤ w.heap.size) :
    Calls Try.prog 35 #[.agg #[.int .i64 n, v], .func (.func 36) #[] #[]] w (FreshB (turnN n xs) (turnB n xs) w) := by
  obtain ⟨i0, hi0, hz0, hz1, hz2⟩ := info_parts3 info_cell
  obtain ⟨a, cap, rfl⟩ := r.form
  have hl := r.1
  have HR := Lib.hid (fun W (hb : Below w.heap.size w W) => r.below (hb.mono hhi))
  clear r
  by_cases hb : BlkOk n xs
  · rw [(turnB_yes hb).1, (turnB_yes hb).2.1]
    have HB := Lib.hid hb
    obtain ⟨m, rfl, hm1, hm4, hml⟩ := sz_nat hb
    have HX : Hid (movX turnC (tP m) xs (m * m) = turnL m xs) := Lib.hid (by unfold turnL; rw [hml, Int.toNat_natCast])
    have HML := Lib.hid hml
    have hl16 : xs.length ≤ 16 := by
      rw [hml]; exact Nat.mul_le_mul hm4 hm4
    rw [← HX.out]
    clear hb hml
    go_enter Try.func35, Try.ntmps35
    go_wp2_with fail
    refine (ImplBlockOk_yes lo hi m _ xs _ (HR.out _ (bel_n (bel0 w _) (Nat.le_refl _) _)) (by simp; omega) HB.out).mono ?_
    rintro e w1 ⟨rfl, hb1⟩
    have HBX := Lib.hid (bel_c (bel_n (bel0 w (.cells #[.int .i64 m, .slice a xs.length cap] 26)) (Nat.le_refl _) (.cells #[.int .i64 0, .slice none 0 0] 26)) (Nat.le_refl _) hb1)
    have HPO : Hid (w.heap.size + 1 < w1.heap.size) := Lib.hid (by have := hb1.size; simp at this; omega)
    have HP1 : Hid (BoxB w.heap.size (.int .i64 m) (.slice a xs.length cap) w1) := Lib.hid (((BoxB.new w (.int .i64 m) (.slice a xs.length cap) 26).below (bel0 _ _) (by simp)).below hb1 (by simp; omega))
    have HD1 : Hid (BoxB (w.heap.size + 1) (.int .i64 0) (.slice none 0 0) w1) := Lib.hid (by
      have h := BoxB.new (w.alloc (.cells #[.int .i64 m, .slice a xs.length cap] 26)) (.int .i64 0) (.slice none 0 0) 26
      exact (show BoxB (w.heap.size + 1) _ _ _ by simpa using h).below hb1 (by simp))
    have p0 := HP1.out.1
    have p1 := HP1.out.2.1
    clear hb1
    go_wp2_with (at_make; refine wpList_make_own _ rfl _ _ 24 rfl w1.heap.size 29 i0 _ 3 Try.underlying24 hi0 hz0 hz1 .i64 .i64 _ xs.length rfl rfl rfl (by rw [hz2]; omega) (by unfold maxLen; omega) (Nat.le_refl _) ?_; intro w2 hown2 hgrow2; have hb2 := own_none hgrow2; have p2 := kept hb2 p0)
    have HP2 := Lib.hid (HP1.out.below hb2 (by have := HPO.out; omega))
    have HD2 := Lib.hid (HD1.out.below hb2 HPO.out)
    have HB2 := Lib.hid (bel_c HBX.out (Nat.le_refl _) hb2)
    have HZ2 := hb2.size
    have HO2 : Hid (w2.ownsRow w1.heap.size 29 3 (.slice (some ⟨w1.heap.size, 0, none⟩) 0 xs.length) (0 * m) (places (movX turnC (tP m) xs (0 * m)))) := Lib.hid (by rw [Nat.zero_mul]; exact hown2)
    clear hb2 hgrow2 hown2 p0 p1 p2 HP1 HD1 HBX
    go_loopw [5, 18] (fun q i wr => ∃ y : Nat, y ≤ m ∧ i = .int .i64 y ∧ Hid (wr.ownsRow w1.heap.size 29 3 q (y * m) (places (movX turnC (tP m) xs (y * m)))) ∧ Hid (BoxB w.heap.size (.int .i64 m) (.slice a xs.length cap) wr) ∧ Hid (BoxB (w.heap.size + 1) (.int .i64 0) (.slice none 0 0) wr) ∧ Hid (Below w.heap.size w wr) ∧ w1.heap.size ≤ wr.heap.size) (fun _ i _ => m - (intOf i).toNat)
    case atStart => exact ⟨0, Nat.zero_le _, rfl, HO2, HP2, HD2, HB2, HZ2⟩
    case round =>
      clear HO2 HP2 HD2 HB2 HZ2
      obtain ⟨y, hk, rfl, hown0, hp0, hd0, hbel0, hsz0⟩ := hrel
      by_cases hlt : y < m
      · have q0 := hp0.out.1
        obtain ⟨wo, rfl⟩ : ∃ wo : World, wo = wr := ⟨_, rfl⟩
        go_wp2_with fail
        clear q0
        go_loopw [5, 23] (fun q i wr => ∃ x : Nat, x ≤ m ∧ i = .int .i64 x ∧ Hid (wr.ownsRow w1.heap.size 29 3 q (y * m + x) (places (movX turnC (tP m) xs (y * m + x)))) ∧ Hid (BoxB w.heap.size (.int .i64 m) (.slice a xs.length cap) wr) ∧ Hid (BoxB (w.heap.size + 1) (.int .i64 0) (.slice none 0 0) wr) ∧ Hid (Below w.heap.size w wr) ∧ w1.heap.size ≤ wr.heap.size) (fun _ i _ => m - (intOf i).toNat)
        case atStart => exact ⟨0, Nat.zero_le _, rfl, hown0, hp0, hd0, hbel0, hsz0⟩
        case round =>
          clear hown0 hp0 hd0 hbel0 hsz0
          obtain ⟨x, hx, rfl, hown, hp, hd, hbel, hsz⟩ := hrel
          by_cases hlt2 : x < m
          · have hyx : y * m + x ≤ 16 := by
              have h1 := Nat.mul_le_mul (show y ≤ 3 by omega) hm4
              omega
            have CT := Lib.hid (TurnCellAt_ok lo hi m x y _ xs wr (HR.out _ hbel.out) (Nat.le_trans hhi hbel.out.size) HB.out hlt2 hlt)
            have HNX : Hid (places (movX turnC (tP m) xs (y * m + x)) ++ [.int .i64 (turnC (xs.getD (tP m (y * m + x)) C3.zero)).s, .int .i64 (turnC (xs.getD (tP m (y * m + x)) C3.zero)).a, .int .i64 (turnC (xs.getD (tP m (y * m + x)) C3.zero)).b] = places (movX turnC (tP m) xs (y * m + (x + 1)))) := Lib.hid (by
              rw [show y * m + (x + 1) = y * m + x + 1 by omega, movX_succ, places_more])
            generalize turnC (xs.getD (tP m (y * m + x)) C3.zero) = z at CT HNX
            have q0 := hp.out.1
            have q1 := hp.out.2.1
            go_wp2_with fail
            clear q0 q1
            refine CT.out.mono ?_
            rintro e w3 ⟨rfl, hb3⟩
            have hbn := bel_n hb3 (Nat.le_refl _) (.cells #[.int .i64 z.s, .int .i64 z.a, .int .i64 z.b] 29)
            have HO3 := Lib.hid (owns_below hown.out hbn)
            have HP3 := Lib.hid (hp.out.below hbn (by have := HPO.out; omega))
            have HD3 := Lib.hid (hd.out.below hbn (by have := HPO.out; omega))
            have HB3 := Lib.hid (bel_c hbel.out (Nat.le_refl _) hbn)
            have HZ3 : Hid (w1.heap.size ≤ (w3.alloc (.cells #[.int .i64 z.s, .int .i64 z.a, .int .i64 z.b] 29)).heap.size) := Lib.hid (Nat.le_trans hsz hbn.size)
            have HNW := Lib.hid (news3 w3 z)
            clear hb3 hbn hown hp hd hbel CT
            go_wp2_with (at_builtin; refine wpList_append_lies _ rfl _ _ 24 rfl w1.heap.size 29 i0 _ 3 24 Try.underlying24 hi0 hz0 hz1 hz2 rfl (by decide) _ _ _ rfl HO3.out ⟨w3.heap.size, 0, none⟩ 1 1 [.int .i64 z.s, .int .i64 z.a, .int .i64 z.b] rfl rfl HNW.out (by simp [Value.oneCell']) (by omega) (by unfold maxLen; omega) (by omega) HZ3.out (w3.heap.size + 1) (by simp) ?_; intro gg cc w4 hown4 hgrow hat hlt4)
            have hbw := (Below.refl w1.heap.size _).grown hgrow HZ3.out (own_ge3 HO3.out)
            have HP4 := Lib.hid (HP3.out.below hbw (by have := HPO.out; omega))
            have HD4 := Lib.hid (HD3.out.below hbw HPO.out)
            have HB4 := Lib.hid (HB3.out.trans (hbw.mono (by have := HPO.out; omega)))
            have HZ4 := Nat.le_trans HZ3.out hbw.size
            rw [HNX.out] at hown4
            have HO4 := Lib.hid hown4
            clear hown4 hgrow hat hlt4 hbw HO3 HP3 HD3 HB3 HNW HNX
            go_roundw
            case rel => exact ⟨x + 1, by omega, by go_num, HO4, HP4, HD4, HB4, HZ4⟩
            case measure => simp [intOf] <;> omega
          · obtain rfl : x = m := by omega
            have ho6 := hown.out
            rw [← Nat.succ_mul] at ho6
            have HO6 := Lib.hid ho6
            clear hown ho6
            go_wp2_with fail
            go_roundw
            case rel => exact ⟨y + 1, by omega, by go_num, HO6, hp, hd, hbel, hsz⟩
            case measure => simp [intOf] <;> omega
      · obtain rfl : y = m := by omega
        have hin := cells_of hown0.out (movX_length _ _ _ _) (by have := Nat.mul_le_mul hm4 hm4; omega)
        obtain ⟨ys, hys⟩ : ∃ ys, movX turnC (tP y) xs (y * y) = ys := ⟨_, rfl⟩
        rw [hys] at hin
        have HYS := Lib.hid hys
        obtain ⟨av, cv, rfl⟩ := hin.form
        have HI := Lib.hid hin
        obtain ⟨q0, q1, _, _⟩ := hp0.out
        obtain ⟨d0, d1, f0, f1⟩ := hd0.out
        have HPW := Lib.hid (by have := HPO.out; exact (⟨by omega, by omega⟩ : w.heap.size + 1 < w1.heap.size ∧ w.heap.size ≤ w1.heap.size))
        clear hin hown0 hp0 hd0 hys
        go_wp2_with fail
        refine bodyPost_ret (v := .agg #[.int .i64 y, .slice av ys.length cv]) (by simp [results, Try.results35, go_sem, d0, d1]) rfl ⟨_, rfl, ?_, ?_⟩
        · rw [HYS.out]
          refine CellIn.wide (lo := w1.heap.size) (hi := wr.heap.size) ?_ HPW.out.2 (by simp [World.setCell])
          refine CellIn.set_far (CellIn.set_far HI.out ?_ _) ?_ _ <;> (have := HPW.out; simp <;> omega)
        · refine Below.setCell (Below.setCell hbel0.out ?_ _) ?_ _ <;> (simp <;> omega)
  · rw [(turnB_no hb).1, (turnB_no hb).2.1]
    have HB := Lib.hid hb
    clear hb
    go_enter Try.func35, Try.ntmps35
    go_wp2_with fail
    refine (ImplBlockOk_no lo hi n _ xs _ (HR.out _ (bel_n (bel0 w _) (Nat.le_refl _) _)) (by simp; omega) HB.out).mono ?_
    rintro e w1 ⟨rfl, hb1⟩
    have d0 := kept (p := ⟨w.heap.size + 1, 0, none⟩) (x := .int .i64 0) hb1 (by go_simp)
    have d1 := kept (p := ⟨w.heap.size + 1, 1, none⟩) (x := .slice none 0 0) hb1 (by go_simp)
    have g0 := keptF (p := ⟨w.heap.size + 1, 0, none⟩) (x := .int .i64 0) hb1 (by go_simp) (by go_simp)
    have g1 := keptF (p := ⟨w.heap.size + 1, 1, none⟩) (x := .slice none 0 0) hb1 (by go_simp) (by go_simp)
    have B := bel_c (bel_n (bel0 w (.cells #[.int .i64 n, .slice a xs.length cap] 26)) (Nat.le_refl _) (.cells #[.int .i64 0, .slice none 0 0] 26)) (Nat.le_refl _) hb1
    clear hb1
    go_wp2_with fail
    refine bodyPost_ret (v := .agg #[.int .i64 0, .slice none 0 0]) (by simp [results, Try.results35, go_sem, d0, d1]) rfl ⟨.slice none 0 0, rfl, ⟨by simp, .inl ⟨rfl, _, _, rfl⟩⟩, ?_⟩
    refine Below.setCell (Below.setCell B ?_ _) ?_ _ <;> (simp <;> omega)
theorem ImplTurnBlock_any (lo hi : Nat) (n : Int) (v : Value) (xs : List C3) (w : World) (r : CellIn lo hi w v xs) (hhi : hi ≤ w.heap.size) : Calls Try.prog 12 #[.agg #[.int .i64 n, v]] w (FreshB (turnN n xs) (turnB n xs) w) := by
  obtain ⟨a, cap, rfl⟩ := r.form
  have B0 := bel_n (bel0 w (.cells #[.int .i64 n, .slice a xs.length cap] 26)) (Nat.le_refl _) (.cells #[.int .i64 0, .slice none 0 0] 26)
  have CT := Lib.hid (MoveTurn_any lo hi n _ xs _ (r.below (B0.mono hhi)) (Nat.le_trans hhi B0.size))
  have HB0 := Lib.hid B0
  clear r B0
  obtain ⟨n', hn'⟩ : ∃ n', turnN n xs = n' := ⟨_, rfl⟩
  obtain ⟨ys, hys⟩ : ∃ ys, turnB n xs = ys := ⟨_, rfl⟩
  rw [hn', hys] at CT ⊢
  clear hn' hys
  go_enter Try.func12, Try.ntmps12
  go_wp2_with fail
  refine CT.out.mono ?_
  rintro e w1 ⟨v1, rfl, hin, hb1⟩
  obtain ⟨a1, c1, rfl⟩ := hin.form
  have d0 := kept (p := ⟨w.heap.size + 1, 0, none⟩) (x := .int .i64 0) hb1 (by go_simp)
  have d1 := kept (p := ⟨w.heap.size + 1, 1, none⟩) (x := .slice none 0 0) hb1 (by go_simp)
  have g0 := keptF (p := ⟨w.heap.size + 1, 0, none⟩) (x := .int .i64 0) hb1 (by go_simp) (by go_simp)
  have g1 := keptF (p := ⟨w.heap.size + 1, 1, none⟩) (x := .slice none 0 0) hb1 (by go_simp) (by go_simp)
  have B := bel_c HB0.out (Nat.le_refl _) hb1
  have HI := Lib.hid hin
  clear hb1 hin CT
  go_wp2_with fail
  refine bodyPost_ret (v := .agg #[.int .i64 n', .slice a1 ys.length c1]) (by simp [results, Try.results12, go_sem, d0, d1]) rfl ⟨_, rfl, ?_, ?_⟩
  · refine CellIn.wide (lo := ((w.alloc (.cells #[.int .i64 n, .slice a xs.length cap] 26)).alloc (.cells #[.int .i64 0, .slice none 0 0] 26)).heap.size) (hi := w1.heap.size) ?_ (by simp; omega) (by simp [World.setCell])
    refine CellIn.set_far (CellIn.set_far HI.out ?_ _) ?_ _ <;> simp
  · refine Below.setCell (Below.setCell B ?_ _) ?_ _ <;> (simp <;> omega)

set_option maxHeartbeats 1000000 in
theorem MoveMirror_any (lo hi : Nat) (n : Int) (v : Value) (xs : List C3) (w : World) (r : CellIn lo hi w v xs) (hhi : hi ≤ w.heap.size) :
    Calls Try.prog 35 #[.agg #[.int .i64 n, v], .func (.func 37) #[] #[]] w (FreshB (turnN n xs) (mirB n xs) w) := by
  obtain ⟨i0, hi0, hz0, hz1, hz2⟩ := info_parts3 info_cell
  obtain ⟨a, cap, rfl⟩ := r.form
  have hl := r.1
  have HR := Lib.hid (fun W (hb : Below w.heap.size w W) => r.below (hb.mono hhi))
  clear r
  by_cases hb : BlkOk n xs
  · rw [(turnB_yes hb).1, (turnB_yes hb).2.2]
    have HB := Lib.hid hb
    obtain ⟨m, rfl, hm1, hm4, hml⟩ := sz_nat hb
    have HX : Hid (movX mirC (mP m) xs (m * m) = mirL m xs) := Lib.hid (by unfold mirL; rw [hml, Int.toNat_natCast])
    have HML := Lib.hid hml
    have hl16 : xs.length ≤ 16 := by
      rw [hml]; exact Nat.mul_le_mul hm4 hm4
    rw [← HX.out]
    clear hb hml
    go_enter Try.func35, Try.ntmps35
    go_wp2_with fail
    refine (ImplBlockOk_yes lo hi m _ xs _ (HR.out _ (bel_n (bel0 w _) (Nat.le_refl _) _)) (by simp; omega) HB.out).mono ?_
    rintro e w1 ⟨rfl, hb1⟩
    have HBX := Lib.hid (bel_c (bel_n (bel0 w (.cells #[.int .i64 m, .slice a xs.length cap] 26)) (Nat.le_refl _) (.cells #[.int .i64 0, .slice none 0 0] 26)) (Nat.le_refl _) hb1)
    have HPO : Hid (w.heap.size + 1 < w1.heap.size) := Lib.hid (by have := hb1.size; simp at this; omega)
    have HP1 : Hid (BoxB w.heap.size (.int .i64 m) (.slice a xs.length cap) w1) := Lib.hid (((BoxB.new w (.int .i64 m) (.slice a xs.length cap) 26).below (bel0 _ _) (by simp)).below hb1 (by simp; omega))
    have HD1 : Hid (BoxB (w.heap.size + 1) (.int .i64 0) (.slice none 0 0) w1) := Lib.hid (by
      have h := BoxB.new (w.alloc (.cells #[.int .i64 m, .slice a xs.length cap] 26)) (.int .i64 0) (.slice none 0 0) 26
      exact (show BoxB (w.heap.size + 1) _ _ _ by simpa using h).below hb1 (by simp))
    have p0 := HP1.out.1
    have p1 := HP1.out.2.1
    clear hb1
    go_wp2_with (at_make; refine wpList_make_own _ rfl _ _ 24 rfl w1.heap.size 29 i0 _ 3 Try.underlying24 hi0 hz0 hz1 .i64 .i64 _ xs.length rfl rfl rfl (by rw [hz2]; omega) (by unfold maxLen; omega) (Nat.le_refl _) ?_; intro w2 hown2 hgrow2; have hb2 := own_none hgrow2; have p2 := kept hb2 p0)
    have HP2 := Lib.hid (HP1.out.below hb2 (by have := HPO.out; omega))
    have HD2 := Lib.hid (HD1.out.below hb2 HPO.out)
    have HB2 := Lib.hid (bel_c HBX.out (Nat.le_refl _) hb2)
    have HZ2 := hb2.size
    have HO2 : Hid (w2.ownsRow w1.heap.size 29 3 (.slice (some ⟨w1.heap.size, 0, none⟩) 0 xs.length) (0 * m) (places (movX mirC (mP m) xs (0 * m)))) := Lib.hid (by rw [Nat.zero_mul]; exact hown2)
    clear hb2 hgrow2 hown2 p0 p1 p2 HP1 HD1 HBX
    go_loopw [5, 18] (fun q i wr => ∃ y : Nat, y ≤ m ∧ i = .int .i64 y ∧ Hid (wr.ownsRow w1.heap.size 29 3 q (y * m) (places (movX mirC (mP m) xs (y * m)))) ∧ Hid (BoxB w.heap.size (.int .i64 m) (.slice a xs.length cap) wr) ∧ Hid (BoxB (w.heap.size + 1) (.int .i64 0) (.slice none 0 0) wr) ∧ Hid (Below w.heap.size w wr) ∧ w1.heap.size ≤ wr.heap.size) (fun _ i _ => m - (intOf i).toNat)
    case atStart => exact ⟨0, Nat.zero_le _, rfl, HO2, HP2, HD2, HB2, HZ2⟩
    case round =>
      clear HO2 HP2 HD2 HB2 HZ2
      obtain ⟨y, hk, rfl, hown0, hp0, hd0, hbel0, hsz0⟩ := hrel
      by_cases hlt : y < m
      · have q0 := hp0.out.1
        obtain ⟨wo, rfl⟩ : ∃ wo : World, wo = wr := ⟨_, rfl⟩
        go_wp2_with fail
        clear q0
        go_loopw [5, 23] (fun q i wr => ∃ x : Nat, x ≤ m ∧ i = .int .i64 x ∧ Hid (wr.ownsRow w1.heap.size 29 3 q (y * m + x) (places (movX mirC (mP m) xs (y * m + x)))) ∧ Hid (BoxB w.heap.size (.int .i64 m) (.slice a xs.length cap) wr) ∧ Hid (BoxB (w.heap.size + 1) (.int .i64 0) (.slice none 0 0) wr) ∧ Hid (Below w.heap.size w wr) ∧ w1.heap.size ≤ wr.heap.size) (fun _ i _ => m - (intOf i).toNat)
        case atStart => exact ⟨0, Nat.zero_le _, rfl, hown0, hp0, hd0, hbel0, hsz0⟩
        case round =>
          clear hown0 hp0 hd0 hbel0 hsz0
          obtain ⟨x, hx, rfl, hown, hp, hd, hbel, hsz⟩ := hrel
          by_cases hlt2 : x < m
          · have hyx : y * m + x ≤ 16 := by
              have h1 := Nat.mul_le_mul (show y ≤ 3 by omega) hm4
              omega
            have CT := Lib.hid (MirrorCellAt_ok lo hi m x y _ xs wr (HR.out _ hbel.out) (Nat.le_trans hhi hbel.out.size) HB.out hlt2 hlt)
            have HNX : Hid (places (movX mirC (mP m) xs (y * m + x)) ++ [.int .i64 (mirC (xs.getD (mP m (y * m + x)) C3.zero)).s, .int .i64 (mirC (xs.getD (mP m (y * m + x)) C3.zero)).a, .int .i64 (mirC (xs.getD (mP m (y * m + x)) C3.zero)).b] = places (movX mirC (mP m) xs (y * m + (x + 1)))) := Lib.hid (by
              rw [show y * m + (x + 1) = y * m + x + 1 by omega, movX_succ, places_more])
            generalize mirC (xs.getD (mP m (y * m + x)) C3.zero) = z at CT HNX
            have q0 := hp.out.1
            have q1 := hp.out.2.1
            go_wp2_with fail
            clear q0 q1
            refine CT.out.mono ?_
            rintro e w3 ⟨rfl, hb3⟩
            have hbn := bel_n hb3 (Nat.le_refl _) (.cells #[.int .i64 z.s, .int .i64 z.a, .int .i64 z.b] 29)
            have HO3 := Lib.hid (owns_below hown.out hbn)
            have HP3 := Lib.hid (hp.out.below hbn (by have := HPO.out; omega))
            have HD3 := Lib.hid (hd.out.below hbn (by have := HPO.out; omega))
            have HB3 := Lib.hid (bel_c hbel.out (Nat.le_refl _) hbn)
            have HZ3 : Hid (w1.heap.size ≤ (w3.alloc (.cells #[.int .i64 z.s, .int .i64 z.a, .int .i64 z.b] 29)).heap.size) := Lib.hid (Nat.le_trans hsz hbn.size)
            have HNW := Lib.hid (news3 w3 z)
            clear hb3 hbn hown hp hd hbel CT
            go_wp2_with (at_builtin; refine wpList_append_lies _ rfl _ _ 24 rfl w1.heap.size 29 i0 _ 3 24 Try.underlying24 hi0 hz0 hz1 hz2 rfl (by decide) _ _ _ rfl HO3.out ⟨w3.heap.size, 0, none⟩ 1 1 [.int .i64 z.s, .int .i64 z.a, .int .i64 z.b] rfl rfl HNW.out (by simp [Value.oneCell']) (by omega) (by unfold maxLen; omega) (by omega) HZ3.out (w3.heap.size + 1) (by simp) ?_; intro gg cc w4 hown4 hgrow hat hlt4)
            have hbw := (Below.refl w1.heap.size _).grown hgrow HZ3.out (own_ge3 HO3.out)
            have HP4 := Lib.hid (HP3.out.below hbw (by have := HPO.out; omega))
            have HD4 := Lib.hid (HD3.out.below hbw HPO.out)
            have HB4 := Lib.hid (HB3.out.trans (hbw.mono (by have := HPO.out; omega)))
            have HZ4 := Nat.le_trans HZ3.out hbw.size
            rw [HNX.out] at hown4
            have HO4 := Lib.hid hown4
            clear hown4 hgrow hat hlt4 hbw HO3 HP3 HD3 HB3 HNW HNX
            go_roundw
            case rel => exact ⟨x + 1, by omega, by go_num, HO4, HP4, HD4, HB4, HZ4⟩
            case measure => simp [intOf] <;> omega
          · obtain rfl : x = m := by omega
            have ho6 := hown.out
            rw [← Nat.succ_mul] at ho6
            have HO6 := Lib.hid ho6
            clear hown ho6
            go_wp2_with fail
            go_roundw
            case rel => exact ⟨y + 1, by omega, by go_num, HO6, hp, hd, hbel, hsz⟩
            case measure => simp [intOf] <;> omega
      · obtain rfl : y = m := by omega
        have hin := cells_of hown0.out (movX_length _ _ _ _) (by have := Nat.mul_le_mul hm4 hm4; omega)
        obtain ⟨ys, hys⟩ : ∃ ys, movX mirC (mP y) xs (y * y) = ys := ⟨_, rfl⟩
        rw [hys] at hin
        have HYS := Lib.hid hys
        obtain ⟨av, cv, rfl⟩ := hin.form
        have HI := Lib.hid hin
        obtain ⟨q0, q1, _, _⟩ := hp0.out
        obtain ⟨d0, d1, f0, f1⟩ := hd0.out
        have HPW := Lib.hid (by have := HPO.out; exact (⟨by omega, by omega⟩ : w.heap.size + 1 < w1.heap.size ∧ w.heap.size ≤ w1.heap.size))
        clear hin hown0 hp0 hd0 hys
        go_wp2_with fail
        refine bodyPost_ret (v := .agg #[.int .i64 y, .slice av ys.length cv]) (by simp [results, Try.results35, go_sem, d0, d1]) rfl ⟨_, rfl, ?_, ?_⟩
        · rw [HYS.out]
          refine CellIn.wide (lo := w1.heap.size) (hi := wr.heap.size) ?_ HPW.out.2 (by simp [World.setCell])
          refine CellIn.set_far (CellIn.set_far HI.out ?_ _) ?_ _ <;> (have := HPW.out; simp <;> omega)
        · refine Below.setCell (Below.setCell hbel0.out ?_ _) ?_ _ <;> (simp <;> omega)
  · rw [(turnB_no hb).1, (turnB_no hb).2.2]
    have HB := Lib.hid hb
    clear hb
    go_enter Try.func35, Try.ntmps35
    go_wp2_with fail
    refine (ImplBlockOk_no lo hi n _ xs _ (HR.out _ (bel_n (bel0 w _) (Nat.le_refl _) _)) (by simp; omega) HB.out).mono ?_
    rintro e w1 ⟨rfl, hb1⟩
    have d0 := kept (p := ⟨w.heap.size + 1, 0, none⟩) (x := .int .i64 0) hb1 (by go_simp)
    have d1 := kept (p := ⟨w.heap.size + 1, 1, none⟩) (x := .slice none 0 0) hb1 (by go_simp)
    have g0 := keptF (p := ⟨w.heap.size + 1, 0, none⟩) (x := .int .i64 0) hb1 (by go_simp) (by go_simp)
    have g1 := keptF (p := ⟨w.heap.size + 1, 1, none⟩) (x := .slice none 0 0) hb1 (by go_simp) (by go_simp)
    have B := bel_c (bel_n (bel0 w (.cells #[.int .i64 n, .slice a xs.length cap] 26)) (Nat.le_refl _) (.cells #[.int .i64 0, .slice none 0 0] 26)) (Nat.le_refl _) hb1
    clear hb1
    go_wp2_with fail
    refine bodyPost_ret (v := .agg #[.int .i64 0, .slice none 0 0]) (by simp [results, Try.results35, go_sem, d0, d1]) rfl ⟨.slice none 0 0, rfl, ⟨by simp, .inl ⟨rfl, _, _, rfl⟩⟩, ?_⟩
    refine Below.setCell (Below.setCell B ?_ _) ?_ _ <;> (simp <;> omega)
theorem ImplMirrorBlock_any (lo hi : Nat) (n : Int) (v : Value) (xs : List C3) (w : World) (r : CellIn lo hi w v xs) (hhi : hi ≤ w.heap.size) : Calls Try.prog 13 #[.agg #[.int .i64 n, v]] w (FreshB (turnN n xs) (mirB n xs) w) := by
  obtain ⟨a, cap, rfl⟩ := r.form
  have B0 := bel_n (bel0 w (.cells #[.int .i64 n, .slice a xs.length cap] 26)) (Nat.le_refl _) (.cells #[.int .i64 0, .slice none 0 0] 26)
  have CT := Lib.hid (MoveMirror_any lo hi n _ xs _ (r.below (B0.mono hhi)) (Nat.le_trans hhi B0.size))
  have HB0 := Lib.hid B0
  clear r B0
  obtain ⟨n', hn'⟩ : ∃ n', turnN n xs = n' := ⟨_, rfl⟩
  obtain ⟨ys, hys⟩ : ∃ ys, mirB n xs = ys := ⟨_, rfl⟩
  rw [hn', hys] at CT ⊢
  clear hn' hys
  go_enter Try.func13, Try.ntmps13
  go_wp2_with fail
  refine CT.out.mono ?_
  rintro e w1 ⟨v1, rfl, hin, hb1⟩
  obtain ⟨a1, c1, rfl⟩ := hin.form
  have d0 := kept (p := ⟨w.heap.size + 1, 0, none⟩) (x := .int .i64 0) hb1 (by go_simp)
  have d1 := kept (p := ⟨w.heap.size + 1, 1, none⟩) (x := .slice none 0 0) hb1 (by go_simp)
  have g0 := keptF (p := ⟨w.heap.size + 1, 0, none⟩) (x := .int .i64 0) hb1 (by go_simp) (by go_simp)
  have g1 := keptF (p := ⟨w.heap.size + 1, 1, none⟩) (x := .slice none 0 0) hb1 (by go_simp) (by go_simp)
  have B := bel_c HB0.out (Nat.le_refl _) hb1
  have HI := Lib.hid hin
  clear hb1 hin CT
  go_wp2_with fail
  refine bodyPost_ret (v := .agg #[.int .i64 n', .slice a1 ys.length c1]) (by simp [results, Try.results13, go_sem, d0, d1]) rfl ⟨_, rfl, ?_, ?_⟩
  · refine CellIn.wide (lo := ((w.alloc (.cells #[.int .i64 n, .slice a xs.length cap] 26)).alloc (.cells #[.int .i64 0, .slice none 0 0] 26)).heap.size) (hi := w1.heap.size) ?_ (by simp; omega) (by simp [World.setCell])
    refine CellIn.set_far (CellIn.set_far HI.out ?_ _) ?_ _ <;> simp
  · refine Below.setCell (Below.setCell B ?_ _) ?_ _ <;> (simp <;> omega)

end Go.Proofs.Ytfidnhhlcdbaeaa
