/- Turns: the program's moveCells, TurnBlock and MirrorBlock. Blocks: what a statement leaves that lays a variable and calls. Turns: the program's SeenFrom. Turns: the program's contracts. -/
import Derived.Test.YtahbadokkljoaaaGreatDoorM12
import Derived.Test.YtahbadokkljoaaaGreatDoorM10
import Derived.Test.YtahbadokkljoaaaGreatDoorM08
import Derived.Deep.AppendLies
import Derived.Test.YtahbadokkljoaaaGreatDoorM09
import Derived.Deep.DeepCutAuto
import Derived.Deep.RegionHeld3

namespace Go.Proofs.YtahbadokkljoaaaGreatDoor
open Go.ChangeShapes Go.WideShapes Go.ChangeAt Go.RowKit

theorem cells_of {u : World} {b n : Nat} {v : Value} {xs : List C3} (h : u.ownsRow b 50 3 v n (places xs)) (hn : xs.length = n) (hl : n ≤ 1048576) : CellIn b u.heap.size u v xs := by
  subst hn
  exact CellIn.of_owns h hl

set_option maxHeartbeats 1000000 in
theorem MoveTurn_any (lo hi : Nat) (n : Int) (v : Value) (xs : List C3) (w : World) (r : CellIn lo hi w v xs) (hhi : hi ≤ w.heap.size) :
    Calls Tryz.prog 59 #[.agg #[.int .i64 n, v], .func (.func 61) #[] #[]] w (FreshB (turnN n xs) (turnB n xs) w) := by
  obtain ⟨i0, hi0, hz0, hz1, hz2⟩ := info_parts3 info_cell
  obtain ⟨a, cap, rfl⟩ := r.form
  have hl := r.1
  have HR := Lib.hid (fun W (hb : Below w.heap.size w W) => r.below (hb.mono hhi))
  clear r
  by_cases hb : BlkOk n xs
  · rw [(turnB_yes hb).1, (turnB_yes hb).2.1]
    have HB := Lib.hid hb
    obtain ⟨m, rfl, hm1, hm4, hml⟩ := sz_nat hb
    have HX : Hid (movX turnC (tP m) xs (m * m) = turnL m xs) := Lib.hid (by unfold turnL; rw [hml, Int.toNat_natCast])
    have HML := Lib.hid hml
    have hl16 : xs.length ≤ 16 := by
      rw [hml]; exact Nat.mul_le_mul hm4 hm4
    rw [← HX.out]
    clear hb hml
    go_enter Tryz.func59, Tryz.ntmps59
    go_wp2_with fail
    refine (ImplBlockOk_yes lo hi m _ xs _ (HR.out _ (bel_n (bel0 w _) (Nat.le_refl _) _)) (by simp; omega) HB.out).mono ?_
    rintro e w1 ⟨rfl, hb1⟩
    have HBX := Lib.hid (bel_c (bel_n (bel0 w (.cells #[.int .i64 m, .slice a xs.length cap] 26)) (Nat.le_refl _) (.cells #[.int .i64 0, .slice none 0 0] 26)) (Nat.le_refl _) hb1)
    have HPO : Hid (w.heap.size + 1 < w1.heap.size) := Lib.hid (by have := hb1.size; simp at this; omega)
    have HP1 : Hid (BoxB w.heap.size (.int .i64 m) (.slice a xs.length cap) w1) := Lib.hid (((BoxB.new w (.int .i64 m) (.slice a xs.length cap) 26).below (bel0 _ _) (by simp)).below hb1 (by simp; omega))
    have HD1 : Hid (BoxB (w.heap.size + 1) (.int .i64 0) (.slice none 0 0) w1) := Lib.hid (by
      have h := BoxB.new (w.alloc (.cells #[.int .i64 m, .slice a xs.length cap] 26)) (.int .i64 0) (.slice none 0 0) 26
      exact (show BoxB (w.heap.size + 1) _ _ _ by simpa using h).below hb1 (by simp))
    have p0 := HP1.out.1
    have p1 := HP1.out.2.1
    clear hb1
    go_wp2_with (at_make; refine wpList_make_own _ rfl _ _ 24 rfl w1.heap.size 50 i0 _ 3 Tryz.underlying24 hi0 hz0 hz1 .i64 .i64 _ xs.length rfl rfl rfl (by rw [hz2]; omega) (by unfold maxLen; omega) (Nat.le_refl _) ?_; intro w2 hown2 hgrow2; have hb2 := own_none hgrow2; have p2 := kept hb2 p0)
    have HP2 := Lib.hid (HP1.out.below hb2 (by have := HPO.out; omega))
    have HD2 := Lib.hid (HD1.out.below hb2 HPO.out)
    have HB2 := Lib.hid (bel_c HBX.out (Nat.le_refl _) hb2)
    have HZ2 := hb2.size
    have HO2 : Hid (w2.ownsRow w1.heap.size 50 3 (.slice (some ⟨w1.heap.size, 0, none⟩) 0 xs.length) (0 * m) (places (movX turnC (tP m) xs (0 * m)))) := Lib.hid (by rw [Nat.zero_mul]; exact hown2)
    clear hb2 hgrow2 hown2 p0 p1 p2 HP1 HD1 HBX
    go_loopw [5, 18] (fun q i wr => ∃ y : Nat, y ≤ m ∧ i = .int .i64 y ∧ Hid (wr.ownsRow w1.heap.size 50 3 q (y * m) (places (movX turnC (tP m) xs (y * m)))) ∧ Hid (BoxB w.heap.size (.int .i64 m) (.slice a xs.length cap) wr) ∧ Hid (BoxB (w.heap.size + 1) (.int .i64 0) (.slice none 0 0) wr) ∧ Hid (Below w.heap.size w wr) ∧ w1.heap.size ≤ wr.heap.size) (fun _ i _ => m - (intOf i).toNat)
    case atStart => exact ⟨0, Nat.zero_le _, rfl, HO2, HP2, HD2, HB2, HZ2⟩
    case round =>
      clear HO2 HP2 HD2 HB2 HZ2
      obtain ⟨y, hk, rfl, hown0, hp0, hd0, hbel0, hsz0⟩ := hrel
      by_cases hlt : y < m
      · have q0 := hp0.out.1
        obtain ⟨wo, rfl⟩ : ∃ wo : World, wo = wr := ⟨_, rfl⟩
        go_wp2_with fail
        clear q0
        go_loopw [5, 23] (fun q i wr => ∃ x : Nat, x ≤ m ∧ i = .int .i64 x ∧ Hid (wr.ownsRow w1.heap.size 50 3 q (y * m + x) (places (movX turnC (tP m) xs (y * m + x)))) ∧ Hid (BoxB w.heap.size (.int .i64 m) (.slice a xs.length cap) wr) ∧ Hid (BoxB (w.heap.size + 1) (.int .i64 0) (.slice none 0 0) wr) ∧ Hid (Below w.heap.size w wr) ∧ w1.heap.size ≤ wr.heap.size) (fun _ i _ => m - (intOf i).toNat)
        case atStart => exact ⟨0, Nat.zero_le _, rfl, hown0, hp0, hd0, hbel0, hsz0⟩
        case round =>
          clear hown0 hp0 hd0 hbel0 hsz0
          obtain ⟨x, hx, rfl, hown, hp, hd, hbel, hsz⟩ := hrel
          by_cases hlt2 : x < m
          · have hyx : y * m + x ≤ 16 := by
              have h1 := Nat.mul_le_mul (show y ≤ 3 by omega) hm4
              omega
            have CT := Lib.hid (TurnCellAt_ok lo hi m x y _ xs wr (HR.out _ hbel.out) (Nat.le_trans hhi hbel.out.size) HB.out hlt2 hlt)
            have HNX : Hid (places (movX turnC (tP m) xs (y * m + x)) ++ [.int .i64 (turnC (xs.getD (tP m (y * m + x)) C3.zero)).s, .int .i64 (turnC (xs.getD (tP m (y * m + x)) C3.zero)).a, .int .i64 (turnC (xs.getD (tP m (y * m + x)) C3.zero)).b] = places (movX turnC (tP m) xs (y * m + (x + 1)))) := Lib.hid (by
              rw [show y * m + (x + 1) = y * m + x + 1 by omega, movX_succ, places_more])
            generalize turnC (xs.getD (tP m (y * m + x)) C3.zero) = z at CT HNX
            have q0 := hp.out.1
            have q1 := hp.out.2.1
            go_wp2_with fail
            clear q0 q1
            refine CT.out.mono ?_
            rintro e w3 ⟨rfl, hb3⟩
            have hbn := bel_n hb3 (Nat.le_refl _) (.cells #[.int .i64 z.s, .int .i64 z.a, .int .i64 z.b] 50)
            have HO3 := Lib.hid (owns_below hown.out hbn)
            have HP3 := Lib.hid (hp.out.below hbn (by have := HPO.out; omega))
            have HD3 := Lib.hid (hd.out.below hbn (by have := HPO.out; omega))
            have HB3 := Lib.hid (bel_c hbel.out (Nat.le_refl _) hbn)
            have HZ3 : Hid (w1.heap.size ≤ (w3.alloc (.cells #[.int .i64 z.s, .int .i64 z.a, .int .i64 z.b] 50)).heap.size) := Lib.hid (Nat.le_trans hsz hbn.size)
            have HNW := Lib.hid (news3 w3 z)
            clear hb3 hbn hown hp hd hbel CT
            go_wp2_with (at_builtin; refine wpList_append_lies _ rfl _ _ 24 rfl w1.heap.size 50 i0 _ 3 24 Tryz.underlying24 hi0 hz0 hz1 hz2 rfl (by decide) _ _ _ rfl HO3.out ⟨w3.heap.size, 0, none⟩ 1 1 [.int .i64 z.s, .int .i64 z.a, .int .i64 z.b] rfl rfl HNW.out (by simp [Value.oneCell']) (by omega) (by unfold maxLen; omega) (by omega) HZ3.out (w3.heap.size + 1) (by simp) ?_; intro gg cc w4 hown4 hgrow hat hlt4)
            have hbw := (Below.refl w1.heap.size _).grown hgrow HZ3.out (own_ge3 HO3.out)
            have HP4 := Lib.hid (HP3.out.below hbw (by have := HPO.out; omega))
            have HD4 := Lib.hid (HD3.out.below hbw HPO.out)
            have HB4 := Lib.hid (HB3.out.trans (hbw.mono (by have := HPO.out; omega)))
            have HZ4 := Nat.le_trans HZ3.out hbw.size
            rw [HNX.out] at hown4
            have HO4 := Lib.hid hown4
            clear hown4 hgrow hat hlt4 hbw HO3 HP3 HD3 HB3 HNW HNX
            go_roundw
            case rel => exact ⟨x + 1, by omega, by go_num, HO4, HP4, HD4, HB4, HZ4⟩
            case measure => simp [intOf] <;> omega
          · obtain rfl : x = m := by omega
            have ho6 := hown.out
            rw [← Nat.succ_mul] at ho6
            have HO6 := Lib.hid ho6
            clear hown ho6
            go_wp2_with fail
            go_roundw
            case rel => exact ⟨y + 1, by omega, by go_num, HO6, hp, hd, hbel, hsz⟩
            case measure => simp [intOf] <;> omega
      · obtain rfl : y = m := by omega
        have hin := cells_of hown0.out (movX_length _ _ _ _) (by have := Nat.mul_le_mul hm4 hm4; omega)
        obtain ⟨ys, hys⟩ : ∃ ys, movX turnC (tP y) xs (y * y) = ys := ⟨_, rfl⟩
        rw [hys] at hin
        have HYS := Lib.hid hys
        obtain ⟨av, cv, rfl⟩ := hin.form
        have HI := Lib.hid hin
        obtain ⟨q0, q1, _, _⟩ := hp0.out
        obtain ⟨d0, d1, f0, f1⟩ := hd0.out
        have HPW := Lib.hid (by have := HPO.out; exact (⟨by omega, by omega⟩ : w.heap.size + 1 < w1.heap.size ∧ w.heap.size ≤ w1.heap.size))
        clear hin hown0 hp0 hd0 hys
        go_wp2_with fail
        refine bodyPost_ret (v := .agg #[.int .i64 y, .slice av ys.length cv]) (by simp [results, Tryz.results59, go_sem, d0, d1]) rfl ⟨_, rfl, ?_, ?_⟩
        · rw [HYS.out]
          refine CellIn.wide (lo := w1.heap.size) (hi := wr.heap.size) ?_ HPW.out.2 (by simp [World.setCell])
          refine CellIn.set_far (CellIn.set_far HI.out ?_ _) ?_ _ <;> (have := HPW.out; simp <;> omega)
        · refine Below.setCell (Below.setCell hbel0.out ?_ _) ?_ _ <;> (simp <;> omega)
  · rw [(turnB_no hb).1, (turnB_no hb).2.1]
    have HB := Lib.hid hb
    clear hb
    go_enter Tryz.func59, Tryz.ntmps59
    go_wp2_with fail
    refine (ImplBlockOk_no lo hi n _ xs _ (HR.out _ (bel_n (bel0 w _) (Nat.le_refl _) _)) (by simp; omega) HB.out).mono ?_
    rintro e w1 ⟨rfl, hb1⟩
    have d0 := kept (p := ⟨w.heap.size + 1, 0, none⟩) (x := .int .i64 0) hb1 (by go_simp)
    have d1 := kept (p := ⟨w.heap.size + 1, 1, none⟩) (x := .slice none 0 0) hb1 (by go_simp)
    have g0 := keptF (p := ⟨w.heap.size + 1, 0, none⟩) (x := .int .i64 0) hb1 (by go_simp) (by go_simp)
    have g1 := keptF (p := ⟨w.heap.size + 1, 1, none⟩) (x := .slice none 0 0) hb1 (by go_simp) (by go_simp)
    have B := bel_c (bel_n (bel0 w (.cells #[.int .i64 n, .slice a xs.length cap] 26)) (Nat.le_refl _) (.cells #[.int .i64 0, .slice none 0 0] 26)) (Nat.le_refl _) hb1
    clear hb1
    go_wp2_with fail
    refine bodyPost_ret (v := .agg #[.int .i64 0, .slice none 0 0]) (by simp [results, Tryz.results59, go_sem, d0, d1]) rfl ⟨.slice none 0 0, rfl, ⟨by simp, .inl ⟨rfl, _, _, rfl⟩⟩, ?_⟩
    refine Below.setCell (Below.setCell B ?_ _) ?_ _ <;> (simp <;> omega)
theorem ImplTurnBlock_any (lo hi : Nat) (n : Int) (v : Value) (xs : List C3) (w : World) (r : CellIn lo hi w v xs) (hhi : hi ≤ w.heap.size) : Calls Tryz.prog 47 #[.agg #[.int .i64 n, v]] w (FreshB (turnN n xs) (turnB n xs) w) := by
  obtain ⟨a, cap, rfl⟩ := r.form
  have B0 := bel_n (bel0 w (.cells #[.int .i64 n, .slice a xs.length cap] 26)) (Nat.le_refl _) (.cells #[.int .i64 0, .slice none 0 0] 26)
  have CT := Lib.hid (MoveTurn_any lo hi n _ xs _ (r.below (B0.mono hhi)) (Nat.le_trans hhi B0.size))
  have HB0 := Lib.hid B0
  clear r B0
  obtain ⟨n', hn'⟩ : ∃ n', turnN n xs = n' := ⟨_, rfl⟩
  obtain ⟨ys, hys⟩ : ∃ ys, turnB n xs = ys := ⟨_, rfl⟩
  rw [hn', hys] at CT ⊢
  clear hn' hys
  go_enter Tryz.func47, Tryz.ntmps47
  go_wp2_with fail
  refine CT.out.mono ?_
  rintro e w1 ⟨v1, rfl, hin, hb1⟩
  obtain ⟨a1, c1, rfl⟩ := hin.form
  have d0 := kept (p := ⟨w.heap.size + 1, 0, none⟩) (x := .int .i64 0) hb1 (by go_simp)
  have d1 := kept (p := ⟨w.heap.size + 1, 1, none⟩) (x := .slice none 0 0) hb1 (by go_simp)
  have g0 := keptF (p := ⟨w.heap.size + 1, 0, none⟩) (x := .int .i64 0) hb1 (by go_simp) (by go_simp)
  have g1 := keptF (p := ⟨w.heap.size + 1, 1, none⟩) (x := .slice none 0 0) hb1 (by go_simp) (by go_simp)
  have B := bel_c HB0.out (Nat.le_refl _) hb1
  have HI := Lib.hid hin
  clear hb1 hin CT
  go_wp2_with fail
  refine bodyPost_ret (v := .agg #[.int .i64 n', .slice a1 ys.length c1]) (by simp [results, Tryz.results47, go_sem, d0, d1]) rfl ⟨_, rfl, ?_, ?_⟩
  · refine CellIn.wide (lo := ((w.alloc (.cells #[.int .i64 n, .slice a xs.length cap] 26)).alloc (.cells #[.int .i64 0, .slice none 0 0] 26)).heap.size) (hi := w1.heap.size) ?_ (by simp; omega) (by simp [World.setCell])
    refine CellIn.set_far (CellIn.set_far HI.out ?_ _) ?_ _ <;> simp
  · refine Below.setCell (Below.setCell B ?_ _) ?_ _ <;> (simp <;> omega)

set_option maxHeartbeats 1000000 in
theorem MoveMirror_any (lo hi : Nat) (n : Int) (v : Value) (xs : List C3) (w : World) (r : CellIn lo hi w v xs) (hhi : hi ≤ w.heap.size) :
    Calls Tryz.prog 59 #[.agg #[.int .i64 n, v], .func (.func 60) #[] #[]] w (FreshB (turnN n xs) (mirB n xs) w) := by
  obtain ⟨i0, hi0, hz0, hz1, hz2⟩ := info_parts3 info_cell
  obtain ⟨a, cap, rfl⟩ := r.form
  have hl := r.1
  have HR := Lib.hid (fun W (hb : Below w.heap.size w W) => r.below (hb.mono hhi))
  clear r
  by_cases hb : BlkOk n xs
  · rw [(turnB_yes hb).1, (turnB_yes hb).2.2]
    have HB := Lib.hid hb
    obtain ⟨m, rfl, hm1, hm4, hml⟩ := sz_nat hb
    have HX : Hid (movX mirC (mP m) xs (m * m) = mirL m xs) := Lib.hid (by unfold mirL; rw [hml, Int.toNat_natCast])
    have HML := Lib.hid hml
    have hl16 : xs.length ≤ 16 := by
      rw [hml]; exact Nat.mul_le_mul hm4 hm4
    rw [← HX.out]
    clear hb hml
    go_enter Tryz.func59, Tryz.ntmps59
    go_wp2_with fail
    refine (ImplBlockOk_yes lo hi m _ xs _ (HR.out _ (bel_n (bel0 w _) (Nat.le_refl _) _)) (by simp; omega) HB.out).mono ?_
    rintro e w1 ⟨rfl, hb1⟩
    have HBX := Lib.hid (bel_c (bel_n (bel0 w (.cells #[.int .i64 m, .slice a xs.length cap] 26)) (Nat.le_refl _) (.cells #[.int .i64 0, .slice none 0 0] 26)) (Nat.le_refl _) hb1)
    have HPO : Hid (w.heap.size + 1 < w1.heap.size) := Lib.hid (by have := hb1.size; simp at this; omega)
    have HP1 : Hid (BoxB w.heap.size (.int .i64 m) (.slice a xs.length cap) w1) := Lib.hid (((BoxB.new w (.int .i64 m) (.slice a xs.length cap) 26).below (bel0 _ _) (by simp)).below hb1 (by simp; omega))
    have HD1 : Hid (BoxB (w.heap.size + 1) (.int .i64 0) (.slice none 0 0) w1) := Lib.hid (by
      have h := BoxB.new (w.alloc (.cells #[.int .i64 m, .slice a xs.length cap] 26)) (.int .i64 0) (.slice none 0 0) 26
      exact (show BoxB (w.heap.size + 1) _ _ _ by simpa using h).below hb1 (by simp))
    have p0 := HP1.out.1
    have p1 := HP1.out.2.1
    clear hb1
    go_wp2_with (at_make; refine wpList_make_own _ rfl _ _ 24 rfl w1.heap.size 50 i0 _ 3 Tryz.underlying24 hi0 hz0 hz1 .i64 .i64 _ xs.length rfl rfl rfl (by rw [hz2]; omega) (by unfold maxLen; omega) (Nat.le_refl _) ?_; intro w2 hown2 hgrow2; have hb2 := own_none hgrow2; have p2 := kept hb2 p0)
    have HP2 := Lib.hid (HP1.out.below hb2 (by have := HPO.out; omega))
    have HD2 := Lib.hid (HD1.out.below hb2 HPO.out)
    have HB2 := Lib.hid (bel_c HBX.out (Nat.le_refl _) hb2)
    have HZ2 := hb2.size
    have HO2 : Hid (w2.ownsRow w1.heap.size 50 3 (.slice (some ⟨w1.heap.size, 0, none⟩) 0 xs.length) (0 * m) (places (movX mirC (mP m) xs (0 * m)))) := Lib.hid (by rw [Nat.zero_mul]; exact hown2)
    clear hb2 hgrow2 hown2 p0 p1 p2 HP1 HD1 HBX
    go_loopw [5, 18] (fun q i wr => ∃ y : Nat, y ≤ m ∧ i = .int .i64 y ∧ Hid (wr.ownsRow w1.heap.size 50 3 q (y * m) (places (movX mirC (mP m) xs (y * m)))) ∧ Hid (BoxB w.heap.size (.int .i64 m) (.slice a xs.length cap) wr) ∧ Hid (BoxB (w.heap.size + 1) (.int .i64 0) (.slice none 0 0) wr) ∧ Hid (Below w.heap.size w wr) ∧ w1.heap.size ≤ wr.heap.size) (fun _ i _ => m - (intOf i).toNat)
    case atStart => exact ⟨0, Nat.zero_le _, rfl, HO2, HP2, HD2, HB2, HZ2⟩
    case round =>
      clear HO2 HP2 HD2 HB2 HZ2
      obtain ⟨y, hk, rfl, hown0, hp0, hd0, hbel0, hsz0⟩ := hrel
      by_cases hlt : y < m
      · have q0 := hp0.out.1
        obtain ⟨wo, rfl⟩ : ∃ wo : World, wo = wr := ⟨_, rfl⟩
        go_wp2_with fail
        clear q0
        go_loopw [5, 23] (fun q i wr => ∃ x : Nat, x ≤ m ∧ i = .int .i64 x ∧ Hid (wr.ownsRow w1.heap.size 50 3 q (y * m + x) (places (movX mirC (mP m) xs (y * m + x)))) ∧ Hid (BoxB w.heap.size (.int .i64 m) (.slice a xs.length cap) wr) ∧ Hid (BoxB (w.heap.size + 1) (.int .i64 0) (.slice none 0 0) wr) ∧ Hid (Below w.heap.size w wr) ∧ w1.heap.size ≤ wr.heap.size) (fun _ i _ => m - (intOf i).toNat)
        case atStart => exact ⟨0, Nat.zero_le _, rfl, hown0, hp0, hd0, hbel0, hsz0⟩
        case round =>
          clear hown0 hp0 hd0 hbel0 hsz0
          obtain ⟨x, hx, rfl, hown, hp, hd, hbel, hsz⟩ := hrel
          by_cases hlt2 : x < m
          · have hyx : y * m + x ≤ 16 := by
              have h1 := Nat.mul_le_mul (show y ≤ 3 by omega) hm4
              omega
            have CT := Lib.hid (MirrorCellAt_ok lo hi m x y _ xs wr (HR.out _ hbel.out) (Nat.le_trans hhi hbel.out.size) HB.out hlt2 hlt)
            have HNX : Hid (places (movX mirC (mP m) xs (y * m + x)) ++ [.int .i64 (mirC (xs.getD (mP m (y * m + x)) C3.zero)).s, .int .i64 (mirC (xs.getD (mP m (y * m + x)) C3.zero)).a, .int .i64 (mirC (xs.getD (mP m (y * m + x)) C3.zero)).b] = places (movX mirC (mP m) xs (y * m + (x + 1)))) := Lib.hid (by
              rw [show y * m + (x + 1) = y * m + x + 1 by omega, movX_succ, places_more])
            generalize mirC (xs.getD (mP m (y * m + x)) C3.zero) = z at CT HNX
            have q0 := hp.out.1
            have q1 := hp.out.2.1
            go_wp2_with fail
            clear q0 q1
            refine CT.out.mono ?_
            rintro e w3 ⟨rfl, hb3⟩
            have hbn := bel_n hb3 (Nat.le_refl _) (.cells #[.int .i64 z.s, .int .i64 z.a, .int .i64 z.b] 50)
            have HO3 := Lib.hid (owns_below hown.out hbn)
            have HP3 := Lib.hid (hp.out.below hbn (by have := HPO.out; omega))
            have HD3 := Lib.hid (hd.out.below hbn (by have := HPO.out; omega))
            have HB3 := Lib.hid (bel_c hbel.out (Nat.le_refl _) hbn)
            have HZ3 : Hid (w1.heap.size ≤ (w3.alloc (.cells #[.int .i64 z.s, .int .i64 z.a, .int .i64 z.b] 50)).heap.size) := Lib.hid (Nat.le_trans hsz hbn.size)
            have HNW := Lib.hid (news3 w3 z)
            clear hb3 hbn hown hp hd hbel CT
            go_wp2_with (at_builtin; refine wpList_append_lies _ rfl _ _ 24 rfl w1.heap.size 50 i0 _ 3 24 Tryz.underlying24 hi0 hz0 hz1 hz2 rfl (by decide) _ _ _ rfl HO3.out ⟨w3.heap.size, 0, none⟩ 1 1 [.int .i64 z.s, .int .i64 z.a, .int .i64 z.b] rfl rfl HNW.out (by simp [Value.oneCell']) (by omega) (by unfold maxLen; omega) (by omega) HZ3.out (w3.heap.size + 1) (by simp) ?_; intro gg cc w4 hown4 hgrow hat hlt4)
            have hbw := (Below.refl w1.heap.size _).grown hgrow HZ3.out (own_ge3 HO3.out)
            have HP4 := Lib.hid (HP3.out.below hbw (by have := HPO.out; omega))
            have HD4 := Lib.hid (HD3.out.below hbw HPO.out)
            have HB4 := Lib.hid (HB3.out.trans (hbw.mono (by have := HPO.out; omega)))
            have HZ4 := Nat.le_trans HZ3.out hbw.size
            rw [HNX.out] at hown4
            have HO4 := Lib.hid hown4
            clear hown4 hgrow hat hlt4 hbw HO3 HP3 HD3 HB3 HNW HNX
            go_roundw
            case rel => exact ⟨x + 1, by omega, by go_num, HO4, HP4, HD4, HB4, HZ4⟩
            case measure => simp [intOf] <;> omega
          · obtain rfl : x = m := by omega
            have ho6 := hown.out
            rw [← Nat.succ_mul] at ho6
            have HO6 := Lib.hid ho6
            clear hown ho6
            go_wp2_with fail
            go_roundw
            case rel => exact ⟨y + 1, by omega, by go_num, HO6, hp, hd, hbel, hsz⟩
            case measure => simp [intOf] <;> omega
      · obtain rfl : y = m := by omega
        have hin := cells_of hown0.out (movX_length _ _ _ _) (by have := Nat.mul_le_mul hm4 hm4; omega)
        obtain ⟨ys, hys⟩ : ∃ ys, movX mirC (mP y) xs (y * y) = ys := ⟨_, rfl⟩
        rw [hys] at hin
        have HYS := Lib.hid hys
        obtain ⟨av, cv, rfl⟩ := hin.form
        have HI := Lib.hid hin
        obtain ⟨q0, q1, _, _⟩ := hp0.out
        obtain ⟨d0, d1, f0, f1⟩ := hd0.out
        have HPW := Lib.hid (by have := HPO.out; exact (⟨by omega, by omega⟩ : w.heap.size + 1 < w1.heap.size ∧ w.heap.size ≤ w1.heap.size))
        clear hin hown0 hp0 hd0 hys
        go_wp2_with fail
        refine bodyPost_ret (v := .agg #[.int .i64 y, .slice av ys.length cv]) (by simp [results, Tryz.results59, go_sem, d0, d1]) rfl ⟨_, rfl, ?_, ?_⟩
        · rw [HYS.out]
          refine CellIn.wide (lo := w1.heap.size) (hi := wr.heap.size) ?_ HPW.out.2 (by simp [World.setCell])
          refine CellIn.set_far (CellIn.set_far HI.out ?_ _) ?_ _ <;> (have := HPW.out; simp <;> omega)
        · refine Below.setCell (Below.setCell hbel0.out ?_ _) ?_ _ <;> (simp <;> omega)
  · rw [(turnB_no hb).1, (turnB_no hb).2.2]
    have HB := Lib.hid hb
    clear hb
    go_enter Tryz.func59, Tryz.ntmps59
    go_wp2_with fail
    refine (ImplBlockOk_no lo hi n _ xs _ (HR.out _ (bel_n (bel0 w _) (Nat.le_refl _) _)) (by simp; omega) HB.out).mono ?_
    rintro e w1 ⟨rfl, hb1⟩
    have d0 := kept (p := ⟨w.heap.size + 1, 0, none⟩) (x := .int .i64 0) hb1 (by go_simp)
    have d1 := kept (p := ⟨w.heap.size + 1, 1, none⟩) (x := .slice none 0 0) hb1 (by go_simp)
    have g0 := keptF (p := ⟨w.heap.size + 1, 0, none⟩) (x := .int .i64 0) hb1 (by go_simp) (by go_simp)
    have g1 := keptF (p := ⟨w.heap.size + 1, 1, none⟩) (x := .slice none 0 0) hb1 (by go_simp) (by go_simp)
    have B := bel_c (bel_n (bel0 w (.cells #[.int .i64 n, .slice a xs.length cap] 26)) (Nat.le_refl _) (.cells #[.int .i64 0, .slice none 0 0] 26)) (Nat.le_refl _) hb1
    clear hb1
    go_wp2_with fail
    refine bodyPost_ret (v := .agg #[.int .i64 0, .slice none 0 0]) (by simp [results, Tryz.results59, go_sem, d0, d1]) rfl ⟨.slice none 0 0, rfl, ⟨by simp, .inl ⟨rfl, _, _, rfl⟩⟩, ?_⟩
    refine Below.setCell (Below.setCell B ?_ _) ?_ _ <;> (simp <;> omega)
theorem ImplMirrorBlock_any (lo hi : Nat) (n : Int) (v : Value) (xs : List C3) (w : World) (r : CellIn lo hi w v xs) (hhi : hi ≤ w.heap.size) : Calls Tryz.prog 46 #[.agg #[.int .i64 n, v]] w (FreshB (turnN n xs) (mirB n xs) w) := by
  obtain ⟨a, cap, rfl⟩ := r.form
  have B0 := bel_n (bel0 w (.cells #[.int .i64 n, .slice a xs.length cap] 26)) (Nat.le_refl _) (.cells #[.int .i64 0, .slice none 0 0] 26)
  have CT := Lib.hid (MoveMirror_any lo hi n _ xs _ (r.below (B0.mono hhi)) (Nat.le_trans hhi B0.size))
  have HB0 := Lib.hid B0
  clear r B0
  obtain ⟨n', hn'⟩ : ∃ n', turnN n xs = n' := ⟨_, rfl⟩
  obtain ⟨ys, hys⟩ : ∃ ys, mirB n xs = ys := ⟨_, rfl⟩
  rw [hn', hys] at CT ⊢
  clear hn' hys
  go_enter Tryz.func46, Tryz.ntmps46
  go_wp2_with fail
  refine CT.out.mono ?_
  rintro e w1 ⟨v1, rfl, hin, hb1⟩
  obtain ⟨a1, c1, rfl⟩ := hin.form
  have d0 := kept (p := ⟨w.heap.size + 1, 0, none⟩) (x := .int .i64 0) hb1 (by go_simp)
  have d1 := kept (p := ⟨w.heap.size + 1, 1, none⟩) (x := .slice none 0 0) hb1 (by go_simp)
  have g0 := keptF (p := ⟨w.heap.size + 1, 0, none⟩) (x := .int .i64 0) hb1 (by go_simp) (by go_simp)
  have g1 := keptF (p := ⟨w.heap.size + 1, 1, none⟩) (x := .slice none 0 0) hb1 (by go_simp) (by go_simp)
  have B := bel_c HB0.out (Nat.le_refl _) hb1
  have HI := Lib.hid hin
  clear hb1 hin CT
  go_wp2_with fail
  refine bodyPost_ret (v := .agg #[.int .i64 n', .slice a1 ys.length c1]) (by simp [results, Tryz.results46, go_sem, d0, d1]) rfl ⟨_, rfl, ?_, ?_⟩
  · refine CellIn.wide (lo := ((w.alloc (.cells #[.int .i64 n, .slice a xs.length cap] 26)).alloc (.cells #[.int .i64 0, .slice none 0 0] 26)).heap.size) (hi := w1.heap.size) ?_ (by simp; omega) (by simp [World.setCell])
    refine CellIn.set_far (CellIn.set_far HI.out ?_ _) ?_ _ <;> simp
  · refine Below.setCell (Below.setCell B ?_ _) ?_ _ <;> (simp <;> omega)

end Go.Proofs.YtahbadokkljoaaaGreatDoor

namespace Go.Proofs.YtahbadokkljoaaaGreatDoor
open Go.ChangeShapes Go.WideShapes Go.ChangeAt Go.RowKit

/-- What such a statement leaves: the new variable's block, and the row that it leads to. -/
def WR (n : Int) (ok : Bool) (ys : List C3) (w0 : World) (q t : Value) (wx : World) : Prop :=
  ∃ (p : Nat) (a : Option Addr) (c l h : Nat), q = .pointer (some ⟨p, 0, none⟩) ∧ t = .bool ok ∧ BoxB p (.int .i64 n) (.slice a ys.length c) wx ∧ CellIn l h wx (.slice a ys.length c) ys ∧ (p < l ∨ h ≤ p) ∧ w0.heap.size ≤ l ∧ w0.heap.size ≤ p ∧ h ≤ wx.heap.size ∧ Below w0.heap.size w0 wx
theorem Three.within {p lo hi : Nat} {c : C3} {u v : World} (h : Three p c u) (hb : Within lo hi u v) (ho : p < lo ∨ hi ≤ p) : Three p c v := ⟨hb.cell h.1 ho, hb.cell h.2.1 ho, hb.cell h.2.2 ho⟩
theorem BoxB.two {p : Nat} {x y x' y' : Value} {u : World} (h : BoxB p x y u) : BoxB p x' y' ((u.setCell ⟨p, 0, none⟩ x').setCell ⟨p, 1, none⟩ y') := by
  obtain ⟨h0, h1, h2, h3⟩ := h
  have h1' : (u.setCell ⟨p, 0, none⟩ x').cell? ⟨p, 1, none⟩ = some y := (World.cell?_setCell_other _ _ _ _ (by simp)).trans h1
  exact ⟨(World.cell?_setCell_other _ _ _ _ (by simp)).trans (World.cell?_setCell_same _ _ _ h0), World.cell?_setCell_same _ _ _ h1', by rw [World.frozen?_setCell, World.frozen?_setCell]; exact h2, by rw [World.frozen?_setCell, World.frozen?_setCell]; exact h3⟩
theorem WR.old {n : Int} {ok : Bool} {ys : List C3} {w0 z : World} {a : Option Addr} {c l p : Nat} {x y : Value} (R : CellIn l z.heap.size z (.slice a ys.length c) ys) (b : BoxB p x y z) (B : Below w0.heap.size w0 z) (hl : w0.heap.size ≤ l) (hp : w0.heap.size ≤ p) (hpl : p < l ∨ p < l) :
    WR n ok ys w0 (.pointer (some ⟨p, 0, none⟩)) (.bool ok) ((z.setCell ⟨p, 0, none⟩ (.int .i64 n)).setCell ⟨p, 1, none⟩ (.slice a ys.length c)) :=
  ⟨p, a, c, l, z.heap.size, rfl, rfl, b.two, (R.set_far (by show p < l; omega) _).set_far (by show p < l; omega) _, .inl (by omega), hl, hp, by simp [World.setCell], (B.setCell (p := ⟨p, 0, none⟩) hp _).setCell (p := ⟨p, 1, none⟩) hp _⟩
theorem WR.new {n : Int} {ok : Bool} {ys : List C3} {w0 z : World} {a : Option Addr} {c l : Nat} (R : CellIn l z.heap.size z (.slice a ys.length c) ys) (B : Below w0.heap.size w0 z) (hl : w0.heap.size ≤ l) :
    WR n ok ys w0 (.pointer (some ⟨z.heap.size, 0, none⟩)) (.bool ok) (z.alloc (.cells #[.int .i64 n, .slice a ys.length c] 26)) :=
  ⟨z.heap.size, a, c, l, z.heap.size, rfl, rfl, BoxB.new _ _ _ _, R.below (bel0 _ _), .inr (Nat.le_refl _), hl, B.size, by simp, bel_n B (Nat.le_refl _) _⟩

end Go.Proofs.YtahbadokkljoaaaGreatDoor

namespace Go.Proofs.YtahbadokkljoaaaGreatDoor
open Go.ChangeShapes Go.WideShapes Go.ChangeAt Go.RowKit

theorem nilC_yes (n cap : Nat) (w : World) : (Sem.run Tryz.prog (binOp BinOp.eql 24 (Value.slice none n cap) (Value.slice none 0 0)) w) = Result.ok (.bool true) w := by kernel_rfl
theorem nilC_no (g : Addr) (n cap : Nat) (w : World) : (Sem.run Tryz.prog (binOp BinOp.eql 24 (Value.slice (some g) n cap) (Value.slice none 0 0)) w) = Result.ok (.bool false) w := by kernel_rfl
set_option maxHeartbeats 400000 in
theorem CloneC_any (lo hi : Nat) (v : Value) (xs : List C3) (w : World) (r : CellIn lo hi w v xs) (hhi : hi ≤ w.heap.size) : Calls Tryz.prog 45 #[v] w (FreshC xs w) := by
  obtain ⟨i0, hi0, hz0, hz1, hz2⟩ := info_parts3 info_cell
  obtain ⟨a, cap, rfl⟩ := r.form
  have hl := r.1
  rcases Nat.eq_zero_or_pos xs.length with h0 | h0
  · have hx : xs = [] := List.length_eq_zero_iff.1 h0
    subst hx
    clear r hl h0
    cases a
    · have hN := nilC_yes 0 cap
      go_enter Tryz.func45, Tryz.ntmps45
      go_wp2_with fail
      go_ret
      exact ⟨_, rfl, ⟨by simp, .inl ⟨rfl, _, _, rfl⟩⟩, Below.refl _ _⟩
    · rename_i g0
      have hN := nilC_no g0 0 cap
      go_enter Tryz.func45, Tryz.ntmps45
      go_wp2_with fail
      go_ret
      exact ⟨_, rfl, ⟨by simp, .inl ⟨rfl, _, _, rfl⟩⟩, bel0 w _⟩
  · obtain ⟨g, rfl, hg, hg1, hn⟩ := r.news h0
    have HR := Lib.hid (hn (w.alloc (.cells #[] 50)) ((bel0 w _).mono hhi))
    have HO := Lib.hid (own_new3 w 50)
    clear r hn
    have hN := nilC_no ⟨g, 0, none⟩ xs.length cap
    go_enter Tryz.func45, Tryz.ntmps45
    go_wp2_with (at_builtin; refine wpList_append_lies _ rfl _ _ 24 rfl w.heap.size 50 i0 _ 3 24 Tryz.underlying24 hi0 hz0 hz1 hz2 rfl (by decide) _ _ _ rfl HO.out ⟨g, 0, none⟩ xs.length cap (places xs) rfl (places_length xs) HR.out (places_one xs) h0 (by unfold maxLen; omega) (by omega) (by simp) (w.heap.size + 1) (by simp) ?_; intro gg cc w1 hown1 hgrow hat hlt1)
    have hbw := (Below.refl w.heap.size _).grown hgrow (by simp) (own_ge3 HO.out)
    have hB : Below w.heap.size w w1 := (bel0 w _).trans hbw
    have hin : CellIn w.heap.size w1.heap.size w1 (.slice (some ⟨gg, 0, none⟩) xs.length cc) xs := CellIn.of_owns (xs := xs) (by simpa using hown1) hl
    clear hown1 hgrow hat hlt1 hbw HO HR
    go_ret
    exact ⟨_, rfl, by simpa using hin, hB⟩

set_option maxRecDepth 100000 in
set_option maxHeartbeats 4000000 in
theorem ImplSeenFrom_any (lo hi : Nat) (n k : Int) (v : Value) (xs : List C3) (w : World) (r : CellIn lo hi w v xs) (hhi : hi ≤ w.heap.size) :
    Calls Tryz.prog 26 #[.agg #[.int .i64 n, v], .int .i64 k] w (FreshB (seeN n k xs) (seeB n k xs) w) := by
  obtain ⟨a, cap, rfl⟩ := r.form
  have hl := r.1
  have HR := Lib.hid (fun W (hb : Below w.heap.size w W) => r.below (hb.mono hhi))
  clear r
  by_cases hb : BlkOk n xs
  · have HB := Lib.hid hb
    by_cases hk : 0 ≤ k ∧ k ≤ 7
    · obtain ⟨k0, k7⟩ := hk
      rw [(see_yes (n := n) (k := k) ⟨hb, k0, k7⟩).1, (see_yes (n := n) (k := k) ⟨hb, k0, k7⟩).2]
      obtain ⟨kk, hkk⟩ : ∃ kk : Nat, k % 4 = kk := ⟨(k % 4).toNat, by omega⟩
      have hkt : (k % 4).toNat = kk := by omega
      rw [hkt]
      have HK := Lib.hid hkk
      have hkb : kk ≤ 3 := by omega
      have hk0 : ¬ k < 0 := by omega
      have hk8 : ¬ 8 ≤ k := by omega
      clear hkk hkt
      by_cases hge : 4 ≤ k
      · rw [if_pos hge]
        have HBB := Lib.hid (mir_ok hb)
        clear hb
        obtain ⟨base, hbase⟩ : ∃ base, base = mirL n xs := ⟨_, rfl⟩
        rw [← hbase] at HBB ⊢
        have HBS := Lib.hid hbase
        clear hbase
        go_enter Tryz.func26, Tryz.ntmps26
        go_wp2_with fail
        refine (ImplBlockOk_yes lo hi n _ xs _ (HR.out _ (bel_n (bel0 w _) (Nat.le_refl _) _)) (by simp; omega) HB.out).mono ?_
        rintro e w1 ⟨rfl, hb1⟩
        have HP1 : Hid (BoxB w.heap.size (.int .i64 n) (.slice a xs.length cap) w1) := Lib.hid (((BoxB.new w (.int .i64 n) (.slice a xs.length cap) 26).below (bel0 _ _) (by simp)).below hb1 (by simp; omega))
        have HD1 : Hid (BoxB (w.heap.size + 1) (.int .i64 0) (.slice none 0 0) w1) := Lib.hid (by
          have h := BoxB.new (w.alloc (.cells #[.int .i64 n, .slice a xs.length cap] 26)) (.int .i64 0) (.slice none 0 0) 26
          exact (show BoxB (w.heap.size + 1) _ _ _ by simpa using h).below hb1 (by simp))
        have HB1 := Lib.hid (bel_c (bel_n (bel0 w (.cells #[.int .i64 n, .slice a xs.length cap] 26)) (Nat.le_refl _) (.cells #[.int .i64 0, .slice none 0 0] 26)) (Nat.le_refl _) hb1)
        clear hb1
        go_upto_region 3 with fail
        have HPW := HD1.out.lt
        have D0 : Below w1.heap.size w1 w1.drew := ⟨rfl, rfl, rfl, Nat.le_refl _, fun _ _ => rfl⟩
        have KP : ∀ u v, Below u.heap.size u v → (u.cell? ⟨w.heap.size, 0, none⟩ = some (.int .i64 n) ∧ u.cell? ⟨w.heap.size, 1, none⟩ = some (.slice a xs.length cap)) → (v.cell? ⟨w.heap.size, 0, none⟩ = some (.int .i64 n) ∧ v.cell? ⟨w.heap.size, 1, none⟩ = some (.slice a xs.length cap)) := fun u v hb h => ⟨kept hb h.1, kept hb h.2⟩
        have KS : ∀ (u : World) (p : Nat) (v0 v1 : Value), w.heap.size < p → (u.cell? ⟨w.heap.size, 0, none⟩ = some (.int .i64 n) ∧ u.cell? ⟨w.heap.size, 1, none⟩ = some (.slice a xs.length cap)) → (((u.setCell ⟨p, 0, none⟩ v0).setCell ⟨p, 1, none⟩ v1).cell? ⟨w.heap.size, 0, none⟩ = some (.int .i64 n) ∧ ((u.setCell ⟨p, 0, none⟩ v0).setCell ⟨p, 1, none⟩ v1).cell? ⟨w.heap.size, 1, none⟩ = some (.slice a xs.length cap)) := by
          intro u p v0 v1 hp h
          have h1 : p ≠ w.heap.size := by omega
          have f : ∀ (q o : Nat), p ≠ q → ((u.setCell ⟨p, 0, none⟩ v0).setCell ⟨p, 1, none⟩ v1).cell? ⟨q, o, none⟩ = u.cell? ⟨q, o, none⟩ := fun q o hq => by
            rw [World.cell?_setCell_other _ _ _ _ (by simp), World.cell?_setCell_other _ _ _ _ (by simp)]
          simpa only [f _ _ h1] using h
        have N1 := Lib.hid (CloneC_any lo hi _ xs w1.drew (HR.out _ (bel_c HB1.out (Nat.le_refl _) D0)) (Nat.le_trans hhi HB1.out.size))
        have N2 := Lib.hid (CloneC_any lo hi _ xs (w1.drew.alloc (.cells #[.int .i64 0, .slice none 0 0] 26)) (HR.out _ (bel_n (bel_c HB1.out (Nat.le_refl _) D0) (Nat.le_refl _) (.cells #[.int .i64 0, .slice none 0 0] 26))) (Nat.le_trans hhi (bel_n (bel_c HB1.out (Nat.le_refl _) D0) (Nat.le_refl _) (.cells #[.int .i64 0, .slice none 0 0] 26)).size))
        obtain ⟨c0, c1, _, _⟩ := HP1.out
        go_cut [5] (fun q wx => WR n true xs w1 q (.bool true) wx)
        case first =>
          go_region_held3 (fun w' => w'.cell? ⟨w.heap.size, 0, none⟩ = some (.int .i64 n) ∧ w'.cell? ⟨w.heap.size, 1, none⟩ = some (.slice a xs.length cap)) (first | exact S4 | exact KP _ _ (bel0 _ _) S4 | exact KS _ _ _ _ (by omega) S4 | (refine KP _ _ (by assumption) ?_; assumption) | exact KP _ _ (bel0 _ _) (by assumption) | go_keep)
            ((first
              | (go_at_call 45; refine N1.out.mono ?_; rintro e w2 ⟨v2, rfl, hin2, hb2⟩; obtain ⟨a2, d2, rfl⟩ := hin2.form; have hbz : Below w1.heap.size w1 w2 := D0.trans hb2; have S4 := KP w1.drew w2 hb2 (by assumption); have R1 := Lib.hid hin2; clear hin2 hb2)
              | (go_at_call 45; refine N2.out.mono ?_; rintro e w2 ⟨v2, rfl, hin2, hb2⟩; obtain ⟨a2, d2, rfl⟩ := hin2.form; have hbz : Below w1.heap.size w1 w2 := bel_c (bel_n D0 (Nat.le_refl _) (.cells #[.int .i64 0, .slice none 0 0] 26)) (Nat.le_refl _) hb2; have bz3 := Lib.hid (show BoxB w1.heap.size (.int .i64 0) (.slice none 0 0) w2 from (BoxB.new w1.drew (.int .i64 0) (.slice none 0 0) 26).below hb2 (by simp)); obtain ⟨k0, k1, k2, k3⟩ := bz3.out; have S4 := KP (w1.drew.alloc (.cells #[.int .i64 0, .slice none 0 0] 26)) w2 hb2 (by assumption); have R1 := Lib.hid hin2; clear hin2 hb2)))
          all_goals
            go_wp2_with fail
            go_meet
            first
            | exact WR.old R1.out bz3.out hbz (by simp) (Nat.le_refl _) (.inl (by simp))
            | exact WR.new R1.out hbz (Nat.le_refl _)
        case rest =>
          obtain ⟨o, a4, c4, l4, h4, rfl, -, bx4, R4, ho4, zl4, zp4, zh4, hb⟩ := hcut
          have HPO : Hid (w.heap.size + 1 < o) := Lib.hid (Nat.lt_of_lt_of_le HPW zp4)
          have HX3 := Lib.hid bx4
          have HD3 := Lib.hid (HD1.out.below hb HPW)
          have HB3 := Lib.hid (bel_c HB1.out (Nat.le_refl _) hb)
          have HC3 := Lib.hid R4
          have HZ3 : Hid ((o < l4 ∨ h4 ≤ o) ∧ w.heap.size + 1 < l4 ∧ h4 ≤ wc.heap.size) := Lib.hid ⟨ho4, Nat.lt_of_lt_of_le HPW zl4, zh4⟩
          clear bx4 R4 ho4 zl4 zp4 zh4 hb HP1 HD1 HB1 D0 KP KS N1 N2 c0 c1
          have hk4 : 4 ≤ k := by omega
          have hrem : k % 4 = (kk : Int) := HK.out
          have q0 := HX3.out.1
          have q1 := HX3.out.2.1
          have HOL : Hid (o < wc.heap.size) := Lib.hid HX3.out.lt
          have CM := Lib.hid (ImplMirrorBlock_any l4 h4 n _ xs wc HC3.out HZ3.out.2.2)
          rw [(turnB_yes HB.out).1, (turnB_yes HB.out).2.2] at CM
          obtain ⟨ys, hys⟩ : ∃ ys, mirL n xs = ys := ⟨_, rfl⟩
          rw [hys] at CM
          have HYM := Lib.hid hys
          clear hys
          go_wp2_with fail
          refine CM.out.mono ?_
          rintro e w5 ⟨v5, rfl, hin5, hb5⟩
          obtain ⟨a5, c5, rfl⟩ := hin5.form
          have hx5 := HX3.out.below hb5 HOL.out
          have HX0 := Lib.hid (BoxB.two (x' := .int .i64 n) (y' := .slice a5 ys.length c5) hx5)
          have hd5 := HD3.out.below hb5 HD3.out.lt
          have HD0 := Lib.hid ((hd5.set_far (q := o) (o := 0) (by have := HPO.out; omega) (.int .i64 n)).set_far (q := o) (o := 1) (by have := HPO.out; omega) (.slice a5 ys.length c5))
          have HI5 := Lib.hid ((hin5.set_far (p := ⟨o, 0, none⟩) HOL.out (.int .i64 n)).set_far (p := ⟨o, 1, none⟩) HOL.out (.slice a5 ys.length c5))
          have HB0 := Lib.hid (Below.setCell (Below.setCell (bel_c HB3.out (Nat.le_refl _) hb5) (p := ⟨o, 0, none⟩) (by show _ ≤ o; have := HPO.out; omega) (.int .i64 n)) (p := ⟨o, 1, none⟩) (by show _ ≤ o; have := HPO.out; omega) (.slice a5 ys.length c5))
          have HZ0 : Hid ((o < wc.heap.size ∨ w5.heap.size ≤ o) ∧ w.heap.size + 1 < wc.heap.size ∧ w5.heap.size ≤ ((w5.setCell ⟨o, 0, none⟩ (.int .i64 n)).setCell ⟨o, 1, none⟩ (.slice a5 ys.length c5)).heap.size) := Lib.hid ⟨.inl HOL.out, HD3.out.lt, by simp [World.setCell]⟩
          obtain ⟨q50, q51, f0, f1⟩ := hx5
          have HC0 : Hid (CellIn wc.heap.size w5.heap.size ((w5.setCell ⟨o, 0, none⟩ (.int .i64 n)).setCell ⟨o, 1, none⟩ (.slice a5 ys.length c5)) (.slice a5 ys.length c5) (turnK n base 0)) := Lib.hid (by show CellIn _ _ _ _ base; rw [HBS.out, HYM.out]; exact HI5.out)
          clear q0 q1 hin5 hb5 hd5 HC3 HX3 HD3 HB3 HZ3 HI5
          go_wp2_with fail
          clear f0 f1 q50 q51
          (try rw [hrem])
          go_loopw [30] (fun i wr => ∃ (c : Nat) (v : Value) (l h : Nat), c ≤ kk ∧ i = .int .i64 c ∧ Hid (CellIn l h wr v (turnK n base c)) ∧ Hid (BoxB o (.int .i64 n) v wr) ∧ Hid (BoxB (w.heap.size + 1) (.int .i64 0) (.slice none 0 0) wr) ∧ Hid (Below w.heap.size w wr) ∧ Hid ((o < l ∨ h ≤ o) ∧ w.heap.size + 1 < l ∧ h ≤ wr.heap.size)) (fun i _ => kk - (intOf i).toNat)
          case atStart => exact ⟨0, _, _, _, Nat.zero_le _, rfl, HC0, HX0, HD0, HB0, HZ0⟩
          case round =>
            clear HC0 HX0 HD0 HB0 HZ0
            obtain ⟨c, v, l, h, hc, rfl, hin, hx, hd, hbel, hz⟩ := hrel
            by_cases hlt : c < kk
            · obtain ⟨av, cv, rfl⟩ := hin.out.form
              have q0 := hx.out.1
              have q1 := hx.out.2.1
              have CT := Lib.hid (ImplTurnBlock_any l h n (.slice av (turnK n base c).length cv) (turnK n base c) wr hin.out hz.out.2.2)
              rw [(turnB_yes (turnK_ok HBB.out c)).1, (turnB_yes (turnK_ok HBB.out c)).2.1] at CT
              change Hid (Calls _ _ _ _ (FreshB n (turnK n base (c + 1)) wr)) at CT
              obtain ⟨ys, hys⟩ : ∃ ys, turnK n base (c + 1) = ys := ⟨_, rfl⟩
              rw [hys] at CT
              have HYS := Lib.hid hys
              clear hys
              generalize turnK n base c = zs at CT hin hx q1
              have HOL : Hid (o < wr.heap.size) := Lib.hid hx.out.lt
              go_wp2_with fail
              refine CT.out.mono ?_
              rintro e w5 ⟨v5, rfl, hin5, hb5⟩
              obtain ⟨a5, c5, rfl⟩ := hin5.form
              have hx5 := hx.out.below hb5 HOL.out
              have HX5 := Lib.hid (BoxB.two (x' := .int .i64 n) (y' := .slice a5 ys.length c5) hx5)
              have hd5 := hd.out.below hb5 hd.out.lt
              have HD5 := Lib.hid ((hd5.set_far (q := o) (o := 0) (by have := HPO.out; omega) (.int .i64 n)).set_far (q := o) (o := 1) (by have := HPO.out; omega) (.slice a5 ys.length c5))
              have HI5 := Lib.hid ((hin5.set_far (p := ⟨o, 0, none⟩) HOL.out (.int .i64 n)).set_far (p := ⟨o, 1, none⟩) HOL.out (.slice a5 ys.length c5))
              have HB5 := Lib.hid (Below.setCell (Below.setCell (bel_c hbel.out (Nat.le_refl _) hb5) (p := ⟨o, 0, none⟩) (by show _ ≤ o; have := HPO.out; omega) (.int .i64 n)) (p := ⟨o, 1, none⟩) (by show _ ≤ o; have := HPO.out; omega) (.slice a5 ys.length c5))
              have HZ5 : Hid ((o < wr.heap.size ∨ w5.heap.size ≤ o) ∧ w.heap.size + 1 < wr.heap.size ∧ w5.heap.size ≤ ((w5.setCell ⟨o, 0, none⟩ (.int .i64 n)).setCell ⟨o, 1, none⟩ (.slice a5 ys.length c5)).heap.size) := Lib.hid ⟨.inl HOL.out, hd.out.lt, by simp [World.setCell]⟩
              obtain ⟨q50, q51, f0, f1⟩ := hx5
              clear q0 q1 hin5 hb5 hin hx hd hbel hd5 hz
              go_wp2_with fail
              clear f0 f1 q50 q51
              go_roundw
              case rel => exact ⟨c + 1, _, _, _, by omega, by go_num, by rw [HYS.out]; exact HI5, HX5, HD5, HB5, HZ5⟩
              case measure => simp [intOf] <;> omega
            · obtain rfl : c = kk := by omega
              obtain ⟨av, cv, rfl⟩ := hin.out.form
              obtain ⟨zs, hzs⟩ : ∃ zs, turnK n base c = zs := ⟨_, rfl⟩
              rw [hzs] at hin hx
              have HZS := Lib.hid hzs
              clear hzs
              obtain ⟨q0, q1, _, _⟩ := hx.out
              obtain ⟨d0, d1, f0, f1⟩ := hd.out
              have zl := hz.out.2.1
              have zh := hz.out.2.2
              clear hx hd hz
              go_wp2_with fail
              refine bodyPost_ret (v := .agg #[.int .i64 n, .slice av zs.length cv]) (by simp [results, Tryz.results26, go_sem, d0, d1]) rfl ⟨_, rfl, ?_, ?_⟩
              · rw [HZS.out]
                refine CellIn.wide (lo := l) (hi := h) ?_ (by omega) (by simp [World.setCell]; omega)
                refine CellIn.set_far (CellIn.set_far hin.out ?_ _) ?_ _ <;> (simp <;> omega)
              · refine Below.setCell (Below.setCell hbel.out ?_ _) ?_ _ <;> (simp <;> omega)
      · rw [if_neg hge]
        have HBB := Lib.hid hb
        clear hb
        obtain ⟨base, hbase⟩ : ∃ base, base = xs := ⟨_, rfl⟩
        have HBB2 : Hid (BlkOk n base) := Lib.hid (by rw [hbase]; exact HBB.out)
        rw [show turnK n xs kk = turnK n base kk by rw [hbase]]
        have HBS := Lib.hid hbase
        clear hbase HBB
        go_enter Tryz.func26, Tryz.ntmps26
        go_wp2_with fail
        refine (ImplBlockOk_yes lo hi n _ xs _ (HR.out _ (bel_n (bel0 w _) (Nat.le_refl _) _)) (by simp; omega) HB.out).mono ?_
        rintro e w1 ⟨rfl, hb1⟩
        have HP1 : Hid (BoxB w.heap.size (.int .i64 n) (.slice a xs.length cap) w1) := Lib.hid (((BoxB.new w (.int .i64 n) (.slice a xs.length cap) 26).below (bel0 _ _) (by simp)).below hb1 (by simp; omega))
        have HD1 : Hid (BoxB (w.heap.size + 1) (.int .i64 0) (.slice none 0 0) w1) := Lib.hid (by
          have h := BoxB.new (w.alloc (.cells #[.int .i64 n, .slice a xs.length cap] 26)) (.int .i64 0) (.slice none 0 0) 26
          exact (show BoxB (w.heap.size + 1) _ _ _ by simpa using h).below hb1 (by simp))
        have HB1 := Lib.hid (bel_c (bel_n (bel0 w (.cells #[.int .i64 n, .slice a xs.length cap] 26)) (Nat.le_refl _) (.cells #[.int .i64 0, .slice none 0 0] 26)) (Nat.le_refl _) hb1)
        clear hb1
        go_upto_region 3 with fail
        have HPW := HD1.out.lt
        have D0 : Below w1.heap.size w1 w1.drew := ⟨rfl, rfl, rfl, Nat.le_refl _, fun _ _ => rfl⟩
        have KP : ∀ u v, Below u.heap.size u v → (u.cell? ⟨w.heap.size, 0, none⟩ = some (.int .i64 n) ∧ u.cell? ⟨w.heap.size, 1, none⟩ = some (.slice a xs.length cap)) → (v.cell? ⟨w.heap.size, 0, none⟩ = some (.int .i64 n) ∧ v.cell? ⟨w.heap.size, 1, none⟩ = some (.slice a xs.length cap)) := fun u v hb h => ⟨kept hb h.1, kept hb h.2⟩
        have KS : ∀ (u : World) (p : Nat) (v0 v1 : Value), w.heap.size < p → (u.cell? ⟨w.heap.size, 0, none⟩ = some (.int .i64 n) ∧ u.cell? ⟨w.heap.size, 1, none⟩ = some (.slice a xs.length cap)) → (((u.setCell ⟨p, 0, none⟩ v0).setCell ⟨p, 1, none⟩ v1).cell? ⟨w.heap.size, 0, none⟩ = some (.int .i64 n) ∧ ((u.setCell ⟨p, 0, none⟩ v0).setCell ⟨p, 1, none⟩ v1).cell? ⟨w.heap.size, 1, none⟩ = some (.slice a xs.length cap)) := by
          intro u p v0 v1 hp h
          have h1 : p ≠ w.heap.size := by omega
          have f : ∀ (q o : Nat), p ≠ q → ((u.setCell ⟨p, 0, none⟩ v0).setCell ⟨p, 1, none⟩ v1).cell? ⟨q, o, none⟩ = u.cell? ⟨q, o, none⟩ := fun q o hq => by
            rw [World.cell?_setCell_other _ _ _ _ (by simp), World.cell?_setCell_other _ _ _ _ (by simp)]
          simpa only [f _ _ h1] using h
        have N1 := Lib.hid (CloneC_any lo hi _ xs w1.drew (HR.out _ (bel_c HB1.out (Nat.le_refl _) D0)) (Nat.le_trans hhi HB1.out.size))
        have N2 := Lib.hid (CloneC_any lo hi _ xs (w1.drew.alloc (.cells #[.int .i64 0, .slice none 0 0] 26)) (HR.out _ (bel_n (bel_c HB1.out (Nat.le_refl _) D0) (Nat.le_refl _) (.cells #[.int .i64 0, .slice none 0 0] 26))) (Nat.le_trans hhi (bel_n (bel_c HB1.out (Nat.le_refl _) D0) (Nat.le_refl _) (.cells #[.int .i64 0, .slice none 0 0] 26)).size))
        obtain ⟨c0, c1, _, _⟩ := HP1.out
        go_cut [5] (fun q wx => WR n true xs w1 q (.bool true) wx)
        case first =>
          go_region_held3 (fun w' => w'.cell? ⟨w.heap.size, 0, none⟩ = some (.int .i64 n) ∧ w'.cell? ⟨w.heap.size, 1, none⟩ = some (.slice a xs.length cap)) (first | exact S4 | exact KP _ _ (bel0 _ _) S4 | exact KS _ _ _ _ (by omega) S4 | (refine KP _ _ (by assumption) ?_; assumption) | exact KP _ _ (bel0 _ _) (by assumption) | go_keep)
            ((first
              | (go_at_call 45; refine N1.out.mono ?_; rintro e w2 ⟨v2, rfl, hin2, hb2⟩; obtain ⟨a2, d2, rfl⟩ := hin2.form; have hbz : Below w1.heap.size w1 w2 := D0.trans hb2; have S4 := KP w1.drew w2 hb2 (by assumption); have R1 := Lib.hid hin2; clear hin2 hb2)
              | (go_at_call 45; refine N2.out.mono ?_; rintro e w2 ⟨v2, rfl, hin2, hb2⟩; obtain ⟨a2, d2, rfl⟩ := hin2.form; have hbz : Below w1.heap.size w1 w2 := bel_c (bel_n D0 (Nat.le_refl _) (.cells #[.int .i64 0, .slice none 0 0] 26)) (Nat.le_refl _) hb2; have bz3 := Lib.hid (show BoxB w1.heap.size (.int .i64 0) (.slice none 0 0) w2 from (BoxB.new w1.drew (.int .i64 0) (.slice none 0 0) 26).below hb2 (by simp)); obtain ⟨k0, k1, k2, k3⟩ := bz3.out; have S4 := KP (w1.drew.alloc (.cells #[.int .i64 0, .slice none 0 0] 26)) w2 hb2 (by assumption); have R1 := Lib.hid hin2; clear hin2 hb2)))
          all_goals
            go_wp2_with fail
            go_meet
            first
            | exact WR.old R1.out bz3.out hbz (by simp) (Nat.le_refl _) (.inl (by simp))
            | exact WR.new R1.out hbz (Nat.le_refl _)
        case rest =>
          obtain ⟨o, a4, c4, l4, h4, rfl, -, bx4, R4, ho4, zl4, zp4, zh4, hb⟩ := hcut
          have HPO : Hid (w.heap.size + 1 < o) := Lib.hid (Nat.lt_of_lt_of_le HPW zp4)
          have HX3 := Lib.hid bx4
          have HD3 := Lib.hid (HD1.out.below hb HPW)
          have HB3 := Lib.hid (bel_c HB1.out (Nat.le_refl _) hb)
          have HC3 := Lib.hid R4
          have HZ3 : Hid ((o < l4 ∨ h4 ≤ o) ∧ w.heap.size + 1 < l4 ∧ h4 ≤ wc.heap.size) := Lib.hid ⟨ho4, Nat.lt_of_lt_of_le HPW zl4, zh4⟩
          clear bx4 R4 ho4 zl4 zp4 zh4 hb HP1 HD1 HB1 D0 KP KS N1 N2 c0 c1
          have hk4 : ¬ 4 ≤ k := by omega
          have hrem : k % 4 = (kk : Int) := HK.out
          go_wp2_with fail
          have HC0 : Hid (CellIn l4 h4 wc (.slice a4 xs.length c4) (turnK n base 0)) := Lib.hid (by show CellIn _ _ _ _ base; rw [HBS.out]; exact HC3.out)
          have HX0 := HX3
          have HD0 := HD3
          have HB0 := HB3
          have HZ0 := HZ3
          clear HC3 HX3 HD3 HB3 HZ3
          go_loopw [30] (fun i wr => ∃ (c : Nat) (v : Value) (l h : Nat), c ≤ kk ∧ i = .int .i64 c ∧ Hid (CellIn l h wr v (turnK n base c)) ∧ Hid (BoxB o (.int .i64 n) v wr) ∧ Hid (BoxB (w.heap.size + 1) (.int .i64 0) (.slice none 0 0) wr) ∧ Hid (Below w.heap.size w wr) ∧ Hid ((o < l ∨ h ≤ o) ∧ w.heap.size + 1 < l ∧ h ≤ wr.heap.size)) (fun i _ => kk - (intOf i).toNat)
          case atStart => exact ⟨0, _, _, _, Nat.zero_le _, rfl, HC0, HX0, HD0, HB0, HZ0⟩
          case round =>
            clear HC0 HX0 HD0 HB0 HZ0
            obtain ⟨c, v, l, h, hc, rfl, hin, hx, hd, hbel, hz⟩ := hrel
            by_cases hlt : c < kk
            · obtain ⟨av, cv, rfl⟩ := hin.out.form
              have q0 := hx.out.1
              have q1 := hx.out.2.1
              have CT := Lib.hid (ImplTurnBlock_any l h n (.slice av (turnK n base c).length cv) (turnK n base c) wr hin.out hz.out.2.2)
              rw [(turnB_yes (turnK_ok HBB2.out c)).1, (turnB_yes (turnK_ok HBB2.out c)).2.1] at CT
              change Hid (Calls _ _ _ _ (FreshB n (turnK n base (c + 1)) wr)) at CT
              obtain ⟨ys, hys⟩ : ∃ ys, turnK n base (c + 1) = ys := ⟨_, rfl⟩
              rw [hys] at CT
              have HYS := Lib.hid hys
              clear hys
              generalize turnK n base c = zs at CT hin hx q1
              have HOL : Hid (o < wr.heap.size) := Lib.hid hx.out.lt
              go_wp2_with fail
              refine CT.out.mono ?_
              rintro e w5 ⟨v5, rfl, hin5, hb5⟩
              obtain ⟨a5, c5, rfl⟩ := hin5.form
              have hx5 := hx.out.below hb5 HOL.out
              have HX5 := Lib.hid (BoxB.two (x' := .int .i64 n) (y' := .slice a5 ys.length c5) hx5)
              have hd5 := hd.out.below hb5 hd.out.lt
              have HD5 := Lib.hid ((hd5.set_far (q := o) (o := 0) (by have := HPO.out; omega) (.int .i64 n)).set_far (q := o) (o := 1) (by have := HPO.out; omega) (.slice a5 ys.length c5))
              have HI5 := Lib.hid ((hin5.set_far (p := ⟨o, 0, none⟩) HOL.out (.int .i64 n)).set_far (p := ⟨o, 1, none⟩) HOL.out (.slice a5 ys.length c5))
              have HB5 := Lib.hid (Below.setCell (Below.setCell (bel_c hbel.out (Nat.le_refl _) hb5) (p := ⟨o, 0, none⟩) (by show _ ≤ o; have := HPO.out; omega) (.int .i64 n)) (p := ⟨o, 1, none⟩) (by show _ ≤ o; have := HPO.out; omega) (.slice a5 ys.length c5))
              have HZ5 : Hid ((o < wr.heap.size ∨ w5.heap.size ≤ o) ∧ w.heap.size + 1 < wr.heap.size ∧ w5.heap.size ≤ ((w5.setCell ⟨o, 0, none⟩ (.int .i64 n)).setCell ⟨o, 1, none⟩ (.slice a5 ys.length c5)).heap.size) := Lib.hid ⟨.inl HOL.out, hd.out.lt, by simp [World.setCell]⟩
              obtain ⟨q50, q51, f0, f1⟩ := hx5
              clear q0 q1 hin5 hb5 hin hx hd hbel hd5 hz
              go_wp2_with fail
              clear f0 f1 q50 q51
              go_roundw
              case rel => exact ⟨c + 1, _, _, _, by omega, by go_num, by rw [HYS.out]; exact HI5, HX5, HD5, HB5, HZ5⟩
              case measure => simp [intOf] <;> omega
            · obtain rfl : c = kk := by omega
              obtain ⟨av, cv, rfl⟩ := hin.out.form
              obtain ⟨zs, hzs⟩ : ∃ zs, turnK n base c = zs := ⟨_, rfl⟩
              rw [hzs] at hin hx
              have HZS := Lib.hid hzs
              clear hzs
              obtain ⟨q0, q1, _, _⟩ := hx.out
              obtain ⟨d0, d1, f0, f1⟩ := hd.out
              have zl := hz.out.2.1
              have zh := hz.out.2.2
              clear hx hd hz
              go_wp2_with fail
              refine bodyPost_ret (v := .agg #[.int .i64 n, .slice av zs.length cv]) (by simp [results, Tryz.results26, go_sem, d0, d1]) rfl ⟨_, rfl, ?_, ?_⟩
              · rw [HZS.out]
                refine CellIn.wide (lo := l) (hi := h) ?_ (by omega) (by simp [World.setCell]; omega)
                refine CellIn.set_far (CellIn.set_far hin.out ?_ _) ?_ _ <;> (simp <;> omega)
              · refine Below.setCell (Below.setCell hbel.out ?_ _) ?_ _ <;> (simp <;> omega)
    · rw [(see_no (n := n) (k := k) (fun h => hk h.2)).1, (see_no (n := n) (k := k) (xs := xs) (fun h => hk h.2)).2]
      clear hb
      by_cases k0 : k < 0
      · clear hk
        go_enter Tryz.func26, Tryz.ntmps26
        go_wp2_with fail
        refine (ImplBlockOk_yes lo hi n _ xs _ (HR.out _ (bel_n (bel0 w _) (Nat.le_refl _) _)) (by simp; omega) HB.out).mono ?_
        rintro e w1 ⟨rfl, hb1⟩
        have d0 := kept (p := ⟨w.heap.size + 1, 0, none⟩) (x := .int .i64 0) hb1 (by go_simp)
        have d1 := kept (p := ⟨w.heap.size + 1, 1, none⟩) (x := .slice none 0 0) hb1 (by go_simp)
        have g0 := keptF (p := ⟨w.heap.size + 1, 0, none⟩) (x := .int .i64 0) hb1 (by go_simp) (by go_simp)
        have g1 := keptF (p := ⟨w.heap.size + 1, 1, none⟩) (x := .slice none 0 0) hb1 (by go_simp) (by go_simp)
        have B := bel_c (bel_n (bel0 w (.cells #[.int .i64 n, .slice a xs.length cap] 26)) (Nat.le_refl _) (.cells #[.int .i64 0, .slice none 0 0] 26)) (Nat.le_refl _) hb1
        clear hb1
        go_wp2_with fail
        refine bodyPost_ret (v := .agg #[.int .i64 0, .slice none 0 0]) (by simp [results, Tryz.results26, go_sem, d0, d1]) rfl ⟨.slice none 0 0, rfl, ⟨by simp, .inl ⟨rfl, _, _, rfl⟩⟩, ?_⟩
        refine Below.setCell (Below.setCell B ?_ _) ?_ _ <;> (simp <;> omega)
      · have hk8 : 8 ≤ k := by omega
        clear hk
        go_enter Tryz.func26, Tryz.ntmps26
        go_wp2_with fail
        refine (ImplBlockOk_yes lo hi n _ xs _ (HR.out _ (bel_n (bel0 w _) (Nat.le_refl _) _)) (by simp; omega) HB.out).mono ?_
        rintro e w1 ⟨rfl, hb1⟩
        have d0 := kept (p := ⟨w.heap.size + 1, 0, none⟩) (x := .int .i64 0) hb1 (by go_simp)
        have d1 := kept (p := ⟨w.heap.size + 1, 1, none⟩) (x := .slice none 0 0) hb1 (by go_simp)
        have g0 := keptF (p := ⟨w.heap.size + 1, 0, none⟩) (x := .int .i64 0) hb1 (by go_simp) (by go_simp)
        have g1 := keptF (p := ⟨w.heap.size + 1, 1, none⟩) (x := .slice none 0 0) hb1 (by go_simp) (by go_simp)
        have B := bel_c (bel_n (bel0 w (.cells #[.int .i64 n, .slice a xs.length cap] 26)) (Nat.le_refl _) (.cells #[.int .i64 0, .slice none 0 0] 26)) (Nat.le_refl _) hb1
        clear hb1
        go_wp2_with fail
        refine bodyPost_ret (v := .agg #[.int .i64 0, .slice none 0 0]) (by simp [results, Tryz.results26, go_sem, d0, d1]) rfl ⟨.slice none 0 0, rfl, ⟨by simp, .inl ⟨rfl, _, _, rfl⟩⟩, ?_⟩
        refine Below.setCell (Below.setCell B ?_ _) ?_ _ <;> (simp <;> omega)
  · rw [(see_no (n := n) (k := k) (fun h => hb h.1)).1, (see_no (n := n) (k := k) (xs := xs) (fun h => hb h.1)).2]
    have HB := Lib.hid hb
    clear hb
    go_enter Tryz.func26, Tryz.ntmps26
    go_wp2_with fail
    refine (ImplBlockOk_no lo hi n _ xs _ (HR.out _ (bel_n (bel0 w _) (Nat.le_refl _) _)) (by simp; omega) HB.out).mono ?_
    rintro e w1 ⟨rfl, hb1⟩
    have d0 := kept (p := ⟨w.heap.size + 1, 0, none⟩) (x := .int .i64 0) hb1 (by go_simp)
    have d1 := kept (p := ⟨w.heap.size + 1, 1, none⟩) (x := .slice none 0 0) hb1 (by go_simp)
    have g0 := keptF (p := ⟨w.heap.size + 1, 0, none⟩) (x := .int .i64 0) hb1 (by go_simp) (by go_simp)
    have g1 := keptF (p := ⟨w.heap.size + 1, 1, none⟩) (x := .slice none 0 0) hb1 (by go_simp) (by go_simp)
    have B := bel_c (bel_n (bel0 w (.cells #[.int .i64 n, .slice a xs.length cap] 26)) (Nat.le_refl _) (.cells #[.int .i64 0, .slice none 0 0] 26)) (Nat.le_refl _) hb1
    clear hb1
    go_wp2_with fail
    refine bodyPost_ret (v := .agg #[.int .i64 0, .slice none 0 0]) (by simp [results, Tryz.results26, go_sem, d0, d1]) rfl ⟨.slice none 0 0, rfl, ⟨by simp, .inl ⟨rfl, _, _, rfl⟩⟩, ?_⟩
    refine Below.setCell (Below.setCell B ?_ _) ?_ _ <;> (simp <;> omega)

end Go.Proofs.YtahbadokkljoaaaGreatDoor

namespace Go.Proofs.YtahbadokkljoaaaGreatDoor

end Go.Proofs.YtahbadokkljoaaaGreatDoor
