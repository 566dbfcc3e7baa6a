/- Layouts: the walk of FnLayouts. -/
import Derived.Test.YtlfeohahaidohaaLayX
import Derived.Test.YtlfeohahaidohaaLayD3
import Derived.Test.YtlfeohahaidohaaLayIc
import Derived.Test.YtlfeohahaidohaaLayIn
import Derived.Test.YtlfeohahaidohaaLayIt
import Derived.Test.YtlfeohahaidohaaLayIb2
import Derived.Test.YtlfeohahaidohaaLaySm
namespace Go.Proofs.Ytlfeohahaidohaa
open Go.ChangeShapes Go.WideShapes Go.ChangeAt Go.RowKit

theorem info_int9 : (Try.prog.info? 3).map (fun i => (i.zero, i.size, i.bytes)) = some (some (.int .i64 0), 1, 8) := by kernel_rfl
theorem drewN_bel (u : World) (k : Nat) : Below u.heap.size u (u.drewN k) := ⟨rfl, rfl, rfl, Nat.le_refl _, fun _ _ => rfl⟩

set_option maxHeartbeats 8000000 in
set_option maxRecDepth 20000 in
theorem LayoutsLaw_walk (a : Option Addr) (len cap : Nat) (w : World) (hs : Src w w.heap.size a len) :
    Calls Try.prog 3 #[.slice a len cap] w fun e w' => e = .returned (.bool true) ∧ Below w.heap.size w w' := by
  obtain ⟨i0, hi0, hz0, hz1, hz2⟩ : ∃ i, Try.prog.info? 3 = some i ∧ i.zero = some (.int .i64 0) ∧ i.size = 1 ∧ i.bytes = 8 := info_parts3 info_int9
  have HS := Lib.hid hs
  obtain ⟨hm, hsrc⟩ := hs
  have hl : len ≤ 9223372036854775807 := by unfold maxLen at hm; omega
  clear hm hsrc
  by_cases hb0 : len ≤ 1048576
  · go_enter Try.func3, Try.ntmps3
    go_wp2_with fail
    refine (Big_no a len cap w hb0).mono ?_
    rintro e w' ⟨rfl, rfl⟩
    go_wp2_with fail
    refine (DrawLayout_any a len cap w HS.out hb0).mono ?_
    rintro e w1 ⟨m, n, v, xs, hok, rfl, R0, B⟩
    have hx := hok.2.2.1
    obtain ⟨av, cv, rfl⟩ := R0.form
    obtain ⟨g, rfl, _⟩ := R0.at (Below.refl _ _) (i := 0) (by omega)
    have HK := Lib.hid hok
    have HWF := Lib.hid (lay_wf hok)
    obtain ⟨p00, p01⟩ := hok.1
    obtain ⟨p10, p11⟩ := hok.2.1
    have hmt : (m.toNat : Int) = m := by omega
    have hnt : (n.toNat : Int) = n := by omega
    have hz := B.size
    have K0 : KL w w1.heap.size w.heap.size w1.heap.size m n (.slice (some ⟨g, 0, none⟩) xs.length cv) xs (w1.alloc (.cells #[.int .i64 m, .int .i64 n, .slice (some ⟨g, 0, none⟩) xs.length cv] 26)) := ⟨Tri.new w1 _ _ _ _, R0.below (bel0 w1 _), Nat.le_refl _, Nat.le_refl _, bel_n B (Nat.le_refl _) _⟩
    have HZL := Lib.hid (CL_zero m xs)
    clear hok R0 B
    go_wp2_with (at_make; refine wpList_make_full _ rfl _ _ 28 rfl (w1.heap.size + 1) 3 i0 _ 1 Try.underlying28 hi0 hz0 hz1 .i64 .i64 _ _ xs.length rfl rfl rfl rfl (by rw [hz2]; omega) (by unfold maxLen; omega) (by simp) ?_; intro w2 hown2 hgrow2; have K2 := K0.keep (own_none hgrow2); obtain ⟨b0, b1, b2⟩ := K2.box)
    have HK2 := Lib.hid K2
    have HO2 : Hid (w2.ownsRow (w1.heap.size + 1) 3 1 (.slice (some ⟨w1.heap.size + 1, 0, none⟩) xs.length xs.length) xs.length (CL m xs 0 0)) := Lib.hid (by rw [HZL.out, ← toList_madeCells_one]; simpa [Value.cells] using hown2)
    clear K0 K2 hown2 hgrow2 b0 b1 b2 HZL
    go_loopw [6] (fun i wr => ∃ y : Nat, y ≤ n.toNat ∧ i = .int .i64 y ∧ Hid (wr.ownsRow (w1.heap.size + 1) 3 1 (.slice (some ⟨w1.heap.size + 1, 0, none⟩) xs.length xs.length) xs.length (CL m xs y 0)) ∧ Hid (KL w w1.heap.size w.heap.size w1.heap.size m n (.slice (some ⟨g, 0, none⟩) xs.length cv) xs wr)) (fun i _ => n.toNat - (intOf i).toNat)
    case atStart => exact ⟨0, Nat.zero_le _, rfl, HO2, HK2⟩
    case round =>
      clear HO2 HK2
      obtain ⟨y, hy, rfl, ho, hk⟩ := hrel
      obtain ⟨b0, b1, b2⟩ := hk.out.box
      by_cases hyn : y < n.toNat
      · have hy1 : (y : Int) < n := by omega
        obtain ⟨wo, rfl⟩ : ∃ wo : World, wo = wr := ⟨_, rfl⟩
        go_wp2_with fail
        clear b0 b1 b2
        go_loopw [7] (fun i wr => ∃ x : Nat, x ≤ m.toNat ∧ i = .int .i64 x ∧ Hid (wr.ownsRow (w1.heap.size + 1) 3 1 (.slice (some ⟨w1.heap.size + 1, 0, none⟩) xs.length xs.length) xs.length (CL m xs y x)) ∧ Hid (KL w w1.heap.size w.heap.size w1.heap.size m n (.slice (some ⟨g, 0, none⟩) xs.length cv) xs wr)) (fun i _ => m.toNat - (intOf i).toNat)
        case atStart => exact ⟨0, Nat.zero_le _, rfl, ho, hk⟩
        case round =>
          clear ho hk
          obtain ⟨x, hx1, rfl, ho, hk⟩ := hrel
          obtain ⟨b0, b1, b2⟩ := hk.out.box
          by_cases hxm : x < m.toNat
          · have hx2 : (x : Int) < m := by omega
            obtain ⟨k, hk1, hk2, hk3⟩ := patL_own HK.out x y hx2 hy1
            have CP := ImplPatchAt_any _ _ m n _ xs x y wr hk.out.row hk.out.top HWF.out
            rw [hk2] at CP
            have HP := Lib.hid (CL_put (m := m) hk1 hk3)
            obtain ⟨c0, c1⟩ := cnt_bd HK.out k y x (by omega) (by omega)
            clear hk2 hk3
            go_wp2_with fail
            clear b0 b1 b2
            refine CP.mono ?_
            rintro e w3 ⟨rfl, hb3⟩
            have HK3 := Lib.hid (hk.out.keep hb3)
            have HO3 := Lib.hid (owL ho.out hb3)
            have e0 : w3.cell? ⟨w1.heap.size + 1, k, none⟩ = some (.int .i64 (cnt m (pat xs k) y x)) := (HO3.out.cellAt k (by omega)).trans (CL_at hk1)
            have f0 := HO3.out.frozenAt k
            have k0 : (0 : Int) ≤ (k : Int) := by omega
            have k1 : (k : Int) < (xs.length : Int) := by omega
            have k2 : ¬ (k : Int) < 0 := by omega
            have k3 : ¬ (xs.length : Int) ≤ (k : Int) := by omega
            clear CP hb3 ho hk
            generalize cnt m (pat xs k) y x = C at HP e0 c0 c1
            have HO4 := Lib.hid (HO3.out.stored k (.int .i64 (C + 1))).1
            have HK4 := Lib.hid (HK3.out.set hz (p := ⟨w1.heap.size + 1, k, none⟩) (Nat.lt_succ_self _) (.int .i64 (C + 1)))
            rw [HP.out] at HO4
            clear HO3 HK3
            go_wp2_with fail
            go_roundw
            case rel => exact ⟨x + 1, by omega, by go_num, HO4, HK4⟩
            case measure => simp [intOf] <;> omega
          · obtain rfl : x = m.toNat := by omega
            have HR := Lib.hid ho.out
            rw [← CL_row] at HR
            have hx3 : ¬ (m.toNat : Int) < m := by omega
            go_wp2_with fail
            clear b0 b1 b2
            go_roundw
            case rel => exact ⟨y + 1, by omega, by go_num, HR, hk⟩
            case measure => simp [intOf] <;> omega
      · obtain rfl : y = n.toNat := by omega
        have hy3 : ¬ (n.toNat : Int) < n := by omega
        have HE : Hid (∀ i, i < xs.length → (CL m xs n.toNat 0)[i]? = some (.int .i64 ((pat xs i).w * (pat xs i).h))) := Lib.hid (fun i hi => by rw [CL_at hi, cnt_end HK.out hi])
        go_wp2_with fail
        clear b0 b1 b2
        go_loopw [9, 10] (fun s i wr => ∃ j : Nat, j ≤ xs.length ∧ i = .int .i64 j ∧ s = .int .i64 (acc xs j 0) ∧ Hid (wr.ownsRow (w1.heap.size + 1) 3 1 (.slice (some ⟨w1.heap.size + 1, 0, none⟩) xs.length xs.length) xs.length (CL m xs n.toNat 0)) ∧ Hid (KL w w1.heap.size w.heap.size w1.heap.size m n (.slice (some ⟨g, 0, none⟩) xs.length cv) xs wr)) (fun _ i _ => xs.length - (intOf i).toNat)
        case atStart => exact ⟨0, Nat.zero_le _, rfl, rfl, ho, hk⟩
        case round =>
          clear ho hk
          obtain ⟨i, hi, rfl, rfl, ho, hk⟩ := hrel
          obtain ⟨b0, b1, b2⟩ := hk.out.box
          by_cases hlt : i < xs.length
          · obtain ⟨s0, s1⟩ := acc_bd HK.out (i := i) (k := 0) (by omega) (by omega) (.inl rfl)
            obtain ⟨g', hg', _, _, ⟨e0, e1, e2, e3, e4⟩, _⟩ := hk.out.row.at (Below.refl _ _) hlt
            obtain rfl : g = g' := by simpa using hg'
            clear hg'
            have q0 := (ho.out.cellAt i (by omega)).trans (HE.out i hlt)
            obtain ⟨c, hc⟩ : ∃ c, c = xs.getD i P5.zero := ⟨_, rfl⟩
            have hcp : pat xs i = c := hc.symm
            rw [← hc] at e0 e1 e2 e3 e4
            rw [hcp] at q0
            have HC := Lib.hid hcp
            obtain ⟨⟨f00, f01⟩, ⟨f10, f11⟩, ⟨f20, f21⟩, ⟨f30, f31⟩, _⟩ : Fit m n c := by rw [← hcp]; exact HK.out.fit hlt
            obtain ⟨hw, t0, t1⟩ := mul_wrap (a := c.w) (b := c.h) (by omega) (by omega) (by omega) (by omega)
            have i2 : (i : Int) < (xs.length : Int) := by omega
            have i3 : (0 : Int) ≤ (i : Int) := by omega
            have HI0 := Lib.hid (inP_of HK.out hlt)
            have HOq := Lib.hid ho.out
            have HKq := Lib.hid hk.out
            clear hc hcp ho hk
            go_wp2_with fail
            go_quiet (fail)
            obtain ⟨wo, rfl⟩ : ∃ wo : World, wo = wr := ⟨_, rfl⟩
            have HO3 := Lib.hid (owL HOq.out (drewN_bel wo nq))
            have HK3 := Lib.hid (HKq.out.keep (drewN_bel wo nq))
            clear HOq HKq e0 e1 e2 e3 e4 b0 b1 b2 q0 hw t0 t1
            go_wp2_with fail
            go_loopw [9, 11] (fun s i' wr => ∃ k : Nat, k ≤ i ∧ i' = .int .i64 k ∧ s = .int .i64 (acc xs i k) ∧ Hid (wr.ownsRow (w1.heap.size + 1) 3 1 (.slice (some ⟨w1.heap.size + 1, 0, none⟩) xs.length xs.length) xs.length (CL m xs n.toNat 0)) ∧ Hid (KL w w1.heap.size w.heap.size w1.heap.size m n (.slice (some ⟨g, 0, none⟩) xs.length cv) xs wr)) (fun _ i' _ => i - (intOf i').toNat)
            case atStart => exact ⟨0, Nat.zero_le _, rfl, rfl, HO3, HK3⟩
            case round =>
              clear HO3 HK3
              obtain ⟨k, hki, rfl, rfl, ho, hk⟩ := hrel
              obtain ⟨b0, b1, b2⟩ := hk.out.box
              by_cases hk1 : k < i
              · obtain ⟨s0, s1⟩ := acc_bd HK.out (i := i) (k := k) (by omega) (by omega) (.inr hlt)
                obtain ⟨s2, s3⟩ := acc_bd HK.out (i := i) (k := k + 1) (by omega) (by omega) (.inr hlt)
                have hkx : k < xs.length := by omega
                obtain ⟨g', hg', _, _, ⟨e0, e1, e2, e3, e4⟩, _⟩ := hk.out.row.at (Below.refl _ _) hlt
                obtain rfl : g = g' := by simpa using hg'
                clear hg'
                obtain ⟨g', hg', _, _, ⟨q0, q1, q2, q3, q4⟩, _⟩ := hk.out.row.at (Below.refl _ _) hkx
                obtain rfl : g = g' := by simpa using hg'
                clear hg'
                rw [show xs.getD i P5.zero = c from HC.out] at e0 e1 e2 e3 e4
                obtain ⟨d, hd⟩ : ∃ d, d = xs.getD k P5.zero := ⟨_, rfl⟩
                have hdp : pat xs k = d := hd.symm
                rw [← hd] at q0 q1 q2 q3 q4
                have HD := Lib.hid hdp
                obtain ⟨⟨d00, d01⟩, ⟨d10, d11⟩, ⟨d20, d21⟩, ⟨d30, d31⟩, _⟩ : Fit m n d := by rw [← hdp]; exact HK.out.fit hkx
                have k2 : (k : Int) < (xs.length : Int) := by omega
                have k3 : (0 : Int) ≤ (k : Int) := by omega
                have WW : Below wr.heap.size wr ((wr.alloc (.cells #[.int .i64 c.x, .int .i64 c.y, .int .i64 c.w, .int .i64 c.h, .int .i64 c.c] 31)).alloc (.cells #[.int .i64 d.x, .int .i64 d.y, .int .i64 d.w, .int .i64 d.h, .int .i64 d.c] 31)) := bel_n (bel0 wr _) (Nat.le_refl _) _
                have b2' := kept (bel0 wr (.cells #[.int .i64 c.x, .int .i64 c.y, .int .i64 c.w, .int .i64 c.h, .int .i64 c.c] 31)) b2
                have q0' := kept (bel0 wr (.cells #[.int .i64 c.x, .int .i64 c.y, .int .i64 c.w, .int .i64 c.h, .int .i64 c.c] 31)) q0
                have q1' := kept (bel0 wr (.cells #[.int .i64 c.x, .int .i64 c.y, .int .i64 c.w, .int .i64 c.h, .int .i64 c.c] 31)) q1
                have q2' := kept (bel0 wr (.cells #[.int .i64 c.x, .int .i64 c.y, .int .i64 c.w, .int .i64 c.h, .int .i64 c.c] 31)) q2
                have q3' := kept (bel0 wr (.cells #[.int .i64 c.x, .int .i64 c.y, .int .i64 c.w, .int .i64 c.h, .int .i64 c.c] 31)) q3
                have q4' := kept (bel0 wr (.cells #[.int .i64 c.x, .int .i64 c.y, .int .i64 c.w, .int .i64 c.h, .int .i64 c.c] 31)) q4
                have HK4 := Lib.hid (hk.out.keep WW)
                have HO4 := Lib.hid (owL ho.out WW)
                have HBX := Lib.hid HK4.out.box
                have x0 : ((wr.alloc (.cells #[.int .i64 c.x, .int .i64 c.y, .int .i64 c.w, .int .i64 c.h, .int .i64 c.c] 31)).alloc (.cells #[.int .i64 d.x, .int .i64 d.y, .int .i64 d.w, .int .i64 d.h, .int .i64 d.c] 31)).cell? ⟨wr.heap.size, 0, none⟩ = some (.int .i64 c.x) := kept (bel0 _ _) (by simp)
                have x1 : ((wr.alloc (.cells #[.int .i64 c.x, .int .i64 c.y, .int .i64 c.w, .int .i64 c.h, .int .i64 c.c] 31)).alloc (.cells #[.int .i64 d.x, .int .i64 d.y, .int .i64 d.w, .int .i64 d.h, .int .i64 d.c] 31)).cell? ⟨wr.heap.size, 1, none⟩ = some (.int .i64 c.y) := kept (bel0 _ _) (by simp)
                have x2 : ((wr.alloc (.cells #[.int .i64 c.x, .int .i64 c.y, .int .i64 c.w, .int .i64 c.h, .int .i64 c.c] 31)).alloc (.cells #[.int .i64 d.x, .int .i64 d.y, .int .i64 d.w, .int .i64 d.h, .int .i64 d.c] 31)).cell? ⟨wr.heap.size, 2, none⟩ = some (.int .i64 c.w) := kept (bel0 _ _) (by simp)
                have x3 : ((wr.alloc (.cells #[.int .i64 c.x, .int .i64 c.y, .int .i64 c.w, .int .i64 c.h, .int .i64 c.c] 31)).alloc (.cells #[.int .i64 d.x, .int .i64 d.y, .int .i64 d.w, .int .i64 d.h, .int .i64 d.c] 31)).cell? ⟨wr.heap.size, 3, none⟩ = some (.int .i64 c.h) := kept (bel0 _ _) (by simp)
                have x4 : ((wr.alloc (.cells #[.int .i64 c.x, .int .i64 c.y, .int .i64 c.w, .int .i64 c.h, .int .i64 c.c] 31)).alloc (.cells #[.int .i64 d.x, .int .i64 d.y, .int .i64 d.w, .int .i64 d.h, .int .i64 d.c] 31)).cell? ⟨wr.heap.size, 4, none⟩ = some (.int .i64 c.c) := kept (bel0 _ _) (by simp)
                obtain ⟨A1, hA1⟩ : ∃ A1, (if d.x + d.w < c.x + c.w then d.x + d.w else c.x + c.w) = A1 := ⟨_, rfl⟩
                obtain ⟨A2, hA2⟩ : ∃ A2, (if d.x > c.x then d.x else c.x) = A2 := ⟨_, rfl⟩
                obtain ⟨A3, hA3⟩ : ∃ A3, (if d.y + d.h < c.y + c.h then d.y + d.h else c.y + c.h) = A3 := ⟨_, rfl⟩
                obtain ⟨A4, hA4⟩ : ∃ A4, (if d.y > c.y then d.y else c.y) = A4 := ⟨_, rfl⟩
                obtain ⟨r1, hr1⟩ : ∃ r1, A1 - A2 = r1 := ⟨_, rfl⟩
                obtain ⟨r2, hr2⟩ : ∃ r2, A3 - A4 = r2 := ⟨_, rfl⟩
                have hcw : r1 = cwP c d := by unfold cwP cmn; omega
                have hch : r2 = chP c d := by unfold chP cmn; omega
                have hA12 : -12 ≤ r1 ∧ r1 ≤ 12 := by omega
                have hA34 : -12 ≤ r2 ∧ r2 ≤ 12 := by omega
                have HBD : Hid (∀ b : Bool, besD c d = b → besB m n xs i k = b ∧ besB m n xs k i = b) := Lib.hid (fun b hb => by
                  have h := bes_D HK.out hlt hk1
                  rw [HC.out, HD.out, hb] at h
                  exact h)
                have HAC : Hid (acc xs i (k + 1) = acc xs i k + comL c d) := Lib.hid (by rw [acc_step, HC.out, HD.out])
                have HDD : Hid (besD c d = decide ((r1 = 0 ∧ 0 < r2) ∨ (r2 = 0 ∧ 0 < r1))) := Lib.hid (by rw [hcw, hch]; rfl)
                have HCO : Hid (comL c d = if besD c d then max r1 r2 else 0) := Lib.hid (by rw [hcw, hch]; rfl)
                clear hcw hch
                obtain ⟨b20, b21, b22⟩ := HBX.out
                clear WW hk ho hd hdp HBX
                by_cases t1 : r1 = 0
                · subst t1
                  by_cases t2 : 0 < r2
                  · obtain ⟨hb1, hb2⟩ := HBD.out true (by rw [HDD.out]; exact decide_eq_true (by omega))
                    have HS : Hid (acc xs i (k + 1) = acc xs i k + r2) := Lib.hid (by rw [HAC.out, HCO.out, HDD.out]; simp <;> omega)
                    have CB1 := ImplAreBeside_any _ _ m n _ xs i k _ HK4.out.row HK4.out.top HWF.out
                    rw [hb1] at CB1
                    have HB2 := Lib.hid hb2
                    clear hb1 hb2 HBD HDD HCO HAC
                    go_wp2_with fail
                    refine CB1.mono ?_
                    rintro e w5 ⟨rfl, hb5⟩
                    have HK5 := Lib.hid (HK4.out.keep hb5)
                    have HO5 := Lib.hid (owL HO4.out hb5)
                    obtain ⟨b30, b31, b32⟩ := HK5.out.box
                    have CB2 := ImplAreBeside_any _ _ m n _ xs k i _ HK5.out.row HK5.out.top HWF.out
                    rw [HB2.out] at CB2
                    clear CB1 hb5 HK4 HO4 HB2 hA1 hA2 hA3 hA4 hr1 hr2 b20 b21 b22 x0 x1 x2 x3 x4 b2' q0' q1' q2' q3' q4' b0 b1 b2 q0 q1 q2 q3 q4
                    go_wp2_with fail
                    refine CB2.mono ?_
                    rintro e w6 ⟨rfl, hb6⟩
                    have HK6 := Lib.hid (HK5.out.keep hb6)
                    have HO6 := Lib.hid (owL HO5.out hb6)
                    clear CB2 hb6 HK5 HO5 b30 b31 b32
                    go_wp2_with fail
                    go_roundw
                    case rel => exact ⟨k + 1, by omega, by go_num, by rw [HS.out], HO6, HK6⟩
                    case measure => simp [intOf] <;> omega
                  · by_cases t3 : r2 = 0
                    · subst t3
                      obtain ⟨hb1, hb2⟩ := HBD.out false (by rw [HDD.out]; exact decide_eq_false (by omega))
                      have HS : Hid (acc xs i (k + 1) = acc xs i k + 0) := Lib.hid (by rw [HAC.out, HCO.out, HDD.out]; simp <;> omega)
                      have CB1 := ImplAreBeside_any _ _ m n _ xs i k _ HK4.out.row HK4.out.top HWF.out
                      rw [hb1] at CB1
                      have HB2 := Lib.hid hb2
                      clear hb1 hb2 HBD HDD HCO HAC
                      go_wp2_with fail
                      refine CB1.mono ?_
                      rintro e w5 ⟨rfl, hb5⟩
                      have HK5 := Lib.hid (HK4.out.keep hb5)
                      have HO5 := Lib.hid (owL HO4.out hb5)
                      obtain ⟨b30, b31, b32⟩ := HK5.out.box
                      have CB2 := ImplAreBeside_any _ _ m n _ xs k i _ HK5.out.row HK5.out.top HWF.out
                      rw [HB2.out] at CB2
                      clear CB1 hb5 HK4 HO4 HB2 hA1 hA2 hA3 hA4 hr1 hr2 b20 b21 b22 x0 x1 x2 x3 x4 b2' q0' q1' q2' q3' q4' b0 b1 b2 q0 q1 q2 q3 q4
                      go_wp2_with fail
                      refine CB2.mono ?_
                      rintro e w6 ⟨rfl, hb6⟩
                      have HK6 := Lib.hid (HK5.out.keep hb6)
                      have HO6 := Lib.hid (owL HO5.out hb6)
                      clear CB2 hb6 HK5 HO5 b30 b31 b32
                      go_wp2_with fail
                      go_roundw
                      case rel => exact ⟨k + 1, by omega, by go_num, by rw [HS.out]; simp, HO6, HK6⟩
                      case measure => simp [intOf] <;> omega
                    · have e3 : (r2 == 0) = false := by simpa using t3
                      obtain ⟨hb1, hb2⟩ := HBD.out false (by rw [HDD.out]; exact decide_eq_false (by omega))
                      have HS : Hid (acc xs i (k + 1) = acc xs i k + 0) := Lib.hid (by rw [HAC.out, HCO.out, HDD.out]; simp <;> omega)
                      have CB1 := ImplAreBeside_any _ _ m n _ xs i k _ HK4.out.row HK4.out.top HWF.out
                      rw [hb1] at CB1
                      have HB2 := Lib.hid hb2
                      clear hb1 hb2 HBD HDD HCO HAC
                      go_wp2_with fail
                      refine CB1.mono ?_
                      rintro e w5 ⟨rfl, hb5⟩
                      have HK5 := Lib.hid (HK4.out.keep hb5)
                      have HO5 := Lib.hid (owL HO4.out hb5)
                      obtain ⟨b30, b31, b32⟩ := HK5.out.box
                      have CB2 := ImplAreBeside_any _ _ m n _ xs k i _ HK5.out.row HK5.out.top HWF.out
                      rw [HB2.out] at CB2
                      clear CB1 hb5 HK4 HO4 HB2 hA1 hA2 hA3 hA4 hr1 hr2 b20 b21 b22 x0 x1 x2 x3 x4 b2' q0' q1' q2' q3' q4' b0 b1 b2 q0 q1 q2 q3 q4
                      go_wp2_with fail
                      refine CB2.mono ?_
                      rintro e w6 ⟨rfl, hb6⟩
                      have HK6 := Lib.hid (HK5.out.keep hb6)
                      have HO6 := Lib.hid (owL HO5.out hb6)
                      clear CB2 hb6 HK5 HO5 b30 b31 b32
                      go_wp2_with fail
                      go_roundw
                      case rel => exact ⟨k + 1, by omega, by go_num, by rw [HS.out]; simp, HO6, HK6⟩
                      case measure => simp [intOf] <;> omega
                · have e1 : (r1 == 0) = false := by simpa using t1
                  by_cases t3 : r2 = 0
                  · subst t3
                    by_cases t4 : 0 < r1
                    · obtain ⟨hb1, hb2⟩ := HBD.out true (by rw [HDD.out]; exact decide_eq_true (by omega))
                      have HS : Hid (acc xs i (k + 1) = acc xs i k + r1) := Lib.hid (by rw [HAC.out, HCO.out, HDD.out]; simp <;> omega)
                      have CB1 := ImplAreBeside_any _ _ m n _ xs i k _ HK4.out.row HK4.out.top HWF.out
                      rw [hb1] at CB1
                      have HB2 := Lib.hid hb2
                      clear hb1 hb2 HBD HDD HCO HAC
                      go_wp2_with fail
                      refine CB1.mono ?_
                      rintro e w5 ⟨rfl, hb5⟩
                      have HK5 := Lib.hid (HK4.out.keep hb5)
                      have HO5 := Lib.hid (owL HO4.out hb5)
                      obtain ⟨b30, b31, b32⟩ := HK5.out.box
                      have CB2 := ImplAreBeside_any _ _ m n _ xs k i _ HK5.out.row HK5.out.top HWF.out
                      rw [HB2.out] at CB2
                      clear CB1 hb5 HK4 HO4 HB2 hA1 hA2 hA3 hA4 hr1 hr2 b20 b21 b22 x0 x1 x2 x3 x4 b2' q0' q1' q2' q3' q4' b0 b1 b2 q0 q1 q2 q3 q4
                      go_wp2_with fail
                      refine CB2.mono ?_
                      rintro e w6 ⟨rfl, hb6⟩
                      have HK6 := Lib.hid (HK5.out.keep hb6)
                      have HO6 := Lib.hid (owL HO5.out hb6)
                      clear CB2 hb6 HK5 HO5 b30 b31 b32
                      go_wp2_with fail
                      go_roundw
                      case rel => exact ⟨k + 1, by omega, by go_num, by rw [HS.out], HO6, HK6⟩
                      case measure => simp [intOf] <;> omega
                    · obtain ⟨hb1, hb2⟩ := HBD.out false (by rw [HDD.out]; exact decide_eq_false (by omega))
                      have HS : Hid (acc xs i (k + 1) = acc xs i k + 0) := Lib.hid (by rw [HAC.out, HCO.out, HDD.out]; simp <;> omega)
                      have CB1 := ImplAreBeside_any _ _ m n _ xs i k _ HK4.out.row HK4.out.top HWF.out
                      rw [hb1] at CB1
                      have HB2 := Lib.hid hb2
                      clear hb1 hb2 HBD HDD HCO HAC
                      go_wp2_with fail
                      refine CB1.mono ?_
                      rintro e w5 ⟨rfl, hb5⟩
                      have HK5 := Lib.hid (HK4.out.keep hb5)
                      have HO5 := Lib.hid (owL HO4.out hb5)
                      obtain ⟨b30, b31, b32⟩ := HK5.out.box
                      have CB2 := ImplAreBeside_any _ _ m n _ xs k i _ HK5.out.row HK5.out.top HWF.out
                      rw [HB2.out] at CB2
                      clear CB1 hb5 HK4 HO4 HB2 hA1 hA2 hA3 hA4 hr1 hr2 b20 b21 b22 x0 x1 x2 x3 x4 b2' q0' q1' q2' q3' q4' b0 b1 b2 q0 q1 q2 q3 q4
                      go_wp2_with fail
                      refine CB2.mono ?_
                      rintro e w6 ⟨rfl, hb6⟩
                      have HK6 := Lib.hid (HK5.out.keep hb6)
                      have HO6 := Lib.hid (owL HO5.out hb6)
                      clear CB2 hb6 HK5 HO5 b30 b31 b32
                      go_wp2_with fail
                      go_roundw
                      case rel => exact ⟨k + 1, by omega, by go_num, by rw [HS.out]; simp, HO6, HK6⟩
                      case measure => simp [intOf] <;> omega
                  · have e3 : (r2 == 0) = false := by simpa using t3
                    obtain ⟨hb1, hb2⟩ := HBD.out false (by rw [HDD.out]; exact decide_eq_false (by omega))
                    have HS : Hid (acc xs i (k + 1) = acc xs i k + 0) := Lib.hid (by rw [HAC.out, HCO.out, HDD.out]; simp <;> omega)
                    have CB1 := ImplAreBeside_any _ _ m n _ xs i k _ HK4.out.row HK4.out.top HWF.out
                    rw [hb1] at CB1
                    have HB2 := Lib.hid hb2
                    clear hb1 hb2 HBD HDD HCO HAC
                    go_wp2_with fail
                    refine CB1.mono ?_
                    rintro e w5 ⟨rfl, hb5⟩
                    have HK5 := Lib.hid (HK4.out.keep hb5)
                    have HO5 := Lib.hid (owL HO4.out hb5)
                    obtain ⟨b30, b31, b32⟩ := HK5.out.box
                    have CB2 := ImplAreBeside_any _ _ m n _ xs k i _ HK5.out.row HK5.out.top HWF.out
                    rw [HB2.out] at CB2
                    clear CB1 hb5 HK4 HO4 HB2 hA1 hA2 hA3 hA4 hr1 hr2 b20 b21 b22 x0 x1 x2 x3 x4 b2' q0' q1' q2' q3' q4' b0 b1 b2 q0 q1 q2 q3 q4
                    go_wp2_with fail
                    refine CB2.mono ?_
                    rintro e w6 ⟨rfl, hb6⟩
                    have HK6 := Lib.hid (HK5.out.keep hb6)
                    have HO6 := Lib.hid (owL HO5.out hb6)
                    clear CB2 hb6 HK5 HO5 b30 b31 b32
                    go_wp2_with fail
                    go_roundw
                    case rel => exact ⟨k + 1, by omega, by go_num, by rw [HS.out]; simp, HO6, HK6⟩
                    case measure => simp [intOf] <;> omega
              · obtain rfl : k = i := by omega
                have HR := Lib.hid (acc_row xs k)
                go_wp2_with fail
                clear b0 b1 b2
                go_roundw
                case rel => exact ⟨k + 1, by omega, by go_num, by rw [HR.out], ho, hk⟩
                case measure => simp [intOf] <;> omega
          · obtain rfl : i = xs.length := by omega
            have HSUM := Lib.hid (acc_end HK.out)
            have hsb := (acc_bd HK.out (i := xs.length) (k := 0) (by omega) (by omega) (.inl rfl))
            generalize acc xs xs.length 0 = Sm at HSUM hsb
            obtain ⟨w7, rfl⟩ : ∃ w7 : World, w7 = wr := ⟨_, rfl⟩
            have NB := bel0 w7 (.cells #[.int .i64 m, .int .i64 n, .slice (some ⟨g, 0, none⟩) xs.length cv] 26)
            have HK8 := Lib.hid (hk.out.keep NB)
            have HT8 : Hid (TT w7.heap.size w.heap.size w1.heap.size m n (.slice (some ⟨g, 0, none⟩) xs.length cv) xs (w7.alloc (.cells #[.int .i64 m, .int .i64 n, .slice (some ⟨g, 0, none⟩) xs.length cv] 26))) := Lib.hid ⟨BoxL.new w7 _ _ _ _, HK8.out.row, HK8.out.top⟩
            have hlb := hk.out.lt
            have hsz7 := hk.out.bel.size
            clear hk ho NB HE
            go_wp2_with fail
            clear b0 b1 b2
            go_loopw [18] (fun i wr => ∃ (k : Nat) (M N : Int) (v : Value) (ys : List P5) (lo hi : Nat), k ≤ 4 ∧ i = .int .i64 k ∧ Hid (tI m n xs k = (M, N, ys)) ∧ Hid (TT w7.heap.size lo hi M N v ys wr) ∧ Hid (KL w w1.heap.size w.heap.size w1.heap.size m n (.slice (some ⟨g, 0, none⟩) xs.length cv) xs wr)) (fun i _ => 4 - (intOf i).toNat)
            case atStart => exact ⟨0, m, n, _, xs, _, _, Nat.zero_le _, rfl, Lib.hid rfl, HT8, HK8⟩
            case round =>
              clear HT8 HK8
              obtain ⟨k, M, N, v, ys, lo, hi, hk4, rfl, HI, ht, hk⟩ := hrel
              by_cases hlt : k < 4
              · have hly := tI_lay HK.out HI.out
                have CT := ImplTurnLayout_any lo hi M N v ys (lay_wf hly) wr ht.out.row ht.out.top
                obtain ⟨z1, z2, z3⟩ := t_yes (lay_yes hly).symm
                rw [z1, z2, z3] at CT
                have HST := Lib.hid (tI_step HI.out)
                obtain ⟨d0, d1, d2, f0, f1, f2⟩ := ht.out.box
                clear z1 z2 z3 hly
                go_wp2_with fail
                clear d0 d1 d2 f0 f1 f2
                refine CT.mono ?_
                rintro e w8 ⟨v8, rfl, R8, hb8⟩
                obtain ⟨a8, c8, rfl⟩ := R8.form
                have hB8 := ht.out.box.below hb8 ht.out.box.lt
                have hl8 := ht.out.box.lt
                have HT9 := Lib.hid (TT.store (m' := N) (n' := M) hB8 R8 hl8)
                have HK9 := Lib.hid ((((hk.out.keep hb8).set hz (p := ⟨w7.heap.size, 0, none⟩) hlb (.int .i64 N)).set hz (p := ⟨w7.heap.size, 1, none⟩) hlb (.int .i64 M)).set hz (p := ⟨w7.heap.size, 2, none⟩) hlb (.slice a8 (turL N ys).length c8))
                obtain ⟨d0, d1, d2, f0, f1, f2⟩ := hB8
                clear CT R8 hb8 ht hk
                go_wp2_with fail
                go_roundw
                case rel => exact ⟨k + 1, N, M, _, turL N ys, _, _, by omega, by go_num, HST, HT9, HK9⟩
                case measure => simp [intOf] <;> omega
              · obtain rfl : k = 4 := by omega
                have h4 := HI.out
                rw [tI_four] at h4
                simp only [Prod.mk.injEq] at h4
                obtain ⟨rfl, rfl, rfl⟩ := h4
                obtain ⟨av, cx, rfl⟩ := ht.out.row.form
                obtain ⟨gt, rfl, _⟩ := ht.out.row.at (Below.refl _ _) (i := 0) (by omega)
                obtain ⟨d0, d1, d2, _, _, _⟩ := ht.out.box
                clear HI
                go_wp2_with fail
                clear d0 d1 d2
                go_loopw [19] (fun i wr => ∃ k : Nat, k ≤ xs.length ∧ i = .int .i64 k ∧ Hid (TT w7.heap.size lo hi m n (.slice (some ⟨gt, 0, none⟩) xs.length cx) xs wr) ∧ Hid (KL w w1.heap.size w.heap.size w1.heap.size m n (.slice (some ⟨g, 0, none⟩) xs.length cv) xs wr)) (fun i _ => xs.length - (intOf i).toNat)
                case atStart => exact ⟨0, Nat.zero_le _, rfl, ht, hk⟩
                case round =>
                  clear ht hk
                  obtain ⟨j, hj, rfl, ht, hk⟩ := hrel
                  obtain ⟨b0, b1, b2⟩ := hk.out.box
                  obtain ⟨d0, d1, d2, _, _, _⟩ := ht.out.box
                  by_cases hlt2 : j < xs.length
                  · obtain ⟨g', hg', _, _, ⟨e0, e1, e2, e3, e4⟩, _⟩ := hk.out.row.at (Below.refl _ _) hlt2
                    obtain rfl : g = g' := by simpa using hg'
                    clear hg'
                    obtain ⟨g', hg', _, _, ⟨q0, q1, q2, q3, q4⟩, _⟩ := ht.out.row.at (Below.refl _ _) hlt2
                    obtain rfl : gt = g' := by simpa using hg'
                    clear hg'
                    generalize xs.getD j P5.zero = c at e0 e1 e2 e3 e4 q0 q1 q2 q3 q4
                    have i2 : (j : Int) < (xs.length : Int) := by omega
                    have i3 : (0 : Int) ≤ (j : Int) := by omega
                    have HTq := Lib.hid ht.out
                    have HKq := Lib.hid hk.out
                    clear ht hk
                    go_wp2_with fail
                    go_quiet (fail)
                    have HT3 := Lib.hid (HTq.out.keep (drewN_bel wr nq))
                    have HK3 := Lib.hid (HKq.out.keep (drewN_bel wr nq))
                    clear HTq HKq e0 e1 e2 e3 e4 q0 q1 q2 q3 q4 b0 b1 b2 d0 d1 d2
                    go_wp2_with fail
                    go_roundw
                    case rel => exact ⟨j + 1, by omega, by go_num, HT3, HK3⟩
                    case measure => simp [intOf] <;> omega
                  · obtain rfl : j = xs.length := by omega
                    have hly := (lay_yes HK.out).symm
                    have C1 := ImplLayoutOk_any _ _ m n _ xs wr hk.out.row hk.out.top HWF.out
                    rw [hly] at C1
                    have HLY := Lib.hid hly
                    clear d0 d1 d2 hly
                    go_wp2_with fail
                    refine C1.mono ?_
                    rintro e w9 ⟨rfl, hb9⟩
                    have K9 := hk.out.keep hb9
                    have T9 := ht.out.keep hb9
                    clear C1 hb9 hk ht b0 b1 b2
                    obtain ⟨b0, b1, b2⟩ := K9.box
                    have C2 := ImplSeamLength_any _ _ m n _ xs w9 K9.row K9.top HWF.out
                    rw [← HSUM.out] at C2
                    have HK9 := Lib.hid K9
                    have HT9 := Lib.hid T9
                    clear K9 T9
                    go_wp2_with fail
                    refine C2.mono ?_
                    rintro e w10 ⟨rfl, hb10⟩
                    have HK10 := Lib.hid (HK9.out.keep hb10)
                    have HT10 := Lib.hid (HT9.out.keep hb10)
                    clear C2 hb10 HK9 HT9 b0 b1 b2
                    obtain ⟨b0, b1, b2⟩ := HK10.out.box
                    have C3 := ImplTurnLayout_any _ _ m n _ xs HWF.out w10 HK10.out.row HK10.out.top
                    obtain ⟨z1, z2, z3⟩ := t_yes HLY.out
                    rw [z1, z2, z3] at C3
                    clear z1 z2 z3
                    go_wp2_with fail
                    refine C3.mono ?_
                    rintro e w11 ⟨v11, rfl, R11, hb11⟩
                    have C4 := ImplSeamLength_any _ _ n m v11 (turL n xs) w11 R11 (Nat.le_refl _) (lay_wf (lay_turn HK.out))
                    rw [seam_turn HK.out, ← seam_val HK.out, ← HSUM.out] at C4
                    have HK11 := Lib.hid (HK10.out.keep hb11)
                    have HT11 := Lib.hid (HT10.out.keep hb11)
                    clear C3 hb11 HK10 HT10 R11 b0 b1 b2
                    go_wp2_with fail
                    refine C4.mono ?_
                    rintro e w12 ⟨rfl, hb12⟩
                    have HK12 := Lib.hid (HK11.out.keep hb12)
                    have HT12 := Lib.hid (HT11.out.keep hb12)
                    clear C4 hb12 HK11 HT11
                    obtain ⟨b0, b1, b2⟩ := HK12.out.box
                    obtain ⟨d0, d1, d2, _, _, _⟩ := HT12.out.box
                    go_wp2_with fail
                    refine (ImplSampleLayout_any _).mono ?_
                    rintro e w13 ⟨v13, rfl, R13, hb13⟩
                    have C5 := ImplSeamLength_any _ _ 3 3 v13 smpL w13 R13 (Nat.le_refl _) (lay_wf smp_ok)
                    rw [smp_seam] at C5
                    have HK13 := Lib.hid (HK12.out.keep hb13)
                    clear hb13 R13 HK12 HT12 b0 b1 b2 d0 d1 d2
                    go_wp2_with fail
                    refine C5.mono ?_
                    rintro e w14 ⟨rfl, hb14⟩
                    have HBF := Lib.hid (HK13.out.keep hb14).bel
                    clear C5 hb14 HK13
                    go_wp2_with fail
                    go_ret
                    exact ⟨rfl, HBF.out⟩
  · go_enter Try.func3, Try.ntmps3
    go_wp2_with fail
    refine (Big_yes a len cap w hl (by omega)).mono ?_
    rintro e w' ⟨rfl, rfl⟩
    go_wp2_with fail
    go_ret
    exact ⟨rfl, Below.refl _ _⟩

end Go.Proofs.Ytlfeohahaidohaa
