/- Sameness: the model's LeastForm and LeastPattern. -/
import Derived.Test.YtfidnhhlcdbaeaaDoorM21
import Derived.Test.YtfidnhhlcdbaeaaDoorM24
import Derived.Test.YtfidnhhlcdbaeaaDoorM18
import Derived.Deep.DeepCutAuto
import Derived.Deep.RegionHeld3

namespace Go.Proofs.YtfidnhhlcdbaeaaDoor
open Go.ChangeShapes Go.WideShapes Go.ChangeAt Go.RowKit

theorem SpecTextY (lo hi : Nat) (n : Int) (v : Value) (xs : List C3) (t : ByteArray) (u : World) (r : CellIn lo hi u v xs) (h : hi ≤ u.heap.size) (hb : BlkOk n xs) (e : txtB xs = t) :
    Calls Tryd.prog 27 #[.agg #[.int .i64 n, v]] u fun e w' => e = .returned (.string t) ∧ Below u.heap.size u w' := by
  have := SpecTextOf_any lo hi n v xs u r h
  rw [(sam_yes hb).1, e] at this
  exact this
theorem SpecPlainY (lo hi : Nat) (n : Int) (v : Value) (xs ys : List C3) (u : World) (r : CellIn lo hi u v xs) (h : hi ≤ u.heap.size) (hb : BlkOk n xs) (e : plainL xs = ys) :
    Calls Tryd.prog 36 #[.agg #[.int .i64 n, v]] u (FreshB n ys u) := by
  have := SpecPlain_yes lo hi n v xs u r h hb
  rw [e] at this
  exact this
theorem txtB_less (xs ys : List C3) : Op.bytesLess (txtB xs).toList (txtB ys).toList = Op.bytesLess (txtL xs) (txtL ys) := by
  rw [Lib.toList_data, Lib.toList_data, txtB_list, txtB_list]
set_option maxRecDepth 100000 in
set_option maxHeartbeats 8000000 in
theorem SpecLeastForm_any (lo hi : Nat) (n : Int) (v : Value) (xs : List C3) (w : World) (r : CellIn lo hi w v xs) (hhi : hi ≤ w.heap.size) :
    Calls Tryd.prog 9 #[.agg #[.int .i64 n, v]] w (FreshB (turnN n xs) (lfB n xs) w) := by
  obtain ⟨a, cap, rfl⟩ := r.form
  have hl := r.1
  have HR := Lib.hid (fun W (hb : Below w.heap.size w W) => r.below (hb.mono hhi))
  clear r
  by_cases hb : BlkOk n xs
  · rw [(turnB_yes hb).1, (sam_yes hb).2.1]
    have HB := Lib.hid hb
    clear hb
    obtain ⟨f, hf⟩ : ∃ f : Nat → List C3, (fun k => seeL n k xs) = f := ⟨_, rfl⟩
    have HF := Lib.hid hf
    have HFO : Hid (∀ k, BlkOk n (f k)) := Lib.hid (hf ▸ (fun k => seeL_ok HB.out))
    have hans : lfL n xs = lstK f 7 := by rw [← hf]; rfl
    rw [hans]
    obtain ⟨zs, hzs⟩ : ∃ zs, lstK f 7 = zs := ⟨_, rfl⟩
    rw [hzs]
    have HZS := Lib.hid hzs
    clear hans hf hzs
    go_enter Tryd.func9, Tryd.ntmps9
    go_wp2_with fail
    refine (SpecBlockOk_yes lo hi n _ xs _ (HR.out _ (bel_n (bel0 w _) (Nat.le_refl _) _)) (by simp; omega) HB.out).mono ?_
    rintro e w1 ⟨rfl, hb1⟩
    have p0 := kept (p := ⟨w.heap.size, 0, none⟩) (x := .int .i64 n) hb1 (by go_simp)
    have p1 := kept (p := ⟨w.heap.size, 1, none⟩) (x := .slice a xs.length cap) hb1 (by go_simp)
    have HB1 := Lib.hid (bel_c (bel_n (bel0 w (.cells #[.int .i64 n, .slice a xs.length cap] 28)) (Nat.le_refl _) (.cells #[.int .i64 0, .slice none 0 0] 28)) (Nat.le_refl _) hb1)
    have HBX := Lib.hid hb1
    clear hb1
    go_wp2_with fail
    refine (SpecCopy_any lo hi n _ xs _ (HR.out _ HB1.out) (Nat.le_trans hhi HB1.out.size)).mono ?_
    rintro e w2 ⟨v2, rfl, hin2, hb2⟩
    have HB2 := Lib.hid (bel_c HB1.out (Nat.le_refl _) hb2)
    have HX2 := Lib.hid (bel_c HBX.out (Nat.le_refl _) hb2)
    have HPO : Hid (w.heap.size + 1 < w2.heap.size) := Lib.hid (by have := HX2.out.size; simp at this; omega)
    obtain ⟨a2, c2, rfl⟩ := hin2.form
    have HS2 := Lib.hid (SBk.start n (.slice a xs.length cap) (.slice a2 xs.length c2) w w2 HX2.out)
    have HI2 : Hid (CellIn (w.heap.size + 1 + 1) (w2.alloc (.cells #[.int .i64 n, .slice a2 xs.length c2] 28)).heap.size (w2.alloc (.cells #[.int .i64 n, .slice a2 xs.length c2] 28)) (.slice a2 xs.length c2) (lstK f 0)) := Lib.hid (by
      rw [show lstK f 0 = xs by rw [← HF.out]; rfl]
      exact (hin2.below (bel0 w2 (.cells #[.int .i64 n, .slice a2 xs.length c2] 28))).wide (lo' := w.heap.size + 1 + 1) (by have := HBX.out.size; simpa using this) (hi' := (w2.alloc (.cells #[.int .i64 n, .slice a2 xs.length c2] 28)).heap.size) (by simp))
    have HB3 := Lib.hid (bel_n HB2.out (Nat.le_refl _) (.cells #[.int .i64 n, .slice a2 xs.length c2] 28))
    have HZ3 : Hid (w2.heap.size + 1 ≤ (w2.alloc (.cells #[.int .i64 n, .slice a2 xs.length c2] 28)).heap.size) := Lib.hid (by simp)
    clear p0 p1 hb2 hin2
    go_wp2_with fail
    go_loopw [4] (fun i wr => ∃ (m : Nat) (v : Value), m ≤ 7 ∧ i = .int .i64 ((m : Int) + 1) ∧ Hid (CellIn (w.heap.size + 1 + 1) wr.heap.size wr v (lstK f m)) ∧ Hid (SBk w.heap.size w2.heap.size n (.slice a xs.length cap) v wr) ∧ Hid (Below w.heap.size w wr) ∧ w2.heap.size + 1 ≤ wr.heap.size) (fun i _ => 8 - (intOf i).toNat)
    case atStart => exact ⟨0, _, Nat.zero_le _, rfl, HI2, HS2, HB3, HZ3.out⟩
    case round =>
      obtain ⟨m, v, hc, rfl, hin, hs, hbel, hsz⟩ := hrel
      by_cases hlt : m < 7
      · obtain ⟨av, cv, rfl⟩ := hin.out.form
        have p0 := hs.out.1.2.2.2.1
        have p1 := hs.out.1.2.2.2.2.1
        have h8 : (m : Int) + 1 < 8 := by omega
        obtain ⟨ds, hds⟩ : ∃ ds, f (m + 1) = ds := ⟨_, rfl⟩
        have HSE : Hid (seeL n (m + 1) xs = ds) := Lib.hid (by rw [← hds, ← HF.out])
        have HDO : Hid (BlkOk n ds) := Lib.hid (hds ▸ HFO.out (m + 1))
        obtain ⟨bs, hbs⟩ : ∃ bs, lstK f m = bs := ⟨_, rfl⟩
        have HBO : Hid (BlkOk n bs) := Lib.hid (by
          obtain ⟨i, _, e⟩ := lstK_mem f m
          rw [← hbs, e]; exact HFO.out i)
        have HNX : Hid (lstK f (m + 1) = if Op.bytesLess (txtL ds) (txtL bs) = true then ds else bs) := Lib.hid (by rw [← hds, ← hbs]; rfl)
        rw [hbs] at hin hs
        clear hds hbs
        go_wp2_with fail
        refine (SpecSeeY lo hi n (m + 1) _ _ xs ds _ (HR.out _ hbel.out) (Nat.le_trans hhi hbel.out.size) HB.out (by omega) (by omega) HSE.out).mono ?_
        rintro e w5 ⟨v5, rfl, hin5, hb5⟩
        obtain ⟨a5, c5, rfl⟩ := hin5.form
        have HB5 := Lib.hid hb5
        have hz5 := HB5.out.size
        have HI5 : Hid (CellIn wr.heap.size w5.heap.size w5 (.slice a5 ds.length c5) ds) := Lib.hid (hin5)
        clear p0 p1 hb5 hin5
        go_upto_region 8 with fail
        obtain ⟨G, hG⟩ : ∃ G, G = w5.alloc (.cells #[.int .i64 n, .slice a5 ds.length c5] 28) := ⟨_, rfl⟩
        have HZG : Hid (G.heap.size = w5.heap.size + 1) := Lib.hid (by rw [hG]; simp)
        have HGW : Hid (Below w5.heap.size w5 G) := Lib.hid (by rw [hG]; exact bel0 _ _)
        have HDX : Hid (Two w5.heap.size (.int .i64 n) (.slice a5 ds.length c5) G) := Lib.hid (by rw [hG]; exact Two.new _ _ _ _)
        rw [← hG]
        clear hG
        have HGR := Lib.hid (bel_c HB5.out (Nat.le_refl _) HGW.out)
        have HSG := Lib.hid (hs.out.far (HGR.out.mono hsz) HPO.out)
        have D0 : Below G.heap.size G G.drew := ⟨rfl, rfl, rfl, Nat.le_refl _, fun _ _ => rfl⟩
        have HZ0 : Hid (wr.heap.size ≤ G.heap.size ∧ w5.heap.size ≤ G.heap.size) := Lib.hid ⟨HGR.out.size, by have := HZG.out; omega⟩
        obtain ⟨sd, hsd⟩ : ∃ t, txtB ds = t := ⟨_, rfl⟩
        obtain ⟨sb, hsb⟩ : ∃ t, txtB bs = t := ⟨_, rfl⟩
        have HCC : Hid (Op.bytesLess sd.toList sb.toList = Op.bytesLess (txtL ds) (txtL bs)) := Lib.hid (by rw [← hsd, ← hsb]; exact txtB_less _ _)
        have KP : ∀ u v, Below u.heap.size u v → (u.cell? ⟨w5.heap.size, 0, none⟩ = some (.int .i64 n) ∧ u.cell? ⟨w5.heap.size, 1, none⟩ = some (.slice a5 ds.length c5) ∧ u.cell? ⟨w2.heap.size, 0, none⟩ = some (.int .i64 n) ∧ u.cell? ⟨w2.heap.size, 1, none⟩ = some (.slice av bs.length cv) ∧ Below G.heap.size G u) → (v.cell? ⟨w5.heap.size, 0, none⟩ = some (.int .i64 n) ∧ v.cell? ⟨w5.heap.size, 1, none⟩ = some (.slice a5 ds.length c5) ∧ v.cell? ⟨w2.heap.size, 0, none⟩ = some (.int .i64 n) ∧ v.cell? ⟨w2.heap.size, 1, none⟩ = some (.slice av bs.length cv) ∧ Below G.heap.size G v) := fun u v hb h => ⟨kept hb h.1, kept hb h.2.1, kept hb h.2.2.1, kept hb h.2.2.2.1, bel_c h.2.2.2.2 (Nat.le_refl _) hb⟩
        have C1 := Lib.hid (fun (u : World) (h : u.cell? ⟨w5.heap.size, 0, none⟩ = some (.int .i64 n) ∧ u.cell? ⟨w5.heap.size, 1, none⟩ = some (.slice a5 ds.length c5) ∧ u.cell? ⟨w2.heap.size, 0, none⟩ = some (.int .i64 n) ∧ u.cell? ⟨w2.heap.size, 1, none⟩ = some (.slice av bs.length cv) ∧ Below G.heap.size G u) => SpecTextY wr.heap.size w5.heap.size n (.slice a5 ds.length c5) ds sd u (HI5.out.below ((bel_c HGW.out (Nat.le_refl _) (h.2.2.2.2)).mono (Nat.le_refl _))) (Nat.le_trans HZ0.out.2 h.2.2.2.2.size) HDO.out hsd)
        have C2 := Lib.hid (fun (u : World) (h : u.cell? ⟨w5.heap.size, 0, none⟩ = some (.int .i64 n) ∧ u.cell? ⟨w5.heap.size, 1, none⟩ = some (.slice a5 ds.length c5) ∧ u.cell? ⟨w2.heap.size, 0, none⟩ = some (.int .i64 n) ∧ u.cell? ⟨w2.heap.size, 1, none⟩ = some (.slice av bs.length cv) ∧ Below G.heap.size G u) => SpecTextY (w.heap.size + 1 + 1) wr.heap.size n (.slice av bs.length cv) bs sb u (hin.out.below (bel_c HGR.out (Nat.le_refl _) h.2.2.2.2)) (Nat.le_trans HZ0.out.1 h.2.2.2.2.size) HBO.out hsb)
        have S0 : G.drew.cell? ⟨w5.heap.size, 0, none⟩ = some (.int .i64 n) ∧ G.drew.cell? ⟨w5.heap.size, 1, none⟩ = some (.slice a5 ds.length c5) ∧ G.drew.cell? ⟨w2.heap.size, 0, none⟩ = some (.int .i64 n) ∧ G.drew.cell? ⟨w2.heap.size, 1, none⟩ = some (.slice av bs.length cv) ∧ Below G.heap.size G G.drew := ⟨(HDX.out.keep D0).1, (HDX.out.keep D0).2, kept D0 HSG.out.1.2.1, kept D0 HSG.out.1.1, D0⟩
        clear hsd hsb
        by_cases hcmp : Op.bytesLess (txtL ds) (txtL bs) = true
        · have hcc : Op.bytesLess sd.toList sb.toList = true := HCC.out.trans hcmp
          have HN1 : Hid (lstK f (m + 1) = ds) := Lib.hid (by rw [HNX.out, if_pos hcmp])
          clear hcmp
          go_region_held3 (fun w' => w'.cell? ⟨w5.heap.size, 0, none⟩ = some (.int .i64 n) ∧ w'.cell? ⟨w5.heap.size, 1, none⟩ = some (.slice a5 ds.length c5) ∧ w'.cell? ⟨w2.heap.size, 0, none⟩ = some (.int .i64 n) ∧ w'.cell? ⟨w2.heap.size, 1, none⟩ = some (.slice av bs.length cv) ∧ Below G.heap.size G w') (first | assumption | (refine KP _ _ (by assumption) ?_; assumption))
            ((first
              | (go_at_call 27; refine (args_eq (C1.out _ (by assumption)) (by with_reducible rfl)).mono ?_; rintro e y ⟨rfl, hb⟩)
              | (go_at_call 27; refine (args_eq (C2.out _ (by assumption)) (by with_reducible rfl)).mono ?_; rintro e y ⟨rfl, hb⟩)))
          all_goals
            have HY : y.cell? ⟨w5.heap.size, 0, none⟩ = some (.int .i64 n) ∧ y.cell? ⟨w5.heap.size, 1, none⟩ = some (.slice a5 ds.length c5) ∧ y.cell? ⟨w2.heap.size, 0, none⟩ = some (.int .i64 n) ∧ y.cell? ⟨w2.heap.size, 1, none⟩ = some (.slice av bs.length cv) ∧ Below G.heap.size G y := by assumption
            have HSY := Lib.hid (HSG.out.far (HY.2.2.2.2.mono (by have := HZ0.out; omega)) HPO.out)
            have HRY := Lib.hid (bel_c HGR.out (Nat.le_refl _) HY.2.2.2.2)
            have HIY := Lib.hid ((((HI5.out.below ((bel_c HGW.out (Nat.le_refl _) HY.2.2.2.2).mono (Nat.le_refl _))).set_far (p := ⟨w2.heap.size, 0, none⟩) hsz (.int .i64 n)).set_far (p := ⟨w2.heap.size, 1, none⟩) hsz (.slice a5 ds.length c5)).wide (lo' := w.heap.size + 1 + 1) (by have := HPO.out; omega) (hi' := ((y.setCell ⟨w2.heap.size, 0, none⟩ (.int .i64 n)).setCell ⟨w2.heap.size, 1, none⟩ (.slice a5 ds.length c5)).heap.size) (by simp [World.setCell]; have := HZ0.out.2; have := HY.2.2.2.2.size; omega))
            have HST := Lib.hid (HSY.out.store HPO.out (.slice a5 ds.length c5))
            have HB9 := Lib.hid (Below.setCell (Below.setCell (bel_c hbel.out (Nat.le_refl _) HRY.out) (p := ⟨w2.heap.size, 0, none⟩) (by show _ ≤ w2.heap.size; have := HPO.out; omega) (.int .i64 n)) (p := ⟨w2.heap.size, 1, none⟩) (by show _ ≤ w2.heap.size; have := HPO.out; omega) (.slice a5 ds.length c5))
            have HZ9 : Hid (w2.heap.size + 1 ≤ ((y.setCell ⟨w2.heap.size, 0, none⟩ (.int .i64 n)).setCell ⟨w2.heap.size, 1, none⟩ (.slice a5 ds.length c5)).heap.size) := Lib.hid (by simp [World.setCell]; exact Nat.le_trans hsz HRY.out.size)
            have f0 := HSY.out.2
            have f1 := HSY.out.1.2.2.1
            obtain ⟨d0, d1, q0, q1, -⟩ := HY
            clear KP C1 C2 S0 D0 HSG
            go_wp2_with fail
            clear f0 f1 q0 q1 d0 d1
            go_roundw
            case rel => exact ⟨m + 1, _, by omega, by go_num, by rw [HN1.out]; exact HIY, HST, HB9, HZ9.out⟩
            case measure => simp [intOf] <;> omega
        · have hcc : Op.bytesLess sd.toList sb.toList = false := HCC.out.trans (by simpa using hcmp)
          have HN1 : Hid (lstK f (m + 1) = bs) := Lib.hid (by rw [HNX.out, if_neg hcmp])
          clear hcmp
          go_region_held3 (fun w' => w'.cell? ⟨w5.heap.size, 0, none⟩ = some (.int .i64 n) ∧ w'.cell? ⟨w5.heap.size, 1, none⟩ = some (.slice a5 ds.length c5) ∧ w'.cell? ⟨w2.heap.size, 0, none⟩ = some (.int .i64 n) ∧ w'.cell? ⟨w2.heap.size, 1, none⟩ = some (.slice av bs.length cv) ∧ Below G.heap.size G w') (first | assumption | (refine KP _ _ (by assumption) ?_; assumption))
            ((first
              | (go_at_call 27; refine (args_eq (C1.out _ (by assumption)) (by with_reducible rfl)).mono ?_; rintro e y ⟨rfl, hb⟩)
              | (go_at_call 27; refine (args_eq (C2.out _ (by assumption)) (by with_reducible rfl)).mono ?_; rintro e y ⟨rfl, hb⟩)))
          all_goals
            have HY : y.cell? ⟨w5.heap.size, 0, none⟩ = some (.int .i64 n) ∧ y.cell? ⟨w5.heap.size, 1, none⟩ = some (.slice a5 ds.length c5) ∧ y.cell? ⟨w2.heap.size, 0, none⟩ = some (.int .i64 n) ∧ y.cell? ⟨w2.heap.size, 1, none⟩ = some (.slice av bs.length cv) ∧ Below G.heap.size G y := by assumption
            have HSY := Lib.hid (HSG.out.far (HY.2.2.2.2.mono (by have := HZ0.out; omega)) HPO.out)
            have HRY := Lib.hid (bel_c HGR.out (Nat.le_refl _) HY.2.2.2.2)
            have HIY := Lib.hid ((hin.out.below HRY.out).wide (Nat.le_refl _) (hi' := y.heap.size) HRY.out.size)
            have HBY := Lib.hid (bel_c hbel.out (Nat.le_refl _) HRY.out)
            have HZ9 : Hid (w2.heap.size + 1 ≤ y.heap.size) := Lib.hid (Nat.le_trans hsz HRY.out.size)
            clear HY KP C1 C2 S0 D0 HSG
            go_wp2_with fail
            go_roundw
            case rel => exact ⟨m + 1, _, by omega, by go_num, by rw [HN1.out]; exact HIY, HSY, HBY, HZ9.out⟩
            case measure => simp [intOf] <;> omega
      · have hm7 : m = 7 := by omega
        have h8 : ¬ (m : Int) + 1 < 8 := by omega
        obtain ⟨ys, hys⟩ : ∃ ys, lstK f m = ys := ⟨_, rfl⟩
        rw [hys] at hin
        have hyz : ys = zs := by rw [← hys, hm7]; exact HZS.out
        subst hyz
        clear hys hm7
        obtain ⟨av, cv, rfl⟩ := hin.out.form
        obtain ⟨⟨q1, q0, _, p0, p1, d0, d1, g0, g1⟩, _⟩ := hs.out
        clear hs
        go_wp2_with fail
        refine bodyPost_ret (v := .agg #[.int .i64 n, .slice av ys.length cv]) (by simp [results, Tryd.results9, go_sem, d0, d1]) rfl ⟨_, rfl, ?_, ?_⟩
        · refine CellIn.wide (lo := w.heap.size + 1 + 1) (hi := wr.heap.size) ?_ (by omega) (by simp [World.setCell])
          refine CellIn.set_far (CellIn.set_far hin.out ?_ _) ?_ _ <;> (simp <;> omega)
        · refine Below.setCell (Below.setCell hbel.out ?_ _) ?_ _ <;> (simp <;> omega)
  · rw [(turnB_no hb).1, (sam_no hb).2.1]
    have HB := Lib.hid hb
    clear hb
    go_enter Tryd.func9, Tryd.ntmps9
    go_wp2_with fail
    refine (SpecBlockOk_no lo hi n _ xs _ (HR.out _ (bel_n (bel0 w _) (Nat.le_refl _) _)) (by simp; omega) HB.out).mono ?_
    rintro e w1 ⟨rfl, hb1⟩
    have d0 := kept (p := ⟨w.heap.size + 1, 0, none⟩) (x := .int .i64 0) hb1 (by go_simp)
    have d1 := kept (p := ⟨w.heap.size + 1, 1, none⟩) (x := .slice none 0 0) hb1 (by go_simp)
    have g0 := keptF (p := ⟨w.heap.size + 1, 0, none⟩) (x := .int .i64 0) hb1 (by go_simp) (by go_simp)
    have g1 := keptF (p := ⟨w.heap.size + 1, 1, none⟩) (x := .slice none 0 0) hb1 (by go_simp) (by go_simp)
    have B := bel_c (bel_n (bel0 w (.cells #[.int .i64 n, .slice a xs.length cap] 28)) (Nat.le_refl _) (.cells #[.int .i64 0, .slice none 0 0] 28)) (Nat.le_refl _) hb1
    clear hb1
    go_wp2_with fail
    refine bodyPost_ret (v := .agg #[.int .i64 0, .slice none 0 0]) (by simp [results, Tryd.results9, go_sem, d0, d1]) rfl ⟨.slice none 0 0, rfl, ⟨by simp, .inl ⟨rfl, _, _, rfl⟩⟩, ?_⟩
    refine Below.setCell (Below.setCell B ?_ _) ?_ _ <;> (simp <;> omega)
set_option maxRecDepth 100000 in
set_option maxHeartbeats 8000000 in
theorem SpecLeastPattern_any (lo hi : Nat) (n : Int) (v : Value) (xs : List C3) (w : World) (r : CellIn lo hi w v xs) (hhi : hi ≤ w.heap.size) :
    Calls Tryd.prog 15 #[.agg #[.int .i64 n, v]] w (FreshB (turnN n xs) (lpB n xs) w) := by
  obtain ⟨a, cap, rfl⟩ := r.form
  have hl := r.1
  have HR := Lib.hid (fun W (hb : Below w.heap.size w W) => r.below (hb.mono hhi))
  clear r
  by_cases hb : BlkOk n xs
  · rw [(turnB_yes hb).1, (sam_yes hb).2.2]
    have HB := Lib.hid hb
    clear hb
    obtain ⟨f, hf⟩ : ∃ f : Nat → List C3, (fun k => plainL (seeL n k xs)) = f := ⟨_, rfl⟩
    have HF := Lib.hid hf
    have HFO : Hid (∀ k, BlkOk n (f k)) := Lib.hid (hf ▸ (fun k => plainL_ok (seeL_ok HB.out)))
    have hans : lpL n xs = lstK f 7 := by rw [← hf]; rfl
    rw [hans]
    obtain ⟨zs, hzs⟩ : ∃ zs, lstK f 7 = zs := ⟨_, rfl⟩
    rw [hzs]
    have HZS := Lib.hid hzs
    clear hans hf hzs
    obtain ⟨ps, hps⟩ : ∃ ps, plainL xs = ps := ⟨_, rfl⟩
    have HPS := Lib.hid hps
    clear hps
    go_enter Tryd.func15, Tryd.ntmps15
    go_wp2_with fail
    refine (SpecBlockOk_yes lo hi n _ xs _ (HR.out _ (bel_n (bel0 w _) (Nat.le_refl _) _)) (by simp; omega) HB.out).mono ?_
    rintro e w1 ⟨rfl, hb1⟩
    have p0 := kept (p := ⟨w.heap.size, 0, none⟩) (x := .int .i64 n) hb1 (by go_simp)
    have p1 := kept (p := ⟨w.heap.size, 1, none⟩) (x := .slice a xs.length cap) hb1 (by go_simp)
    have HB1 := Lib.hid (bel_c (bel_n (bel0 w (.cells #[.int .i64 n, .slice a xs.length cap] 28)) (Nat.le_refl _) (.cells #[.int .i64 0, .slice none 0 0] 28)) (Nat.le_refl _) hb1)
    have HBX := Lib.hid hb1
    clear hb1
    go_wp2_with fail
    refine (SpecPlainY lo hi n _ xs ps _ (HR.out _ HB1.out) (Nat.le_trans hhi HB1.out.size) HB.out HPS.out).mono ?_
    rintro e w2 ⟨v2, rfl, hin2, hb2⟩
    have HB2 := Lib.hid (bel_c HB1.out (Nat.le_refl _) hb2)
    have HX2 := Lib.hid (bel_c HBX.out (Nat.le_refl _) hb2)
    have HPO : Hid (w.heap.size + 1 < w2.heap.size) := Lib.hid (by have := HX2.out.size; simp at this; omega)
    obtain ⟨a2, c2, rfl⟩ := hin2.form
    have HS2 := Lib.hid (SBk.start n (.slice a xs.length cap) (.slice a2 ps.length c2) w w2 HX2.out)
    have HI2 : Hid (CellIn (w.heap.size + 1 + 1) (w2.alloc (.cells #[.int .i64 n, .slice a2 ps.length c2] 28)).heap.size (w2.alloc (.cells #[.int .i64 n, .slice a2 ps.length c2] 28)) (.slice a2 ps.length c2) (lstK f 0)) := Lib.hid (by
      rw [show lstK f 0 = ps by rw [← HF.out, ← HPS.out]; rfl]
      exact (hin2.below (bel0 w2 (.cells #[.int .i64 n, .slice a2 ps.length c2] 28))).wide (lo' := w.heap.size + 1 + 1) (by have := HBX.out.size; simpa using this) (hi' := (w2.alloc (.cells #[.int .i64 n, .slice a2 ps.length c2] 28)).heap.size) (by simp))
    have HB3 := Lib.hid (bel_n HB2.out (Nat.le_refl _) (.cells #[.int .i64 n, .slice a2 ps.length c2] 28))
    have HZ3 : Hid (w2.heap.size + 1 ≤ (w2.alloc (.cells #[.int .i64 n, .slice a2 ps.length c2] 28)).heap.size) := Lib.hid (by simp)
    clear p0 p1 hb2 hin2
    go_wp2_with fail
    go_loopw [4] (fun i wr => ∃ (m : Nat) (v : Value), m ≤ 7 ∧ i = .int .i64 ((m : Int) + 1) ∧ Hid (CellIn (w.heap.size + 1 + 1) wr.heap.size wr v (lstK f m)) ∧ Hid (SBk w.heap.size w2.heap.size n (.slice a xs.length cap) v wr) ∧ Hid (Below w.heap.size w wr) ∧ w2.heap.size + 1 ≤ wr.heap.size) (fun i _ => 8 - (intOf i).toNat)
    case atStart => exact ⟨0, _, Nat.zero_le _, rfl, HI2, HS2, HB3, HZ3.out⟩
    case round =>
      obtain ⟨m, v, hc, rfl, hin, hs, hbel, hsz⟩ := hrel
      by_cases hlt : m < 7
      · obtain ⟨av, cv, rfl⟩ := hin.out.form
        have p0 := hs.out.1.2.2.2.1
        have p1 := hs.out.1.2.2.2.2.1
        have h8 : (m : Int) + 1 < 8 := by omega
        obtain ⟨es, hes⟩ : ∃ es, seeL n (m + 1) xs = es := ⟨_, rfl⟩
        obtain ⟨ds, hds⟩ : ∃ ds, f (m + 1) = ds := ⟨_, rfl⟩
        have HSE := Lib.hid hes
        have HEO : Hid (BlkOk n es) := Lib.hid (hes ▸ seeL_ok HB.out)
        have HPE : Hid (plainL es = ds) := Lib.hid (by rw [← hds, ← HF.out, ← hes])
        clear hes
        have HDO : Hid (BlkOk n ds) := Lib.hid (hds ▸ HFO.out (m + 1))
        obtain ⟨bs, hbs⟩ : ∃ bs, lstK f m = bs := ⟨_, rfl⟩
        have HBO : Hid (BlkOk n bs) := Lib.hid (by
          obtain ⟨i, _, e⟩ := lstK_mem f m
          rw [← hbs, e]; exact HFO.out i)
        have HNX : Hid (lstK f (m + 1) = if Op.bytesLess (txtL ds) (txtL bs) = true then ds else bs) := Lib.hid (by rw [← hds, ← hbs]; rfl)
        rw [hbs] at hin hs
        clear hds hbs
        go_wp2_with fail
        refine (SpecSeeY lo hi n (m + 1) _ _ xs es _ (HR.out _ hbel.out) (Nat.le_trans hhi hbel.out.size) HB.out (by omega) (by omega) HSE.out).mono ?_
        rintro e w4 ⟨v4, rfl, hin4, hb4⟩
        obtain ⟨a4, c4, rfl⟩ := hin4.form
        clear p0 p1
        go_wp2_with fail
        refine (SpecPlainY _ _ n _ es ds _ hin4 (Nat.le_refl _) HEO.out HPE.out).mono ?_
        rintro e w5 ⟨v5, rfl, hin5, hb5'⟩
        obtain ⟨a5, c5, rfl⟩ := hin5.form
        have HB5 := Lib.hid (bel_c hb4 (Nat.le_refl _) hb5')
        have hz4 := hb4.size
        clear hin4 hb4 hb5'
        have hz5 := HB5.out.size
        have HI5 : Hid (CellIn wr.heap.size w5.heap.size w5 (.slice a5 ds.length c5) ds) := Lib.hid (hin5.wide hz4 (Nat.le_refl _))
        clear hin5
        go_upto_region 8 with fail
        obtain ⟨G, hG⟩ : ∃ G, G = w5.alloc (.cells #[.int .i64 n, .slice a5 ds.length c5] 28) := ⟨_, rfl⟩
        have HZG : Hid (G.heap.size = w5.heap.size + 1) := Lib.hid (by rw [hG]; simp)
        have HGW : Hid (Below w5.heap.size w5 G) := Lib.hid (by rw [hG]; exact bel0 _ _)
        have HDX : Hid (Two w5.heap.size (.int .i64 n) (.slice a5 ds.length c5) G) := Lib.hid (by rw [hG]; exact Two.new _ _ _ _)
        rw [← hG]
        clear hG
        have HGR := Lib.hid (bel_c HB5.out (Nat.le_refl _) HGW.out)
        have HSG := Lib.hid (hs.out.far (HGR.out.mono hsz) HPO.out)
        have D0 : Below G.heap.size G G.drew := ⟨rfl, rfl, rfl, Nat.le_refl _, fun _ _ => rfl⟩
        have HZ0 : Hid (wr.heap.size ≤ G.heap.size ∧ w5.heap.size ≤ G.heap.size) := Lib.hid ⟨HGR.out.size, by have := HZG.out; omega⟩
        obtain ⟨sd, hsd⟩ : ∃ t, txtB ds = t := ⟨_, rfl⟩
        obtain ⟨sb, hsb⟩ : ∃ t, txtB bs = t := ⟨_, rfl⟩
        have HCC : Hid (Op.bytesLess sd.toList sb.toList = Op.bytesLess (txtL ds) (txtL bs)) := Lib.hid (by rw [← hsd, ← hsb]; exact txtB_less _ _)
        have KP : ∀ u v, Below u.heap.size u v → (u.cell? ⟨w5.heap.size, 0, none⟩ = some (.int .i64 n) ∧ u.cell? ⟨w5.heap.size, 1, none⟩ = some (.slice a5 ds.length c5) ∧ u.cell? ⟨w2.heap.size, 0, none⟩ = some (.int .i64 n) ∧ u.cell? ⟨w2.heap.size, 1, none⟩ = some (.slice av bs.length cv) ∧ Below G.heap.size G u) → (v.cell? ⟨w5.heap.size, 0, none⟩ = some (.int .i64 n) ∧ v.cell? ⟨w5.heap.size, 1, none⟩ = some (.slice a5 ds.length c5) ∧ v.cell? ⟨w2.heap.size, 0, none⟩ = some (.int .i64 n) ∧ v.cell? ⟨w2.heap.size, 1, none⟩ = some (.slice av bs.length cv) ∧ Below G.heap.size G v) := fun u v hb h => ⟨kept hb h.1, kept hb h.2.1, kept hb h.2.2.1, kept hb h.2.2.2.1, bel_c h.2.2.2.2 (Nat.le_refl _) hb⟩
        have C1 := Lib.hid (fun (u : World) (h : u.cell? ⟨w5.heap.size, 0, none⟩ = some (.int .i64 n) ∧ u.cell? ⟨w5.heap.size, 1, none⟩ = some (.slice a5 ds.length c5) ∧ u.cell? ⟨w2.heap.size, 0, none⟩ = some (.int .i64 n) ∧ u.cell? ⟨w2.heap.size, 1, none⟩ = some (.slice av bs.length cv) ∧ Below G.heap.size G u) => SpecTextY wr.heap.size w5.heap.size n (.slice a5 ds.length c5) ds sd u (HI5.out.below ((bel_c HGW.out (Nat.le_refl _) (h.2.2.2.2)).mono (Nat.le_refl _))) (Nat.le_trans HZ0.out.2 h.2.2.2.2.size) HDO.out hsd)
        have C2 := Lib.hid (fun (u : World) (h : u.cell? ⟨w5.heap.size, 0, none⟩ = some (.int .i64 n) ∧ u.cell? ⟨w5.heap.size, 1, none⟩ = some (.slice a5 ds.length c5) ∧ u.cell? ⟨w2.heap.size, 0, none⟩ = some (.int .i64 n) ∧ u.cell? ⟨w2.heap.size, 1, none⟩ = some (.slice av bs.length cv) ∧ Below G.heap.size G u) => SpecTextY (w.heap.size + 1 + 1) wr.heap.size n (.slice av bs.length cv) bs sb u (hin.out.below (bel_c HGR.out (Nat.le_refl _) h.2.2.2.2)) (Nat.le_trans HZ0.out.1 h.2.2.2.2.size) HBO.out hsb)
        have S0 : G.drew.cell? ⟨w5.heap.size, 0, none⟩ = some (.int .i64 n) ∧ G.drew.cell? ⟨w5.heap.size, 1, none⟩ = some (.slice a5 ds.length c5) ∧ G.drew.cell? ⟨w2.heap.size, 0, none⟩ = some (.int .i64 n) ∧ G.drew.cell? ⟨w2.heap.size, 1, none⟩ = some (.slice av bs.length cv) ∧ Below G.heap.size G G.drew := ⟨(HDX.out.keep D0).1, (HDX.out.keep D0).2, kept D0 HSG.out.1.2.1, kept D0 HSG.out.1.1, D0⟩
        clear hsd hsb
        by_cases hcmp : Op.bytesLess (txtL ds) (txtL bs) = true
        · have hcc : Op.bytesLess sd.toList sb.toList = true := HCC.out.trans hcmp
          have HN1 : Hid (lstK f (m + 1) = ds) := Lib.hid (by rw [HNX.out, if_pos hcmp])
          clear hcmp
          go_region_held3 (fun w' => w'.cell? ⟨w5.heap.size, 0, none⟩ = some (.int .i64 n) ∧ w'.cell? ⟨w5.heap.size, 1, none⟩ = some (.slice a5 ds.length c5) ∧ w'.cell? ⟨w2.heap.size, 0, none⟩ = some (.int .i64 n) ∧ w'.cell? ⟨w2.heap.size, 1, none⟩ = some (.slice av bs.length cv) ∧ Below G.heap.size G w') (first | assumption | (refine KP _ _ (by assumption) ?_; assumption))
            ((first
              | (go_at_call 27; refine (args_eq (C1.out _ (by assumption)) (by with_reducible rfl)).mono ?_; rintro e y ⟨rfl, hb⟩)
              | (go_at_call 27; refine (args_eq (C2.out _ (by assumption)) (by with_reducible rfl)).mono ?_; rintro e y ⟨rfl, hb⟩)))
          all_goals
            have HY : y.cell? ⟨w5.heap.size, 0, none⟩ = some (.int .i64 n) ∧ y.cell? ⟨w5.heap.size, 1, none⟩ = some (.slice a5 ds.length c5) ∧ y.cell? ⟨w2.heap.size, 0, none⟩ = some (.int .i64 n) ∧ y.cell? ⟨w2.heap.size, 1, none⟩ = some (.slice av bs.length cv) ∧ Below G.heap.size G y := by assumption
            have HSY := Lib.hid (HSG.out.far (HY.2.2.2.2.mono (by have := HZ0.out; omega)) HPO.out)
            have HRY := Lib.hid (bel_c HGR.out (Nat.le_refl _) HY.2.2.2.2)
            have HIY := Lib.hid ((((HI5.out.below ((bel_c HGW.out (Nat.le_refl _) HY.2.2.2.2).mono (Nat.le_refl _))).set_far (p := ⟨w2.heap.size, 0, none⟩) hsz (.int .i64 n)).set_far (p := ⟨w2.heap.size, 1, none⟩) hsz (.slice a5 ds.length c5)).wide (lo' := w.heap.size + 1 + 1) (by have := HPO.out; omega) (hi' := ((y.setCell ⟨w2.heap.size, 0, none⟩ (.int .i64 n)).setCell ⟨w2.heap.size, 1, none⟩ (.slice a5 ds.length c5)).heap.size) (by simp [World.setCell]; have := HZ0.out.2; have := HY.2.2.2.2.size; omega))
            have HST := Lib.hid (HSY.out.store HPO.out (.slice a5 ds.length c5))
            have HB9 := Lib.hid (Below.setCell (Below.setCell (bel_c hbel.out (Nat.le_refl _) HRY.out) (p := ⟨w2.heap.size, 0, none⟩) (by show _ ≤ w2.heap.size; have := HPO.out; omega) (.int .i64 n)) (p := ⟨w2.heap.size, 1, none⟩) (by show _ ≤ w2.heap.size; have := HPO.out; omega) (.slice a5 ds.length c5))
            have HZ9 : Hid (w2.heap.size + 1 ≤ ((y.setCell ⟨w2.heap.size, 0, none⟩ (.int .i64 n)).setCell ⟨w2.heap.size, 1, none⟩ (.slice a5 ds.length c5)).heap.size) := Lib.hid (by simp [World.setCell]; exact Nat.le_trans hsz HRY.out.size)
            have f0 := HSY.out.2
            have f1 := HSY.out.1.2.2.1
            obtain ⟨d0, d1, q0, q1, -⟩ := HY
            clear KP C1 C2 S0 D0 HSG
            go_wp2_with fail
            clear f0 f1 q0 q1 d0 d1
            go_roundw
            case rel => exact ⟨m + 1, _, by omega, by go_num, by rw [HN1.out]; exact HIY, HST, HB9, HZ9.out⟩
            case measure => simp [intOf] <;> omega
        · have hcc : Op.bytesLess sd.toList sb.toList = false := HCC.out.trans (by simpa using hcmp)
          have HN1 : Hid (lstK f (m + 1) = bs) := Lib.hid (by rw [HNX.out, if_neg hcmp])
          clear hcmp
          go_region_held3 (fun w' => w'.cell? ⟨w5.heap.size, 0, none⟩ = some (.int .i64 n) ∧ w'.cell? ⟨w5.heap.size, 1, none⟩ = some (.slice a5 ds.length c5) ∧ w'.cell? ⟨w2.heap.size, 0, none⟩ = some (.int .i64 n) ∧ w'.cell? ⟨w2.heap.size, 1, none⟩ = some (.slice av bs.length cv) ∧ Below G.heap.size G w') (first | assumption | (refine KP _ _ (by assumption) ?_; assumption))
            ((first
              | (go_at_call 27; refine (args_eq (C1.out _ (by assumption)) (by with_reducible rfl)).mono ?_; rintro e y ⟨rfl, hb⟩)
              | (go_at_call 27; refine (args_eq (C2.out _ (by assumption)) (by with_reducible rfl)).mono ?_; rintro e y ⟨rfl, hb⟩)))
          all_goals
            have HY : y.cell? ⟨w5.heap.size, 0, none⟩ = some (.int .i64 n) ∧ y.cell? ⟨w5.heap.size, 1, none⟩ = some (.slice a5 ds.length c5) ∧ y.cell? ⟨w2.heap.size, 0, none⟩ = some (.int .i64 n) ∧ y.cell? ⟨w2.heap.size, 1, none⟩ = some (.slice av bs.length cv) ∧ Below G.heap.size G y := by assumption
            have HSY := Lib.hid (HSG.out.far (HY.2.2.2.2.mono (by have := HZ0.out; omega)) HPO.out)
            have HRY := Lib.hid (bel_c HGR.out (Nat.le_refl _) HY.2.2.2.2)
            have HIY := Lib.hid ((hin.out.below HRY.out).wide (Nat.le_refl _) (hi' := y.heap.size) HRY.out.size)
            have HBY := Lib.hid (bel_c hbel.out (Nat.le_refl _) HRY.out)
            have HZ9 : Hid (w2.heap.size + 1 ≤ y.heap.size) := Lib.hid (Nat.le_trans hsz HRY.out.size)
            clear HY KP C1 C2 S0 D0 HSG
            go_wp2_with fail
            go_roundw
            case rel => exact ⟨m + 1, _, by omega, by go_num, by rw [HN1.out]; exact HIY, HSY, HBY, HZ9.out⟩
            case measure => simp [intOf] <;> omega
      · have hm7 : m = 7 := by omega
        have h8 : ¬ (m : Int) + 1 < 8 := by omega
        obtain ⟨ys, hys⟩ : ∃ ys, lstK f m = ys := ⟨_, rfl⟩
        rw [hys] at hin
        have hyz : ys = zs := by rw [← hys, hm7]; exact HZS.out
        subst hyz
        clear hys hm7
        obtain ⟨av, cv, rfl⟩ := hin.out.form
        obtain ⟨⟨q1, q0, _, p0, p1, d0, d1, g0, g1⟩, _⟩ := hs.out
        clear hs
        go_wp2_with fail
        refine bodyPost_ret (v := .agg #[.int .i64 n, .slice av ys.length cv]) (by simp [results, Tryd.results15, go_sem, d0, d1]) rfl ⟨_, rfl, ?_, ?_⟩
        · refine CellIn.wide (lo := w.heap.size + 1 + 1) (hi := wr.heap.size) ?_ (by omega) (by simp [World.setCell])
          refine CellIn.set_far (CellIn.set_far hin.out ?_ _) ?_ _ <;> (simp <;> omega)
        · refine Below.setCell (Below.setCell hbel.out ?_ _) ?_ _ <;> (simp <;> omega)
  · rw [(turnB_no hb).1, (sam_no hb).2.2]
    have HB := Lib.hid hb
    clear hb
    go_enter Tryd.func15, Tryd.ntmps15
    go_wp2_with fail
    refine (SpecBlockOk_no lo hi n _ xs _ (HR.out _ (bel_n (bel0 w _) (Nat.le_refl _) _)) (by simp; omega) HB.out).mono ?_
    rintro e w1 ⟨rfl, hb1⟩
    have d0 := kept (p := ⟨w.heap.size + 1, 0, none⟩) (x := .int .i64 0) hb1 (by go_simp)
    have d1 := kept (p := ⟨w.heap.size + 1, 1, none⟩) (x := .slice none 0 0) hb1 (by go_simp)
    have g0 := keptF (p := ⟨w.heap.size + 1, 0, none⟩) (x := .int .i64 0) hb1 (by go_simp) (by go_simp)
    have g1 := keptF (p := ⟨w.heap.size + 1, 1, none⟩) (x := .slice none 0 0) hb1 (by go_simp) (by go_simp)
    have B := bel_c (bel_n (bel0 w (.cells #[.int .i64 n, .slice a xs.length cap] 28)) (Nat.le_refl _) (.cells #[.int .i64 0, .slice none 0 0] 28)) (Nat.le_refl _) hb1
    clear hb1
    go_wp2_with fail
    refine bodyPost_ret (v := .agg #[.int .i64 0, .slice none 0 0]) (by simp [results, Tryd.results15, go_sem, d0, d1]) rfl ⟨.slice none 0 0, rfl, ⟨by simp, .inl ⟨rfl, _, _, rfl⟩⟩, ?_⟩
    refine Below.setCell (Below.setCell B ?_ _) ?_ _ <;> (simp <;> omega)

end Go.Proofs.YtfidnhhlcdbaeaaDoor
