/- Turns: the model's SeenFrom. Sameness: the model's views. Sameness: rows of blocks. Sameness: the program's views, in the block's own colors and in those of their first use. -/
import Derived.Test.YtfidnhhlcdbaeaaGreatDoorM17
import Derived.Test.YtfidnhhlcdbaeaaGreatDoorM03
import Derived.Test.YtfidnhhlcdbaeaaGreatDoorM16
import Derived.Test.YtfidnhhlcdbaeaaGreatDoorM06
import Derived.Test.YtfidnhhlcdbaeaaGreatDoorM00
import Derived.Test.YtfidnhhlcdbaeaaGreatDoorM10
import Derived.Deep.DeepCutAuto
import Derived.Deep.RegionHeld3

namespace Go.Proofs.YtfidnhhlcdbaeaaGreatDoor
open Go.ChangeShapes Go.WideShapes Go.ChangeAt Go.RowKit

/-- What the walk of SeenFrom keeps. -/
def SBk (p o : Nat) (n : Int) (sl v : Value) (u : World) : Prop := TBk p o n sl v u ∧ u.frozen? ⟨o, 0, none⟩ = false
theorem SBk.far {p o : Nat} {n : Int} {sl v : Value} {u w : World} (h : SBk p o n sl v u) (hb : Below (o + 1) u w) (hp : p + 1 < o) : SBk p o n sl v w := ⟨h.1.far hb hp, (hb.frozen (p := ⟨o, 0, none⟩) (Nat.lt_succ_self _)).trans h.2⟩
theorem SBk.store {p o : Nat} {n : Int} {sl v : Value} {u : World} (h : SBk p o n sl v u) (hp : p + 1 < o) (v' : Value) : SBk p o n sl v' ((u.setCell ⟨o, 0, none⟩ (.int .i64 n)).setCell ⟨o, 1, none⟩ v') := by
  obtain ⟨⟨h0, h1, h2, h3, h4, h5, h6, h7, h8⟩, h9⟩ := h
  have n0 : ∀ k j : Nat, (⟨o, j, none⟩ : Addr) ≠ ⟨p, k, none⟩ := by intro k j e; injection e with e1; omega
  have n1 : ∀ k j : Nat, (⟨o, j, none⟩ : Addr) ≠ ⟨p + 1, k, none⟩ := by intro k j e; injection e with e1; omega
  have C0 : ∀ x y, (∀ j : Nat, (⟨o, j, none⟩ : Addr) ≠ x) → u.cell? x = some y → ((u.setCell ⟨o, 0, none⟩ (.int .i64 n)).setCell ⟨o, 1, none⟩ v').cell? x = some y := fun x y hx hc => (World.cell?_setCell_other _ _ _ _ (hx 1)).trans ((World.cell?_setCell_other _ _ _ _ (hx 0)).trans hc)
  have F0 : ∀ x, u.frozen? x = false → ((u.setCell ⟨o, 0, none⟩ (.int .i64 n)).setCell ⟨o, 1, none⟩ v').frozen? x = false := fun x hx => (World.frozen?_setCell _ _ _ _).trans ((World.frozen?_setCell _ _ _ _).trans hx)
  have e0 : (u.setCell ⟨o, 0, none⟩ (.int .i64 n)).cell? ⟨o, 1, none⟩ = some v := (World.cell?_setCell_other _ _ _ _ (by simp)).trans h0
  exact ⟨⟨World.cell?_setCell_same _ _ _ e0, (World.cell?_setCell_other _ _ _ _ (by simp)).trans (World.cell?_setCell_same _ _ _ h1), F0 _ h2, C0 _ _ (n0 0) h3, C0 _ _ (n0 1) h4, C0 _ _ (n1 0) h5, C0 _ _ (n1 1) h6, F0 _ h7, F0 _ h8⟩, F0 _ h9⟩
theorem SBk.start (n : Int) (sl v : Value) (w w1 : World) (hb : Below ((w.alloc (.cells #[.int .i64 n, sl] 26)).alloc (.cells #[.int .i64 0, .slice none 0 0] 26)).heap.size ((w.alloc (.cells #[.int .i64 n, sl] 26)).alloc (.cells #[.int .i64 0, .slice none 0 0] 26)) w1) :
    SBk w.heap.size w1.heap.size n sl v (w1.alloc (.cells #[.int .i64 n, v] 26)) := by
  refine ⟨⟨by simp, by simp, by simp, kept (bel0 w1 _) (kept hb ?_), kept (bel0 w1 _) (kept hb ?_), kept (bel0 w1 _) (kept hb ?_), kept (bel0 w1 _) (kept hb ?_), keptF (x := .int .i64 0) (bel0 w1 _) (kept hb ?_) (keptF (x := .int .i64 0) hb ?_ ?_), keptF (x := .slice none 0 0) (bel0 w1 _) (kept hb ?_) (keptF (x := .slice none 0 0) hb ?_ ?_)⟩, by simp⟩ <;> go_simp

set_option maxRecDepth 100000 in
set_option maxHeartbeats 4000000 in
theorem SpecSeenFrom_any (lo hi : Nat) (n k : Int) (v : Value) (xs : List C3) (w : World) (r : CellIn lo hi w v xs) (hhi : hi ≤ w.heap.size) :
    Calls Tryz.prog 7 #[.agg #[.int .i64 n, v], .int .i64 k] w (FreshB (seeN n k xs) (seeB n k xs) w) := by
  obtain ⟨a, cap, rfl⟩ := r.form
  have hl := r.1
  have HR := Lib.hid (fun W (hb : Below w.heap.size w W) => r.below (hb.mono hhi))
  clear r
  by_cases hb : BlkOk n xs
  · have HB := Lib.hid hb
    by_cases hk : 0 ≤ k ∧ k ≤ 7
    · obtain ⟨k0, k7⟩ := hk
      rw [(see_yes (n := n) (k := k) ⟨hb, k0, k7⟩).1, (see_yes (n := n) (k := k) ⟨hb, k0, k7⟩).2]
      obtain ⟨kk, hkk⟩ : ∃ kk : Nat, k % 4 = kk := ⟨(k % 4).toNat, by omega⟩
      have hkt : (k % 4).toNat = kk := by omega
      rw [hkt]
      have HK := Lib.hid hkk
      have hkb : kk ≤ 3 := by omega
      clear hkk hkt
      by_cases hge : 4 ≤ k
      · rw [if_pos hge]
        have HBB := Lib.hid (mir_ok hb)
        clear hb
        obtain ⟨base, hbase⟩ : ∃ base, base = mirL n xs := ⟨_, rfl⟩
        rw [← hbase] at HBB ⊢
        have HBS := Lib.hid hbase
        clear hbase
        go_enter Tryz.func7, Tryz.ntmps7
        go_wp2_with fail
        refine (SpecBlockOk_yes lo hi n _ xs _ (HR.out _ (bel_n (bel0 w _) (Nat.le_refl _) _)) (by simp; omega) HB.out).mono ?_
        rintro e w1 ⟨rfl, hb1⟩
        have p0 := kept (p := ⟨w.heap.size, 0, none⟩) (x := .int .i64 n) hb1 (by go_simp)
        have p1 := kept (p := ⟨w.heap.size, 1, none⟩) (x := .slice a xs.length cap) hb1 (by go_simp)
        have HB1 := Lib.hid (bel_c (bel_n (bel0 w (.cells #[.int .i64 n, .slice a xs.length cap] 26)) (Nat.le_refl _) (.cells #[.int .i64 0, .slice none 0 0] 26)) (Nat.le_refl _) hb1)
        have HBX := Lib.hid hb1
        clear hb1
        go_wp2_with fail
        refine (In_yes k 0 7 _ k0 k7).mono ?_
        rintro e w' ⟨rfl, rfl⟩
        go_wp2_with fail
        refine (SpecCopy_any lo hi n _ xs _ (HR.out _ HB1.out) (Nat.le_trans hhi HB1.out.size)).mono ?_
        rintro e w2 ⟨v2, rfl, hin2, hb2⟩
        have HB2 := Lib.hid (bel_c HB1.out (Nat.le_refl _) hb2)
        have HX2 := Lib.hid (bel_c HBX.out (Nat.le_refl _) hb2)
        have HPO : Hid (w.heap.size + 1 < w2.heap.size) := Lib.hid (by have := HX2.out.size; simp at this; omega)
        obtain ⟨a2, c2, rfl⟩ := hin2.form
        have HS2 := Lib.hid (SBk.start n (.slice a xs.length cap) (.slice a2 xs.length c2) w w2 HX2.out)
        have HI2 := Lib.hid ((hin2.below (bel0 w2 (.cells #[.int .i64 n, .slice a2 xs.length c2] 26))).wide (lo' := w.heap.size + 1 + 1) (by have := HBX.out.size; simpa using this) (hi' := (w2.alloc (.cells #[.int .i64 n, .slice a2 xs.length c2] 26)).heap.size) (by simp))
        have HB3 := Lib.hid (bel_n HB2.out (Nat.le_refl _) (.cells #[.int .i64 n, .slice a2 xs.length c2] 26))
        have HZ3 : Hid (w2.heap.size + 1 ≤ (w2.alloc (.cells #[.int .i64 n, .slice a2 xs.length c2] 26)).heap.size) := Lib.hid (by simp)
        clear p0 p1 hb2 hin2
        have hk4 : 4 ≤ k := by omega
        have hrem : k % 4 = (kk : Int) := HK.out
        have p0 := HS2.out.1.2.2.2.1
        have p1 := HS2.out.1.2.2.2.2.1
        have CM := Lib.hid (SpecMirrorBlock_any lo hi n (.slice a xs.length cap) xs (w2.alloc (.cells #[.int .i64 n, .slice a2 xs.length c2] 26)) (HR.out _ HB3.out) (Nat.le_trans hhi HB3.out.size))
        rw [(turnB_yes HB.out).1, (turnB_yes HB.out).2.2] at CM
        go_wp2_with fail
        refine CM.out.mono ?_
        rintro e w5 ⟨v5, rfl, hin5, hb5⟩
        have HS5 := Lib.hid (HS2.out.far (hb5.mono HZ3.out) HPO.out)
        obtain ⟨a5, c5, rfl⟩ := hin5.form
        have HI5 := Lib.hid ((((hin5.set_far (p := ⟨w2.heap.size, 0, none⟩) HZ3.out (.int .i64 n)).set_far (p := ⟨w2.heap.size, 1, none⟩) HZ3.out (.slice a5 (mirL n xs).length c5)).wide (lo' := w.heap.size + 1 + 1) (by have := HPO.out; have := HZ3.out; omega) (hi' := ((w5.setCell ⟨w2.heap.size, 0, none⟩ (.int .i64 n)).setCell ⟨w2.heap.size, 1, none⟩ (.slice a5 (mirL n xs).length c5)).heap.size) (by simp [World.setCell])))
        have HS0 := Lib.hid (HS5.out.store HPO.out (.slice a5 (mirL n xs).length c5))
        have HB0 := Lib.hid (Below.setCell (Below.setCell (bel_c HB3.out (Nat.le_refl _) hb5) (p := ⟨w2.heap.size, 0, none⟩) (by show _ ≤ w2.heap.size; have := HPO.out; omega) (.int .i64 n)) (p := ⟨w2.heap.size, 1, none⟩) (by show _ ≤ w2.heap.size; have := HPO.out; omega) (.slice a5 (mirL n xs).length c5))
        have HZ0 : Hid (w2.heap.size + 1 ≤ ((w5.setCell ⟨w2.heap.size, 0, none⟩ (.int .i64 n)).setCell ⟨w2.heap.size, 1, none⟩ (.slice a5 (mirL n xs).length c5)).heap.size) := Lib.hid (by simp [World.setCell]; exact Nat.le_trans HZ3.out hb5.size)
        have f0 := HS5.out.2
        have f1 := HS5.out.1.2.2.1
        have q50 := HS5.out.1.2.1
        have q51 := HS5.out.1.1
        clear p0 p1 hb5 hin5
        go_wp2_with fail
        clear f0 f1 q50 q51
        have HC0 : Hid (CellIn (w.heap.size + 1 + 1) ((w5.setCell ⟨w2.heap.size, 0, none⟩ (.int .i64 n)).setCell ⟨w2.heap.size, 1, none⟩ (.slice a5 (mirL n xs).length c5)).heap.size ((w5.setCell ⟨w2.heap.size, 0, none⟩ (.int .i64 n)).setCell ⟨w2.heap.size, 1, none⟩ (.slice a5 (mirL n xs).length c5)) (.slice a5 (mirL n xs).length c5) (turnK n base 0)) := Lib.hid (by show CellIn _ _ _ _ base; rw [HBS.out]; exact HI5.out)
        go_loopw [6] (fun i wr => ∃ (c : Nat) (v : Value), c ≤ kk ∧ i = .int .i64 c ∧ Hid (CellIn (w.heap.size + 1 + 1) wr.heap.size wr v (turnK n base c)) ∧ Hid (SBk w.heap.size w2.heap.size n (.slice a xs.length cap) v wr) ∧ Hid (Below w.heap.size w wr) ∧ w2.heap.size + 1 ≤ wr.heap.size) (fun i _ => kk - (intOf i).toNat)
        case atStart => exact ⟨0, _, Nat.zero_le _, rfl, HC0, HS0, HB0, HZ0.out⟩
        case round =>
          obtain ⟨c, v, hc, rfl, hin, hs, hbel, hsz⟩ := hrel
          by_cases hlt : c < kk
          · obtain ⟨av, cv, rfl⟩ := hin.out.form
            have q0 := hs.out.1.2.1
            have q1 := hs.out.1.1
            have CT := Lib.hid (SpecTurnBlock_any (w.heap.size + 1 + 1) wr.heap.size n (.slice av (turnK n base c).length cv) (turnK n base c) wr hin.out (Nat.le_refl _))
            rw [(turnB_yes (turnK_ok HBB.out c)).1, (turnB_yes (turnK_ok HBB.out c)).2.1] at CT
            have HLC := Lib.hid (turnK_length n base (c + 1))
            change Hid (Calls _ _ _ _ (FreshB n (turnK n base (c + 1)) wr)) at CT
            obtain ⟨ys, hys⟩ : ∃ ys, turnK n base (c + 1) = ys := ⟨_, rfl⟩
            rw [hys] at CT
            have HYS := Lib.hid hys
            clear hys HLC
            generalize turnK n base c = zs at CT hin hs q1
            go_wp2_with fail
            refine CT.out.mono ?_
            rintro e w5 ⟨v5, rfl, hin5, hb5⟩
            have HS5 := Lib.hid (hs.out.far (hb5.mono hsz) HPO.out)
            obtain ⟨a5, c5, rfl⟩ := hin5.form
            have HI5 := Lib.hid ((((hin5.set_far (p := ⟨w2.heap.size, 0, none⟩) hsz (.int .i64 n)).set_far (p := ⟨w2.heap.size, 1, none⟩) hsz (.slice a5 ys.length c5)).wide (lo' := w.heap.size + 1 + 1) (by have := HPO.out; omega) (hi' := ((w5.setCell ⟨w2.heap.size, 0, none⟩ (.int .i64 n)).setCell ⟨w2.heap.size, 1, none⟩ (.slice a5 ys.length c5)).heap.size) (by simp [World.setCell])))
            have HST := Lib.hid (HS5.out.store HPO.out (.slice a5 ys.length c5))
            have HB5 := Lib.hid (Below.setCell (Below.setCell (bel_c hbel.out (Nat.le_refl _) hb5) (p := ⟨w2.heap.size, 0, none⟩) (by show _ ≤ w2.heap.size; have := HPO.out; omega) (.int .i64 n)) (p := ⟨w2.heap.size, 1, none⟩) (by show _ ≤ w2.heap.size; have := HPO.out; omega) (.slice a5 ys.length c5))
            have HZ5 : Hid (w2.heap.size + 1 ≤ ((w5.setCell ⟨w2.heap.size, 0, none⟩ (.int .i64 n)).setCell ⟨w2.heap.size, 1, none⟩ (.slice a5 ys.length c5)).heap.size) := Lib.hid (by simp [World.setCell]; exact Nat.le_trans hsz hb5.size)
            have f0 := HS5.out.2
            have f1 := HS5.out.1.2.2.1
            have q50 := HS5.out.1.2.1
            have q51 := HS5.out.1.1
            clear q0 q1 hin5 hb5 hin hs hbel
            go_wp2_with fail
            clear f0 f1 q50 q51
            go_roundw
            case rel => exact ⟨c + 1, _, by omega, by go_num, by rw [HYS.out]; exact HI5, HST, HB5, HZ5.out⟩
            case measure => simp [intOf] <;> omega
          · obtain rfl : c = kk := by omega
            obtain ⟨av, cv, rfl⟩ := hin.out.form
            obtain ⟨zs, hzs⟩ : ∃ zs, turnK n base c = zs := ⟨_, rfl⟩
            rw [hzs] at hin hs
            have HZS := Lib.hid hzs
            clear hzs
            obtain ⟨⟨q1, q0, _, p0, p1, d0, d1, g0, g1⟩, _⟩ := hs.out
            clear hs
            go_wp2_with fail
            refine bodyPost_ret (v := .agg #[.int .i64 n, .slice av zs.length cv]) (by simp [results, Tryz.results7, go_sem, d0, d1]) rfl ⟨_, rfl, ?_, ?_⟩
            · rw [HZS.out]
              refine CellIn.wide (lo := w.heap.size + 1 + 1) (hi := wr.heap.size) ?_ (by omega) (by simp [World.setCell])
              refine CellIn.set_far (CellIn.set_far hin.out ?_ _) ?_ _ <;> (simp <;> omega)
            · refine Below.setCell (Below.setCell hbel.out ?_ _) ?_ _ <;> (simp <;> omega)
      · rw [if_neg hge]
        have HBB := Lib.hid hb
        clear hb
        obtain ⟨base, hbase⟩ : ∃ base, base = xs := ⟨_, rfl⟩
        have HBB2 : Hid (BlkOk n base) := Lib.hid (by rw [hbase]; exact HBB.out)
        rw [show turnK n xs kk = turnK n base kk by rw [hbase]]
        have HBS := Lib.hid hbase
        clear hbase HBB
        go_enter Tryz.func7, Tryz.ntmps7
        go_wp2_with fail
        refine (SpecBlockOk_yes lo hi n _ xs _ (HR.out _ (bel_n (bel0 w _) (Nat.le_refl _) _)) (by simp; omega) HB.out).mono ?_
        rintro e w1 ⟨rfl, hb1⟩
        have p0 := kept (p := ⟨w.heap.size, 0, none⟩) (x := .int .i64 n) hb1 (by go_simp)
        have p1 := kept (p := ⟨w.heap.size, 1, none⟩) (x := .slice a xs.length cap) hb1 (by go_simp)
        have HB1 := Lib.hid (bel_c (bel_n (bel0 w (.cells #[.int .i64 n, .slice a xs.length cap] 26)) (Nat.le_refl _) (.cells #[.int .i64 0, .slice none 0 0] 26)) (Nat.le_refl _) hb1)
        have HBX := Lib.hid hb1
        clear hb1
        go_wp2_with fail
        refine (In_yes k 0 7 _ k0 k7).mono ?_
        rintro e w' ⟨rfl, rfl⟩
        go_wp2_with fail
        refine (SpecCopy_any lo hi n _ xs _ (HR.out _ HB1.out) (Nat.le_trans hhi HB1.out.size)).mono ?_
        rintro e w2 ⟨v2, rfl, hin2, hb2⟩
        have HB2 := Lib.hid (bel_c HB1.out (Nat.le_refl _) hb2)
        have HX2 := Lib.hid (bel_c HBX.out (Nat.le_refl _) hb2)
        have HPO : Hid (w.heap.size + 1 < w2.heap.size) := Lib.hid (by have := HX2.out.size; simp at this; omega)
        obtain ⟨a2, c2, rfl⟩ := hin2.form
        have HS2 := Lib.hid (SBk.start n (.slice a xs.length cap) (.slice a2 xs.length c2) w w2 HX2.out)
        have HI2 := Lib.hid ((hin2.below (bel0 w2 (.cells #[.int .i64 n, .slice a2 xs.length c2] 26))).wide (lo' := w.heap.size + 1 + 1) (by have := HBX.out.size; simpa using this) (hi' := (w2.alloc (.cells #[.int .i64 n, .slice a2 xs.length c2] 26)).heap.size) (by simp))
        have HB3 := Lib.hid (bel_n HB2.out (Nat.le_refl _) (.cells #[.int .i64 n, .slice a2 xs.length c2] 26))
        have HZ3 : Hid (w2.heap.size + 1 ≤ (w2.alloc (.cells #[.int .i64 n, .slice a2 xs.length c2] 26)).heap.size) := Lib.hid (by simp)
        clear p0 p1 hb2 hin2
        have hk4 : ¬ 4 ≤ k := by omega
        have hrem : k % 4 = (kk : Int) := HK.out
        have p0 := HS2.out.1.2.2.2.1
        have p1 := HS2.out.1.2.2.2.2.1
        go_wp2_with fail
        clear p0 p1
        have HC0 : Hid (CellIn (w.heap.size + 1 + 1) (w2.alloc (.cells #[.int .i64 n, .slice a2 xs.length c2] 26)).heap.size (w2.alloc (.cells #[.int .i64 n, .slice a2 xs.length c2] 26)) (.slice a2 xs.length c2) (turnK n base 0)) := Lib.hid (by show CellIn _ _ _ _ base; rw [HBS.out]; exact HI2.out)
        have HS0 := HS2
        have HB0 := HB3
        have HZ0 := HZ3
        go_loopw [6] (fun i wr => ∃ (c : Nat) (v : Value), c ≤ kk ∧ i = .int .i64 c ∧ Hid (CellIn (w.heap.size + 1 + 1) wr.heap.size wr v (turnK n base c)) ∧ Hid (SBk w.heap.size w2.heap.size n (.slice a xs.length cap) v wr) ∧ Hid (Below w.heap.size w wr) ∧ w2.heap.size + 1 ≤ wr.heap.size) (fun i _ => kk - (intOf i).toNat)
        case atStart => exact ⟨0, _, Nat.zero_le _, rfl, HC0, HS0, HB0, HZ0.out⟩
        case round =>
          obtain ⟨c, v, hc, rfl, hin, hs, hbel, hsz⟩ := hrel
          by_cases hlt : c < kk
          · obtain ⟨av, cv, rfl⟩ := hin.out.form
            have q0 := hs.out.1.2.1
            have q1 := hs.out.1.1
            have CT := Lib.hid (SpecTurnBlock_any (w.heap.size + 1 + 1) wr.heap.size n (.slice av (turnK n base c).length cv) (turnK n base c) wr hin.out (Nat.le_refl _))
            rw [(turnB_yes (turnK_ok HBB2.out c)).1, (turnB_yes (turnK_ok HBB2.out c)).2.1] at CT
            have HLC := Lib.hid (turnK_length n base (c + 1))
            change Hid (Calls _ _ _ _ (FreshB n (turnK n base (c + 1)) wr)) at CT
            obtain ⟨ys, hys⟩ : ∃ ys, turnK n base (c + 1) = ys := ⟨_, rfl⟩
            rw [hys] at CT
            have HYS := Lib.hid hys
            clear hys HLC
            generalize turnK n base c = zs at CT hin hs q1
            go_wp2_with fail
            refine CT.out.mono ?_
            rintro e w5 ⟨v5, rfl, hin5, hb5⟩
            have HS5 := Lib.hid (hs.out.far (hb5.mono hsz) HPO.out)
            obtain ⟨a5, c5, rfl⟩ := hin5.form
            have HI5 := Lib.hid ((((hin5.set_far (p := ⟨w2.heap.size, 0, none⟩) hsz (.int .i64 n)).set_far (p := ⟨w2.heap.size, 1, none⟩) hsz (.slice a5 ys.length c5)).wide (lo' := w.heap.size + 1 + 1) (by have := HPO.out; omega) (hi' := ((w5.setCell ⟨w2.heap.size, 0, none⟩ (.int .i64 n)).setCell ⟨w2.heap.size, 1, none⟩ (.slice a5 ys.length c5)).heap.size) (by simp [World.setCell])))
            have HST := Lib.hid (HS5.out.store HPO.out (.slice a5 ys.length c5))
            have HB5 := Lib.hid (Below.setCell (Below.setCell (bel_c hbel.out (Nat.le_refl _) hb5) (p := ⟨w2.heap.size, 0, none⟩) (by show _ ≤ w2.heap.size; have := HPO.out; omega) (.int .i64 n)) (p := ⟨w2.heap.size, 1, none⟩) (by show _ ≤ w2.heap.size; have := HPO.out; omega) (.slice a5 ys.length c5))
            have HZ5 : Hid (w2.heap.size + 1 ≤ ((w5.setCell ⟨w2.heap.size, 0, none⟩ (.int .i64 n)).setCell ⟨w2.heap.size, 1, none⟩ (.slice a5 ys.length c5)).heap.size) := Lib.hid (by simp [World.setCell]; exact Nat.le_trans hsz hb5.size)
            have f0 := HS5.out.2
            have f1 := HS5.out.1.2.2.1
            have q50 := HS5.out.1.2.1
            have q51 := HS5.out.1.1
            clear q0 q1 hin5 hb5 hin hs hbel
            go_wp2_with fail
            clear f0 f1 q50 q51
            go_roundw
            case rel => exact ⟨c + 1, _, by omega, by go_num, by rw [HYS.out]; exact HI5, HST, HB5, HZ5.out⟩
            case measure => simp [intOf] <;> omega
          · obtain rfl : c = kk := by omega
            obtain ⟨av, cv, rfl⟩ := hin.out.form
            obtain ⟨zs, hzs⟩ : ∃ zs, turnK n base c = zs := ⟨_, rfl⟩
            rw [hzs] at hin hs
            have HZS := Lib.hid hzs
            clear hzs
            obtain ⟨⟨q1, q0, _, p0, p1, d0, d1, g0, g1⟩, _⟩ := hs.out
            clear hs
            go_wp2_with fail
            refine bodyPost_ret (v := .agg #[.int .i64 n, .slice av zs.length cv]) (by simp [results, Tryz.results7, go_sem, d0, d1]) rfl ⟨_, rfl, ?_, ?_⟩
            · rw [HZS.out]
              refine CellIn.wide (lo := w.heap.size + 1 + 1) (hi := wr.heap.size) ?_ (by omega) (by simp [World.setCell])
              refine CellIn.set_far (CellIn.set_far hin.out ?_ _) ?_ _ <;> (simp <;> omega)
            · refine Below.setCell (Below.setCell hbel.out ?_ _) ?_ _ <;> (simp <;> omega)
    · rw [(see_no (n := n) (k := k) (fun h => hk h.2)).1, (see_no (n := n) (k := k) (xs := xs) (fun h => hk h.2)).2]
      have hkk : k < 0 ∨ 7 < k := by omega
      clear hb hk
      go_enter Tryz.func7, Tryz.ntmps7
      go_wp2_with fail
      refine (SpecBlockOk_yes lo hi n _ xs _ (HR.out _ (bel_n (bel0 w _) (Nat.le_refl _) _)) (by simp; omega) HB.out).mono ?_
      rintro e w1 ⟨rfl, hb1⟩
      have d0 := kept (p := ⟨w.heap.size + 1, 0, none⟩) (x := .int .i64 0) hb1 (by go_simp)
      have d1 := kept (p := ⟨w.heap.size + 1, 1, none⟩) (x := .slice none 0 0) hb1 (by go_simp)
      have g0 := keptF (p := ⟨w.heap.size + 1, 0, none⟩) (x := .int .i64 0) hb1 (by go_simp) (by go_simp)
      have g1 := keptF (p := ⟨w.heap.size + 1, 1, none⟩) (x := .slice none 0 0) hb1 (by go_simp) (by go_simp)
      have B := bel_c (bel_n (bel0 w (.cells #[.int .i64 n, .slice a xs.length cap] 26)) (Nat.le_refl _) (.cells #[.int .i64 0, .slice none 0 0] 26)) (Nat.le_refl _) hb1
      clear hb1
      go_wp2_with fail
      refine (In_no k 0 7 _ hkk).mono ?_
      rintro e w' ⟨rfl, rfl⟩
      go_wp2_with fail
      refine bodyPost_ret (v := .agg #[.int .i64 0, .slice none 0 0]) (by simp [results, Tryz.results7, go_sem, d0, d1]) rfl ⟨.slice none 0 0, rfl, ⟨by simp, .inl ⟨rfl, _, _, rfl⟩⟩, ?_⟩
      refine Below.setCell (Below.setCell B ?_ _) ?_ _ <;> (simp <;> omega)
  · rw [(see_no (n := n) (k := k) (fun h => hb h.1)).1, (see_no (n := n) (k := k) (xs := xs) (fun h => hb h.1)).2]
    have HB := Lib.hid hb
    clear hb
    go_enter Tryz.func7, Tryz.ntmps7
    go_wp2_with fail
    refine (SpecBlockOk_no lo hi n _ xs _ (HR.out _ (bel_n (bel0 w _) (Nat.le_refl _) _)) (by simp; omega) HB.out).mono ?_
    rintro e w1 ⟨rfl, hb1⟩
    have d0 := kept (p := ⟨w.heap.size + 1, 0, none⟩) (x := .int .i64 0) hb1 (by go_simp)
    have d1 := kept (p := ⟨w.heap.size + 1, 1, none⟩) (x := .slice none 0 0) hb1 (by go_simp)
    have g0 := keptF (p := ⟨w.heap.size + 1, 0, none⟩) (x := .int .i64 0) hb1 (by go_simp) (by go_simp)
    have g1 := keptF (p := ⟨w.heap.size + 1, 1, none⟩) (x := .slice none 0 0) hb1 (by go_simp) (by go_simp)
    have B := bel_c (bel_n (bel0 w (.cells #[.int .i64 n, .slice a xs.length cap] 26)) (Nat.le_refl _) (.cells #[.int .i64 0, .slice none 0 0] 26)) (Nat.le_refl _) hb1
    clear hb1
    go_wp2_with fail
    refine bodyPost_ret (v := .agg #[.int .i64 0, .slice none 0 0]) (by simp [results, Tryz.results7, go_sem, d0, d1]) rfl ⟨.slice none 0 0, rfl, ⟨by simp, .inl ⟨rfl, _, _, rfl⟩⟩, ?_⟩
    refine Below.setCell (Below.setCell B ?_ _) ?_ _ <;> (simp <;> omega)

end Go.Proofs.YtfidnhhlcdbaeaaGreatDoor

namespace Go.Proofs.YtfidnhhlcdbaeaaGreatDoor
open Go.ChangeShapes Go.WideShapes Go.ChangeAt Go.RowKit

theorem SpecSeeY (lo hi : Nat) (n : Int) (k : Nat) (kk : Int) (v : Value) (xs ys : List C3) (u : World) (r : CellIn lo hi u v xs) (h : hi ≤ u.heap.size) (hb : BlkOk n xs) (hkk : kk = k) (hk : k ≤ 7) (e : seeL n k xs = ys) :
    Calls Tryz.prog 7 #[.agg #[.int .i64 n, v], .int .i64 kk] u (FreshB n ys u) := by
  subst hkk
  have := SpecSeenFrom_any lo hi n k v xs u r h
  rw [(seeL_is hb hk).1, (seeL_is hb hk).2, e] at this
  exact this

end Go.Proofs.YtfidnhhlcdbaeaaGreatDoor

namespace Go.Proofs.YtfidnhhlcdbaeaaGreatDoor
open Go.ChangeShapes Go.WideShapes Go.ChangeAt Go.RowKit

/-- A block as a row holds it: its size, the value of its slice, its cells. -/
structure BV where
  n : Int
  v : Value
  xs : List C3
def BV.zero : BV := ⟨0, .slice none 0 0, []⟩
/-- Element i of the row of blocks at g. -/
def ElB (u : World) (g i : Nat) (z : BV) : Prop :=
  u.cell? ⟨g, i * 2, none⟩ = some (.int .i64 z.n) ∧ u.cell? ⟨g, i * 2 + 1, none⟩ = some z.v ∧ u.frozen? ⟨g, i * 2, none⟩ = false ∧ u.frozen? ⟨g, i * 2 + 1, none⟩ = false
/-- A row of blocks at g, whose cells lie behind it. -/
def BRow (u : World) (g : Nat) (l : List BV) : Prop := ∀ i, i < l.length → ElB u g i (l.getD i BV.zero) ∧ CellIn (g + 1) u.heap.size u (l.getD i BV.zero).v (l.getD i BV.zero).xs
theorem ElB.keep {u u' : World} {g i : Nat} {z : BV} (h : ElB u g i z) (hb : Below u.heap.size u u') : ElB u' g i z :=
  ⟨kept hb h.1, kept hb h.2.1, keptF hb h.1 h.2.2.1, keptF hb h.2.1 h.2.2.2⟩
theorem BRow.keep {u u' : World} {g : Nat} {l : List BV} (h : BRow u g l) (hb : Below u.heap.size u u') : BRow u' g l :=
  fun i hi => ⟨(h i hi).1.keep hb, ((h i hi).2.below hb).wide (Nat.le_refl _) hb.size⟩
/-- A block stored into the row. -/
abbrev setB (u : World) (g j : Nat) (n : Int) (v : Value) : World := (u.setCell ⟨g, j * 2, none⟩ (.int .i64 n)).setCell ⟨g, j * 2 + 1, none⟩ v
theorem ElB.set_same {u : World} {g j : Nat} {z : BV} (h : ElB u g j z) (n : Int) (v : Value) (xs : List C3) : ElB (setB u g j n v) g j ⟨n, v, xs⟩ := by
  obtain ⟨h0, h1, h2, h3⟩ := h
  refine ⟨?_, ?_, ?_, ?_⟩
  · rw [World.cell?_setCell_other _ _ _ _ (ad_ne (by omega)), World.cell?_setCell_same _ _ _ h0]
  · exact World.cell?_setCell_same _ _ _ (by rw [World.cell?_setCell_other _ _ _ _ (ad_ne (by omega))]; exact h1)
  · rw [World.frozen?_setCell, World.frozen?_setCell]; exact h2
  · rw [World.frozen?_setCell, World.frozen?_setCell]; exact h3
theorem ElB.set_other {u : World} {g i j : Nat} {z : BV} (h : ElB u g i z) (hij : i ≠ j) (n : Int) (v : Value) : ElB (setB u g j n v) g i z := by
  obtain ⟨h0, h1, h2, h3⟩ := h
  refine ⟨?_, ?_, ?_, ?_⟩
  · rw [World.cell?_setCell_other _ _ _ _ (ad_ne (by omega)), World.cell?_setCell_other _ _ _ _ (ad_ne (by omega))]; exact h0
  · rw [World.cell?_setCell_other _ _ _ _ (ad_ne (by omega)), World.cell?_setCell_other _ _ _ _ (ad_ne (by omega))]; exact h1
  · rw [World.frozen?_setCell, World.frozen?_setCell]; exact h2
  · rw [World.frozen?_setCell, World.frozen?_setCell]; exact h3
theorem setB_size (u : World) (g j : Nat) (n : Int) (v : Value) : (setB u g j n v).heap.size = u.heap.size := by simp [World.setCell]
theorem BRow.set {u : World} {g : Nat} {l : List BV} (h : BRow u g l) (j : Nat) (n : Int) (v : Value) (xs : List C3) (r : CellIn (g + 1) u.heap.size u v xs) : BRow (setB u g j n v) g (l.set j ⟨n, v, xs⟩) := by
  intro i hi
  rw [List.length_set] at hi
  have hc : ∀ v xs, CellIn (g + 1) u.heap.size u v xs → CellIn (g + 1) (setB u g j n v).heap.size (setB u g j n v) v xs := fun v' xs' r' => by
    rw [setB_size]
    exact (r'.set_far (p := ⟨g, j * 2, none⟩) (Nat.lt_succ_self g) _).set_far (p := ⟨g, j * 2 + 1, none⟩) (Nat.lt_succ_self g) _
  have hc2 : ∀ v' xs', CellIn (g + 1) u.heap.size u v' xs' → CellIn (g + 1) (setB u g j n v).heap.size (setB u g j n v) v' xs' := fun v' xs' r' => by
    rw [setB_size]
    exact (r'.set_far (p := ⟨g, j * 2, none⟩) (Nat.lt_succ_self g) _).set_far (p := ⟨g, j * 2 + 1, none⟩) (Nat.lt_succ_self g) _
  by_cases e : i = j
  · subst e
    have e1 : (l.set i ⟨n, v, xs⟩).getD i BV.zero = ⟨n, v, xs⟩ := by simp [List.getD, hi]
    rw [e1]
    exact ⟨(h i hi).1.set_same n v xs, hc2 v xs r⟩
  · have e1 : (l.set j ⟨n, v, xs⟩).getD i BV.zero = l.getD i BV.zero := by simp [List.getD, Ne.symm e]
    rw [e1]
    exact ⟨(h i hi).1.set_other e n v, hc2 _ _ (h i hi).2⟩
theorem makeB8 (w : World) : (Instr.makeSlice 44 (.int .i64 8) (.int .i64 8)).run Tryz.prog w = .ok (.slice (some ⟨w.heap.size, 0, none⟩) 8 8) (w.alloc (.cells #[.int .i64 0, .slice none 0 0, .int .i64 0, .slice none 0 0, .int .i64 0, .slice none 0 0, .int .i64 0, .slice none 0 0, .int .i64 0, .slice none 0 0, .int .i64 0, .slice none 0 0, .int .i64 0, .slice none 0 0, .int .i64 0, .slice none 0 0] 26)) := by kernel_rfl
theorem BRow.new (w : World) (T : TypeId) : BRow (w.alloc (.cells #[.int .i64 0, .slice none 0 0, .int .i64 0, .slice none 0 0, .int .i64 0, .slice none 0 0, .int .i64 0, .slice none 0 0, .int .i64 0, .slice none 0 0, .int .i64 0, .slice none 0 0, .int .i64 0, .slice none 0 0, .int .i64 0, .slice none 0 0] T)) w.heap.size (List.replicate 8 BV.zero) := by
  intro i hi
  have hi : i < 8 := by simpa using hi
  have : i = 0 ∨ i = 1 ∨ i = 2 ∨ i = 3 ∨ i = 4 ∨ i = 5 ∨ i = 6 ∨ i = 7 := by omega
  rcases this with rfl | rfl | rfl | rfl | rfl | rfl | rfl | rfl <;> exact ⟨⟨by simp [List.replicate, BV.zero], by simp [List.replicate, BV.zero], by simp, by simp⟩, ⟨Nat.zero_le _, .inl ⟨rfl, none, 0, rfl⟩⟩⟩
/-- The views of a block, eight of them. -/
def Views (N : Int) (f : Nat → List C3) (l : List BV) : Prop := l.length = 8 ∧ ∀ i, i < 8 → (l.getD i BV.zero).n = N ∧ (l.getD i BV.zero).xs = f i

end Go.Proofs.YtfidnhhlcdbaeaaGreatDoor

namespace Go.Proofs.YtfidnhhlcdbaeaaGreatDoor
open Go.ChangeShapes Go.WideShapes Go.ChangeAt Go.RowKit

/-- What a view shows, for any block. -/
noncomputable def fV (n : Int) (xs : List C3) (k : Nat) : List C3 := @ite _ (BlkOk n xs) (Classical.propDecidable _) (seeL n k xs) []
noncomputable def fP (n : Int) (xs : List C3) (k : Nat) : List C3 := @ite _ (BlkOk n xs) (Classical.propDecidable _) (plainL (seeL n k xs)) []
theorem fV_yes {n : Int} {xs : List C3} (h : BlkOk n xs) (k : Nat) : fV n xs k = seeL n k xs := if_pos h
theorem fV_no {n : Int} {xs : List C3} (h : ¬ BlkOk n xs) (k : Nat) : fV n xs k = [] := if_neg h
theorem fP_yes {n : Int} {xs : List C3} (h : BlkOk n xs) (k : Nat) : fP n xs k = plainL (seeL n k xs) := if_pos h
theorem fP_no {n : Int} {xs : List C3} (h : ¬ BlkOk n xs) (k : Nat) : fP n xs k = [] := if_neg h
theorem blk_zero : ¬ BlkOk 0 [] := fun h => by have := h.1.1; omega
theorem SeenV_any (lo hi : Nat) (n : Int) (k : Nat) (hk : k ≤ 7) (v : Value) (xs : List C3) (w : World) (r : CellIn lo hi w v xs) (hhi : hi ≤ w.heap.size) :
    Calls Tryz.prog 26 #[.agg #[.int .i64 n, v], .int .i64 k] w (FreshB (turnN n xs) (fV n xs k) w) := by
  have := ImplSeenFrom_any lo hi n k v xs w r hhi
  by_cases hb : BlkOk n xs
  · rw [(seeL_is hb hk).1, (seeL_is hb hk).2] at this
    rw [(turnB_yes hb).1, fV_yes hb]; exact this
  · rw [(see_no (fun h => hb h.1)).1, (see_no (fun h => hb h.1)).2] at this
    rw [(turnB_no hb).1, fV_no hb]; exact this
/-- The view's first use, and the exchange with it. -/
theorem pat_ans {n : Int} {xs : List C3} (k : Nat) : exA (turnN n xs) (fV n xs k) (fuAns (turnN n xs) (fV n xs k)) = fP n xs k := by
  by_cases hb : BlkOk n xs
  · rw [(turnB_yes hb).1, fV_yes hb, fP_yes hb, fu_yes (seeL_ok hb), (exA_yes ⟨seeL_ok hb, (fuL_exch (seeL_ok hb)).1⟩).1]; rfl
  · rw [(turnB_no hb).1, fV_no hb, fP_no hb, (exA_no (fun h => blk_zero h.1)).1]
set_option maxRecDepth 100000 in
set_option maxHeartbeats 8000000 in
theorem PatV_any (lo hi : Nat) (n : Int) (k : Nat) (hk : k ≤ 7) (v : Value) (xs : List C3) (w : World) (r : CellIn lo hi w v xs) (hhi : hi ≤ w.heap.size) :
    Calls Tryz.prog 28 #[.agg #[.int .i64 n, v], .int .i64 k] w (FreshB (turnN n xs) (fP n xs k) w) := by
  obtain ⟨a, cap, rfl⟩ := r.form
  have hl := r.1
  have HR := Lib.hid (fun W (hb : Below w.heap.size w W) => r.below (hb.mono hhi))
  clear r
  have CV := Lib.hid (fun W (hb : Below w.heap.size w W) => SeenV_any lo hi n k hk _ xs W (HR.out W hb) (Nat.le_trans hhi hb.size))
  have hps := pat_ans (n := n) (xs := xs) k
  generalize turnN n xs = N at CV hps ⊢
  generalize fV n xs k = ys at CV hps ⊢
  obtain ⟨fs, hfs⟩ : ∃ fs, fuAns N ys = fs := ⟨_, rfl⟩
  obtain ⟨ok, hok⟩ : ∃ ok, exK N ys fs = ok := ⟨_, rfl⟩
  rw [hfs] at hps
  generalize fP n xs k = ps at hps ⊢
  have HFS := Lib.hid hfs
  have HPS := Lib.hid hps
  have HOK := Lib.hid hok
  clear hfs hps hok
  go_enter Tryz.func28, Tryz.ntmps28
  go_wp2_with fail
  refine (CV.out _ (bel_n (bel0 w _) (Nat.le_refl _) _)).mono ?_
  rintro e w3 ⟨v3, rfl, R3, hb3⟩
  obtain ⟨a3, c3, rfl⟩ := R3.form
  have hys := R3.1
  obtain ⟨P, hP⟩ : ∃ P, w3.heap.size = P := ⟨_, rfl⟩
  obtain ⟨G, hG⟩ : ∃ G, G = w3.alloc (.cells #[.int .i64 N, .slice a3 ys.length c3] 26) := ⟨_, rfl⟩
  have hz3 := hb3.size
  simp at hz3
  have HZG : Hid (G.heap.size = P + 1 ∧ w.heap.size + 1 < P) := Lib.hid (by rw [hG, ← hP]; simp; omega)
  have hb3' := bel_c (bel_n (bel0 w (.cells #[.int .i64 n, .slice a xs.length cap] 26)) (Nat.le_refl _) (.cells #[.int .i64 0, .slice none 0 0] 26)) (Nat.le_refl _) hb3
  have HBG : Hid (Below w.heap.size w G) := Lib.hid (by rw [hG]; exact bel_n hb3' (Nat.le_refl _) _)
  have HX : Hid (BoxB P (.int .i64 N) (.slice a3 ys.length c3) G ∧ BoxB (w.heap.size + 1) (.int .i64 0) (.slice none 0 0) G) := Lib.hid (by
    rw [hG, ← hP]
    refine ⟨BoxB.new _ _ _ _, ?_⟩
    have h := BoxB.new (w.alloc (.cells #[.int .i64 n, .slice a xs.length cap] 26)) (.int .i64 0) (.slice none 0 0) 26
    have h2 : BoxB (w.heap.size + 1) (.int .i64 0) (.slice none 0 0) ((w.alloc (.cells #[.int .i64 n, .slice a xs.length cap] 26)).alloc (.cells #[.int .i64 0, .slice none 0 0] 26)) := by simpa using h
    exact (h2.below hb3 (by simp)).below (bel0 _ _) (by omega))
  have HR3 : Hid (∀ u, Below G.heap.size G u → CellIn (w.heap.size + 1 + 1) P u (.slice a3 ys.length c3) ys ∧ P ≤ u.heap.size) := Lib.hid (fun u hu => by
    have h1 : Below w3.heap.size w3 u := (by rw [hG] at hu; exact bel_c (bel0 w3 _) (Nat.le_refl _) hu)
    have h2 := (R3.below h1)
    rw [hP] at h2 h1
    exact ⟨by simpa using h2, Nat.le_trans (by omega) h1.size⟩)
  have pX : P < G.heap.size := by have := HZG.out; omega
  have hP2 : ∀ x : Value, (fun z => z = z) x := fun _ => rfl
  clear R3 hz3 hb3' hb3 hP2
  go_upto_region 2 with fail
  (try rw [hP])
  rw [← hG]
  clear hG hP
  have D0 : Below G.heap.size G G.drew := ⟨rfl, rfl, rfl, Nat.le_refl _, fun _ _ => rfl⟩
  have KP : ∀ u v, Below u.heap.size u v → (u.cell? ⟨P, 0, none⟩ = some (.int .i64 N) ∧ u.cell? ⟨P, 1, none⟩ = some (.slice a3 ys.length c3) ∧ Below G.heap.size G u) → (v.cell? ⟨P, 0, none⟩ = some (.int .i64 N) ∧ v.cell? ⟨P, 1, none⟩ = some (.slice a3 ys.length c3) ∧ Below G.heap.size G v) := fun u v hb h => ⟨kept hb h.1, kept hb h.2.1, bel_c h.2.2 (Nat.le_refl _) hb⟩
  have KS : ∀ (u : World) (p : Nat) (v0 v1 : Value), G.heap.size ≤ p → (u.cell? ⟨P, 0, none⟩ = some (.int .i64 N) ∧ u.cell? ⟨P, 1, none⟩ = some (.slice a3 ys.length c3) ∧ Below G.heap.size G u) → (((u.setCell ⟨p, 0, none⟩ v0).setCell ⟨p, 1, none⟩ v1).cell? ⟨P, 0, none⟩ = some (.int .i64 N) ∧ ((u.setCell ⟨p, 0, none⟩ v0).setCell ⟨p, 1, none⟩ v1).cell? ⟨P, 1, none⟩ = some (.slice a3 ys.length c3) ∧ Below G.heap.size G ((u.setCell ⟨p, 0, none⟩ v0).setCell ⟨p, 1, none⟩ v1)) := by
    intro u p v0 v1 hp h
    have h1 : p ≠ P := by omega
    have f : ∀ (q o : Nat), p ≠ q → ((u.setCell ⟨p, 0, none⟩ v0).setCell ⟨p, 1, none⟩ v1).cell? ⟨q, o, none⟩ = u.cell? ⟨q, o, none⟩ := fun q o hq => by
      rw [World.cell?_setCell_other _ _ _ _ (by simp), World.cell?_setCell_other _ _ _ _ (by simp)]
    exact ⟨(f _ _ h1).trans h.1, (f _ _ h1).trans h.2.1, (h.2.2.setCell (p := ⟨p, 0, none⟩) hp _).setCell (p := ⟨p, 1, none⟩) hp _⟩
  have HSZ : Hid (∀ u, (u.cell? ⟨P, 0, none⟩ = some (.int .i64 N) ∧ u.cell? ⟨P, 1, none⟩ = some (.slice a3 ys.length c3) ∧ Below G.heap.size G u) → G.heap.size ≤ u.heap.size) := Lib.hid (fun u h => h.2.2.size)
  have CF : Hid (∀ u, (u.cell? ⟨P, 0, none⟩ = some (.int .i64 N) ∧ u.cell? ⟨P, 1, none⟩ = some (.slice a3 ys.length c3) ∧ Below G.heap.size G u) → Calls Tryz.prog 52 #[.agg #[.int .i64 N, .slice a3 ys.length c3]] u (FreshI fs u)) := Lib.hid (fun u h => by
    have := ImplFirstUse_any _ _ N _ ys u (HR3.out u h.2.2).1 (HR3.out u h.2.2).2
    rw [HFS.out] at this; exact this)
  have CE : Hid (∀ u, (u.cell? ⟨P, 0, none⟩ = some (.int .i64 N) ∧ u.cell? ⟨P, 1, none⟩ = some (.slice a3 ys.length c3) ∧ Below G.heap.size G u) → ∀ (l2 h2 : Nat) (vl : Value) (_ : IntO l2 h2 u vl fs) (_ : h2 ≤ u.heap.size), Calls Tryz.prog 51 #[.agg #[.int .i64 N, .slice a3 ys.length c3], vl] u (FreshBB N ps ok u)) := Lib.hid (fun u h l2 h2 vl rl hh => by
    have := ImplExchangeBlock_any _ _ l2 h2 N _ vl ys fs u (HR3.out u h.2.2).1 (HR3.out u h.2.2).2 rl hh
    rw [HPS.out, HOK.out] at this; exact this)
  have S0 : G.drew.cell? ⟨P, 0, none⟩ = some (.int .i64 N) ∧ G.drew.cell? ⟨P, 1, none⟩ = some (.slice a3 ys.length c3) ∧ Below G.heap.size G G.drew := ⟨kept D0 HX.out.1.1, kept D0 HX.out.1.2.1, D0⟩
  go_cut [6, 7] (fun q t wx => WR N ok ps G q t wx)
  case first =>
    go_region_held3 (fun w' => w'.cell? ⟨P, 0, none⟩ = some (.int .i64 N) ∧ w'.cell? ⟨P, 1, none⟩ = some (.slice a3 ys.length c3) ∧ Below G.heap.size G w') (first | assumption | exact KP _ _ (bel0 _ _) (by assumption) | exact KS _ _ _ _ (by first | omega | (simp; omega)) (by assumption) | (refine KP _ _ (by assumption) ?_; assumption))
      ((first
        | (go_at_call 52; refine (args_eq (CF.out G.drew S0) (by with_reducible rfl)).mono ?_; rintro e yf ⟨vf, rfl, RF, hbf⟩; obtain ⟨af, cf, rfl⟩ := RF.form; have HRF := Lib.hid (fun v (hv : Below yf.heap.size yf v) => RF.below (hv.mono (Nat.le_refl _))); clear RF; have S4 := KP _ _ hbf S0; have zf := HSZ.out _ S4; clear hbf)
        | (go_at_call 52; refine (args_eq (CF.out (G.drew.alloc (.cells #[.int .i64 0, .slice none 0 0] 26)) (KP _ _ (bel0 _ _) S0)) (by with_reducible rfl)).mono ?_; rintro e yf ⟨vf, rfl, RF, hbf⟩; obtain ⟨af, cf, rfl⟩ := RF.form; have HRF := Lib.hid (fun v (hv : Below yf.heap.size yf v) => RF.below (hv.mono (Nat.le_refl _))); clear RF; have bz3 := Lib.hid (show BoxB G.heap.size (.int .i64 0) (.slice none 0 0) yf from (BoxB.new G.drew (.int .i64 0) (.slice none 0 0) 26).below hbf (by simp)); have S4 := KP _ _ hbf (KP _ _ (bel0 _ _) S0); have zf := HSZ.out _ S4; clear hbf)
        | (go_at_call 51; refine (args_eq (CE.out (yf.alloc (.cells #[.int .i64 0, .slice none 0 0] 26)) (KP _ _ (bel0 _ _) S4) _ _ _ (HRF.out _ (bel0 _ _)).o (bel0 _ _).size) (by with_reducible rfl)).mono ?_; rintro e ye ⟨ve, rfl, RE, hbe⟩; obtain ⟨ae, ce, rfl⟩ := RE.form; have RE := Lib.hid RE; have bz3 := Lib.hid ((BoxB.new yf (.int .i64 0) (.slice none 0 0) 26).below hbe (bel0_lt _ _)); have S5 := KP _ _ hbe (KP _ _ (bel0 _ _) S4); have ze := HSZ.out _ S5; have hpz : yf.heap.size < (yf.alloc (.cells #[.int .i64 0, .slice none 0 0] 26)).heap.size := bel0_lt _ _; obtain ⟨j0, j1, j2, j3⟩ := bz3.out)
        | (go_at_call 51; have bz4 := bz3; refine (args_eq (CE.out yf S4 _ _ _ (HRF.out _ (Below.refl _ _)).o (Nat.le_refl _)) (by with_reducible rfl)).mono ?_; rintro e ye ⟨ve, rfl, RE, hbe⟩; obtain ⟨ae, ce, rfl⟩ := RE.form; have RE := Lib.hid RE; have hpz := bz4.out.lt; have bz3 := Lib.hid (bz4.out.below hbe bz4.out.lt); have S5 := KP _ _ hbe S4; have ze := HSZ.out _ S5; obtain ⟨j0, j1, j2, j3⟩ := bz3.out)
        | (go_at_call 51; refine (args_eq (CE.out yf S4 _ _ _ (HRF.out _ (Below.refl _ _)).o (Nat.le_refl _)) (by with_reducible rfl)).mono ?_; rintro e ye ⟨ve, rfl, RE, hbe⟩; obtain ⟨ae, ce, rfl⟩ := RE.form; have RE := Lib.hid RE; have S5 := KP _ _ hbe S4; have ze := HSZ.out _ S5)))
    all_goals
      have hsz := HSZ.out _ S4
      first
      | (have hez := bz3.out; go_wp2_with fail; go_meet; exact WR.old RE.out bz3.out S5.2.2 (by omega) (by omega) (.inl (by omega)))
      | (go_wp2_with fail; go_meet; exact WR.new RE.out S5.2.2 (by omega))
  case rest =>
    obtain ⟨p2, a2, c2, l2, h2, rfl, rfl, bx2, R2, -, zl2, zp2, zh2, hb⟩ := hcut
    have HX2 := HX.out.2.below hb (by have := HZG.out; omega)
    obtain ⟨d0, d1, g0, g1⟩ := HX2
    obtain ⟨q0, q1, _, _⟩ := bx2
    have HB := Lib.hid (bel_c HBG.out (Nat.le_refl _) hb)
    have hz := HZG.out
    clear hb S0 D0 KP KS CF CE HSZ
    go_wp2_with fail
    refine bodyPost_ret (v := .agg #[.int .i64 N, .slice a2 ps.length c2]) (by simp [results, Tryz.results28, go_sem, d0, d1]) rfl ⟨_, rfl, ?_, ?_⟩
    · refine CellIn.wide (lo := l2) (hi := h2) ?_ (by omega) (by simp [World.setCell]; omega)
      refine CellIn.set_far (CellIn.set_far R2 ?_ _) ?_ _ <;> (simp <;> omega)
    · refine Below.setCell (Below.setCell HB.out ?_ _) ?_ _ <;> (simp <;> omega)

end Go.Proofs.YtfidnhhlcdbaeaaGreatDoor
