/- Turns: the model's SeenFrom. -/
import Derived.Test.YtfidnhhlcdbaeaaTurB
import Derived.Test.YtfidnhhlcdbaeaaTurM
import Derived.Test.YtfidnhhlcdbaeaaBlkK
namespace Go.Proofs.Ytfidnhhlcdbaeaa
open Go.ChangeShapes Go.WideShapes Go.ChangeAt Go.RowKit

/-- What the walk of SeenFrom keeps. -/
def SBk (p o : Nat) (n : Int) (sl v : Value) (u : World) : Prop := TBk p o n sl v u ∧ u.frozen? ⟨o, 0, none⟩ = false
theorem SBk.far {p o : Nat} {n : Int} {sl v : Value} {u w : World} (h : SBk p o n sl v u) (hb : Below (o + 1) u w) (hp : p + 1 < o) : SBk p o n sl v w := ⟨h.1.far hb hp, (hb.frozen (p := ⟨o, 0, none⟩) (Nat.lt_succ_self _)).trans h.2⟩
theorem SBk.store {p o : Nat} {n : Int} {sl v : Value} {u : World} (h : SBk p o n sl v u) (hp : p + 1 < o) (v' : Value) : SBk p o n sl v' ((u.setCell ⟨o, 0, none⟩ (.int .i64 n)).setCell ⟨o, 1, none⟩ v') := by
  obtain ⟨⟨h0, h1, h2, h3, h4, h5, h6, h7, h8⟩, h9⟩ := h
  have n0 : ∀ k j : Nat, (⟨o, j, none⟩ : Addr) ≠ ⟨p, k, none⟩ := by intro k j e; injection e with e1; omega
  have n1 : ∀ k j : Nat, (⟨o, j, none⟩ : Addr) ≠ ⟨p + 1, k, none⟩ := by intro k j e; injection e with e1; omega
  have C0 : ∀ x y, (∀ j : Nat, (⟨o, j, none⟩ : Addr) ≠ x) → u.cell? x = some y → ((u.setCell ⟨o, 0, none⟩ (.int .i64 n)).setCell ⟨o, 1, none⟩ v').cell? x = some y := fun x y hx hc => (World.cell?_setCell_other _ _ _ _ (hx 1)).trans ((World.cell?_setCell_other _ _ _ _ (hx 0)).trans hc)
  have F0 : ∀ x, u.frozen? x = false → ((u.setCell ⟨o, 0, none⟩ (.int .i64 n)).setCell ⟨o, 1, none⟩ v').frozen? x = false := fun x hx => (World.frozen?_setCell _ _ _ _).trans ((World.frozen?_setCell _ _ _ _).trans hx)
  have e0 : (u.setCell ⟨o, 0, none⟩ (.int .i64 n)).cell? ⟨o, 1, none⟩ = some v := (World.cell?_setCell_other _ _ _ _ (by simp)).trans h0
  exact ⟨⟨World.cell?_setCell_same _ _ _ e0, (World.cell?_setCell_other _ _ _ _ (by simp)).trans (World.cell?_setCell_same _ _ _ h1), F0 _ h2, C0 _ _ (n0 0) h3, C0 _ _ (n0 1) h4, C0 _ _ (n1 0) h5, C0 _ _ (n1 1) h6, F0 _ h7, F0 _ h8⟩, F0 _ h9⟩
theorem SBk.start (n : Int) (sl v : Value) (w w1 : World) (hb : Below ((w.alloc (.cells #[.int .i64 n, sl] 26)).alloc (.cells #[.int .i64 0, .slice none 0 0] 26)).heap.size ((w.alloc (.cells #[.int .i64 n, sl] 26)).alloc (.cells #[.int .i64 0, .slice none 0 0] 26)) w1) :
    SBk w.heap.size w1.heap.size n sl v (w1.alloc (.cells #[.int .i64 n, v] 26)) := by
  refine ⟨⟨by simp, by simp, by simp, kept (bel0 w1 _) (kept hb ?_), kept (bel0 w1 _) (kept hb ?_), kept (bel0 w1 _) (kept hb ?_), kept (bel0 w1 _) (kept hb ?_), keptF (x := .int .i64 0) (bel0 w1 _) (kept hb ?_) (keptF (x := .int .i64 0) hb ?_ ?_), keptF (x := .slice none 0 0) (bel0 w1 _) (kept hb ?_) (keptF (x := .slice none 0 0) hb ?_ ?_)⟩, by simp⟩ <;> go_simp

set_option maxRecDepth 100000 in
set_option maxHeartbeats 4000000 in
theorem SpecSeenFrom_any (lo hi : Nat) (n k : Int) (v : Value) (xs : List C3) (w : World) (r : CellIn lo hi w v xs) (hhi : hi ≤ w.heap.size) :
    Calls Try.prog 20 #[.agg #[.int .i64 n, v], .int .i64 k] w (FreshB (seeN n k xs) (seeB n k xs) w) := by
  obtain ⟨a, cap, rfl⟩ := r.form
  have hl := r.1
  have HR := Lib.hid (fun W (hb : Below w.heap.size w W) => r.below (hb.mono hhi))
  clear r
  by_cases hb : BlkOk n xs
  · have HB := Lib.hid hb
    by_cases hk : 0 ≤ k ∧ k ≤ 7
    · obtain ⟨k0, k7⟩ := hk
      rw [(see_yes (n := n) (k := k) ⟨hb, k0, k7⟩).1, (see_yes (n := n) (k := k) ⟨hb, k0, k7⟩).2]
      obtain ⟨kk, hkk⟩ : ∃ kk : Nat, k % 4 = kk := ⟨(k % 4).toNat, by omega⟩
      have hkt : (k % 4).toNat = kk := by omega
      rw [hkt]
      have HK := Lib.hid hkk
      have hkb : kk ≤ 3 := by omega
      clear hkk hkt
      by_cases hge : 4 ≤ k
      · rw [if_pos hge]
        have HBB := Lib.hid (mir_ok hb)
        clear hb
        obtain ⟨base, hbase⟩ : ∃ base, base = mirL n xs := ⟨_, rfl⟩
        rw [← hbase] at HBB ⊢
        have HBS := Lib.hid hbase
        clear hbase
        go_enter Try.func20, Try.ntmps20
        go_wp2_with fail
        refine (SpecBlockOk_yes lo hi n _ xs _ (HR.out _ (bel_n (bel0 w _) (Nat.le_refl _) _)) (by simp; omega) HB.out).mono ?_
        rintro e w1 ⟨rfl, hb1⟩
        have p0 := kept (p := ⟨w.heap.size, 0, none⟩) (x := .int .i64 n) hb1 (by go_simp)
        have p1 := kept (p := ⟨w.heap.size, 1, none⟩) (x := .slice a xs.length cap) hb1 (by go_simp)
        have HB1 := Lib.hid (bel_c (bel_n (bel0 w (.cells #[.int .i64 n, .slice a xs.length cap] 26)) (Nat.le_refl _) (.cells #[.int .i64 0, .slice none 0 0] 26)) (Nat.le_refl _) hb1)
        have HBX := Lib.hid hb1
        clear hb1
        go_wp2_with fail
        refine (In_yes k 0 7 _ k0 k7).mono ?_
        rintro e w' ⟨rfl, rfl⟩
        go_wp2_with fail
        refine (SpecCopy_any lo hi n _ xs _ (HR.out _ HB1.out) (Nat.le_trans hhi HB1.out.size)).mono ?_
        rintro e w2 ⟨v2, rfl, hin2, hb2⟩
        have HB2 := Lib.hid (bel_c HB1.out (Nat.le_refl _) hb2)
        have HX2 := Lib.hid (bel_c HBX.out (Nat.le_refl _) hb2)
        have HPO : Hid (w.heap.size + 1 < w2.heap.size) := Lib.hid (by have := HX2.out.size; simp at this; omega)
        obtain ⟨a2, c2, rfl⟩ := hin2.form
        have HS2 := Lib.hid (SBk.start n (.slice a xs.length cap) (.slice a2 xs.length c2) w w2 HX2.out)
        have HI2 := Lib.hid ((hin2.below (bel0 w2 (.cells #[.int .i64 n, .slice a2 xs.length c2] 26))).wide (lo' := w.heap.size + 1 + 1) (by have := HBX.out.size; simpa using this) (hi' := (w2.alloc (.cells #[.int .i64 n, .slice a2 xs.length c2] 26)).heap.size) (by simp))
        have HB3 := Lib.hid (bel_n HB2.out (Nat.le_refl _) (.cells #[.int .i64 n, .slice a2 xs.length c2] 26))
        have HZ3 : Hid (w2.heap.size + 1 ≤ (w2.alloc (.cells #[.int .i64 n, .slice a2 xs.length c2] 26)).heap.size) := Lib.hid (by simp)
        clear p0 p1 hb2 hin2
        have hk4 : 4 ≤ k := by omega
        have hrem : k % 4 = (kk : Int) := HK.out
        have p0 := HS2.out.1.2.2.2.1
        have p1 := HS2.out.1.2.2.2.2.1
        have CM := Lib.hid (SpecMirrorBlock_any lo hi n (.slice a xs.length cap) xs (w2.alloc (.cells #[.int .i64 n, .slice a2 xs.length c2] 26)) (HR.out _ HB3.out) (Nat.le_trans hhi HB3.out.size))
        rw [(turnB_yes HB.out).1, (turnB_yes HB.out).2.2] at CM
        go_wp2_with fail
        refine CM.out.mono ?_
        rintro e w5 ⟨v5, rfl, hin5, hb5⟩
        have HS5 := Lib.hid (HS2.out.far (hb5.mono HZ3.out) HPO.out)
        obtain ⟨a5, c5, rfl⟩ := hin5.form
        have HI5 := Lib.hid ((((hin5.set_far (p := ⟨w2.heap.size, 0, none⟩) HZ3.out (.int .i64 n)).set_far (p := ⟨w2.heap.size, 1, none⟩) HZ3.out (.slice a5 (mirL n xs).length c5)).wide (lo' := w.heap.size + 1 + 1) (by have := HPO.out; have := HZ3.out; omega) (hi' := ((w5.setCell ⟨w2.heap.size, 0, none⟩ (.int .i64 n)).setCell ⟨w2.heap.size, 1, none⟩ (.slice a5 (mirL n xs).length c5)).heap.size) (by simp [World.setCell])))
        have HS0 := Lib.hid (HS5.out.store HPO.out (.slice a5 (mirL n xs).length c5))
        have HB0 := Lib.hid (Below.setCell (Below.setCell (bel_c HB3.out (Nat.le_refl _) hb5) (p := ⟨w2.heap.size, 0, none⟩) (by show _ ≤ w2.heap.size; have := HPO.out; omega) (.int .i64 n)) (p := ⟨w2.heap.size, 1, none⟩) (by show _ ≤ w2.heap.size; have := HPO.out; omega) (.slice a5 (mirL n xs).length c5))
        have HZ0 : Hid (w2.heap.size + 1 ≤ ((w5.setCell ⟨w2.heap.size, 0, none⟩ (.int .i64 n)).setCell ⟨w2.heap.size, 1, none⟩ (.slice a5 (mirL n xs).length c5)).heap.size) := Lib.hid (by simp [World.setCell]; exact Nat.le_trans HZ3.out hb5.size)
        have f0 := HS5.out.2
        have f1 := HS5.out.1.2.2.1
        have q50 := HS5.out.1.2.1
        have q51 := HS5.out.1.1
        clear p0 p1 hb5 hin5
        go_wp2_with fail
        clear f0 f1 q50 q51
        have HC0 : Hid (CellIn (w.heap.size + 1 + 1) ((w5.setCell ⟨w2.heap.size, 0, none⟩ (.int .i64 n)).setCell ⟨w2.heap.size, 1, none⟩ (.slice a5 (mirL n xs).length c5)).heap.size ((w5.setCell ⟨w2.heap.size, 0, none⟩ (.int .i64 n)).setCell ⟨w2.heap.size, 1, none⟩ (.slice a5 (mirL n xs).length c5)) (.slice a5 (mirL n xs).length c5) (turnK n base 0)) := Lib.hid (by show CellIn _ _ _ _ base; rw [HBS.out]; exact HI5.out)
        go_loopw [6] (fun i wr => ∃ (c : Nat) (v : Value), c ≤ kk ∧ i = .int .i64 c ∧ Hid (CellIn (w.heap.size + 1 + 1) wr.heap.size wr v (turnK n base c)) ∧ Hid (SBk w.heap.size w2.heap.size n (.slice a xs.length cap) v wr) ∧ Hid (Below w.heap.size w wr) ∧ w2.heap.size + 1 ≤ wr.heap.size) (fun i _ => kk - (intOf i).toNat)
        case atStart => exact ⟨0, _, Nat.zero_le _, rfl, HC0, HS0, HB0, HZ0.out⟩
        case round =>
          obtain ⟨c, v, hc, rfl, hin, hs, hbel, hsz⟩ := hrel
          by_cases hlt : c < kk
          · obtain ⟨av, cv, rfl⟩ := hin.out.form
            have q0 := hs.out.1.2.1
            have q1 := hs.out.1.1
            have CT := Lib.hid (SpecTurnBlock_any (w.heap.size + 1 + 1) wr.heap.size n (.slice av (turnK n base c).length cv) (turnK n base c) wr hin.out (Nat.le_refl _))
            rw [(turnB_yes (turnK_ok HBB.out c)).1, (turnB_yes (turnK_ok HBB.out c)).2.1] at CT
            have HLC := Lib.hid (turnK_length n base (c + 1))
            change Hid (Calls _ _ _ _ (FreshB n (turnK n base (c + 1)) wr)) at CT
            obtain ⟨ys, hys⟩ : ∃ ys, turnK n base (c + 1) = ys := ⟨_, rfl⟩
            rw [hys] at CT
            have HYS := Lib.hid hys
            clear hys HLC
            generalize turnK n base c = zs at CT hin hs q1
            go_wp2_with fail
            refine CT.out.mono ?_
            rintro e w5 ⟨v5, rfl, hin5, hb5⟩
            have HS5 := Lib.hid (hs.out.far (hb5.mono hsz) HPO.out)
            obtain ⟨a5, c5, rfl⟩ := hin5.form
            have HI5 := Lib.hid ((((hin5.set_far (p := ⟨w2.heap.size, 0, none⟩) hsz (.int .i64 n)).set_far (p := ⟨w2.heap.size, 1, none⟩) hsz (.slice a5 ys.length c5)).wide (lo' := w.heap.size + 1 + 1) (by have := HPO.out; omega) (hi' := ((w5.setCell ⟨w2.heap.size, 0, none⟩ (.int .i64 n)).setCell ⟨w2.heap.size, 1, none⟩ (.slice a5 ys.length c5)).heap.size) (by simp [World.setCell])))
            have HST := Lib.hid (HS5.out.store HPO.out (.slice a5 ys.length c5))
            have HB5 := Lib.hid (Below.setCell (Below.setCell (bel_c hbel.out (Nat.le_refl _) hb5) (p := ⟨w2.heap.size, 0, none⟩) (by show _ ≤ w2.heap.size; have := HPO.out; omega) (.int .i64 n)) (p := ⟨w2.heap.size, 1, none⟩) (by show _ ≤ w2.heap.size; have := HPO.out; omega) (.slice a5 ys.length c5))
            have HZ5 : Hid (w2.heap.size + 1 ≤ ((w5.setCell ⟨w2.heap.size, 0, none⟩ (.int .i64 n)).setCell ⟨w2.heap.size, 1, none⟩ (.slice a5 ys.length c5)).heap.size) := Lib.hid (by simp [World.setCell]; exact Nat.le_trans hsz hb5.size)
            have f0 := HS5.out.2
            have f1 := HS5.out.1.2.2.1
            have q50 := HS5.out.1.2.1
            have q51 := HS5.out.1.1
            clear q0 q1 hin5 hb5 hin hs hbel
            go_wp2_with fail
            clear f0 f1 q50 q51
            go_roundw
            case rel => exact ⟨c + 1, _, by omega, by go_num, by rw [HYS.out]; exact HI5, HST, HB5, HZ5.out⟩
            case measure => simp [intOf] <;> omega
          · obtain rfl : c = kk := by omega
            obtain ⟨av, cv, rfl⟩ := hin.out.form
            obtain ⟨zs, hzs⟩ : ∃ zs, turnK n base c = zs := ⟨_, rfl⟩
            rw [hzs] at hin hs
            have HZS := Lib.hid hzs
            clear hzs
            obtain ⟨⟨q1, q0, _, p0, p1, d0, d1, g0, g1⟩, _⟩ := hs.out
            clear hs
            go_wp2_with fail
            refine bodyPost_ret (v := .agg #[.int .i64 n, .slice av zs.length cv]) (by simp [results, Try.results20, go_sem, d0, d1]) rfl ⟨_, rfl, ?_, ?_⟩
            · rw [HZS.out]
              refine CellIn.wide (lo := w.heap.size + 1 + 1) (hi := wr.heap.size) ?_ (by omega) (by simp [World.setCell])
              refine CellIn.set_far (CellIn.set_far hin.out ?_ _) ?_ _ <;> (simp <;> omega)
            · refine Below.setCell (Below.setCell hbel.out ?_ _) ?_ _ <;> (simp <;> omega)
      · rw [if_neg hge]
        have HBB := Lib.hid hb
        clear hb
        obtain ⟨base, hbase⟩ : ∃ base, base = xs := ⟨_, rfl⟩
        have HBB2 : Hid (BlkOk n base) := Lib.hid (by rw [hbase]; exact HBB.out)
        rw [show turnK n xs kk = turnK n base kk by rw [hbase]]
        have HBS := Lib.hid hbase
        clear hbase HBB
        go_enter Try.func20, Try.ntmps20
        go_wp2_with fail
        refine (SpecBlockOk_yes lo hi n _ xs _ (HR.out _ (bel_n (bel0 w _) (Nat.le_refl _) _)) (by simp; omega) HB.out).mono ?_
        rintro e w1 ⟨rfl, hb1⟩
        have p0 := kept (p := ⟨w.heap.size, 0, none⟩) (x := .int .i64 n) hb1 (by go_simp)
        have p1 := kept (p := ⟨w.heap.size, 1, none⟩) (x := .slice a xs.length cap) hb1 (by go_simp)
        have HB1 := Lib.hid (bel_c (bel_n (bel0 w (.cells #[.int .i64 n, .slice a xs.length cap] 26)) (Nat.le_refl _) (.cells #[.int .i64 0, .slice none 0 0] 26)) (Nat.le_refl _) hb1)
        have HBX := Lib.hid hb1
        clear hb1
        go_wp2_with fail
        refine (In_yes k 0 7 _ k0 k7).mono ?_
        rintro e w' ⟨rfl, rfl⟩
        go_wp2_with fail
        refine (SpecCopy_any lo hi n _ xs _ (HR.out _ HB1.out) (Nat.le_trans hhi HB1.out.size)).mono ?_
        rintro e w2 ⟨v2, rfl, hin2, hb2⟩
        have HB2 := Lib.hid (bel_c HB1.out (Nat.le_refl _) hb2)
        have HX2 := Lib.hid (bel_c HBX.out (Nat.le_refl _) hb2)
        have HPO : Hid (w.heap.size + 1 < w2.heap.size) := Lib.hid (by have := HX2.out.size; simp at this; omega)
        obtain ⟨a2, c2, rfl⟩ := hin2.form
        have HS2 := Lib.hid (SBk.start n (.slice a xs.length cap) (.slice a2 xs.length c2) w w2 HX2.out)
        have HI2 := Lib.hid ((hin2.below (bel0 w2 (.cells #[.int .i64 n, .slice a2 xs.length c2] 26))).wide (lo' := w.heap.size + 1 + 1) (by have := HBX.out.size; simpa using this) (hi' := (w2.alloc (.cells #[.int .i64 n, .slice a2 xs.length c2] 26)).heap.size) (by simp))
        have HB3 := Lib.hid (bel_n HB2.out (Nat.le_refl _) (.cells #[.int .i64 n, .slice a2 xs.length c2] 26))
        have HZ3 : Hid (w2.heap.size + 1 ≤ (w2.alloc (.cells #[.int .i64 n, .slice a2 xs.length c2] 26)).heap.size) := Lib.hid (by simp)
        clear p0 p1 hb2 hin2
        have hk4 : ¬ 4 ≤ k := by omega
        have hrem : k % 4 = (kk : Int) := HK.out
        have p0 := HS2.out.1.2.2.2.1
        have p1 := HS2.out.1.2.2.2.2.1
        go_wp2_with fail
        clear p0 p1
        have HC0 : Hid (CellIn (w.heap.size + 1 + 1) (w2.alloc (.cells #[.int .i64 n, .slice a2 xs.length c2] 26)).heap.size (w2.alloc (.cells #[.int .i64 n, .slice a2 xs.length c2] 26)) (.slice a2 xs.length c2) (turnK n base 0)) := Lib.hid (by show CellIn _ _ _ _ base; rw [HBS.out]; exact HI2.out)
        have HS0 := HS2
        have HB0 := HB3
        have HZ0 := HZ3
        go_loopw [6] (fun i wr => ∃ (c : Nat) (v : Value), c ≤ kk ∧ i = .int .i64 c ∧ Hid (CellIn (w.heap.size + 1 + 1) wr.heap.size wr v (turnK n base c)) ∧ Hid (SBk w.heap.size w2.heap.size n (.slice a xs.length cap) v wr) ∧ Hid (Below w.heap.size w wr) ∧ w2.heap.size + 1 ≤ wr.heap.size) (fun i _ => kk - (intOf i).toNat)
        case atStart => exact ⟨0, _, Nat.zero_le _, rfl, HC0, HS0, HB0, HZ0.out⟩
        case round =>
          obtain ⟨c, v, hc, rfl, hin, hs, hbel, hsz⟩ := hrel
          by_cases hlt : c < kk
          · obtain ⟨av, cv, rfl⟩ := hin.out.form
            have q0 := hs.out.1.2.1
            have q1 := hs.out.1.1
            have CT := Lib.hid (SpecTurnBlock_any (w.heap.size + 1 + 1) wr.heap.size n (.slice av (turnK n base c).length cv) (turnK n base c) wr hin.out (Nat.le_refl _))
            rw [(turnB_yes (turnK_ok HBB2.out c)).1, (turnB_yes (turnK_ok HBB2.out c)).2.1] at CT
            have HLC := Lib.hid (turnK_length n base (c + 1))
            change Hid (Calls _ _ _ _ (FreshB n (turnK n base (c + 1)) wr)) at CT
            obtain ⟨ys, hys⟩ : ∃ ys, turnK n base (c + 1) = ys := ⟨_, rfl⟩
            rw [hys] at CT
            have HYS := Lib.hid hys
            clear hys HLC
            generalize turnK n base c = zs at CT hin hs q1
            go_wp2_with fail
            refine CT.out.mono ?_
            rintro e w5 ⟨v5, rfl, hin5, hb5⟩
            have HS5 := Lib.hid (hs.out.far (hb5.mono hsz) HPO.out)
            obtain ⟨a5, c5, rfl⟩ := hin5.form
            have HI5 := Lib.hid ((((hin5.set_far (p := ⟨w2.heap.size, 0, none⟩) hsz (.int .i64 n)).set_far (p := ⟨w2.heap.size, 1, none⟩) hsz (.slice a5 ys.length c5)).wide (lo' := w.heap.size + 1 + 1) (by have := HPO.out; omega) (hi' := ((w5.setCell ⟨w2.heap.size, 0, none⟩ (.int .i64 n)).setCell ⟨w2.heap.size, 1, none⟩ (.slice a5 ys.length c5)).heap.size) (by simp [World.setCell])))
            have HST := Lib.hid (HS5.out.store HPO.out (.slice a5 ys.length c5))
            have HB5 := Lib.hid (Below.setCell (Below.setCell (bel_c hbel.out (Nat.le_refl _) hb5) (p := ⟨w2.heap.size, 0, none⟩) (by show _ ≤ w2.heap.size; have := HPO.out; omega) (.int .i64 n)) (p := ⟨w2.heap.size, 1, none⟩) (by show _ ≤ w2.heap.size; have := HPO.out; omega) (.slice a5 ys.length c5))
            have HZ5 : Hid (w2.heap.size + 1 ≤ ((w5.setCell ⟨w2.heap.size, 0, none⟩ (.int .i64 n)).setCell ⟨w2.heap.size, 1, none⟩ (.slice a5 ys.length c5)).heap.size) := Lib.hid (by simp [World.setCell]; exact Nat.le_trans hsz hb5.size)
            have f0 := HS5.out.2
            have f1 := HS5.out.1.2.2.1
            have q50 := HS5.out.1.2.1
            have q51 := HS5.out.1.1
            clear q0 q1 hin5 hb5 hin hs hbel
            go_wp2_with fail
            clear f0 f1 q50 q51
            go_roundw
            case rel => exact ⟨c + 1, _, by omega, by go_num, by rw [HYS.out]; exact HI5, HST, HB5, HZ5.out⟩
            case measure => simp [intOf] <;> omega
          · obtain rfl : c = kk := by omega
            obtain ⟨av, cv, rfl⟩ := hin.out.form
            obtain ⟨zs, hzs⟩ : ∃ zs, turnK n base c = zs := ⟨_, rfl⟩
            rw [hzs] at hin hs
            have HZS := Lib.hid hzs
            clear hzs
            obtain ⟨⟨q1, q0, _, p0, p1, d0, d1, g0, g1⟩, _⟩ := hs.out
            clear hs
            go_wp2_with fail
            refine bodyPost_ret (v := .agg #[.int .i64 n, .slice av zs.length cv]) (by simp [results, Try.results20, go_sem, d0, d1]) rfl ⟨_, rfl, ?_, ?_⟩
            · rw [HZS.out]
              refine CellIn.wide (lo := w.heap.size + 1 + 1) (hi := wr.heap.size) ?_ (by omega) (by simp [World.setCell])
              refine CellIn.set_far (CellIn.set_far hin.out ?_ _) ?_ _ <;> (simp <;> omega)
            · refine Below.setCell (Below.setCell hbel.out ?_ _) ?_ _ <;> (simp <;> omega)
    · rw [(see_no (n := n) (k := k) (fun h => hk h.2)).1, (see_no (n := n) (k := k) (xs := xs) (fun h => hk h.2)).2]
      have hkk : k < 0 ∨ 7 < k := by omega
      clear hb hk
      go_enter Try.func20, Try.ntmps20
      go_wp2_with fail
      refine (SpecBlockOk_yes lo hi n _ xs _ (HR.out _ (bel_n (bel0 w _) (Nat.le_refl _) _)) (by simp; omega) HB.out).mono ?_
      rintro e w1 ⟨rfl, hb1⟩
      have d0 := kept (p := ⟨w.heap.size + 1, 0, none⟩) (x := .int .i64 0) hb1 (by go_simp)
      have d1 := kept (p := ⟨w.heap.size + 1, 1, none⟩) (x := .slice none 0 0) hb1 (by go_simp)
      have g0 := keptF (p := ⟨w.heap.size + 1, 0, none⟩) (x := .int .i64 0) hb1 (by go_simp) (by go_simp)
      have g1 := keptF (p := ⟨w.heap.size + 1, 1, none⟩) (x := .slice none 0 0) hb1 (by go_simp) (by go_simp)
      have B := bel_c (bel_n (bel0 w (.cells #[.int .i64 n, .slice a xs.length cap] 26)) (Nat.le_refl _) (.cells #[.int .i64 0, .slice none 0 0] 26)) (Nat.le_refl _) hb1
      clear hb1
      go_wp2_with fail
      refine (In_no k 0 7 _ hkk).mono ?_
      rintro e w' ⟨rfl, rfl⟩
      go_wp2_with fail
      refine bodyPost_ret (v := .agg #[.int .i64 0, .slice none 0 0]) (by simp [results, Try.results20, go_sem, d0, d1]) rfl ⟨.slice none 0 0, rfl, ⟨by simp, .inl ⟨rfl, _, _, rfl⟩⟩, ?_⟩
      refine Below.setCell (Below.setCell B ?_ _) ?_ _ <;> (simp <;> omega)
  · rw [(see_no (n := n) (k := k) (fun h => hb h.1)).1, (see_no (n := n) (k := k) (xs := xs) (fun h => hb h.1)).2]
    have HB := Lib.hid hb
    clear hb
    go_enter Try.func20, Try.ntmps20
    go_wp2_with fail
    refine (SpecBlockOk_no lo hi n _ xs _ (HR.out _ (bel_n (bel0 w _) (Nat.le_refl _) _)) (by simp; omega) HB.out).mono ?_
    rintro e w1 ⟨rfl, hb1⟩
    have d0 := kept (p := ⟨w.heap.size + 1, 0, none⟩) (x := .int .i64 0) hb1 (by go_simp)
    have d1 := kept (p := ⟨w.heap.size + 1, 1, none⟩) (x := .slice none 0 0) hb1 (by go_simp)
    have g0 := keptF (p := ⟨w.heap.size + 1, 0, none⟩) (x := .int .i64 0) hb1 (by go_simp) (by go_simp)
    have g1 := keptF (p := ⟨w.heap.size + 1, 1, none⟩) (x := .slice none 0 0) hb1 (by go_simp) (by go_simp)
    have B := bel_c (bel_n (bel0 w (.cells #[.int .i64 n, .slice a xs.length cap] 26)) (Nat.le_refl _) (.cells #[.int .i64 0, .slice none 0 0] 26)) (Nat.le_refl _) hb1
    clear hb1
    go_wp2_with fail
    refine bodyPost_ret (v := .agg #[.int .i64 0, .slice none 0 0]) (by simp [results, Try.results20, go_sem, d0, d1]) rfl ⟨.slice none 0 0, rfl, ⟨by simp, .inl ⟨rfl, _, _, rfl⟩⟩, ?_⟩
    refine Below.setCell (Below.setCell B ?_ _) ?_ _ <;> (simp <;> omega)

end Go.Proofs.Ytfidnhhlcdbaeaa
