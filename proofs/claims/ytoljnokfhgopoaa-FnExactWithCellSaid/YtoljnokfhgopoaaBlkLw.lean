/- The walk of FnExactWithCell. -/
import Derived.Test.YtoljnokfhgopoaaBlkI
import Derived.Test.YtoljnokfhgopoaaBlkWR
import Derived.Test.YtoljnokfhgopoaaBlkN
import Derived.Test.YtoljnokfhgopoaaCellE
import Derived.Test.YtoljnokfhgopoaaBlkG
import Derived.Deep.DeepCutAuto
namespace Go.Proofs.Ytoljnokfhgopoaa
open Go.ChangeShapes Go.WideShapes Go.ChangeAt Go.RowKit

set_option maxRecDepth 100000 in
set_option maxHeartbeats 6000000 in
theorem WithLaw_walk (n x y s sa sb : Int) (a : Option Addr) (len cap : Nat) (xs : List C3) (w : World) (x0 : ArgC w a len xs) :
    Calls Try.prog 6 #[.agg #[.int .i64 n, .slice a len cap], .int .i64 x, .int .i64 y, .agg #[.int .i64 s, .int .i64 sa, .int .i64 sb]] w fun e w' => e = .returned (.bool true) ∧ Below w.heap.size w w' := by
  have hm : len ≤ 9223372036854775807 := by have := x0.2.1; unfold maxLen at this; omega
  have HA : Hid (∀ W, Below w.heap.size w W → ArgC W a len xs) := Lib.hid (fun W hb => x0.below hb)
  clear x0
  have CS := fun lo hi v w r h => SpecWith_any lo hi n x y s sa sb v xs w r h
  have CI := fun lo hi v w r h => ImplWith_any lo hi n x y s sa sb v xs w r h
  generalize withC n xs x y ⟨s, sa, sb⟩ = ys at CS CI
  generalize withB n xs x y ⟨s, sa, sb⟩ = ok at CS CI
  have hq := mkN_pos xs
  have hp := mkN_pos ys
  by_cases hl : len ≤ 1048576
  · have hs : ¬ ((1048576 : Int) - (len : Int) < 0) := by omega
    have hl' : (len : Int) ≤ 1048576 := by omega
    go_enter Try.func6, Try.ntmps6
    have A0 := (Two.new w (.int .i64 n) (.slice a len cap) 45).keep (bel0 _ (.cells #[.int .i64 s, .int .i64 sa, .int .i64 sb] 51))
    have A1 : Three (w.heap.size + 1) ⟨s, sa, sb⟩ ((w.alloc (.cells #[.int .i64 n, .slice a len cap] 45)).alloc (.cells #[.int .i64 s, .int .i64 sa, .int .i64 sb] 51)) := by simpa using Three.new (w.alloc (.cells #[.int .i64 n, .slice a len cap] 45)) ⟨s, sa, sb⟩ 51
    have B := bel_n (bel0 w (.cells #[.int .i64 n, .slice a len cap] 45)) (Nat.le_refl _) (.cells #[.int .i64 s, .int .i64 sa, .int .i64 sb] 51)
    go_wp2_with fail
    refine (SzB_yes n a len cap 1048576 _ (by omega) hl').mono ?_
    rintro e w1 ⟨rfl, hb⟩
    have zw0 : w.heap.size + 1 + 1 ≤ w1.heap.size := by have := hb.size; simpa using this
    have A0_ := A0.keep hb
    have A1_ := A1.keep hb
    have B_ := bel_c B (Nat.le_refl _) hb
    clear A0 A1 B hb
    have A0 := A0_
    have A1 := A1_
    have B := B_
    clear A0_ A1_ B_
    have HL := Lib.hid hl
    have HQ := Lib.hid hq
    have HP := Lib.hid hp
    clear hq hp hm
    have D0 : Below w1.heap.size w1 w1.drew := ⟨rfl, rfl, rfl, Nat.le_refl _, fun _ _ => rfl⟩
    have BD := Lib.hid (bel_c B (Nat.le_refl _) D0)
    have KP : ∀ u v, Below u.heap.size u v → (u.cell? ⟨w.heap.size, 0, none⟩ = some (.int .i64 n) ∧ u.cell? ⟨w.heap.size, 1, none⟩ = some (.slice a len cap) ∧ u.cell? ⟨(w.heap.size + 1), 0, none⟩ = some (.int .i64 s) ∧ u.cell? ⟨(w.heap.size + 1), 1, none⟩ = some (.int .i64 sa) ∧ u.cell? ⟨(w.heap.size + 1), 2, none⟩ = some (.int .i64 sb)) → (v.cell? ⟨w.heap.size, 0, none⟩ = some (.int .i64 n) ∧ v.cell? ⟨w.heap.size, 1, none⟩ = some (.slice a len cap) ∧ v.cell? ⟨(w.heap.size + 1), 0, none⟩ = some (.int .i64 s) ∧ v.cell? ⟨(w.heap.size + 1), 1, none⟩ = some (.int .i64 sa) ∧ v.cell? ⟨(w.heap.size + 1), 2, none⟩ = some (.int .i64 sb)) := fun u v hb h => ⟨kept hb h.1, kept hb h.2.1, kept hb h.2.2.1, kept hb h.2.2.2.1, kept hb h.2.2.2.2⟩
    have KS : ∀ (u : World) (p : Nat) (v0 v1 : Value), w.heap.size + 1 < p → (u.cell? ⟨w.heap.size, 0, none⟩ = some (.int .i64 n) ∧ u.cell? ⟨w.heap.size, 1, none⟩ = some (.slice a len cap) ∧ u.cell? ⟨(w.heap.size + 1), 0, none⟩ = some (.int .i64 s) ∧ u.cell? ⟨(w.heap.size + 1), 1, none⟩ = some (.int .i64 sa) ∧ u.cell? ⟨(w.heap.size + 1), 2, none⟩ = some (.int .i64 sb)) → (((u.setCell ⟨p, 0, none⟩ v0).setCell ⟨p, 1, none⟩ v1).cell? ⟨w.heap.size, 0, none⟩ = some (.int .i64 n) ∧ ((u.setCell ⟨p, 0, none⟩ v0).setCell ⟨p, 1, none⟩ v1).cell? ⟨w.heap.size, 1, none⟩ = some (.slice a len cap) ∧ ((u.setCell ⟨p, 0, none⟩ v0).setCell ⟨p, 1, none⟩ v1).cell? ⟨(w.heap.size + 1), 0, none⟩ = some (.int .i64 s) ∧ ((u.setCell ⟨p, 0, none⟩ v0).setCell ⟨p, 1, none⟩ v1).cell? ⟨(w.heap.size + 1), 1, none⟩ = some (.int .i64 sa) ∧ ((u.setCell ⟨p, 0, none⟩ v0).setCell ⟨p, 1, none⟩ v1).cell? ⟨(w.heap.size + 1), 2, none⟩ = some (.int .i64 sb)) := by
      intro u p v0 v1 hp h
      have h1 : p ≠ w.heap.size := by omega
      have h2 : p ≠ w.heap.size + 1 := by omega
      have f : ∀ (q o : Nat), p ≠ q → ((u.setCell ⟨p, 0, none⟩ v0).setCell ⟨p, 1, none⟩ v1).cell? ⟨q, o, none⟩ = u.cell? ⟨q, o, none⟩ := fun q o hq => by
        rw [World.cell?_setCell_other _ _ _ _ (by simp), World.cell?_setCell_other _ _ _ _ (by simp)]
      simpa only [f _ _ h1, f _ _ h2] using h
    obtain ⟨c_A00, c_A01⟩ := id A0
    obtain ⟨c_A10, c_A11, c_A12⟩ := id A1
    go_upto_region 5 with fail
    clear hl hl' hs
    go_cut [10, 11] (fun q t wx => WR n ok ys w1 q t wx)
    case first =>
      go_region_held3 (fun w' => w'.cell? ⟨w.heap.size, 0, none⟩ = some (.int .i64 n) ∧ w'.cell? ⟨w.heap.size, 1, none⟩ = some (.slice a len cap) ∧ w'.cell? ⟨(w.heap.size + 1), 0, none⟩ = some (.int .i64 s) ∧ w'.cell? ⟨(w.heap.size + 1), 1, none⟩ = some (.int .i64 sa) ∧ w'.cell? ⟨(w.heap.size + 1), 2, none⟩ = some (.int .i64 sb)) (first | exact S4 | exact S3 | exact S2 | exact KP _ _ (bel0 _ _) S4 | exact KP _ _ (bel0 _ _) S3 | exact KP _ _ (bel0 _ _) S2 | exact KS _ _ _ _ (by omega) S4 | (refine KP _ _ (by assumption) ?_; assumption) | go_keep)
        ((first
          | (go_at_call 26; refine (ToBlock_any n a len cap xs _ (HA.out _ (by first | exact BD.out | exact bel_n BD.out (Nat.le_refl _) _)) HL.out).mono ?_; rintro e w2 ⟨vx, rfl, inx_, hbx_⟩; have hbx : Below w1.heap.size w1 w2 := (by first | exact D0.trans hbx_ | exact (bel_n D0 (Nat.le_refl _) (.cells #[.int .i64 0, .slice none 0 0] 26)).trans (hbx_.mono (by simp))); have inx := Lib.hid (inx_.wide (lo' := w1.heap.size) (by simp) (Nat.le_refl _)); (try have bz1 := Lib.hid (show BoxB w1.heap.size (.int .i64 0) (.slice none 0 0) w2 from (BoxB.new w1.drew (.int .i64 0) (.slice none 0 0) 26).below hbx_ (by simp))); have S2 := KP _ _ hbx_ (by assumption); clear inx_ hbx_)
          | (go_at_call 31; refine (ToCell_any s sa sb _).mono ?_; rintro e w3 ⟨rfl, hby_⟩; have hby : Below w2.heap.size w2 w3 := (by first | exact hby_ | exact (bel0 w2 (.cells #[.int .i64 0, .slice none 0 0] 26)).trans (hby_.mono (by simp))); have IX := Lib.hid (inx.out.below hby); (try have bz2 := Lib.hid (bz1.out.below hby bz1.out.lt)); (try have bz2 := Lib.hid ((BoxB.new w2 (.int .i64 0) (.slice none 0 0) 26).below hby_ (by simp))); have S3 := KP _ _ hby_ (by assumption); clear hby_)
          | (go_at_call 30; refine (CS _ _ _ _ (by first | exact IX.out | exact IX.out.below ((bel0 w3 (.cells #[.int .i64 0, .slice none 0 0] 26)).mono hby.size)) (by first | exact hby.size | (simp; have := hby.size; omega))).mono ?_; rintro e w4 ⟨v1, rfl, R1_, hbz_⟩; obtain ⟨a1, c1, rfl⟩ := R1_.form; have hbz : Below w3.heap.size w3 w4 := (by first | exact hbz_ | exact (bel0 w3 (.cells #[.int .i64 0, .slice none 0 0] 26)).trans (hbz_.mono (by simp))); have R1 := Lib.hid R1_; (try have bz3 := Lib.hid (bz2.out.below hbz bz2.out.lt)); (try have bz3 := Lib.hid ((BoxB.new w3 (.int .i64 0) (.slice none 0 0) 26).below hbz_ (by simp))); (try obtain ⟨k0, k1, k2, k3⟩ := bz3.out); have S4 := KP _ _ hbz_ (by assumption); have zx := hbx.size; have zy := hby.size; clear R1_ hbz_)))
      all_goals
        go_wp2_with fail
        go_meet
        first
        | exact WR.old R1.out bz3.out (bel_c (bel_c hbx (Nat.le_refl _) hby) (Nat.le_refl _) hbz) (by first | omega | (simp; done) | (simp; omega)) (by omega) (by first | omega | (simp; done) | (have := bz2.out.lt; omega) | (have := bz2.out.lt; simp; omega))
        | exact WR.new R1.out (bel_c (bel_c hbx (Nat.le_refl _) hby) (Nat.le_refl _) hbz) (by first | omega | (simp; omega))
    case rest =>
      obtain ⟨p1, a1, c1, l1, h1, rfl, rfl, bx1, R1, ho1, zl1, zp1, zh1, hb⟩ := hcut
      have P1 : Two p1 (.int .i64 n) (.slice a1 ys.length c1) wc := ⟨bx1.1, bx1.2.1⟩
      have yl1 := bx1.lt
      clear bx1
      obtain ⟨wa, rfl⟩ : ∃ z, z = wc := ⟨_, rfl⟩
      clear D0 BD KP KS c_A00 c_A01 c_A10 c_A11 c_A12
      have A0_ := A0.keep hb
      have A1_ := A1.keep hb
      have B_ := bel_c B (Nat.le_refl _) hb
      have zwa : w1.heap.size ≤ wa.heap.size := by have := hb.size; simpa using this
      clear A0 A1 B
      have A0 := A0_
      have A1 := A1_
      have B := B_
      clear A0_ A1_ B_ hb
      obtain ⟨c_A00, c_A01⟩ := id A0
      go_wp2_with fail
      clear c_A00 c_A01
      refine (ToBlock_any n a len cap xs _ (HA.out _ B) HL.out).mono ?_
      rintro e w5 ⟨v, rfl, R2, hb⟩
      obtain ⟨a2, c2, rfl⟩ := R2.form
      have A0_ := A0.keep hb
      have A1_ := A1.keep hb
      have P1_ := P1.keep hb
      have R1_ := R1.below (hb.mono (by omega))
      have B_ := bel_c B (Nat.le_refl _) hb
      have zw5 : wa.heap.size ≤ w5.heap.size := by have := hb.size; simpa using this
      clear A0 A1 P1 R1 B
      have A0 := A0_
      have A1 := A1_
      have P1 := P1_
      have R1 := R1_
      have B := B_
      clear A0_ A1_ P1_ R1_ B_ hb
      have NB := bel0 w5 (.cells #[.int .i64 n, .slice a2 xs.length c2] 26)
      have A0_ := A0.keep NB
      have A1_ := A1.keep NB
      have P1_ := P1.keep NB
      have R1_ := R1.below (NB.mono (by omega))
      have R2_ := R2.below (NB.mono (by omega))
      have B_ := bel_n B (Nat.le_refl _) (.cells #[.int .i64 n, .slice a2 xs.length c2] 26)
      clear A0 A1 P1 R1 R2 B
      have A0 := A0_
      have A1 := A1_
      have P1 := P1_
      have R1 := R1_
      have R2 := R2_
      have B := B_
      clear A0_ A1_ P1_ R1_ R2_ B_ NB
      have P2 := Two.new w5 (.int .i64 n) (.slice a2 xs.length c2) 26
      have zg : w5.heap.size + 1 ≤ (w5.alloc (.cells #[.int .i64 n, .slice a2 xs.length c2] 26)).heap.size := by simp
      obtain ⟨c_P20, c_P21⟩ := id P2
      obtain ⟨c_A10, c_A11, c_A12⟩ := id A1
      go_upto_region 7 with fail
      generalize (w5.alloc (.cells #[.int .i64 n, .slice a2 xs.length c2] 26)) = g7 at *
      have D0 : Below g7.heap.size g7 g7.drew := ⟨rfl, rfl, rfl, Nat.le_refl _, fun _ _ => rfl⟩
      have KP : ∀ u v, Below u.heap.size u v → (u.cell? ⟨w5.heap.size, 0, none⟩ = some (.int .i64 n) ∧ u.cell? ⟨w5.heap.size, 1, none⟩ = some (.slice a2 xs.length c2) ∧ u.cell? ⟨(w.heap.size + 1), 0, none⟩ = some (.int .i64 s) ∧ u.cell? ⟨(w.heap.size + 1), 1, none⟩ = some (.int .i64 sa) ∧ u.cell? ⟨(w.heap.size + 1), 2, none⟩ = some (.int .i64 sb)) → (v.cell? ⟨w5.heap.size, 0, none⟩ = some (.int .i64 n) ∧ v.cell? ⟨w5.heap.size, 1, none⟩ = some (.slice a2 xs.length c2) ∧ v.cell? ⟨(w.heap.size + 1), 0, none⟩ = some (.int .i64 s) ∧ v.cell? ⟨(w.heap.size + 1), 1, none⟩ = some (.int .i64 sa) ∧ v.cell? ⟨(w.heap.size + 1), 2, none⟩ = some (.int .i64 sb)) := fun u v hb h => ⟨kept hb h.1, kept hb h.2.1, kept hb h.2.2.1, kept hb h.2.2.2.1, kept hb h.2.2.2.2⟩
      have KS : ∀ (u : World) (p : Nat) (v0 v1 : Value), w.heap.size + 1 < p → w5.heap.size < p → (u.cell? ⟨w5.heap.size, 0, none⟩ = some (.int .i64 n) ∧ u.cell? ⟨w5.heap.size, 1, none⟩ = some (.slice a2 xs.length c2) ∧ u.cell? ⟨(w.heap.size + 1), 0, none⟩ = some (.int .i64 s) ∧ u.cell? ⟨(w.heap.size + 1), 1, none⟩ = some (.int .i64 sa) ∧ u.cell? ⟨(w.heap.size + 1), 2, none⟩ = some (.int .i64 sb)) → (((u.setCell ⟨p, 0, none⟩ v0).setCell ⟨p, 1, none⟩ v1).cell? ⟨w5.heap.size, 0, none⟩ = some (.int .i64 n) ∧ ((u.setCell ⟨p, 0, none⟩ v0).setCell ⟨p, 1, none⟩ v1).cell? ⟨w5.heap.size, 1, none⟩ = some (.slice a2 xs.length c2) ∧ ((u.setCell ⟨p, 0, none⟩ v0).setCell ⟨p, 1, none⟩ v1).cell? ⟨(w.heap.size + 1), 0, none⟩ = some (.int .i64 s) ∧ ((u.setCell ⟨p, 0, none⟩ v0).setCell ⟨p, 1, none⟩ v1).cell? ⟨(w.heap.size + 1), 1, none⟩ = some (.int .i64 sa) ∧ ((u.setCell ⟨p, 0, none⟩ v0).setCell ⟨p, 1, none⟩ v1).cell? ⟨(w.heap.size + 1), 2, none⟩ = some (.int .i64 sb)) := by
        intro u p v0 v1 hp hp2 h
        have h1 : p ≠ w5.heap.size := by omega
        have h2 : p ≠ w.heap.size + 1 := by omega
        have f : ∀ (q o : Nat), p ≠ q → ((u.setCell ⟨p, 0, none⟩ v0).setCell ⟨p, 1, none⟩ v1).cell? ⟨q, o, none⟩ = u.cell? ⟨q, o, none⟩ := fun q o hq => by
          rw [World.cell?_setCell_other _ _ _ _ (by simp), World.cell?_setCell_other _ _ _ _ (by simp)]
        simpa only [f _ _ h1, f _ _ h2] using h
      have RD := Lib.hid (R2.below (D0.mono (by omega)))
      go_cut [13, 14] (fun q t wx => WR n ok ys g7 q t wx)
      case first =>
        go_region_held3 (fun w' => w'.cell? ⟨w5.heap.size, 0, none⟩ = some (.int .i64 n) ∧ w'.cell? ⟨w5.heap.size, 1, none⟩ = some (.slice a2 xs.length c2) ∧ w'.cell? ⟨(w.heap.size + 1), 0, none⟩ = some (.int .i64 s) ∧ w'.cell? ⟨(w.heap.size + 1), 1, none⟩ = some (.int .i64 sa) ∧ w'.cell? ⟨(w.heap.size + 1), 2, none⟩ = some (.int .i64 sb)) (first | exact S4 | exact S3 | exact KP _ _ (bel0 _ _) S4 | exact KP _ _ (bel0 _ _) S3 | exact KS _ _ _ _ (by omega) (by omega) S4 | (refine KP _ _ (by assumption) ?_; assumption) | go_keep)
          ((first
            | (go_at_call 31; refine (ToCell_any s sa sb _).mono ?_; rintro e w6 ⟨rfl, hby_⟩; have hby : Below g7.heap.size g7 w6 := (by first | exact D0.trans hby_ | exact (bel_n D0 (Nat.le_refl _) (.cells #[.int .i64 0, .slice none 0 0] 26)).trans (hby_.mono (by simp))); have IX := Lib.hid (R2.below (hby.mono (by omega))); (try have bz2 := Lib.hid (show BoxB g7.heap.size (.int .i64 0) (.slice none 0 0) w6 from (BoxB.new g7.drew (.int .i64 0) (.slice none 0 0) 26).below hby_ (by simp))); have S3 := KP _ _ hby_ (by assumption); have zy := hby.size; clear hby_)
            | (go_at_call 15; refine (CI _ _ _ _ (by first | exact IX.out | exact IX.out.below ((bel0 w6 (.cells #[.int .i64 0, .slice none 0 0] 26)).mono (by omega))) (by first | omega | (simp; omega))).mono ?_; rintro e w7 ⟨v3, rfl, R3_, hbz_⟩; obtain ⟨a3, c3, rfl⟩ := R3_.form; have hbz : Below w6.heap.size w6 w7 := (by first | exact hbz_ | exact (bel0 w6 (.cells #[.int .i64 0, .slice none 0 0] 26)).trans (hbz_.mono (by simp))); have R3 := Lib.hid R3_; (try have bz3 := Lib.hid (bz2.out.below hbz bz2.out.lt)); (try have bz3 := Lib.hid ((BoxB.new w6 (.int .i64 0) (.slice none 0 0) 26).below hbz_ (by simp))); (try obtain ⟨k0, k1, k2, k3⟩ := bz3.out); have S4 := KP _ _ hbz_ (by assumption); clear R3_ hbz_)))
        all_goals
          go_wp2_with fail
          go_meet
          first
          | exact WR.old R3.out bz3.out (bel_c hby (Nat.le_refl _) hbz) (by first | omega | (simp; done) | (simp; omega)) (by omega) (by first | omega | (simp; done) | (have := bz2.out.lt; omega) | (have := bz2.out.lt; simp; omega))
          | exact WR.new R3.out (bel_c hby (Nat.le_refl _) hbz) (by first | omega | (simp; omega))
      case rest =>
        obtain ⟨p3, a3, c3, l3, h3, rfl, rfl, bx3, R3, ho3, zl3, zp3, zh3, hb⟩ := hcut
        have yl3 := bx3.lt
        have P3 : Two p3 (.int .i64 n) (.slice a3 ys.length c3) _ := ⟨bx3.1, bx3.2.1⟩
        clear bx3 D0 KP KS RD c_P20 c_P21 c_A10 c_A11 c_A12
        have A0_ := A0.keep hb
        have A1_ := A1.keep hb
        have P1_ := P1.keep hb
        have R1_ := R1.below (hb.mono (by omega))
        have R2_ := R2.below (hb.mono (by omega))
        have P2_ := P2.keep hb
        have B_ := bel_c B (Nat.le_refl _) hb
        have zwc : g7.heap.size ≤ wc.heap.size := by have := hb.size; simpa using this
        clear A0 A1 P1 R1 R2 P2 B
        have A0 := A0_
        have A1 := A1_
        have P1 := P1_
        have R1 := R1_
        have R2 := R2_
        have P2 := P2_
        have B := B_
        clear A0_ A1_ P1_ R1_ R2_ P2_ B_ hb
        have hq := HQ.out
        have hp := HP.out
        obtain ⟨c_P30, c_P31⟩ := id P3
        obtain ⟨c_P10, c_P11⟩ := id P1
        go_wp2_with fail
        clear c_P30 c_P31 c_P10 c_P11
        refine (EqBlock_any _ _ _ _ n _ _ ys _ R3 R1 (by omega) (by omega)).mono ?_
        rintro e w8 ⟨rfl, hb⟩
        have A0_ := A0.keep hb
        have A1_ := A1.keep hb
        have P1_ := P1.keep hb
        have R1_ := R1.below (hb.mono (by omega))
        have R2_ := R2.below (hb.mono (by omega))
        have P2_ := P2.keep hb
        have P3_ := P3.keep hb
        have R3_ := R3.below (hb.mono (by omega))
        have B_ := bel_c B (Nat.le_refl _) hb
        have zw8 : wc.heap.size ≤ w8.heap.size := by have := hb.size; simpa using this
        clear A0 A1 P1 R1 R2 P2 P3 R3 B
        have A0 := A0_
        have A1 := A1_
        have P1 := P1_
        have R1 := R1_
        have R2 := R2_
        have P2 := P2_
        have P3 := P3_
        have R3 := R3_
        have B := B_
        clear A0_ A1_ P1_ R1_ R2_ P2_ P3_ R3_ B_ hb
        have D0 : Below w8.heap.size w8 w8.drew := ⟨rfl, rfl, rfl, Nat.le_refl _, fun _ _ => rfl⟩
        have BD := Lib.hid (bel_c B (Nat.le_refl _) D0)
        have RD := Lib.hid (R2.below (D0.mono (by omega)))
        have zR : w5.heap.size ≤ w8.heap.size := by omega
        have KP : ∀ u v, Below u.heap.size u v → (u.cell? ⟨w.heap.size, 0, none⟩ = some (.int .i64 n) ∧ u.cell? ⟨w.heap.size, 1, none⟩ = some (.slice a len cap) ∧ u.cell? ⟨w5.heap.size, 0, none⟩ = some (.int .i64 n) ∧ u.cell? ⟨w5.heap.size, 1, none⟩ = some (.slice a2 xs.length c2)) → (v.cell? ⟨w.heap.size, 0, none⟩ = some (.int .i64 n) ∧ v.cell? ⟨w.heap.size, 1, none⟩ = some (.slice a len cap) ∧ v.cell? ⟨w5.heap.size, 0, none⟩ = some (.int .i64 n) ∧ v.cell? ⟨w5.heap.size, 1, none⟩ = some (.slice a2 xs.length c2)) := fun u v hb h => ⟨kept hb h.1, kept hb h.2.1, kept hb h.2.2.1, kept hb h.2.2.2⟩
        obtain ⟨c_A00, c_A01⟩ := id A0
        obtain ⟨c_P20, c_P21⟩ := id P2
        obtain ⟨ok', hok'⟩ : ∃ k, k = ok := ⟨_, rfl⟩
        cases ok
        all_goals
          go_wp2_with fail
          go_region_held3 (fun w' => w'.cell? ⟨w.heap.size, 0, none⟩ = some (.int .i64 n) ∧ w'.cell? ⟨w.heap.size, 1, none⟩ = some (.slice a len cap) ∧ w'.cell? ⟨w5.heap.size, 0, none⟩ = some (.int .i64 n) ∧ w'.cell? ⟨w5.heap.size, 1, none⟩ = some (.slice a2 xs.length c2)) (first | (refine KP _ _ (by assumption) ?_; assumption) | go_keep)
            ((first
              | (go_at_call 26; refine (ToBlock_any n a len cap xs _ (HA.out _ BD.out) HL.out).mono ?_; rintro e w9 ⟨vx, rfl, inx, hbx⟩; have IX := Lib.hid (RD.out.below (hbx.mono zR)); have JX := Lib.hid inx)
              | (go_at_call 27; refine (EqBlock_any _ _ _ _ n _ _ xs _ IX.out JX.out (Nat.le_trans zR hbx.size) (Nat.le_refl _)).mono ?_; rintro e w10 ⟨rfl, hby⟩)))
          clear c_A00 c_A01 c_P20 c_P21 IX JX RD BD KP
          have hb : Below w8.heap.size w8 w10 := bel_c (D0.trans hbx) (Nat.le_refl _) hby
          clear D0 hbx hby
          have A0_ := A0.keep hb
          have A1_ := A1.keep hb
          have P1_ := P1.keep hb
          have R1_ := R1.below (hb.mono (by omega))
          have R2_ := R2.below (hb.mono (by omega))
          have P2_ := P2.keep hb
          have P3_ := P3.keep hb
          have R3_ := R3.below (hb.mono (by omega))
          have B_ := bel_c B (Nat.le_refl _) hb
          have zw10 : w8.heap.size ≤ w10.heap.size := by have := hb.size; simpa using this
          clear A0 A1 P1 R1 R2 P2 P3 R3 B
          have A0 := A0_
          have A1 := A1_
          have P1 := P1_
          have R1 := R1_
          have R2 := R2_
          have P2 := P2_
          have P3 := P3_
          have R3 := R3_
          have B := B_
          clear A0_ A1_ P1_ R1_ R2_ P2_ P3_ R3_ B_ hb
          obtain ⟨c_P20, c_P21⟩ := id P2
          go_wp2_with fail
          clear c_P20 c_P21
          refine (MarkOne _ _ n _ xs _ R2 (by omega)).mono ?_
          rintro e w11 ⟨rfl, Rm, hw⟩
          clear R2
          have A0_ := A0.within hw (by omega)
          have A1_ := A1.within hw (by omega)
          have P1_ := P1.within hw (by omega)
          have R1_ := R1.within hw (by omega) (by omega)
          have P2_ := P2.within hw (by omega)
          have P3_ := P3.within hw (by omega)
          have R3_ := R3.within hw (by omega) (by omega)
          have B_ := bel_w B (Nat.le_refl _) hw (by omega)
          have zw11 : w10.heap.size ≤ w11.heap.size := by have := hw.size; simpa using this
          clear A0 A1 P1 R1 P2 P3 R3 B
          have A0 := A0_
          have A1 := A1_
          have P1 := P1_
          have R1 := R1_
          have P2 := P2_
          have P3 := P3_
          have R3 := R3_
          have B := B_
          clear A0_ A1_ P1_ R1_ P2_ P3_ R3_ B_ hw
          have R2 := Rm
          clear Rm
          clear R2
          clear P2
          obtain ⟨c_P30, c_P31⟩ := id P3
          obtain ⟨c_P10, c_P11⟩ := id P1
          go_wp2_with fail
          clear c_P30 c_P31 c_P10 c_P11
          refine (EqBlock_any _ _ _ _ n _ _ ys _ R3 R1 (by omega) (by omega)).mono ?_
          rintro e w12 ⟨rfl, hb⟩
          have A0_ := A0.keep hb
          have A1_ := A1.keep hb
          have P1_ := P1.keep hb
          have R1_ := R1.below (hb.mono (by omega))
          have P3_ := P3.keep hb
          have R3_ := R3.below (hb.mono (by omega))
          have B_ := bel_c B (Nat.le_refl _) hb
          have zw12 : w11.heap.size ≤ w12.heap.size := by have := hb.size; simpa using this
          clear A0 A1 P1 R1 P3 R3 B
          have A0 := A0_
          have A1 := A1_
          have P1 := P1_
          have R1 := R1_
          have P3 := P3_
          have R3 := R3_
          have B := B_
          clear A0_ A1_ P1_ R1_ P3_ R3_ B_ hb
          obtain ⟨c_P30, c_P31⟩ := id P3
          go_wp2_with fail
          clear c_P30 c_P31
          refine (MarkOne _ _ n _ ys _ R3 (by omega)).mono ?_
          rintro e w13 ⟨rfl, Rm, hw⟩
          clear R3
          have A0_ := A0.within hw (by omega)
          have A1_ := A1.within hw (by omega)
          have P1_ := P1.within hw (by omega)
          have R1_ := R1.within hw (by omega) (by omega)
          have P3_ := P3.within hw (by omega)
          have B_ := bel_w B (Nat.le_refl _) hw (by omega)
          have zw13 : w12.heap.size ≤ w13.heap.size := by have := hw.size; simpa using this
          clear A0 A1 P1 R1 P3 B
          have A0 := A0_
          have A1 := A1_
          have P1 := P1_
          have R1 := R1_
          have P3 := P3_
          have B := B_
          clear A0_ A1_ P1_ R1_ P3_ B_ hw
          have R3 := Rm
          clear Rm
          obtain ⟨c_P30, c_P31⟩ := id P3
          go_wp2_with fail
          clear c_P30 c_P31
          refine (HeldOne _ _ n _ ys _ R3 (by omega)).mono ?_
          rintro e w14 ⟨rfl, hb⟩
          have A0_ := A0.keep hb
          have A1_ := A1.keep hb
          have P1_ := P1.keep hb
          have R1_ := R1.below (hb.mono (by omega))
          have P3_ := P3.keep hb
          have R3_ := R3.below (hb.mono (by omega))
          have B_ := bel_c B (Nat.le_refl _) hb
          have zw14 : w13.heap.size ≤ w14.heap.size := by have := hb.size; simpa using this
          clear A0 A1 P1 R1 P3 R3 B
          have A0 := A0_
          have A1 := A1_
          have P1 := P1_
          have R1 := R1_
          have P3 := P3_
          have R3 := R3_
          have B := B_
          clear A0_ A1_ P1_ R1_ P3_ R3_ B_ hb
          have D0 : Below w14.heap.size w14 w14.drew := ⟨rfl, rfl, rfl, Nat.le_refl _, fun _ _ => rfl⟩
          have BD := Lib.hid (bel_c B (Nat.le_refl _) D0)
          have KP : ∀ u v, Below u.heap.size u v → (u.cell? ⟨w.heap.size, 0, none⟩ = some (.int .i64 n) ∧ u.cell? ⟨w.heap.size, 1, none⟩ = some (.slice a len cap) ∧ u.cell? ⟨(w.heap.size + 1), 0, none⟩ = some (.int .i64 s) ∧ u.cell? ⟨(w.heap.size + 1), 1, none⟩ = some (.int .i64 sa) ∧ u.cell? ⟨(w.heap.size + 1), 2, none⟩ = some (.int .i64 sb)) → (v.cell? ⟨w.heap.size, 0, none⟩ = some (.int .i64 n) ∧ v.cell? ⟨w.heap.size, 1, none⟩ = some (.slice a len cap) ∧ v.cell? ⟨(w.heap.size + 1), 0, none⟩ = some (.int .i64 s) ∧ v.cell? ⟨(w.heap.size + 1), 1, none⟩ = some (.int .i64 sa) ∧ v.cell? ⟨(w.heap.size + 1), 2, none⟩ = some (.int .i64 sb)) := fun u v hb h => ⟨kept hb h.1, kept hb h.2.1, kept hb h.2.2.1, kept hb h.2.2.2.1, kept hb h.2.2.2.2⟩
          have KS : ∀ (u : World) (p : Nat) (v0 v1 : Value), w.heap.size + 1 < p → (u.cell? ⟨w.heap.size, 0, none⟩ = some (.int .i64 n) ∧ u.cell? ⟨w.heap.size, 1, none⟩ = some (.slice a len cap) ∧ u.cell? ⟨(w.heap.size + 1), 0, none⟩ = some (.int .i64 s) ∧ u.cell? ⟨(w.heap.size + 1), 1, none⟩ = some (.int .i64 sa) ∧ u.cell? ⟨(w.heap.size + 1), 2, none⟩ = some (.int .i64 sb)) → (((u.setCell ⟨p, 0, none⟩ v0).setCell ⟨p, 1, none⟩ v1).cell? ⟨w.heap.size, 0, none⟩ = some (.int .i64 n) ∧ ((u.setCell ⟨p, 0, none⟩ v0).setCell ⟨p, 1, none⟩ v1).cell? ⟨w.heap.size, 1, none⟩ = some (.slice a len cap) ∧ ((u.setCell ⟨p, 0, none⟩ v0).setCell ⟨p, 1, none⟩ v1).cell? ⟨(w.heap.size + 1), 0, none⟩ = some (.int .i64 s) ∧ ((u.setCell ⟨p, 0, none⟩ v0).setCell ⟨p, 1, none⟩ v1).cell? ⟨(w.heap.size + 1), 1, none⟩ = some (.int .i64 sa) ∧ ((u.setCell ⟨p, 0, none⟩ v0).setCell ⟨p, 1, none⟩ v1).cell? ⟨(w.heap.size + 1), 2, none⟩ = some (.int .i64 sb)) := by
            intro u p v0 v1 hp h
            have h1 : p ≠ w.heap.size := by omega
            have h2 : p ≠ w.heap.size + 1 := by omega
            have f : ∀ (q o : Nat), p ≠ q → ((u.setCell ⟨p, 0, none⟩ v0).setCell ⟨p, 1, none⟩ v1).cell? ⟨q, o, none⟩ = u.cell? ⟨q, o, none⟩ := fun q o hq => by
              rw [World.cell?_setCell_other _ _ _ _ (by simp), World.cell?_setCell_other _ _ _ _ (by simp)]
            simpa only [f _ _ h1, f _ _ h2] using h
          obtain ⟨c_A00, c_A01⟩ := id A0
          obtain ⟨c_A10, c_A11, c_A12⟩ := id A1
          go_upto_region 24 with fail
          go_cut [18, 19] (fun q t wx => WR n ok' ys w14 q t wx)
          case first =>
            go_region_held3 (fun w' => w'.cell? ⟨w.heap.size, 0, none⟩ = some (.int .i64 n) ∧ w'.cell? ⟨w.heap.size, 1, none⟩ = some (.slice a len cap) ∧ w'.cell? ⟨(w.heap.size + 1), 0, none⟩ = some (.int .i64 s) ∧ w'.cell? ⟨(w.heap.size + 1), 1, none⟩ = some (.int .i64 sa) ∧ w'.cell? ⟨(w.heap.size + 1), 2, none⟩ = some (.int .i64 sb)) (first | exact S4 | exact S3 | exact S2 | exact KP _ _ (bel0 _ _) S4 | exact KP _ _ (bel0 _ _) S3 | exact KP _ _ (bel0 _ _) S2 | exact KS _ _ _ _ (by omega) S4 | (refine KP _ _ (by assumption) ?_; assumption) | go_keep)
              ((first
                | (go_at_call 26; refine (ToBlock_any n a len cap xs _ (HA.out _ (by first | exact BD.out | exact bel_n BD.out (Nat.le_refl _) _)) HL.out).mono ?_; rintro e w15 ⟨vx, rfl, inx_, hbx_⟩; have hbx : Below w14.heap.size w14 w15 := (by first | exact D0.trans hbx_ | exact (bel_n D0 (Nat.le_refl _) (.cells #[.int .i64 0, .slice none 0 0] 26)).trans (hbx_.mono (by simp))); have inx := Lib.hid (inx_.wide (lo' := w14.heap.size) (by simp) (Nat.le_refl _)); (try have bz1 := Lib.hid (show BoxB w14.heap.size (.int .i64 0) (.slice none 0 0) w15 from (BoxB.new w14.drew (.int .i64 0) (.slice none 0 0) 26).below hbx_ (by simp))); have S2 := KP _ _ hbx_ (by assumption); clear inx_ hbx_)
                | (go_at_call 31; refine (ToCell_any s sa sb _).mono ?_; rintro e w16 ⟨rfl, hby_⟩; have hby : Below w15.heap.size w15 w16 := (by first | exact hby_ | exact (bel0 w15 (.cells #[.int .i64 0, .slice none 0 0] 26)).trans (hby_.mono (by simp))); have IX := Lib.hid (inx.out.below hby); (try have bz2 := Lib.hid (bz1.out.below hby bz1.out.lt)); (try have bz2 := Lib.hid ((BoxB.new w15 (.int .i64 0) (.slice none 0 0) 26).below hby_ (by simp))); have S3 := KP _ _ hby_ (by assumption); clear hby_)
                | (go_at_call 15; refine (CI _ _ _ _ (by first | exact IX.out | exact IX.out.below ((bel0 w16 (.cells #[.int .i64 0, .slice none 0 0] 26)).mono hby.size)) (by first | exact hby.size | (simp; have := hby.size; omega))).mono ?_; rintro e w17 ⟨v4, rfl, R4_, hbz_⟩; obtain ⟨a4, c4, rfl⟩ := R4_.form; have hbz : Below w16.heap.size w16 w17 := (by first | exact hbz_ | exact (bel0 w16 (.cells #[.int .i64 0, .slice none 0 0] 26)).trans (hbz_.mono (by simp))); have R4 := Lib.hid R4_; (try have bz3 := Lib.hid (bz2.out.below hbz bz2.out.lt)); (try have bz3 := Lib.hid ((BoxB.new w16 (.int .i64 0) (.slice none 0 0) 26).below hbz_ (by simp))); (try obtain ⟨k0, k1, k2, k3⟩ := bz3.out); have S4 := KP _ _ hbz_ (by assumption); have zx := hbx.size; have zy := hby.size; clear R4_ hbz_)))
            all_goals
              subst hok'
              go_wp2_with fail
              go_meet
              first
              | exact WR.old R4.out bz3.out (bel_c (bel_c hbx (Nat.le_refl _) hby) (Nat.le_refl _) hbz) (by first | omega | (simp; done) | (simp; omega)) (by omega) (by first | omega | (simp; done) | (have := bz2.out.lt; omega) | (have := bz2.out.lt; simp; omega))
              | exact WR.new R4.out (bel_c (bel_c hbx (Nat.le_refl _) hby) (Nat.le_refl _) hbz) (by first | omega | (simp; omega))
          case rest =>
            obtain ⟨p4, a4, c4, l4, h4, rfl, rfl, bx4, R4, ho4, zl4, zp4, zh4, hb⟩ := hcut
            have yl4 := bx4.lt
            have P4 : Two p4 (.int .i64 n) (.slice a4 ys.length c4) _ := ⟨bx4.1, bx4.2.1⟩
            clear bx4 D0 BD KP KS c_A00 c_A01 c_A10 c_A11 c_A12
            subst hok'
            have A0_ := A0.keep hb
            have A1_ := A1.keep hb
            have P1_ := P1.keep hb
            have R1_ := R1.below (hb.mono (by omega))
            have P3_ := P3.keep hb
            have R3_ := R3.below (hb.mono (by omega))
            have B_ := bel_c B (Nat.le_refl _) hb
            have zwc : w14.heap.size ≤ wc.heap.size := by have := hb.size; simpa using this
            clear A0 A1 P1 R1 P3 R3 B
            have A0 := A0_
            have A1 := A1_
            have P1 := P1_
            have R1 := R1_
            have P3 := P3_
            have R3 := R3_
            have B := B_
            clear A0_ A1_ P1_ R1_ P3_ R3_ B_ hb
            obtain ⟨c_P40, c_P41⟩ := id P4
            obtain ⟨c_P10, c_P11⟩ := id P1
            go_wp2_with fail
            clear c_P40 c_P41 c_P10 c_P11
            refine (EqBlock_any _ _ _ _ n _ _ ys _ R4 R1 (by omega) (by omega)).mono ?_
            rintro e w18 ⟨rfl, hb⟩
            have A0_ := A0.keep hb
            have A1_ := A1.keep hb
            have P1_ := P1.keep hb
            have R1_ := R1.below (hb.mono (by omega))
            have P3_ := P3.keep hb
            have R3_ := R3.below (hb.mono (by omega))
            have P4_ := P4.keep hb
            have R4_ := R4.below (hb.mono (by omega))
            have B_ := bel_c B (Nat.le_refl _) hb
            have zw18 : wc.heap.size ≤ w18.heap.size := by have := hb.size; simpa using this
            clear A0 A1 P1 R1 P3 R3 P4 R4 B
            have A0 := A0_
            have A1 := A1_
            have P1 := P1_
            have R1 := R1_
            have P3 := P3_
            have R3 := R3_
            have P4 := P4_
            have R4 := R4_
            have B := B_
            clear A0_ A1_ P1_ R1_ P3_ R3_ P4_ R4_ B_ hb
            obtain ⟨c_P30, c_P31⟩ := id P3
            go_wp2_with fail
            clear c_P30 c_P31
            refine (HeldOne _ _ n _ ys _ R3 (by omega)).mono ?_
            rintro e w19 ⟨rfl, hb⟩
            have A0_ := A0.keep hb
            have A1_ := A1.keep hb
            have P1_ := P1.keep hb
            have R1_ := R1.below (hb.mono (by omega))
            have P3_ := P3.keep hb
            have R3_ := R3.below (hb.mono (by omega))
            have P4_ := P4.keep hb
            have R4_ := R4.below (hb.mono (by omega))
            have B_ := bel_c B (Nat.le_refl _) hb
            have zw19 : w18.heap.size ≤ w19.heap.size := by have := hb.size; simpa using this
            clear A0 A1 P1 R1 P3 R3 P4 R4 B
            have A0 := A0_
            have A1 := A1_
            have P1 := P1_
            have R1 := R1_
            have P3 := P3_
            have R3 := R3_
            have P4 := P4_
            have R4 := R4_
            have B := B_
            clear A0_ A1_ P1_ R1_ P3_ R3_ P4_ R4_ B_ hb
            go_wp2_with fail
            go_ret
            exact ⟨rfl, B⟩
  · have hl' : (1048576 : Int) < len := by omega
    go_enter Try.func6, Try.ntmps6
    go_wp2_with fail
    refine (SzB_no n a len cap 1048576 _ (by omega) (by omega) hm hl').mono ?_
    rintro e w1 ⟨rfl, hb1⟩
    go_wp2_with fail
    go_ret
    exact ⟨rfl, bel_c (bel_n (bel0 w _) (Nat.le_refl _) _) (Nat.le_refl _) hb1⟩

end Go.Proofs.Ytoljnokfhgopoaa
