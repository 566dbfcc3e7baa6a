/- Turns: the walk of FnTurns. -/
import Derived.Test.YtfidnhhlcdbaeaaTurI
import Derived.Test.YtfidnhhlcdbaeaaTurG
import Derived.Test.YtfidnhhlcdbaeaaBlkD
import Derived.Test.YtfidnhhlcdbaeaaBlkN
import Derived.Deep.DeepCutAuto
namespace Go.Proofs.Ytfidnhhlcdbaeaa
open Go.ChangeShapes Go.WideShapes Go.ChangeAt Go.RowKit

/-- What the first loop keeps: the block, its box, the three cells' boxes. -/
def Pk1 (w : World) (l0 h0 p0 p4 p5 p6 : Nat) (n : Int) (v : Value) (xs : List C3) (q qt qm : C3) (u : World) : Prop :=
  Rw l0 h0 v xs u ∧ Two p0 (.int .i64 n) v u ∧ Three p4 q u ∧ Three p5 qt u ∧ Three p6 qm u ∧ Below w.heap.size w u
theorem Pk1.keep {w : World} {l0 h0 p0 p4 p5 p6 : Nat} {n : Int} {v : Value} {xs : List C3} {q qt qm : C3} {u v' : World} (h : Pk1 w l0 h0 p0 p4 p5 p6 n v xs q qt qm u) (hb : Below u.heap.size u v') : Pk1 w l0 h0 p0 p4 p5 p6 n v xs q qt qm v' :=
  ⟨h.1.keep hb, h.2.1.keep hb, h.2.2.1.keep hb, h.2.2.2.1.keep hb, h.2.2.2.2.1.keep hb, bel_c h.2.2.2.2.2 (Nat.le_refl _) hb⟩
/-- What the second loop keeps: the block, its box, the box of the block under way, its row. -/
def Pk2 (w : World) (l0 h0 p0 p8 : Nat) (n : Int) (v v8 : Value) (xs ys : List C3) (u : World) : Prop :=
  Rw l0 h0 v xs u ∧ Two p0 (.int .i64 n) v u ∧ Rw w.heap.size u.heap.size v8 ys u ∧ Two p8 (.int .i64 n) v8 u ∧ u.frozen? ⟨p8, 0, none⟩ = false ∧ u.frozen? ⟨p8, 1, none⟩ = false ∧ Below w.heap.size w u
theorem Pk2.keep {w : World} {l0 h0 p0 p8 : Nat} {n : Int} {v v8 : Value} {xs ys : List C3} {u v' : World} (h : Pk2 w l0 h0 p0 p8 n v v8 xs ys u) (hb : Below u.heap.size u v') : Pk2 w l0 h0 p0 p8 n v v8 xs ys v' :=
  ⟨h.1.keep hb, h.2.1.keep hb, ⟨(h.2.2.1.keep hb).1.wide (Nat.le_refl _) hb.size, Nat.le_refl _⟩, h.2.2.2.1.keep hb, keptF hb h.2.2.2.1.1 h.2.2.2.2.1, keptF hb h.2.2.2.1.2 h.2.2.2.2.2.1, bel_c h.2.2.2.2.2.2 (Nat.le_refl _) hb⟩
/-- .. a new row stored into that box. -/
theorem Pk2.store {w : World} {l0 h0 p0 p8 : Nat} {n : Int} {v v8 v9 : Value} {xs ys zs : List C3} {u u0 : World} (h : Pk2 w l0 h0 p0 p8 n v v8 xs ys u0) (hb : Below u0.heap.size u0 u) (r : CellIn u0.heap.size u.heap.size u v9 zs) (hp0 : p0 ≠ p8) (hp8 : h0 ≤ p8) (hp : p8 < u0.heap.size) (hw : w.heap.size ≤ p8) :
    Pk2 w l0 h0 p0 p8 n v v9 xs zs ((u.setCell ⟨p8, 0, none⟩ (.int .i64 n)).setCell ⟨p8, 1, none⟩ v9) := by
  have k := h.keep hb
  have hz : ((u.setCell ⟨p8, 0, none⟩ (.int .i64 n)).setCell ⟨p8, 1, none⟩ v9).heap.size = u.heap.size := by simp [World.setCell]
  have n0 : ∀ i j : Nat, (⟨p8, i, none⟩ : Addr) ≠ ⟨p0, j, none⟩ := by intro i j e; injection e with e1; omega
  have e0 : (u.setCell ⟨p8, 0, none⟩ (.int .i64 n)).cell? ⟨p8, 1, none⟩ = some v8 := (World.cell?_setCell_other _ _ _ _ (by simp)).trans k.2.2.2.1.2
  refine ⟨⟨(k.1.1.set_up (p := ⟨p8, 0, none⟩) hp8 _).set_up (p := ⟨p8, 1, none⟩) hp8 _, by rw [hz]; exact k.1.2⟩,
    ⟨(World.cell?_setCell_other _ _ _ _ (n0 1 0)).trans ((World.cell?_setCell_other _ _ _ _ (n0 0 0)).trans k.2.1.1), (World.cell?_setCell_other _ _ _ _ (n0 1 1)).trans ((World.cell?_setCell_other _ _ _ _ (n0 0 1)).trans k.2.1.2)⟩,
    ⟨by rw [hz]; exact (((r.set_far (p := ⟨p8, 0, none⟩) hp _).set_far (p := ⟨p8, 1, none⟩) hp _).wide h.2.2.2.2.2.2.size (Nat.le_refl _)), Nat.le_refl _⟩,
    ⟨(World.cell?_setCell_other _ _ _ _ (by simp)).trans (World.cell?_setCell_same _ _ _ k.2.2.2.1.1), World.cell?_setCell_same _ _ _ e0⟩,
    (World.frozen?_setCell _ _ _ _).trans ((World.frozen?_setCell _ _ _ _).trans k.2.2.2.2.1), (World.frozen?_setCell _ _ _ _).trans ((World.frozen?_setCell _ _ _ _).trans k.2.2.2.2.2.1),
    Below.setCell (Below.setCell k.2.2.2.2.2.2 (p := ⟨p8, 0, none⟩) hw _) (p := ⟨p8, 1, none⟩) hw _⟩

theorem Rw.top {lo : Nat} {v : Value} {xs : List C3} {u : World} (r : CellIn lo u.heap.size u v xs) : Rw lo u.heap.size v xs u := ⟨r, Nat.le_refl _⟩
theorem idx4 {u v : World} (hb : Below (u.alloc (.cells #[.int .i64 2, .int .i64 1, .int .i64 0, .int .i64 3] 3)).heap.size (u.alloc (.cells #[.int .i64 2, .int .i64 1, .int .i64 0, .int .i64 3] 3)) v) :
    v.cell? ⟨u.heap.size, 0, none⟩ = some (.int .i64 2) ∧ v.cell? ⟨u.heap.size, 1, none⟩ = some (.int .i64 1) ∧ v.cell? ⟨u.heap.size, 2, none⟩ = some (.int .i64 0) ∧ v.cell? ⟨u.heap.size, 3, none⟩ = some (.int .i64 3) := by
  refine ⟨kept hb ?_, kept hb ?_, kept hb ?_, kept hb ?_⟩ <;> go_simp

set_option maxRecDepth 100000 in
set_option maxHeartbeats 20000000 in
theorem TurnsLaw_walk (a : Option Addr) (len cap : Nat) (w : World) (hs : Src w w.heap.size a len) :
    Calls Try.prog 3 #[.slice a len cap] w fun e w' => e = .returned (.bool true) ∧ Below w.heap.size w w' := by
  have HS := Lib.hid (fun W (h : Below w.heap.size w W) => (hs.but (But.of_below h)).up2 h.size)
  obtain ⟨hm, _⟩ := hs
  have hl : len ≤ 9223372036854775807 := by unfold maxLen at hm; omega
  clear hm
  by_cases hb0 : len ≤ 1048576
  · go_enter Try.func3, Try.ntmps3
    go_wp2_with fail
    refine (Big_no a len cap w hb0).mono ?_
    rintro e w' ⟨rfl, rfl⟩
    go_wp2_with fail
    refine (DrawBlock_any a len cap w (HS.out _ (Below.refl _ _)) hb0).mono ?_
    rintro e w1 ⟨n, v, xs, hok, rfl, R0, B⟩
    obtain ⟨av, cv, rfl⟩ := R0.form
    have HK := Lib.hid hok
    have n0 := hok.1.1
    have n1 := hok.1.2
    have hnz : ¬ n = 0 := by omega
    have hnb : (n == 0) = false := by simp; omega
    obtain ⟨hx1, hx16⟩ := blk_len hok
    have z1 := B.size
    clear hok
    obtain ⟨g, hg, hgl, hgh, ⟨e0, e1, e2⟩, _⟩ := R0.at (Below.refl _ _) (i := 0) (by omega)
    subst hg
    have hqo : (xs.getD 0 C3.zero).Ok := blk_at HK.out (by omega)
    generalize xs.getD 0 C3.zero = q at e0 e1 e2 hqo
    have HT := Lib.hid (col_turn hqo)
    have HM := Lib.hid (col_mir hqo)
    have CQ := Lib.hid (fun (d : Int) (u : World) => SpecColor_any q.s q.a q.b d u)
    have CT0 := Lib.hid (fun (d : Int) (u : World) => SpecColor_any (turnC q).s (turnC q).a (turnC q).b d u)
    have CM0 := Lib.hid (fun (d : Int) (u : World) => SpecColor_any (mirC q).s (mirC q).a (mirC q).b d u)
    have CTC := Lib.hid (ImplTurnCell_any q.s q.a q.b)
    have CMC := Lib.hid (ImplMirrorCell_any q.s q.a q.b)
    have hz1 : turnZ ⟨q.s, q.a, q.b⟩ = turnC q := if_pos hqo
    have hz2 : mirZ ⟨q.s, q.a, q.b⟩ = mirC q := if_pos hqo
    rw [hz1] at CTC
    rw [hz2] at CMC
    change Hid (colC (turnC q) 1 = colC q 0 ∧ _) at HT
    have CQ' : Hid (∀ (d : Int) (u : World), Calls Try.prog 9 #[.agg #[.int .i64 q.s, .int .i64 q.a, .int .i64 q.b], .int .i64 d] u fun e w' => e = .returned (.int .i64 (colC q d)) ∧ Below u.heap.size u w') := CQ
    have CT0' : Hid (∀ (d : Int) (u : World), Calls Try.prog 9 #[.agg #[.int .i64 (turnC q).s, .int .i64 (turnC q).a, .int .i64 (turnC q).b], .int .i64 d] u fun e w' => e = .returned (.int .i64 (colC (turnC q) d)) ∧ Below u.heap.size u w') := CT0
    have CM0' : Hid (∀ (d : Int) (u : World), Calls Try.prog 9 #[.agg #[.int .i64 (mirC q).s, .int .i64 (mirC q).a, .int .i64 (mirC q).b], .int .i64 d] u fun e w' => e = .returned (.int .i64 (colC (mirC q) d)) ∧ Below u.heap.size u w') := CM0
    clear hz1 hz2 hqo CQ CT0 CM0
    generalize colC q = kq at *
    generalize colC (turnC q) = kt at *
    generalize colC (mirC q) = km at *
    generalize turnC q = qt at *
    generalize mirC q = qm at *
    obtain ⟨qs, qa, qb⟩ := q
    obtain ⟨ts, ta, tb⟩ := qt
    obtain ⟨ms, ma, mb⟩ := qm
    dsimp only at e0 e1 e2 CQ' CT0' CM0' CTC CMC
    have NB := bel0 w1 (.cells #[.int .i64 n, .slice (some ⟨g, 0, none⟩) xs.length cv] 26)
    have R0_ := R0.below (NB.mono (by omega))
    have B_ := bel_n B (Nat.le_refl _) (.cells #[.int .i64 n, .slice (some ⟨g, 0, none⟩) xs.length cv] 26)
    clear R0 B
    have R0 := R0_
    have B := B_
    clear R0_ B_ NB
    have P0 := Two.new w1 (.int .i64 n) (.slice (some ⟨g, 0, none⟩) xs.length cv) 26
    have d0 := kept (bel0 w1 (.cells #[.int .i64 n, .slice (some ⟨g, 0, none⟩) xs.length cv] 26)) e0
    have d1 := kept (bel0 w1 (.cells #[.int .i64 n, .slice (some ⟨g, 0, none⟩) xs.length cv] 26)) e1
    have d2 := kept (bel0 w1 (.cells #[.int .i64 n, .slice (some ⟨g, 0, none⟩) xs.length cv] 26)) e2
    have A4 := Three.new (w1.alloc (.cells #[.int .i64 n, .slice (some ⟨g, 0, none⟩) xs.length cv] 26)) ⟨qs, qa, qb⟩ 29
    have HPX := Lib.hid (bel0 (w1.alloc (.cells #[.int .i64 n, .slice (some ⟨g, 0, none⟩) xs.length cv] 26)) (.cells #[.int .i64 qs, .int .i64 qa, .int .i64 qb] 29))
    obtain ⟨c_P00, c_P01⟩ := id P0
    have r0 := (P0.keep HPX.out)
    obtain ⟨x0, x1⟩ := id r0
    obtain ⟨y0, y1, y2⟩ := id A4
    go_wp2_with fail
    clear x0 x1 y0 y1 y2 d0 d1 d2 e0 e1 e2 c_P00 c_P01
    have hb := HPX.out
    have P0_ := P0.keep hb
    have R0_ := R0.below (hb.mono (by first | (simp; done) | (simp; omega)))
    have B_ := bel_c B (Nat.le_refl _) hb
    clear P0 R0 B hb HPX r0
    have P0 := P0_
    have R0 := R0_
    have B := B_
    clear P0_ R0_ B_
    have za : ((w1.alloc (.cells #[.int .i64 n, .slice (some ⟨g, 0, none⟩) xs.length cv] 26)).alloc (.cells #[.int .i64 qs, .int .i64 qa, .int .i64 qb] 29)).heap.size = w1.heap.size + 1 + 1 := by simp
    have A4_ : Three (w1.heap.size + 1) ⟨qs, qa, qb⟩ ((w1.alloc (.cells #[.int .i64 n, .slice (some ⟨g, 0, none⟩) xs.length cv] 26)).alloc (.cells #[.int .i64 qs, .int .i64 qa, .int .i64 qb] 29)) := by simpa using A4
    clear A4
    have A4 := A4_
    clear A4_
    generalize (w1.alloc (.cells #[.int .i64 n, .slice (some ⟨g, 0, none⟩) xs.length cv] 26)).alloc (.cells #[.int .i64 qs, .int .i64 qa, .int .i64 qb] 29) = g1 at *
    refine (CTC.out _).mono ?_
    rintro e w11 ⟨rfl, hb⟩
    have R0_ := R0.below (hb.mono (by omega))
    have P0_ := P0.keep hb
    have A4_ := A4.keep hb
    have B_ := bel_c B (Nat.le_refl _) hb
    have zw11 : g1.heap.size ≤ w11.heap.size := by have := hb.size; first | exact this | simpa using this
    clear R0 P0 A4 B
    have R0 := R0_
    have P0 := P0_
    have A4 := A4_
    have B := B_
    clear R0_ P0_ A4_ B_ hb
    have NB := bel0 w11 (.cells #[.int .i64 ts, .int .i64 ta, .int .i64 tb] 29)
    have R0_ := R0.below (NB.mono (by omega))
    have P0_ := P0.keep NB
    have A4_ := A4.keep NB
    have B_ := bel_n B (Nat.le_refl _) (.cells #[.int .i64 ts, .int .i64 ta, .int .i64 tb] 29)
    clear R0 P0 A4 B
    have R0 := R0_
    have P0 := P0_
    have A4 := A4_
    have B := B_
    clear R0_ P0_ A4_ B_ NB
    have A5 := Three.new w11 ⟨ts, ta, tb⟩ 29
    obtain ⟨c_A40, c_A41, c_A42⟩ := id A4
    obtain ⟨c_A50, c_A51, c_A52⟩ := id A5
    obtain ⟨c_P00, c_P01⟩ := id P0
    go_wp2_with fail
    clear c_A40 c_A41 c_A42 c_A50 c_A51 c_A52 c_P00 c_P01
    refine (CMC.out _).mono ?_
    rintro e w12 ⟨rfl, hb⟩
    have R0_ := R0.below (hb.mono (by simp <;> omega))
    have P0_ := P0.keep hb
    have A4_ := A4.keep hb
    have A5_ := A5.keep hb
    have B_ := bel_c B (Nat.le_refl _) hb
    have zw12 : w11.heap.size + 1 ≤ w12.heap.size := by have := hb.size; first | exact this | simpa using this
    clear R0 P0 A4 A5 B
    have R0 := R0_
    have P0 := P0_
    have A4 := A4_
    have A5 := A5_
    have B := B_
    clear R0_ P0_ A4_ A5_ B_ hb
    have NB := bel0 w12 (.cells #[.int .i64 ms, .int .i64 ma, .int .i64 mb] 29)
    have R0_ := R0.below (NB.mono (by omega))
    have P0_ := P0.keep NB
    have A4_ := A4.keep NB
    have A5_ := A5.keep NB
    have B_ := bel_n B (Nat.le_refl _) (.cells #[.int .i64 ms, .int .i64 ma, .int .i64 mb] 29)
    clear R0 P0 A4 A5 B
    have R0 := R0_
    have P0 := P0_
    have A4 := A4_
    have A5 := A5_
    have B := B_
    clear R0_ P0_ A4_ A5_ B_ NB
    have A6 := Three.new w12 ⟨ms, ma, mb⟩ 29
    have HP1 : Hid (Pk1 w w.heap.size w1.heap.size w1.heap.size (w1.heap.size + 1) w11.heap.size w12.heap.size n (.slice (some ⟨g, 0, none⟩) xs.length cv) xs ⟨qs, qa, qb⟩ ⟨ts, ta, tb⟩ ⟨ms, ma, mb⟩ (w12.alloc (.cells #[.int .i64 ms, .int .i64 ma, .int .i64 mb] 29))) := Lib.hid ⟨⟨R0, by simp; omega⟩, P0, A4, A5, A6, B⟩
    obtain ⟨c_A40, c_A41, c_A42⟩ := id A4
    obtain ⟨c_A50, c_A51, c_A52⟩ := id A5
    obtain ⟨c_A60, c_A61, c_A62⟩ := id A6
    obtain ⟨c_P00, c_P01⟩ := id P0
    go_wp2_with fail
    clear c_A40 c_A41 c_A42 c_A50 c_A51 c_A52 c_A60 c_A61 c_A62 c_P00 c_P01
    clear R0 P0 A4 A5 A6 B
    go_loopw [7] (fun i wr => ∃ k : Int, 0 ≤ k ∧ k ≤ 4 ∧ i = .int .i64 k ∧ Hid (Pk1 w w.heap.size w1.heap.size w1.heap.size (w1.heap.size + 1) w11.heap.size w12.heap.size n (.slice (some ⟨g, 0, none⟩) xs.length cv) xs ⟨qs, qa, qb⟩ ⟨ts, ta, tb⟩ ⟨ms, ma, mb⟩ wr)) (fun i _ => (4 - intOf i).toNat)
    case atStart => exact ⟨0, by omega, by omega, rfl, HP1⟩
    case round =>
      obtain ⟨k, hk0, hk4, rfl, hpk⟩ := hrel
      by_cases hlt : k < 4
      · have hkk : k = 0 ∨ k = 1 ∨ k = 2 ∨ k = 3 := by omega
        obtain ⟨⟨c0, c1, c2⟩, ⟨d0, d1, d2⟩, ⟨m0, m1, m2⟩⟩ := (⟨hpk.out.2.2.1, hpk.out.2.2.2.1, hpk.out.2.2.2.2.1⟩ : Three _ _ wr ∧ Three _ _ wr ∧ Three _ _ wr)
        have KP : ∀ u v, Below u.heap.size u v → (u.cell? ⟨w1.heap.size + 1, 0, none⟩ = some (.int .i64 qs) ∧ u.cell? ⟨w1.heap.size + 1, 1, none⟩ = some (.int .i64 qa) ∧ u.cell? ⟨w1.heap.size + 1, 2, none⟩ = some (.int .i64 qb) ∧ u.cell? ⟨w11.heap.size, 0, none⟩ = some (.int .i64 ts) ∧ u.cell? ⟨w11.heap.size, 1, none⟩ = some (.int .i64 ta) ∧ u.cell? ⟨w11.heap.size, 2, none⟩ = some (.int .i64 tb) ∧ u.cell? ⟨w12.heap.size, 0, none⟩ = some (.int .i64 ms) ∧ u.cell? ⟨w12.heap.size, 1, none⟩ = some (.int .i64 ma) ∧ u.cell? ⟨w12.heap.size, 2, none⟩ = some (.int .i64 mb) ∧ Pk1 w w.heap.size w1.heap.size w1.heap.size (w1.heap.size + 1) w11.heap.size w12.heap.size n (.slice (some ⟨g, 0, none⟩) xs.length cv) xs ⟨qs, qa, qb⟩ ⟨ts, ta, tb⟩ ⟨ms, ma, mb⟩ u) → (v.cell? ⟨w1.heap.size + 1, 0, none⟩ = some (.int .i64 qs) ∧ v.cell? ⟨w1.heap.size + 1, 1, none⟩ = some (.int .i64 qa) ∧ v.cell? ⟨w1.heap.size + 1, 2, none⟩ = some (.int .i64 qb) ∧ v.cell? ⟨w11.heap.size, 0, none⟩ = some (.int .i64 ts) ∧ v.cell? ⟨w11.heap.size, 1, none⟩ = some (.int .i64 ta) ∧ v.cell? ⟨w11.heap.size, 2, none⟩ = some (.int .i64 tb) ∧ v.cell? ⟨w12.heap.size, 0, none⟩ = some (.int .i64 ms) ∧ v.cell? ⟨w12.heap.size, 1, none⟩ = some (.int .i64 ma) ∧ v.cell? ⟨w12.heap.size, 2, none⟩ = some (.int .i64 mb) ∧ Pk1 w w.heap.size w1.heap.size w1.heap.size (w1.heap.size + 1) w11.heap.size w12.heap.size n (.slice (some ⟨g, 0, none⟩) xs.length cv) xs ⟨qs, qa, qb⟩ ⟨ts, ta, tb⟩ ⟨ms, ma, mb⟩ v) := fun u v hb h => ⟨kept hb h.1, kept hb h.2.1, kept hb h.2.2.1, kept hb h.2.2.2.1, kept hb h.2.2.2.2.1, kept hb h.2.2.2.2.2.1, kept hb h.2.2.2.2.2.2.1, kept hb h.2.2.2.2.2.2.2.1, kept hb h.2.2.2.2.2.2.2.2.1, h.2.2.2.2.2.2.2.2.2.keep hb⟩
        have D0 : Below wr.heap.size wr wr.drew := ⟨rfl, rfl, rfl, Nat.le_refl _, fun _ _ => rfl⟩
        have S0 : wr.drew.cell? ⟨w1.heap.size + 1, 0, none⟩ = some (.int .i64 qs) ∧ wr.drew.cell? ⟨w1.heap.size + 1, 1, none⟩ = some (.int .i64 qa) ∧ wr.drew.cell? ⟨w1.heap.size + 1, 2, none⟩ = some (.int .i64 qb) ∧ wr.drew.cell? ⟨w11.heap.size, 0, none⟩ = some (.int .i64 ts) ∧ wr.drew.cell? ⟨w11.heap.size, 1, none⟩ = some (.int .i64 ta) ∧ wr.drew.cell? ⟨w11.heap.size, 2, none⟩ = some (.int .i64 tb) ∧ wr.drew.cell? ⟨w12.heap.size, 0, none⟩ = some (.int .i64 ms) ∧ wr.drew.cell? ⟨w12.heap.size, 1, none⟩ = some (.int .i64 ma) ∧ wr.drew.cell? ⟨w12.heap.size, 2, none⟩ = some (.int .i64 mb) ∧ Pk1 w w.heap.size w1.heap.size w1.heap.size (w1.heap.size + 1) w11.heap.size w12.heap.size n (.slice (some ⟨g, 0, none⟩) xs.length cv) xs ⟨qs, qa, qb⟩ ⟨ts, ta, tb⟩ ⟨ms, ma, mb⟩ wr.drew := KP wr wr.drew D0 ⟨c0, c1, c2, d0, d1, d2, m0, m1, m2, hpk.out⟩
        have HW : Hid (∀ u : World, (u.cell? ⟨w1.heap.size + 1, 0, none⟩ = some (.int .i64 qs) ∧ u.cell? ⟨w1.heap.size + 1, 1, none⟩ = some (.int .i64 qa) ∧ u.cell? ⟨w1.heap.size + 1, 2, none⟩ = some (.int .i64 qb) ∧ u.cell? ⟨w11.heap.size, 0, none⟩ = some (.int .i64 ts) ∧ u.cell? ⟨w11.heap.size, 1, none⟩ = some (.int .i64 ta) ∧ u.cell? ⟨w11.heap.size, 2, none⟩ = some (.int .i64 tb) ∧ u.cell? ⟨w12.heap.size, 0, none⟩ = some (.int .i64 ms) ∧ u.cell? ⟨w12.heap.size, 1, none⟩ = some (.int .i64 ma) ∧ u.cell? ⟨w12.heap.size, 2, none⟩ = some (.int .i64 mb) ∧ Pk1 w w.heap.size w1.heap.size w1.heap.size (w1.heap.size + 1) w11.heap.size w12.heap.size n (.slice (some ⟨g, 0, none⟩) xs.length cv) xs ⟨qs, qa, qb⟩ ⟨ts, ta, tb⟩ ⟨ms, ma, mb⟩ u) → Pk1 w w.heap.size w1.heap.size w1.heap.size (w1.heap.size + 1) w11.heap.size w12.heap.size n (.slice (some ⟨g, 0, none⟩) xs.length cv) xs ⟨qs, qa, qb⟩ ⟨ts, ta, tb⟩ ⟨ms, ma, mb⟩ u) := Lib.hid (fun u h => h.2.2.2.2.2.2.2.2.2)
        clear hk0 hk4 hpk D0
        rcases hkk with rfl | rfl | rfl | rfl
        · have t1 : (kt ((IntKind.i64.wrap 1).tmod 4) != kq 0) = false := by rw [show (IntKind.i64.wrap 1).tmod 4 = 1 by decide, HT.out.1]; simp
          have t2 : (km 0 != kq 2) = false := by rw [HM.out.1]; simp
          clear hlt
          go_wp2_with fail
          clear c0 c1 c2 d0 d1 d2 m0 m1 m2
          (try simp only [List.append_eq, List.cons_append, List.nil_append])
          have hS := S0
          clear S0
          refine reg_begin (fun w' => w'.cell? ⟨w1.heap.size + 1, 0, none⟩ = some (.int .i64 qs) ∧ w'.cell? ⟨w1.heap.size + 1, 1, none⟩ = some (.int .i64 qa) ∧ w'.cell? ⟨w1.heap.size + 1, 2, none⟩ = some (.int .i64 qb) ∧ w'.cell? ⟨w11.heap.size, 0, none⟩ = some (.int .i64 ts) ∧ w'.cell? ⟨w11.heap.size, 1, none⟩ = some (.int .i64 ta) ∧ w'.cell? ⟨w11.heap.size, 2, none⟩ = some (.int .i64 tb) ∧ w'.cell? ⟨w12.heap.size, 0, none⟩ = some (.int .i64 ms) ∧ w'.cell? ⟨w12.heap.size, 1, none⟩ = some (.int .i64 ma) ∧ w'.cell? ⟨w12.heap.size, 2, none⟩ = some (.int .i64 mb) ∧ Pk1 w w.heap.size w1.heap.size w1.heap.size (w1.heap.size + 1) w11.heap.size w12.heap.size n (.slice (some ⟨g, 0, none⟩) xs.length cv) xs ⟨qs, qa, qb⟩ ⟨ts, ta, tb⟩ ⟨ms, ma, mb⟩ w') (by kernel_rfl) hS ?_
          refine reg_take 0 (v := ?_) rfl (by kernel_rfl) (by kernel_rfl) (by kernel_rfl) (fun _ _ _ h => h) (by rfl) (by intro w hSw; (try dsimp only at hSw); go_simp; first | done | with_reducible rfl) hS ?_
          (try simp only [Act.put, List.setIfInBounds_toArray, List.set_cons_zero, List.set_cons_succ])
          refine reg_take 1 (v := ?_) rfl (by kernel_rfl) (by kernel_rfl) (by kernel_rfl) (fun _ _ _ h => h) (by rfl) (by intro w hSw; (try dsimp only at hSw); go_simp; first | done | with_reducible rfl) hS ?_
          (try simp only [Act.put, List.setIfInBounds_toArray, List.set_cons_zero, List.set_cons_succ])
          refine reg_take 2 (v := ?_) rfl (by kernel_rfl) (by kernel_rfl) (by kernel_rfl) (fun _ _ _ h => h) (by rfl) (by intro w hSw; (try dsimp only at hSw); go_simp; first | done | with_reducible rfl) hS ?_
          (try simp only [Act.put, List.setIfInBounds_toArray, List.set_cons_zero, List.set_cons_succ])
          refine reg_take 3 (v := ?_) rfl (by kernel_rfl) (by kernel_rfl) (by kernel_rfl) (fun _ _ _ h => h) (by rfl) (by intro w hSw; (try dsimp only at hSw); go_simp; first | done | with_reducible rfl) hS ?_
          (try simp only [Act.put, List.setIfInBounds_toArray, List.set_cons_zero, List.set_cons_succ])
          refine reg_take 5 (v := ?_) rfl (by kernel_rfl) (by kernel_rfl) (by kernel_rfl) (fun _ _ _ h => h) (by rfl) (by intro w hSw; (try dsimp only at hSw); go_simp; first | done | with_reducible rfl) hS ?_
          (try simp only [Act.put, List.setIfInBounds_toArray, List.set_cons_zero, List.set_cons_succ])
          refine reg_take 6 (v := ?_) rfl (by kernel_rfl) (by kernel_rfl) (by kernel_rfl) (fun _ _ _ h => h) (by rfl) (by intro w hSw; (try dsimp only at hSw); go_simp; first | done | with_reducible rfl) hS ?_
          (try simp only [Act.put, List.setIfInBounds_toArray, List.set_cons_zero, List.set_cons_succ])
          refine reg_call 4 rfl (by kernel_rfl) (by rfl) (fun K hK => ?_)
          go_simp
          go_at_call 9
          refine (CT0'.out _ _).mono ?_
          rintro e w' ⟨rfl, hb⟩
          refine hK.out _ _ (KP _ _ hb hS) (fun hS' => ?_)
          clear hK K
          replace hS := hS'
          clear hS'
          (try simp only [Act.put, List.setIfInBounds_toArray, List.set_cons_zero, List.set_cons_succ])
          clear hb
          refine reg_call 7 rfl (by kernel_rfl) (by rfl) (fun K hK => ?_)
          go_simp
          go_at_call 9
          refine (CQ'.out _ _).mono ?_
          rintro e w' ⟨rfl, hb⟩
          refine hK.out _ _ (KP _ _ hb hS) (fun hS' => ?_)
          clear hK K
          replace hS := hS'
          clear hS'
          (try simp only [Act.put, List.setIfInBounds_toArray, List.set_cons_zero, List.set_cons_succ])
          clear hb
          refine reg_take 8 (v := ?_) rfl (by kernel_rfl) (by kernel_rfl) (by kernel_rfl) (fun _ _ _ h => h) (by rfl) (by intro w hSw; (try dsimp only at hSw); go_simp; first | done | with_reducible rfl) hS ?_
          (try simp only [Act.put, List.setIfInBounds_toArray, List.set_cons_zero, List.set_cons_succ])
          refine reg_take 9 (v := ?_) rfl (by kernel_rfl) (by kernel_rfl) (by kernel_rfl) (fun _ _ _ h => h) (by rfl) (by intro w hSw; (try dsimp only at hSw); go_simp; first | done | with_reducible rfl) hS ?_
          (try simp only [Act.put, List.setIfInBounds_toArray, List.set_cons_zero, List.set_cons_succ])
          refine reg_take 10 (v := ?_) rfl (by kernel_rfl) (by kernel_rfl) (by kernel_rfl) (fun _ _ _ h => h) (by rfl) (by intro w hSw; (try dsimp only at hSw); go_simp; first | done | with_reducible rfl) hS ?_
          (try simp only [Act.put, List.setIfInBounds_toArray, List.set_cons_zero, List.set_cons_succ])
          refine reg_take 11 (v := ?_) rfl (by kernel_rfl) (by kernel_rfl) (by kernel_rfl) (fun _ _ _ h => h) (by rfl) (by intro w hSw; (try dsimp only at hSw); go_simp; first | done | with_reducible rfl) hS ?_
          (try simp only [Act.put, List.setIfInBounds_toArray, List.set_cons_zero, List.set_cons_succ])
          refine reg_take 13 (v := ?_) rfl (by kernel_rfl) (by kernel_rfl) (by kernel_rfl) (fun _ _ _ h => h) (by rfl) (by intro w hSw; (try dsimp only at hSw); go_simp; first | done | with_reducible rfl) hS ?_
          (try simp only [Act.put, List.setIfInBounds_toArray, List.set_cons_zero, List.set_cons_succ])
          refine reg_take 15 (v := ?_) rfl (by kernel_rfl) (by kernel_rfl) (by kernel_rfl) (fun _ _ _ h => h) (by rfl) (by intro w hSw; (try dsimp only at hSw); go_simp; first | done | with_reducible rfl) hS ?_
          (try simp only [Act.put, List.setIfInBounds_toArray, List.set_cons_zero, List.set_cons_succ])
          refine reg_pair 12 14 rfl rfl (by kernel_rfl) (by rfl) (by rfl) (fun K hK => ?_) (fun K hK => ?_)
          · go_simp
            go_at_call 9
            refine (CM0'.out _ _).mono ?_
            rintro e w' ⟨rfl, hb⟩
            refine hK.out _ _ (KP _ _ hb hS) (fun hS' => ?_)
            clear hK K
            replace hS := hS'
            clear hS'
            (try simp only [Act.put, List.setIfInBounds_toArray, List.set_cons_zero, List.set_cons_succ])
            clear hb
            refine reg_call 14 rfl (by kernel_rfl) (by rfl) (fun K hK => ?_)
            go_simp
            refine hK.out _ _ (KP _ _ (bel0 _ _) hS) (fun hS' => ?_)
            clear hK K
            replace hS := hS'
            clear hS'
            (try simp only [Act.put, List.setIfInBounds_toArray, List.set_cons_zero, List.set_cons_succ])
            refine reg_take 16 (v := ?_) rfl (by kernel_rfl) (by kernel_rfl) (by kernel_rfl) (fun _ _ _ h => h) (by rfl) (by intro w hSw; (try dsimp only at hSw); go_simp; first | done | with_reducible rfl) hS ?_
            (try simp only [Act.put, List.setIfInBounds_toArray, List.set_cons_zero, List.set_cons_succ])
            refine reg_call 17 rfl (by kernel_rfl) (by rfl) (fun K hK => ?_)
            go_simp
            refine hK.out _ _ hS (fun hS' => ?_)
            clear hK K
            replace hS := hS'
            clear hS'
            (try simp only [Act.put, List.setIfInBounds_toArray, List.set_cons_zero, List.set_cons_succ])
            refine reg_call 18 rfl (by kernel_rfl) (by rfl) (fun K hK => ?_)
            go_simp
            go_at_call 9
            refine (CQ'.out _ _).mono ?_
            rintro e w' ⟨rfl, hb⟩
            refine hK.out _ _ (KP _ _ hb hS) (fun hS' => ?_)
            clear hK K
            replace hS := hS'
            clear hS'
            (try simp only [Act.put, List.setIfInBounds_toArray, List.set_cons_zero, List.set_cons_succ])
            clear hb
            refine reg_take 19 (v := ?_) rfl (by kernel_rfl) (by kernel_rfl) (by kernel_rfl) (fun _ _ _ h => h) (by rfl) (by intro w hSw; (try dsimp only at hSw); go_simp; first | done | with_reducible rfl) hS ?_
            (try simp only [Act.put, List.setIfInBounds_toArray, List.set_cons_zero, List.set_cons_succ])
            refine reg_take 20 (v := ?_) rfl (by kernel_rfl) (by kernel_rfl) (by kernel_rfl) (fun _ _ _ h => h) (by rfl) (by intro w hSw; (try dsimp only at hSw); go_simp; first | done | with_reducible rfl) hS ?_
            (try simp only [Act.put, List.setIfInBounds_toArray, List.set_cons_zero, List.set_cons_succ])
            refine wpAnyH_done (by kernel_rfl) ?_ _
            have hW := Lib.hid (HW.out _ hS)
            clear hS
            go_wp2_with fail
            go_roundw
            case rel => exact ⟨1, by omega, by omega, rfl, hW⟩
            case measure => simp [intOf] <;> omega
          · go_simp
            refine hK.out _ _ (KP _ _ (bel0 _ _) hS) (fun hS' => ?_)
            clear hK K
            replace hS := hS'
            clear hS'
            (try simp only [Act.put, List.setIfInBounds_toArray, List.set_cons_zero, List.set_cons_succ])
            refine reg_take 16 (v := ?_) rfl (by kernel_rfl) (by kernel_rfl) (by kernel_rfl) (fun _ _ _ h => h) (by rfl) (by intro w hSw; (try dsimp only at hSw); go_simp; first | done | with_reducible rfl) hS ?_
            (try simp only [Act.put, List.setIfInBounds_toArray, List.set_cons_zero, List.set_cons_succ])
            refine reg_pair 12 17 rfl rfl (by kernel_rfl) (by rfl) (by rfl) (fun K hK => ?_) (fun K hK => ?_)
            · go_simp
              go_at_call 9
              refine (CM0'.out _ _).mono ?_
              rintro e w' ⟨rfl, hb⟩
              have i9 := idx4 hb
              refine hK.out _ _ (KP _ _ hb hS) (fun hS' => ?_)
              clear hK K
              replace hS := hS'
              clear hS'
              (try simp only [Act.put, List.setIfInBounds_toArray, List.set_cons_zero, List.set_cons_succ])
              clear hb
              refine reg_call 17 rfl (by kernel_rfl) (by rfl) (fun K hK => ?_)
              go_simp
              refine hK.out _ _ hS (fun hS' => ?_)
              clear hK K
              replace hS := hS'
              clear hS'
              (try simp only [Act.put, List.setIfInBounds_toArray, List.set_cons_zero, List.set_cons_succ])
              clear i9
              refine reg_call 18 rfl (by kernel_rfl) (by rfl) (fun K hK => ?_)
              go_simp
              go_at_call 9
              refine (CQ'.out _ _).mono ?_
              rintro e w' ⟨rfl, hb⟩
              refine hK.out _ _ (KP _ _ hb hS) (fun hS' => ?_)
              clear hK K
              replace hS := hS'
              clear hS'
              (try simp only [Act.put, List.setIfInBounds_toArray, List.set_cons_zero, List.set_cons_succ])
              clear hb
              refine reg_take 19 (v := ?_) rfl (by kernel_rfl) (by kernel_rfl) (by kernel_rfl) (fun _ _ _ h => h) (by rfl) (by intro w hSw; (try dsimp only at hSw); go_simp; first | done | with_reducible rfl) hS ?_
              (try simp only [Act.put, List.setIfInBounds_toArray, List.set_cons_zero, List.set_cons_succ])
              refine reg_take 20 (v := ?_) rfl (by kernel_rfl) (by kernel_rfl) (by kernel_rfl) (fun _ _ _ h => h) (by rfl) (by intro w hSw; (try dsimp only at hSw); go_simp; first | done | with_reducible rfl) hS ?_
              (try simp only [Act.put, List.setIfInBounds_toArray, List.set_cons_zero, List.set_cons_succ])
              refine wpAnyH_done (by kernel_rfl) ?_ _
              have hW := Lib.hid (HW.out _ hS)
              clear hS
              go_wp2_with fail
              go_roundw
              case rel => exact ⟨1, by omega, by omega, rfl, hW⟩
              case measure => simp [intOf] <;> omega
            · go_simp
              refine hK.out _ _ hS (fun hS' => ?_)
              clear hK K
              replace hS := hS'
              clear hS'
              (try simp only [Act.put, List.setIfInBounds_toArray, List.set_cons_zero, List.set_cons_succ])
              refine reg_call 12 rfl (by kernel_rfl) (by rfl) (fun K hK => ?_)
              go_simp
              go_at_call 9
              refine (CM0'.out _ _).mono ?_
              rintro e w' ⟨rfl, hb⟩
              refine hK.out _ _ (KP _ _ hb hS) (fun hS' => ?_)
              clear hK K
              replace hS := hS'
              clear hS'
              (try simp only [Act.put, List.setIfInBounds_toArray, List.set_cons_zero, List.set_cons_succ])
              clear hb
              refine reg_call 18 rfl (by kernel_rfl) (by rfl) (fun K hK => ?_)
              go_simp
              go_at_call 9
              refine (CQ'.out _ _).mono ?_
              rintro e w' ⟨rfl, hb⟩
              refine hK.out _ _ (KP _ _ hb hS) (fun hS' => ?_)
              clear hK K
              replace hS := hS'
              clear hS'
              (try simp only [Act.put, List.setIfInBounds_toArray, List.set_cons_zero, List.set_cons_succ])
              clear hb
              refine reg_take 19 (v := ?_) rfl (by kernel_rfl) (by kernel_rfl) (by kernel_rfl) (fun _ _ _ h => h) (by rfl) (by intro w hSw; (try dsimp only at hSw); go_simp; first | done | with_reducible rfl) hS ?_
              (try simp only [Act.put, List.setIfInBounds_toArray, List.set_cons_zero, List.set_cons_succ])
              refine reg_take 20 (v := ?_) rfl (by kernel_rfl) (by kernel_rfl) (by kernel_rfl) (fun _ _ _ h => h) (by rfl) (by intro w hSw; (try dsimp only at hSw); go_simp; first | done | with_reducible rfl) hS ?_
              (try simp only [Act.put, List.setIfInBounds_toArray, List.set_cons_zero, List.set_cons_succ])
              refine wpAnyH_done (by kernel_rfl) ?_ _
              have hW := Lib.hid (HW.out _ hS)
              clear hS
              go_wp2_with fail
              go_roundw
              case rel => exact ⟨1, by omega, by omega, rfl, hW⟩
              case measure => simp [intOf] <;> omega
        · have t1 : (kt ((IntKind.i64.wrap 2).tmod 4) != kq 1) = false := by rw [show (IntKind.i64.wrap 2).tmod 4 = 2 by decide, HT.out.2.1]; simp
          have t2 : (km 1 != kq 1) = false := by rw [HM.out.2.1]; simp
          clear hlt
          go_wp2_with fail
          clear c0 c1 c2 d0 d1 d2 m0 m1 m2
          (try simp only [List.append_eq, List.cons_append, List.nil_append])
          have hS := S0
          clear S0
          refine reg_begin (fun w' => w'.cell? ⟨w1.heap.size + 1, 0, none⟩ = some (.int .i64 qs) ∧ w'.cell? ⟨w1.heap.size + 1, 1, none⟩ = some (.int .i64 qa) ∧ w'.cell? ⟨w1.heap.size + 1, 2, none⟩ = some (.int .i64 qb) ∧ w'.cell? ⟨w11.heap.size, 0, none⟩ = some (.int .i64 ts) ∧ w'.cell? ⟨w11.heap.size, 1, none⟩ = some (.int .i64 ta) ∧ w'.cell? ⟨w11.heap.size, 2, none⟩ = some (.int .i64 tb) ∧ w'.cell? ⟨w12.heap.size, 0, none⟩ = some (.int .i64 ms) ∧ w'.cell? ⟨w12.heap.size, 1, none⟩ = some (.int .i64 ma) ∧ w'.cell? ⟨w12.heap.size, 2, none⟩ = some (.int .i64 mb) ∧ Pk1 w w.heap.size w1.heap.size w1.heap.size (w1.heap.size + 1) w11.heap.size w12.heap.size n (.slice (some ⟨g, 0, none⟩) xs.length cv) xs ⟨qs, qa, qb⟩ ⟨ts, ta, tb⟩ ⟨ms, ma, mb⟩ w') (by kernel_rfl) hS ?_
          refine reg_take 0 (v := ?_) rfl (by kernel_rfl) (by kernel_rfl) (by kernel_rfl) (fun _ _ _ h => h) (by rfl) (by intro w hSw; (try dsimp only at hSw); go_simp; first | done | with_reducible rfl) hS ?_
          (try simp only [Act.put, List.setIfInBounds_toArray, List.set_cons_zero, List.set_cons_succ])
          refine reg_take 1 (v := ?_) rfl (by kernel_rfl) (by kernel_rfl) (by kernel_rfl) (fun _ _ _ h => h) (by rfl) (by intro w hSw; (try dsimp only at hSw); go_simp; first | done | with_reducible rfl) hS ?_
          (try simp only [Act.put, List.setIfInBounds_toArray, List.set_cons_zero, List.set_cons_succ])
          refine reg_take 2 (v := ?_) rfl (by kernel_rfl) (by kernel_rfl) (by kernel_rfl) (fun _ _ _ h => h) (by rfl) (by intro w hSw; (try dsimp only at hSw); go_simp; first | done | with_reducible rfl) hS ?_
          (try simp only [Act.put, List.setIfInBounds_toArray, List.set_cons_zero, List.set_cons_succ])
          refine reg_take 3 (v := ?_) rfl (by kernel_rfl) (by kernel_rfl) (by kernel_rfl) (fun _ _ _ h => h) (by rfl) (by intro w hSw; (try dsimp only at hSw); go_simp; first | done | with_reducible rfl) hS ?_
          (try simp only [Act.put, List.setIfInBounds_toArray, List.set_cons_zero, List.set_cons_succ])
          refine reg_take 5 (v := ?_) rfl (by kernel_rfl) (by kernel_rfl) (by kernel_rfl) (fun _ _ _ h => h) (by rfl) (by intro w hSw; (try dsimp only at hSw); go_simp; first | done | with_reducible rfl) hS ?_
          (try simp only [Act.put, List.setIfInBounds_toArray, List.set_cons_zero, List.set_cons_succ])
          refine reg_take 6 (v := ?_) rfl (by kernel_rfl) (by kernel_rfl) (by kernel_rfl) (fun _ _ _ h => h) (by rfl) (by intro w hSw; (try dsimp only at hSw); go_simp; first | done | with_reducible rfl) hS ?_
          (try simp only [Act.put, List.setIfInBounds_toArray, List.set_cons_zero, List.set_cons_succ])
          refine reg_call 4 rfl (by kernel_rfl) (by rfl) (fun K hK => ?_)
          go_simp
          go_at_call 9
          refine (CT0'.out _ _).mono ?_
          rintro e w' ⟨rfl, hb⟩
          refine hK.out _ _ (KP _ _ hb hS) (fun hS' => ?_)
          clear hK K
          replace hS := hS'
          clear hS'
          (try simp only [Act.put, List.setIfInBounds_toArray, List.set_cons_zero, List.set_cons_succ])
          clear hb
          refine reg_call 7 rfl (by kernel_rfl) (by rfl) (fun K hK => ?_)
          go_simp
          go_at_call 9
          refine (CQ'.out _ _).mono ?_
          rintro e w' ⟨rfl, hb⟩
          refine hK.out _ _ (KP _ _ hb hS) (fun hS' => ?_)
          clear hK K
          replace hS := hS'
          clear hS'
          (try simp only [Act.put, List.setIfInBounds_toArray, List.set_cons_zero, List.set_cons_succ])
          clear hb
          refine reg_take 8 (v := ?_) rfl (by kernel_rfl) (by kernel_rfl) (by kernel_rfl) (fun _ _ _ h => h) (by rfl) (by intro w hSw; (try dsimp only at hSw); go_simp; first | done | with_reducible rfl) hS ?_
          (try simp only [Act.put, List.setIfInBounds_toArray, List.set_cons_zero, List.set_cons_succ])
          refine reg_take 9 (v := ?_) rfl (by kernel_rfl) (by kernel_rfl) (by kernel_rfl) (fun _ _ _ h => h) (by rfl) (by intro w hSw; (try dsimp only at hSw); go_simp; first | done | with_reducible rfl) hS ?_
          (try simp only [Act.put, List.setIfInBounds_toArray, List.set_cons_zero, List.set_cons_succ])
          refine reg_take 10 (v := ?_) rfl (by kernel_rfl) (by kernel_rfl) (by kernel_rfl) (fun _ _ _ h => h) (by rfl) (by intro w hSw; (try dsimp only at hSw); go_simp; first | done | with_reducible rfl) hS ?_
          (try simp only [Act.put, List.setIfInBounds_toArray, List.set_cons_zero, List.set_cons_succ])
          refine reg_take 11 (v := ?_) rfl (by kernel_rfl) (by kernel_rfl) (by kernel_rfl) (fun _ _ _ h => h) (by rfl) (by intro w hSw; (try dsimp only at hSw); go_simp; first | done | with_reducible rfl) hS ?_
          (try simp only [Act.put, List.setIfInBounds_toArray, List.set_cons_zero, List.set_cons_succ])
          refine reg_take 13 (v := ?_) rfl (by kernel_rfl) (by kernel_rfl) (by kernel_rfl) (fun _ _ _ h => h) (by rfl) (by intro w hSw; (try dsimp only at hSw); go_simp; first | done | with_reducible rfl) hS ?_
          (try simp only [Act.put, List.setIfInBounds_toArray, List.set_cons_zero, List.set_cons_succ])
          refine reg_take 15 (v := ?_) rfl (by kernel_rfl) (by kernel_rfl) (by kernel_rfl) (fun _ _ _ h => h) (by rfl) (by intro w hSw; (try dsimp only at hSw); go_simp; first | done | with_reducible rfl) hS ?_
          (try simp only [Act.put, List.setIfInBounds_toArray, List.set_cons_zero, List.set_cons_succ])
          refine reg_pair 12 14 rfl rfl (by kernel_rfl) (by rfl) (by rfl) (fun K hK => ?_) (fun K hK => ?_)
          · go_simp
            go_at_call 9
            refine (CM0'.out _ _).mono ?_
            rintro e w' ⟨rfl, hb⟩
            refine hK.out _ _ (KP _ _ hb hS) (fun hS' => ?_)
            clear hK K
            replace hS := hS'
            clear hS'
            (try simp only [Act.put, List.setIfInBounds_toArray, List.set_cons_zero, List.set_cons_succ])
            clear hb
            refine reg_call 14 rfl (by kernel_rfl) (by rfl) (fun K hK => ?_)
            go_simp
            refine hK.out _ _ (KP _ _ (bel0 _ _) hS) (fun hS' => ?_)
            clear hK K
            replace hS := hS'
            clear hS'
            (try simp only [Act.put, List.setIfInBounds_toArray, List.set_cons_zero, List.set_cons_succ])
            refine reg_take 16 (v := ?_) rfl (by kernel_rfl) (by kernel_rfl) (by kernel_rfl) (fun _ _ _ h => h) (by rfl) (by intro w hSw; (try dsimp only at hSw); go_simp; first | done | with_reducible rfl) hS ?_
            (try simp only [Act.put, List.setIfInBounds_toArray, List.set_cons_zero, List.set_cons_succ])
            refine reg_call 17 rfl (by kernel_rfl) (by rfl) (fun K hK => ?_)
            go_simp
            refine hK.out _ _ hS (fun hS' => ?_)
            clear hK K
            replace hS := hS'
            clear hS'
            (try simp only [Act.put, List.setIfInBounds_toArray, List.set_cons_zero, List.set_cons_succ])
            refine reg_call 18 rfl (by kernel_rfl) (by rfl) (fun K hK => ?_)
            go_simp
            go_at_call 9
            refine (CQ'.out _ _).mono ?_
            rintro e w' ⟨rfl, hb⟩
            refine hK.out _ _ (KP _ _ hb hS) (fun hS' => ?_)
            clear hK K
            replace hS := hS'
            clear hS'
            (try simp only [Act.put, List.setIfInBounds_toArray, List.set_cons_zero, List.set_cons_succ])
            clear hb
            refine reg_take 19 (v := ?_) rfl (by kernel_rfl) (by kernel_rfl) (by kernel_rfl) (fun _ _ _ h => h) (by rfl) (by intro w hSw; (try dsimp only at hSw); go_simp; first | done | with_reducible rfl) hS ?_
            (try simp only [Act.put, List.setIfInBounds_toArray, List.set_cons_zero, List.set_cons_succ])
            refine reg_take 20 (v := ?_) rfl (by kernel_rfl) (by kernel_rfl) (by kernel_rfl) (fun _ _ _ h => h) (by rfl) (by intro w hSw; (try dsimp only at hSw); go_simp; first | done | with_reducible rfl) hS ?_
            (try simp only [Act.put, List.setIfInBounds_toArray, List.set_cons_zero, List.set_cons_succ])
            refine wpAnyH_done (by kernel_rfl) ?_ _
            have hW := Lib.hid (HW.out _ hS)
            clear hS
            go_wp2_with fail
            go_roundw
            case rel => exact ⟨2, by omega, by omega, rfl, hW⟩
            case measure => simp [intOf] <;> omega
          · go_simp
            refine hK.out _ _ (KP _ _ (bel0 _ _) hS) (fun hS' => ?_)
            clear hK K
            replace hS := hS'
            clear hS'
            (try simp only [Act.put, List.setIfInBounds_toArray, List.set_cons_zero, List.set_cons_succ])
            refine reg_take 16 (v := ?_) rfl (by kernel_rfl) (by kernel_rfl) (by kernel_rfl) (fun _ _ _ h => h) (by rfl) (by intro w hSw; (try dsimp only at hSw); go_simp; first | done | with_reducible rfl) hS ?_
            (try simp only [Act.put, List.setIfInBounds_toArray, List.set_cons_zero, List.set_cons_succ])
            refine reg_pair 12 17 rfl rfl (by kernel_rfl) (by rfl) (by rfl) (fun K hK => ?_) (fun K hK => ?_)
            · go_simp
              go_at_call 9
              refine (CM0'.out _ _).mono ?_
              rintro e w' ⟨rfl, hb⟩
              have i9 := idx4 hb
              refine hK.out _ _ (KP _ _ hb hS) (fun hS' => ?_)
              clear hK K
              replace hS := hS'
              clear hS'
              (try simp only [Act.put, List.setIfInBounds_toArray, List.set_cons_zero, List.set_cons_succ])
              clear hb
              refine reg_call 17 rfl (by kernel_rfl) (by rfl) (fun K hK => ?_)
              go_simp
              refine hK.out _ _ hS (fun hS' => ?_)
              clear hK K
              replace hS := hS'
              clear hS'
              (try simp only [Act.put, List.setIfInBounds_toArray, List.set_cons_zero, List.set_cons_succ])
              clear i9
              refine reg_call 18 rfl (by kernel_rfl) (by rfl) (fun K hK => ?_)
              go_simp
              go_at_call 9
              refine (CQ'.out _ _).mono ?_
              rintro e w' ⟨rfl, hb⟩
              refine hK.out _ _ (KP _ _ hb hS) (fun hS' => ?_)
              clear hK K
              replace hS := hS'
              clear hS'
              (try simp only [Act.put, List.setIfInBounds_toArray, List.set_cons_zero, List.set_cons_succ])
              clear hb
              refine reg_take 19 (v := ?_) rfl (by kernel_rfl) (by kernel_rfl) (by kernel_rfl) (fun _ _ _ h => h) (by rfl) (by intro w hSw; (try dsimp only at hSw); go_simp; first | done | with_reducible rfl) hS ?_
              (try simp only [Act.put, List.setIfInBounds_toArray, List.set_cons_zero, List.set_cons_succ])
              refine reg_take 20 (v := ?_) rfl (by kernel_rfl) (by kernel_rfl) (by kernel_rfl) (fun _ _ _ h => h) (by rfl) (by intro w hSw; (try dsimp only at hSw); go_simp; first | done | with_reducible rfl) hS ?_
              (try simp only [Act.put, List.setIfInBounds_toArray, List.set_cons_zero, List.set_cons_succ])
              refine wpAnyH_done (by kernel_rfl) ?_ _
              have hW := Lib.hid (HW.out _ hS)
              clear hS
              go_wp2_with fail
              go_roundw
              case rel => exact ⟨2, by omega, by omega, rfl, hW⟩
              case measure => simp [intOf] <;> omega
            · go_simp
              refine hK.out _ _ hS (fun hS' => ?_)
              clear hK K
              replace hS := hS'
              clear hS'
              (try simp only [Act.put, List.setIfInBounds_toArray, List.set_cons_zero, List.set_cons_succ])
              refine reg_call 12 rfl (by kernel_rfl) (by rfl) (fun K hK => ?_)
              go_simp
              go_at_call 9
              refine (CM0'.out _ _).mono ?_
              rintro e w' ⟨rfl, hb⟩
              refine hK.out _ _ (KP _ _ hb hS) (fun hS' => ?_)
              clear hK K
              replace hS := hS'
              clear hS'
              (try simp only [Act.put, List.setIfInBounds_toArray, List.set_cons_zero, List.set_cons_succ])
              clear hb
              refine reg_call 18 rfl (by kernel_rfl) (by rfl) (fun K hK => ?_)
              go_simp
              go_at_call 9
              refine (CQ'.out _ _).mono ?_
              rintro e w' ⟨rfl, hb⟩
              refine hK.out _ _ (KP _ _ hb hS) (fun hS' => ?_)
              clear hK K
              replace hS := hS'
              clear hS'
              (try simp only [Act.put, List.setIfInBounds_toArray, List.set_cons_zero, List.set_cons_succ])
              clear hb
              refine reg_take 19 (v := ?_) rfl (by kernel_rfl) (by kernel_rfl) (by kernel_rfl) (fun _ _ _ h => h) (by rfl) (by intro w hSw; (try dsimp only at hSw); go_simp; first | done | with_reducible rfl) hS ?_
              (try simp only [Act.put, List.setIfInBounds_toArray, List.set_cons_zero, List.set_cons_succ])
              refine reg_take 20 (v := ?_) rfl (by kernel_rfl) (by kernel_rfl) (by kernel_rfl) (fun _ _ _ h => h) (by rfl) (by intro w hSw; (try dsimp only at hSw); go_simp; first | done | with_reducible rfl) hS ?_
              (try simp only [Act.put, List.setIfInBounds_toArray, List.set_cons_zero, List.set_cons_succ])
              refine wpAnyH_done (by kernel_rfl) ?_ _
              have hW := Lib.hid (HW.out _ hS)
              clear hS
              go_wp2_with fail
              go_roundw
              case rel => exact ⟨2, by omega, by omega, rfl, hW⟩
              case measure => simp [intOf] <;> omega
        · have t1 : (kt ((IntKind.i64.wrap 3).tmod 4) != kq 2) = false := by rw [show (IntKind.i64.wrap 3).tmod 4 = 3 by decide, HT.out.2.2.1]; simp
          have t2 : (km 2 != kq 0) = false := by rw [HM.out.2.2.1]; simp
          clear hlt
          go_wp2_with fail
          clear c0 c1 c2 d0 d1 d2 m0 m1 m2
          (try simp only [List.append_eq, List.cons_append, List.nil_append])
          have hS := S0
          clear S0
          refine reg_begin (fun w' => w'.cell? ⟨w1.heap.size + 1, 0, none⟩ = some (.int .i64 qs) ∧ w'.cell? ⟨w1.heap.size + 1, 1, none⟩ = some (.int .i64 qa) ∧ w'.cell? ⟨w1.heap.size + 1, 2, none⟩ = some (.int .i64 qb) ∧ w'.cell? ⟨w11.heap.size, 0, none⟩ = some (.int .i64 ts) ∧ w'.cell? ⟨w11.heap.size, 1, none⟩ = some (.int .i64 ta) ∧ w'.cell? ⟨w11.heap.size, 2, none⟩ = some (.int .i64 tb) ∧ w'.cell? ⟨w12.heap.size, 0, none⟩ = some (.int .i64 ms) ∧ w'.cell? ⟨w12.heap.size, 1, none⟩ = some (.int .i64 ma) ∧ w'.cell? ⟨w12.heap.size, 2, none⟩ = some (.int .i64 mb) ∧ Pk1 w w.heap.size w1.heap.size w1.heap.size (w1.heap.size + 1) w11.heap.size w12.heap.size n (.slice (some ⟨g, 0, none⟩) xs.length cv) xs ⟨qs, qa, qb⟩ ⟨ts, ta, tb⟩ ⟨ms, ma, mb⟩ w') (by kernel_rfl) hS ?_
          refine reg_take 0 (v := ?_) rfl (by kernel_rfl) (by kernel_rfl) (by kernel_rfl) (fun _ _ _ h => h) (by rfl) (by intro w hSw; (try dsimp only at hSw); go_simp; first | done | with_reducible rfl) hS ?_
          (try simp only [Act.put, List.setIfInBounds_toArray, List.set_cons_zero, List.set_cons_succ])
          refine reg_take 1 (v := ?_) rfl (by kernel_rfl) (by kernel_rfl) (by kernel_rfl) (fun _ _ _ h => h) (by rfl) (by intro w hSw; (try dsimp only at hSw); go_simp; first | done | with_reducible rfl) hS ?_
          (try simp only [Act.put, List.setIfInBounds_toArray, List.set_cons_zero, List.set_cons_succ])
          refine reg_take 2 (v := ?_) rfl (by kernel_rfl) (by kernel_rfl) (by kernel_rfl) (fun _ _ _ h => h) (by rfl) (by intro w hSw; (try dsimp only at hSw); go_simp; first | done | with_reducible rfl) hS ?_
          (try simp only [Act.put, List.setIfInBounds_toArray, List.set_cons_zero, List.set_cons_succ])
          refine reg_take 3 (v := ?_) rfl (by kernel_rfl) (by kernel_rfl) (by kernel_rfl) (fun _ _ _ h => h) (by rfl) (by intro w hSw; (try dsimp only at hSw); go_simp; first | done | with_reducible rfl) hS ?_
          (try simp only [Act.put, List.setIfInBounds_toArray, List.set_cons_zero, List.set_cons_succ])
          refine reg_take 5 (v := ?_) rfl (by kernel_rfl) (by kernel_rfl) (by kernel_rfl) (fun _ _ _ h => h) (by rfl) (by intro w hSw; (try dsimp only at hSw); go_simp; first | done | with_reducible rfl) hS ?_
          (try simp only [Act.put, List.setIfInBounds_toArray, List.set_cons_zero, List.set_cons_succ])
          refine reg_take 6 (v := ?_) rfl (by kernel_rfl) (by kernel_rfl) (by kernel_rfl) (fun _ _ _ h => h) (by rfl) (by intro w hSw; (try dsimp only at hSw); go_simp; first | done | with_reducible rfl) hS ?_
          (try simp only [Act.put, List.setIfInBounds_toArray, List.set_cons_zero, List.set_cons_succ])
          refine reg_call 4 rfl (by kernel_rfl) (by rfl) (fun K hK => ?_)
          go_simp
          go_at_call 9
          refine (CT0'.out _ _).mono ?_
          rintro e w' ⟨rfl, hb⟩
          refine hK.out _ _ (KP _ _ hb hS) (fun hS' => ?_)
          clear hK K
          replace hS := hS'
          clear hS'
          (try simp only [Act.put, List.setIfInBounds_toArray, List.set_cons_zero, List.set_cons_succ])
          clear hb
          refine reg_call 7 rfl (by kernel_rfl) (by rfl) (fun K hK => ?_)
          go_simp
          go_at_call 9
          refine (CQ'.out _ _).mono ?_
          rintro e w' ⟨rfl, hb⟩
          refine hK.out _ _ (KP _ _ hb hS) (fun hS' => ?_)
          clear hK K
          replace hS := hS'
          clear hS'
          (try simp only [Act.put, List.setIfInBounds_toArray, List.set_cons_zero, List.set_cons_succ])
          clear hb
          refine reg_take 8 (v := ?_) rfl (by kernel_rfl) (by kernel_rfl) (by kernel_rfl) (fun _ _ _ h => h) (by rfl) (by intro w hSw; (try dsimp only at hSw); go_simp; first | done | with_reducible rfl) hS ?_
          (try simp only [Act.put, List.setIfInBounds_toArray, List.set_cons_zero, List.set_cons_succ])
          refine reg_take 9 (v := ?_) rfl (by kernel_rfl) (by kernel_rfl) (by kernel_rfl) (fun _ _ _ h => h) (by rfl) (by intro w hSw; (try dsimp only at hSw); go_simp; first | done | with_reducible rfl) hS ?_
          (try simp only [Act.put, List.setIfInBounds_toArray, List.set_cons_zero, List.set_cons_succ])
          refine reg_take 10 (v := ?_) rfl (by kernel_rfl) (by kernel_rfl) (by kernel_rfl) (fun _ _ _ h => h) (by rfl) (by intro w hSw; (try dsimp only at hSw); go_simp; first | done | with_reducible rfl) hS ?_
          (try simp only [Act.put, List.setIfInBounds_toArray, List.set_cons_zero, List.set_cons_succ])
          refine reg_take 11 (v := ?_) rfl (by kernel_rfl) (by kernel_rfl) (by kernel_rfl) (fun _ _ _ h => h) (by rfl) (by intro w hSw; (try dsimp only at hSw); go_simp; first | done | with_reducible rfl) hS ?_
          (try simp only [Act.put, List.setIfInBounds_toArray, List.set_cons_zero, List.set_cons_succ])
          refine reg_take 13 (v := ?_) rfl (by kernel_rfl) (by kernel_rfl) (by kernel_rfl) (fun _ _ _ h => h) (by rfl) (by intro w hSw; (try dsimp only at hSw); go_simp; first | done | with_reducible rfl) hS ?_
          (try simp only [Act.put, List.setIfInBounds_toArray, List.set_cons_zero, List.set_cons_succ])
          refine reg_take 15 (v := ?_) rfl (by kernel_rfl) (by kernel_rfl) (by kernel_rfl) (fun _ _ _ h => h) (by rfl) (by intro w hSw; (try dsimp only at hSw); go_simp; first | done | with_reducible rfl) hS ?_
          (try simp only [Act.put, List.setIfInBounds_toArray, List.set_cons_zero, List.set_cons_succ])
          refine reg_pair 12 14 rfl rfl (by kernel_rfl) (by rfl) (by rfl) (fun K hK => ?_) (fun K hK => ?_)
          · go_simp
            go_at_call 9
            refine (CM0'.out _ _).mono ?_
            rintro e w' ⟨rfl, hb⟩
            refine hK.out _ _ (KP _ _ hb hS) (fun hS' => ?_)
            clear hK K
            replace hS := hS'
            clear hS'
            (try simp only [Act.put, List.setIfInBounds_toArray, List.set_cons_zero, List.set_cons_succ])
            clear hb
            refine reg_call 14 rfl (by kernel_rfl) (by rfl) (fun K hK => ?_)
            go_simp
            refine hK.out _ _ (KP _ _ (bel0 _ _) hS) (fun hS' => ?_)
            clear hK K
            replace hS := hS'
            clear hS'
            (try simp only [Act.put, List.setIfInBounds_toArray, List.set_cons_zero, List.set_cons_succ])
            refine reg_take 16 (v := ?_) rfl (by kernel_rfl) (by kernel_rfl) (by kernel_rfl) (fun _ _ _ h => h) (by rfl) (by intro w hSw; (try dsimp only at hSw); go_simp; first | done | with_reducible rfl) hS ?_
            (try simp only [Act.put, List.setIfInBounds_toArray, List.set_cons_zero, List.set_cons_succ])
            refine reg_call 17 rfl (by kernel_rfl) (by rfl) (fun K hK => ?_)
            go_simp
            refine hK.out _ _ hS (fun hS' => ?_)
            clear hK K
            replace hS := hS'
            clear hS'
            (try simp only [Act.put, List.setIfInBounds_toArray, List.set_cons_zero, List.set_cons_succ])
            refine reg_call 18 rfl (by kernel_rfl) (by rfl) (fun K hK => ?_)
            go_simp
            go_at_call 9
            refine (CQ'.out _ _).mono ?_
            rintro e w' ⟨rfl, hb⟩
            refine hK.out _ _ (KP _ _ hb hS) (fun hS' => ?_)
            clear hK K
            replace hS := hS'
            clear hS'
            (try simp only [Act.put, List.setIfInBounds_toArray, List.set_cons_zero, List.set_cons_succ])
            clear hb
            refine reg_take 19 (v := ?_) rfl (by kernel_rfl) (by kernel_rfl) (by kernel_rfl) (fun _ _ _ h => h) (by rfl) (by intro w hSw; (try dsimp only at hSw); go_simp; first | done | with_reducible rfl) hS ?_
            (try simp only [Act.put, List.setIfInBounds_toArray, List.set_cons_zero, List.set_cons_succ])
            refine reg_take 20 (v := ?_) rfl (by kernel_rfl) (by kernel_rfl) (by kernel_rfl) (fun _ _ _ h => h) (by rfl) (by intro w hSw; (try dsimp only at hSw); go_simp; first | done | with_reducible rfl) hS ?_
            (try simp only [Act.put, List.setIfInBounds_toArray, List.set_cons_zero, List.set_cons_succ])
            refine wpAnyH_done (by kernel_rfl) ?_ _
            have hW := Lib.hid (HW.out _ hS)
            clear hS
            go_wp2_with fail
            go_roundw
            case rel => exact ⟨3, by omega, by omega, rfl, hW⟩
            case measure => simp [intOf] <;> omega
          · go_simp
            refine hK.out _ _ (KP _ _ (bel0 _ _) hS) (fun hS' => ?_)
            clear hK K
            replace hS := hS'
            clear hS'
            (try simp only [Act.put, List.setIfInBounds_toArray, List.set_cons_zero, List.set_cons_succ])
            refine reg_take 16 (v := ?_) rfl (by kernel_rfl) (by kernel_rfl) (by kernel_rfl) (fun _ _ _ h => h) (by rfl) (by intro w hSw; (try dsimp only at hSw); go_simp; first | done | with_reducible rfl) hS ?_
            (try simp only [Act.put, List.setIfInBounds_toArray, List.set_cons_zero, List.set_cons_succ])
            refine reg_pair 12 17 rfl rfl (by kernel_rfl) (by rfl) (by rfl) (fun K hK => ?_) (fun K hK => ?_)
            · go_simp
              go_at_call 9
              refine (CM0'.out _ _).mono ?_
              rintro e w' ⟨rfl, hb⟩
              have i9 := idx4 hb
              refine hK.out _ _ (KP _ _ hb hS) (fun hS' => ?_)
              clear hK K
              replace hS := hS'
              clear hS'
              (try simp only [Act.put, List.setIfInBounds_toArray, List.set_cons_zero, List.set_cons_succ])
              clear hb
              refine reg_call 17 rfl (by kernel_rfl) (by rfl) (fun K hK => ?_)
              go_simp
              refine hK.out _ _ hS (fun hS' => ?_)
              clear hK K
              replace hS := hS'
              clear hS'
              (try simp only [Act.put, List.setIfInBounds_toArray, List.set_cons_zero, List.set_cons_succ])
              clear i9
              refine reg_call 18 rfl (by kernel_rfl) (by rfl) (fun K hK => ?_)
              go_simp
              go_at_call 9
              refine (CQ'.out _ _).mono ?_
              rintro e w' ⟨rfl, hb⟩
              refine hK.out _ _ (KP _ _ hb hS) (fun hS' => ?_)
              clear hK K
              replace hS := hS'
              clear hS'
              (try simp only [Act.put, List.setIfInBounds_toArray, List.set_cons_zero, List.set_cons_succ])
              clear hb
              refine reg_take 19 (v := ?_) rfl (by kernel_rfl) (by kernel_rfl) (by kernel_rfl) (fun _ _ _ h => h) (by rfl) (by intro w hSw; (try dsimp only at hSw); go_simp; first | done | with_reducible rfl) hS ?_
              (try simp only [Act.put, List.setIfInBounds_toArray, List.set_cons_zero, List.set_cons_succ])
              refine reg_take 20 (v := ?_) rfl (by kernel_rfl) (by kernel_rfl) (by kernel_rfl) (fun _ _ _ h => h) (by rfl) (by intro w hSw; (try dsimp only at hSw); go_simp; first | done | with_reducible rfl) hS ?_
              (try simp only [Act.put, List.setIfInBounds_toArray, List.set_cons_zero, List.set_cons_succ])
              refine wpAnyH_done (by kernel_rfl) ?_ _
              have hW := Lib.hid (HW.out _ hS)
              clear hS
              go_wp2_with fail
              go_roundw
              case rel => exact ⟨3, by omega, by omega, rfl, hW⟩
              case measure => simp [intOf] <;> omega
            · go_simp
              refine hK.out _ _ hS (fun hS' => ?_)
              clear hK K
              replace hS := hS'
              clear hS'
              (try simp only [Act.put, List.setIfInBounds_toArray, List.set_cons_zero, List.set_cons_succ])
              refine reg_call 12 rfl (by kernel_rfl) (by rfl) (fun K hK => ?_)
              go_simp
              go_at_call 9
              refine (CM0'.out _ _).mono ?_
              rintro e w' ⟨rfl, hb⟩
              refine hK.out _ _ (KP _ _ hb hS) (fun hS' => ?_)
              clear hK K
              replace hS := hS'
              clear hS'
              (try simp only [Act.put, List.setIfInBounds_toArray, List.set_cons_zero, List.set_cons_succ])
              clear hb
              refine reg_call 18 rfl (by kernel_rfl) (by rfl) (fun K hK => ?_)
              go_simp
              go_at_call 9
              refine (CQ'.out _ _).mono ?_
              rintro e w' ⟨rfl, hb⟩
              refine hK.out _ _ (KP _ _ hb hS) (fun hS' => ?_)
              clear hK K
              replace hS := hS'
              clear hS'
              (try simp only [Act.put, List.setIfInBounds_toArray, List.set_cons_zero, List.set_cons_succ])
              clear hb
              refine reg_take 19 (v := ?_) rfl (by kernel_rfl) (by kernel_rfl) (by kernel_rfl) (fun _ _ _ h => h) (by rfl) (by intro w hSw; (try dsimp only at hSw); go_simp; first | done | with_reducible rfl) hS ?_
              (try simp only [Act.put, List.setIfInBounds_toArray, List.set_cons_zero, List.set_cons_succ])
              refine reg_take 20 (v := ?_) rfl (by kernel_rfl) (by kernel_rfl) (by kernel_rfl) (fun _ _ _ h => h) (by rfl) (by intro w hSw; (try dsimp only at hSw); go_simp; first | done | with_reducible rfl) hS ?_
              (try simp only [Act.put, List.setIfInBounds_toArray, List.set_cons_zero, List.set_cons_succ])
              refine wpAnyH_done (by kernel_rfl) ?_ _
              have hW := Lib.hid (HW.out _ hS)
              clear hS
              go_wp2_with fail
              go_roundw
              case rel => exact ⟨3, by omega, by omega, rfl, hW⟩
              case measure => simp [intOf] <;> omega
        · have t1 : (kt ((IntKind.i64.wrap 4).tmod 4) != kq 3) = false := by rw [show (IntKind.i64.wrap 4).tmod 4 = 0 by decide, HT.out.2.2.2]; simp
          have t2 : (km 3 != kq 3) = false := by rw [HM.out.2.2.2]; simp
          clear hlt
          go_wp2_with fail
          clear c0 c1 c2 d0 d1 d2 m0 m1 m2
          (try simp only [List.append_eq, List.cons_append, List.nil_append])
          have hS := S0
          clear S0
          refine reg_begin (fun w' => w'.cell? ⟨w1.heap.size + 1, 0, none⟩ = some (.int .i64 qs) ∧ w'.cell? ⟨w1.heap.size + 1, 1, none⟩ = some (.int .i64 qa) ∧ w'.cell? ⟨w1.heap.size + 1, 2, none⟩ = some (.int .i64 qb) ∧ w'.cell? ⟨w11.heap.size, 0, none⟩ = some (.int .i64 ts) ∧ w'.cell? ⟨w11.heap.size, 1, none⟩ = some (.int .i64 ta) ∧ w'.cell? ⟨w11.heap.size, 2, none⟩ = some (.int .i64 tb) ∧ w'.cell? ⟨w12.heap.size, 0, none⟩ = some (.int .i64 ms) ∧ w'.cell? ⟨w12.heap.size, 1, none⟩ = some (.int .i64 ma) ∧ w'.cell? ⟨w12.heap.size, 2, none⟩ = some (.int .i64 mb) ∧ Pk1 w w.heap.size w1.heap.size w1.heap.size (w1.heap.size + 1) w11.heap.size w12.heap.size n (.slice (some ⟨g, 0, none⟩) xs.length cv) xs ⟨qs, qa, qb⟩ ⟨ts, ta, tb⟩ ⟨ms, ma, mb⟩ w') (by kernel_rfl) hS ?_
          refine reg_take 0 (v := ?_) rfl (by kernel_rfl) (by kernel_rfl) (by kernel_rfl) (fun _ _ _ h => h) (by rfl) (by intro w hSw; (try dsimp only at hSw); go_simp; first | done | with_reducible rfl) hS ?_
          (try simp only [Act.put, List.setIfInBounds_toArray, List.set_cons_zero, List.set_cons_succ])
          refine reg_take 1 (v := ?_) rfl (by kernel_rfl) (by kernel_rfl) (by kernel_rfl) (fun _ _ _ h => h) (by rfl) (by intro w hSw; (try dsimp only at hSw); go_simp; first | done | with_reducible rfl) hS ?_
          (try simp only [Act.put, List.setIfInBounds_toArray, List.set_cons_zero, List.set_cons_succ])
          refine reg_take 2 (v := ?_) rfl (by kernel_rfl) (by kernel_rfl) (by kernel_rfl) (fun _ _ _ h => h) (by rfl) (by intro w hSw; (try dsimp only at hSw); go_simp; first | done | with_reducible rfl) hS ?_
          (try simp only [Act.put, List.setIfInBounds_toArray, List.set_cons_zero, List.set_cons_succ])
          refine reg_take 3 (v := ?_) rfl (by kernel_rfl) (by kernel_rfl) (by kernel_rfl) (fun _ _ _ h => h) (by rfl) (by intro w hSw; (try dsimp only at hSw); go_simp; first | done | with_reducible rfl) hS ?_
          (try simp only [Act.put, List.setIfInBounds_toArray, List.set_cons_zero, List.set_cons_succ])
          refine reg_take 5 (v := ?_) rfl (by kernel_rfl) (by kernel_rfl) (by kernel_rfl) (fun _ _ _ h => h) (by rfl) (by intro w hSw; (try dsimp only at hSw); go_simp; first | done | with_reducible rfl) hS ?_
          (try simp only [Act.put, List.setIfInBounds_toArray, List.set_cons_zero, List.set_cons_succ])
          refine reg_take 6 (v := ?_) rfl (by kernel_rfl) (by kernel_rfl) (by kernel_rfl) (fun _ _ _ h => h) (by rfl) (by intro w hSw; (try dsimp only at hSw); go_simp; first | done | with_reducible rfl) hS ?_
          (try simp only [Act.put, List.setIfInBounds_toArray, List.set_cons_zero, List.set_cons_succ])
          refine reg_call 4 rfl (by kernel_rfl) (by rfl) (fun K hK => ?_)
          go_simp
          go_at_call 9
          refine (CT0'.out _ _).mono ?_
          rintro e w' ⟨rfl, hb⟩
          refine hK.out _ _ (KP _ _ hb hS) (fun hS' => ?_)
          clear hK K
          replace hS := hS'
          clear hS'
          (try simp only [Act.put, List.setIfInBounds_toArray, List.set_cons_zero, List.set_cons_succ])
          clear hb
          refine reg_call 7 rfl (by kernel_rfl) (by rfl) (fun K hK => ?_)
          go_simp
          go_at_call 9
          refine (CQ'.out _ _).mono ?_
          rintro e w' ⟨rfl, hb⟩
          refine hK.out _ _ (KP _ _ hb hS) (fun hS' => ?_)
          clear hK K
          replace hS := hS'
          clear hS'
          (try simp only [Act.put, List.setIfInBounds_toArray, List.set_cons_zero, List.set_cons_succ])
          clear hb
          refine reg_take 8 (v := ?_) rfl (by kernel_rfl) (by kernel_rfl) (by kernel_rfl) (fun _ _ _ h => h) (by rfl) (by intro w hSw; (try dsimp only at hSw); go_simp; first | done | with_reducible rfl) hS ?_
          (try simp only [Act.put, List.setIfInBounds_toArray, List.set_cons_zero, List.set_cons_succ])
          refine reg_take 9 (v := ?_) rfl (by kernel_rfl) (by kernel_rfl) (by kernel_rfl) (fun _ _ _ h => h) (by rfl) (by intro w hSw; (try dsimp only at hSw); go_simp; first | done | with_reducible rfl) hS ?_
          (try simp only [Act.put, List.setIfInBounds_toArray, List.set_cons_zero, List.set_cons_succ])
          refine reg_take 10 (v := ?_) rfl (by kernel_rfl) (by kernel_rfl) (by kernel_rfl) (fun _ _ _ h => h) (by rfl) (by intro w hSw; (try dsimp only at hSw); go_simp; first | done | with_reducible rfl) hS ?_
          (try simp only [Act.put, List.setIfInBounds_toArray, List.set_cons_zero, List.set_cons_succ])
          refine reg_take 11 (v := ?_) rfl (by kernel_rfl) (by kernel_rfl) (by kernel_rfl) (fun _ _ _ h => h) (by rfl) (by intro w hSw; (try dsimp only at hSw); go_simp; first | done | with_reducible rfl) hS ?_
          (try simp only [Act.put, List.setIfInBounds_toArray, List.set_cons_zero, List.set_cons_succ])
          refine reg_take 13 (v := ?_) rfl (by kernel_rfl) (by kernel_rfl) (by kernel_rfl) (fun _ _ _ h => h) (by rfl) (by intro w hSw; (try dsimp only at hSw); go_simp; first | done | with_reducible rfl) hS ?_
          (try simp only [Act.put, List.setIfInBounds_toArray, List.set_cons_zero, List.set_cons_succ])
          refine reg_take 15 (v := ?_) rfl (by kernel_rfl) (by kernel_rfl) (by kernel_rfl) (fun _ _ _ h => h) (by rfl) (by intro w hSw; (try dsimp only at hSw); go_simp; first | done | with_reducible rfl) hS ?_
          (try simp only [Act.put, List.setIfInBounds_toArray, List.set_cons_zero, List.set_cons_succ])
          refine reg_pair 12 14 rfl rfl (by kernel_rfl) (by rfl) (by rfl) (fun K hK => ?_) (fun K hK => ?_)
          · go_simp
            go_at_call 9
            refine (CM0'.out _ _).mono ?_
            rintro e w' ⟨rfl, hb⟩
            refine hK.out _ _ (KP _ _ hb hS) (fun hS' => ?_)
            clear hK K
            replace hS := hS'
            clear hS'
            (try simp only [Act.put, List.setIfInBounds_toArray, List.set_cons_zero, List.set_cons_succ])
            clear hb
            refine reg_call 14 rfl (by kernel_rfl) (by rfl) (fun K hK => ?_)
            go_simp
            refine hK.out _ _ (KP _ _ (bel0 _ _) hS) (fun hS' => ?_)
            clear hK K
            replace hS := hS'
            clear hS'
            (try simp only [Act.put, List.setIfInBounds_toArray, List.set_cons_zero, List.set_cons_succ])
            refine reg_take 16 (v := ?_) rfl (by kernel_rfl) (by kernel_rfl) (by kernel_rfl) (fun _ _ _ h => h) (by rfl) (by intro w hSw; (try dsimp only at hSw); go_simp; first | done | with_reducible rfl) hS ?_
            (try simp only [Act.put, List.setIfInBounds_toArray, List.set_cons_zero, List.set_cons_succ])
            refine reg_call 17 rfl (by kernel_rfl) (by rfl) (fun K hK => ?_)
            go_simp
            refine hK.out _ _ hS (fun hS' => ?_)
            clear hK K
            replace hS := hS'
            clear hS'
            (try simp only [Act.put, List.setIfInBounds_toArray, List.set_cons_zero, List.set_cons_succ])
            refine reg_call 18 rfl (by kernel_rfl) (by rfl) (fun K hK => ?_)
            go_simp
            go_at_call 9
            refine (CQ'.out _ _).mono ?_
            rintro e w' ⟨rfl, hb⟩
            refine hK.out _ _ (KP _ _ hb hS) (fun hS' => ?_)
            clear hK K
            replace hS := hS'
            clear hS'
            (try simp only [Act.put, List.setIfInBounds_toArray, List.set_cons_zero, List.set_cons_succ])
            clear hb
            refine reg_take 19 (v := ?_) rfl (by kernel_rfl) (by kernel_rfl) (by kernel_rfl) (fun _ _ _ h => h) (by rfl) (by intro w hSw; (try dsimp only at hSw); go_simp; first | done | with_reducible rfl) hS ?_
            (try simp only [Act.put, List.setIfInBounds_toArray, List.set_cons_zero, List.set_cons_succ])
            refine reg_take 20 (v := ?_) rfl (by kernel_rfl) (by kernel_rfl) (by kernel_rfl) (fun _ _ _ h => h) (by rfl) (by intro w hSw; (try dsimp only at hSw); go_simp; first | done | with_reducible rfl) hS ?_
            (try simp only [Act.put, List.setIfInBounds_toArray, List.set_cons_zero, List.set_cons_succ])
            refine wpAnyH_done (by kernel_rfl) ?_ _
            have hW := Lib.hid (HW.out _ hS)
            clear hS
            go_wp2_with fail
            go_roundw
            case rel => exact ⟨4, by omega, by omega, rfl, hW⟩
            case measure => simp [intOf] <;> omega
          · go_simp
            refine hK.out _ _ (KP _ _ (bel0 _ _) hS) (fun hS' => ?_)
            clear hK K
            replace hS := hS'
            clear hS'
            (try simp only [Act.put, List.setIfInBounds_toArray, List.set_cons_zero, List.set_cons_succ])
            refine reg_take 16 (v := ?_) rfl (by kernel_rfl) (by kernel_rfl) (by kernel_rfl) (fun _ _ _ h => h) (by rfl) (by intro w hSw; (try dsimp only at hSw); go_simp; first | done | with_reducible rfl) hS ?_
            (try simp only [Act.put, List.setIfInBounds_toArray, List.set_cons_zero, List.set_cons_succ])
            refine reg_pair 12 17 rfl rfl (by kernel_rfl) (by rfl) (by rfl) (fun K hK => ?_) (fun K hK => ?_)
            · go_simp
              go_at_call 9
              refine (CM0'.out _ _).mono ?_
              rintro e w' ⟨rfl, hb⟩
              have i9 := idx4 hb
              refine hK.out _ _ (KP _ _ hb hS) (fun hS' => ?_)
              clear hK K
              replace hS := hS'
              clear hS'
              (try simp only [Act.put, List.setIfInBounds_toArray, List.set_cons_zero, List.set_cons_succ])
              clear hb
              refine reg_call 17 rfl (by kernel_rfl) (by rfl) (fun K hK => ?_)
              go_simp
              refine hK.out _ _ hS (fun hS' => ?_)
              clear hK K
              replace hS := hS'
              clear hS'
              (try simp only [Act.put, List.setIfInBounds_toArray, List.set_cons_zero, List.set_cons_succ])
              clear i9
              refine reg_call 18 rfl (by kernel_rfl) (by rfl) (fun K hK => ?_)
              go_simp
              go_at_call 9
              refine (CQ'.out _ _).mono ?_
              rintro e w' ⟨rfl, hb⟩
              refine hK.out _ _ (KP _ _ hb hS) (fun hS' => ?_)
              clear hK K
              replace hS := hS'
              clear hS'
              (try simp only [Act.put, List.setIfInBounds_toArray, List.set_cons_zero, List.set_cons_succ])
              clear hb
              refine reg_take 19 (v := ?_) rfl (by kernel_rfl) (by kernel_rfl) (by kernel_rfl) (fun _ _ _ h => h) (by rfl) (by intro w hSw; (try dsimp only at hSw); go_simp; first | done | with_reducible rfl) hS ?_
              (try simp only [Act.put, List.setIfInBounds_toArray, List.set_cons_zero, List.set_cons_succ])
              refine reg_take 20 (v := ?_) rfl (by kernel_rfl) (by kernel_rfl) (by kernel_rfl) (fun _ _ _ h => h) (by rfl) (by intro w hSw; (try dsimp only at hSw); go_simp; first | done | with_reducible rfl) hS ?_
              (try simp only [Act.put, List.setIfInBounds_toArray, List.set_cons_zero, List.set_cons_succ])
              refine wpAnyH_done (by kernel_rfl) ?_ _
              have hW := Lib.hid (HW.out _ hS)
              clear hS
              go_wp2_with fail
              go_roundw
              case rel => exact ⟨4, by omega, by omega, rfl, hW⟩
              case measure => simp [intOf] <;> omega
            · go_simp
              refine hK.out _ _ hS (fun hS' => ?_)
              clear hK K
              replace hS := hS'
              clear hS'
              (try simp only [Act.put, List.setIfInBounds_toArray, List.set_cons_zero, List.set_cons_succ])
              refine reg_call 12 rfl (by kernel_rfl) (by rfl) (fun K hK => ?_)
              go_simp
              go_at_call 9
              refine (CM0'.out _ _).mono ?_
              rintro e w' ⟨rfl, hb⟩
              refine hK.out _ _ (KP _ _ hb hS) (fun hS' => ?_)
              clear hK K
              replace hS := hS'
              clear hS'
              (try simp only [Act.put, List.setIfInBounds_toArray, List.set_cons_zero, List.set_cons_succ])
              clear hb
              refine reg_call 18 rfl (by kernel_rfl) (by rfl) (fun K hK => ?_)
              go_simp
              go_at_call 9
              refine (CQ'.out _ _).mono ?_
              rintro e w' ⟨rfl, hb⟩
              refine hK.out _ _ (KP _ _ hb hS) (fun hS' => ?_)
              clear hK K
              replace hS := hS'
              clear hS'
              (try simp only [Act.put, List.setIfInBounds_toArray, List.set_cons_zero, List.set_cons_succ])
              clear hb
              refine reg_take 19 (v := ?_) rfl (by kernel_rfl) (by kernel_rfl) (by kernel_rfl) (fun _ _ _ h => h) (by rfl) (by intro w hSw; (try dsimp only at hSw); go_simp; first | done | with_reducible rfl) hS ?_
              (try simp only [Act.put, List.setIfInBounds_toArray, List.set_cons_zero, List.set_cons_succ])
              refine reg_take 20 (v := ?_) rfl (by kernel_rfl) (by kernel_rfl) (by kernel_rfl) (fun _ _ _ h => h) (by rfl) (by intro w hSw; (try dsimp only at hSw); go_simp; first | done | with_reducible rfl) hS ?_
              (try simp only [Act.put, List.setIfInBounds_toArray, List.set_cons_zero, List.set_cons_succ])
              refine wpAnyH_done (by kernel_rfl) ?_ _
              have hW := Lib.hid (HW.out _ hS)
              clear hS
              go_wp2_with fail
              go_roundw
              case rel => exact ⟨4, by omega, by omega, rfl, hW⟩
              case measure => simp [intOf] <;> omega
      · obtain rfl : k = 4 := by omega
        clear hk0 hk4 hlt
        obtain ⟨R0r, P0, _, _, _, B⟩ := hpk.out
        have R0 := R0r.1
        have z5 := R0r.2
        clear R0r hpk
        obtain ⟨wo, rfl⟩ : ∃ wo : World, wo = wr := ⟨_, rfl⟩
        obtain ⟨c_P00, c_P01⟩ := id P0
        have HP2 : Hid (Pk2 w w.heap.size w1.heap.size w1.heap.size wo.heap.size n (.slice (some ⟨g, 0, none⟩) xs.length cv) (.slice (some ⟨g, 0, none⟩) xs.length cv) xs (turnK n xs 0) (wo.alloc (.cells #[.int .i64 n, .slice (some ⟨g, 0, none⟩) xs.length cv] 26))) := Lib.hid ⟨Rw.keep ⟨R0, by omega⟩ (bel0 wo (.cells #[.int .i64 n, .slice (some ⟨g, 0, none⟩) xs.length cv] 26)), P0.keep (bel0 wo (.cells #[.int .i64 n, .slice (some ⟨g, 0, none⟩) xs.length cv] 26)), ⟨(R0.below ((bel0 wo (.cells #[.int .i64 n, .slice (some ⟨g, 0, none⟩) xs.length cv] 26)).mono (by omega))).wide (Nat.le_refl _) (by simp; omega), Nat.le_refl _⟩, Two.new wo (.int .i64 n) (.slice (some ⟨g, 0, none⟩) xs.length cv) 26, by go_simp, by go_simp, bel_n B (Nat.le_refl _) (.cells #[.int .i64 n, .slice (some ⟨g, 0, none⟩) xs.length cv] 26)⟩
        have zl : wo.heap.size + 1 ≤ (wo.alloc (.cells #[.int .i64 n, .slice (some ⟨g, 0, none⟩) xs.length cv] 26)).heap.size := by simp
        have ZL := Lib.hid zl
        have zwo.heap.size : w1.heap.size < wo.heap.size := by have := lt_of_cell P0.1; simp at this; omega
        have zwc : w.heap.size ≤ wo.heap.size := by omega
        go_wp2_with fail
        clear c_P00 c_P01 R0 P0 B zl
        go_loopw [9] (fun i wr => ∃ (k : Nat) (v8 : Value), k ≤ 4 ∧ i = .int .i64 k ∧ Hid (Pk2 w w.heap.size w1.heap.size w1.heap.size wo.heap.size n (.slice (some ⟨g, 0, none⟩) xs.length cv) (v8) xs (turnK n xs k) wr) ∧ wo.heap.size + 1 ≤ wr.heap.size) (fun i _ => 4 - (intOf i).toNat)
        case atStart => exact ⟨0, _, Nat.zero_le _, rfl, HP2, ZL.out⟩
        case round =>
          obtain ⟨k, v8, hk, rfl, hpk, hsz⟩ := hrel
          obtain ⟨a8, c8, rfl⟩ := hpk.out.2.2.1.1.form
          have hkl := turnK_length n xs k
          have HBK := Lib.hid (turnK_ok HK.out k)
          clear HP2 ZL
          by_cases hlt : k < 4
          · obtain ⟨ys, hys⟩ : ∃ ys, turnK n xs k = ys := ⟨_, rfl⟩
            have hT1 := (turnB_yes HBK.out).1
            have hT2 : turnB n (turnK n xs k) = turnK n xs (k + 1) := (turnB_yes HBK.out).2.1
            obtain ⟨hs1, hs2⟩ := see_small HK.out hlt
            rw [hys] at hT1 hT2 hs2 hpk HBK
            have HT2 := Lib.hid hT2
            have HT1 := Lib.hid hT1
            have HS1 := Lib.hid hs1
            have HS2 := Lib.hid hs2
            have HYS := Lib.hid hys
            clear hT1 hT2 hs1 hs2 hys hkl
            have KP : ∀ u v, Below u.heap.size u v → (u.cell? ⟨wo.heap.size, 0, none⟩ = some (.int .i64 n) ∧ u.cell? ⟨wo.heap.size, 1, none⟩ = some (.slice a8 ys.length c8) ∧ u.cell? ⟨w1.heap.size, 0, none⟩ = some (.int .i64 n) ∧ u.cell? ⟨w1.heap.size, 1, none⟩ = some (.slice (some ⟨g, 0, none⟩) xs.length cv) ∧ Pk2 w w.heap.size w1.heap.size w1.heap.size wo.heap.size n (.slice (some ⟨g, 0, none⟩) xs.length cv) (.slice a8 ys.length c8) xs ys u) → (v.cell? ⟨wo.heap.size, 0, none⟩ = some (.int .i64 n) ∧ v.cell? ⟨wo.heap.size, 1, none⟩ = some (.slice a8 ys.length c8) ∧ v.cell? ⟨w1.heap.size, 0, none⟩ = some (.int .i64 n) ∧ v.cell? ⟨w1.heap.size, 1, none⟩ = some (.slice (some ⟨g, 0, none⟩) xs.length cv) ∧ Pk2 w w.heap.size w1.heap.size w1.heap.size wo.heap.size n (.slice (some ⟨g, 0, none⟩) xs.length cv) (.slice a8 ys.length c8) xs ys v) := fun u v hb h => ⟨kept hb h.1, kept hb h.2.1, kept hb h.2.2.1, kept hb h.2.2.2.1, h.2.2.2.2.keep hb⟩
            obtain ⟨q0, q1⟩ := id hpk.out.2.2.2.1
            obtain ⟨q2, q3⟩ := id hpk.out.2.1
            have KD : ∀ u : World, (u.cell? ⟨wo.heap.size, 0, none⟩ = some (.int .i64 n) ∧ u.cell? ⟨wo.heap.size, 1, none⟩ = some (.slice a8 ys.length c8) ∧ u.cell? ⟨w1.heap.size, 0, none⟩ = some (.int .i64 n) ∧ u.cell? ⟨w1.heap.size, 1, none⟩ = some (.slice (some ⟨g, 0, none⟩) xs.length cv) ∧ Pk2 w w.heap.size w1.heap.size w1.heap.size wo.heap.size n (.slice (some ⟨g, 0, none⟩) xs.length cv) (.slice a8 ys.length c8) xs ys u) → (u.drew.cell? ⟨wo.heap.size, 0, none⟩ = some (.int .i64 n) ∧ u.drew.cell? ⟨wo.heap.size, 1, none⟩ = some (.slice a8 ys.length c8) ∧ u.drew.cell? ⟨w1.heap.size, 0, none⟩ = some (.int .i64 n) ∧ u.drew.cell? ⟨w1.heap.size, 1, none⟩ = some (.slice (some ⟨g, 0, none⟩) xs.length cv) ∧ Pk2 w w.heap.size w1.heap.size w1.heap.size wo.heap.size n (.slice (some ⟨g, 0, none⟩) xs.length cv) (.slice a8 ys.length c8) xs ys u.drew) := fun u h => KP u u.drew ⟨rfl, rfl, rfl, Nat.le_refl _, fun _ _ => rfl⟩ h
            have S0 := KD _ ⟨q0, q1, q2, q3, hpk.out⟩
            have CSE : Hid (∀ u : World, (u.cell? ⟨wo.heap.size, 0, none⟩ = some (.int .i64 n) ∧ u.cell? ⟨wo.heap.size, 1, none⟩ = some (.slice a8 ys.length c8) ∧ u.cell? ⟨w1.heap.size, 0, none⟩ = some (.int .i64 n) ∧ u.cell? ⟨w1.heap.size, 1, none⟩ = some (.slice (some ⟨g, 0, none⟩) xs.length cv) ∧ Pk2 w w.heap.size w1.heap.size w1.heap.size wo.heap.size n (.slice (some ⟨g, 0, none⟩) xs.length cv) (.slice a8 ys.length c8) xs ys u) → Calls Try.prog 11 #[.agg #[.int .i64 n, .slice (some ⟨g, 0, none⟩) xs.length cv], .int .i64 k] u (FreshB n ys u)) := Lib.hid (fun u h => by have := ImplSeenFrom_any _ _ n (k : Int) _ xs u h.2.2.2.2.1.1 h.2.2.2.2.1.2; rw [HS1.out, HS2.out] at this; exact this)
            have HW : Hid (∀ u : World, (u.cell? ⟨wo.heap.size, 0, none⟩ = some (.int .i64 n) ∧ u.cell? ⟨wo.heap.size, 1, none⟩ = some (.slice a8 ys.length c8) ∧ u.cell? ⟨w1.heap.size, 0, none⟩ = some (.int .i64 n) ∧ u.cell? ⟨w1.heap.size, 1, none⟩ = some (.slice (some ⟨g, 0, none⟩) xs.length cv) ∧ Pk2 w w.heap.size w1.heap.size w1.heap.size wo.heap.size n (.slice (some ⟨g, 0, none⟩) xs.length cv) (.slice a8 ys.length c8) xs ys u) → Pk2 w w.heap.size w1.heap.size w1.heap.size wo.heap.size n (.slice (some ⟨g, 0, none⟩) xs.length cv) (.slice a8 ys.length c8) xs ys u) := Lib.hid (fun u h => h.2.2.2.2)
            go_wp2_with fail
            clear q0 q1 q2 q3 hpk KD
            go_region_held3 (fun w' => w'.cell? ⟨wo.heap.size, 0, none⟩ = some (.int .i64 n) ∧ w'.cell? ⟨wo.heap.size, 1, none⟩ = some (.slice a8 ys.length c8) ∧ w'.cell? ⟨w1.heap.size, 0, none⟩ = some (.int .i64 n) ∧ w'.cell? ⟨w1.heap.size, 1, none⟩ = some (.slice (some ⟨g, 0, none⟩) xs.length cv) ∧ Pk2 w w.heap.size w1.heap.size w1.heap.size wo.heap.size n (.slice (some ⟨g, 0, none⟩) xs.length cv) (.slice a8 ys.length c8) xs ys w') (first | assumption | (refine KP _ _ (by assumption) ?_; assumption) | go_keep)
              ((first
                | (go_at_call 11; refine (CSE.out _ (by assumption)).mono ?_; rintro e us ⟨vs, rfl, R9, hb⟩; obtain ⟨a9, c9, rfl⟩ := R9.form)
                | (go_at_call 10; refine (Same_yes _ _ _ _ n _ _ ys _ (KP _ _ hb (by assumption)).2.2.2.2.2.2.1 ⟨R9, Nat.le_refl _⟩).mono ?_; rintro e us2 ⟨rfl, hb2⟩)))
            have hW := Lib.hid (HW.out _ (by assumption))
            have hz5 := hb.size
            have hz6 := hb2.size
            have hzd : wr.heap.size ≤ wr.drew.heap.size := Nat.le_refl _
            clear CSE HW R9 KP
            obtain ⟨q0, q1⟩ := id hW.out.2.2.2.1
            go_wp2_with fail
            have CTB := Lib.hid (ImplTurnBlock_any _ _ n _ ys _ hW.out.2.2.1.1 (Nat.le_refl _))
            rw [HT1.out, HT2.out] at CTB
            obtain ⟨zs, hzs⟩ : ∃ zs, turnK n xs (k + 1) = zs := ⟨_, rfl⟩
            rw [hzs] at CTB
            have HZS := Lib.hid hzs
            clear hzs
            refine CTB.out.mono ?_
            rintro e ut ⟨vt, rfl, R9, hb3⟩
            obtain ⟨a9, c9, rfl⟩ := R9.form
            have hst := Lib.hid (hW.out.store hb3 R9 (by omega) (by omega) (by omega) zwc)
            have hk3 := hW.out.keep hb3
            obtain ⟨q4, q5⟩ := id hk3.2.2.2.1
            have f4 := hk3.2.2.2.2.1
            have f5 := hk3.2.2.2.2.2.1
            have hz7 := hb3.size
            have HZ9 : Hid (wo.heap.size + 1 ≤ ut.heap.size) := Lib.hid (by omega)
            clear q0 q1 hW hb hb2 hb3 hk3 R9 CTB
            go_wp2_with fail
            clear q4 q5 f4 f5
            go_roundw
            case rel => exact ⟨k + 1, _, by omega, by go_num, by rw [HZS.out]; exact hst, by simp [World.setCell]; exact HZ9.out⟩
            case measure => simp [intOf] <;> omega
          · obtain rfl : k = 4 := by omega
            rw [turnK4 HK.out] at hpk hkl
            clear HBK hlt hk
            obtain ⟨⟨R0, zr0⟩, P0, ⟨R8, _⟩, P8, _, _, B⟩ := hpk.out
            clear hpk hkl
            obtain ⟨es, hes⟩ : ∃ es, mirL n xs = es := ⟨_, rfl⟩
            obtain ⟨fs, hfs⟩ : ∃ fs, turnL n xs = fs := ⟨_, rfl⟩
            obtain ⟨gs, hgs⟩ : ∃ gs, mirL n (turnL n xs) = gs := ⟨_, rfl⟩
            obtain ⟨ts_, hts⟩ : ∃ t, tab xs 6 = t := ⟨_, rfl⟩
            have hE : BlkOk n es := hes ▸ mir_ok HK.out
            have hF : BlkOk n fs := hfs ▸ turn_ok HK.out
            have hG : BlkOk n gs := hgs ▸ mir_ok (turn_ok HK.out)
            have KM1 : Hid (∀ (lo hi : Nat) (v : Value) (u : World), Rw lo hi v xs u → Calls Try.prog 13 #[.agg #[.int .i64 n, v]] u (FreshB n es u)) := Lib.hid (fun lo hi v u h => by
              have := ImplMirrorBlock_any lo hi n v xs u h.1 h.2
              rw [(turnB_yes HK.out).1, (turnB_yes HK.out).2.2, hes] at this
              exact this)
            have KM2 : Hid (∀ (lo hi : Nat) (v : Value) (u : World), Rw lo hi v es u → Calls Try.prog 13 #[.agg #[.int .i64 n, v]] u (FreshB n xs u)) := Lib.hid (fun lo hi v u h => by
              have := ImplMirrorBlock_any lo hi n v es u h.1 h.2
              rw [(turnB_yes hE).1, (turnB_yes hE).2.2, ← hes, mirL2 HK.out] at this
              exact this)
            have KM3 : Hid (∀ (lo hi : Nat) (v : Value) (u : World), Rw lo hi v fs u → Calls Try.prog 13 #[.agg #[.int .i64 n, v]] u (FreshB n gs u)) := Lib.hid (fun lo hi v u h => by
              have := ImplMirrorBlock_any lo hi n v fs u h.1 h.2
              rw [(turnB_yes hF).1, (turnB_yes hF).2.2, ← hfs, hgs] at this
              exact this)
            have KT1 : Hid (∀ (lo hi : Nat) (v : Value) (u : World), Rw lo hi v xs u → Calls Try.prog 12 #[.agg #[.int .i64 n, v]] u (FreshB n fs u)) := Lib.hid (fun lo hi v u h => by
              have := ImplTurnBlock_any lo hi n v xs u h.1 h.2
              rw [(turnB_yes HK.out).1, (turnB_yes HK.out).2.1, hfs] at this
              exact this)
            have KT2 : Hid (∀ (lo hi : Nat) (v : Value) (u : World), Rw lo hi v gs u → Calls Try.prog 12 #[.agg #[.int .i64 n, v]] u (FreshB n es u)) := Lib.hid (fun lo hi v u h => by
              have := ImplTurnBlock_any lo hi n v gs u h.1 h.2
              rw [(turnB_yes hG).1, (turnB_yes hG).2.1, ← hgs, tmtL HK.out, hes] at this
              exact this)
            have KS4 : Hid (∀ (lo hi : Nat) (v : Value) (u : World), Rw lo hi v xs u → Calls Try.prog 11 #[.agg #[.int .i64 n, v], .int .i64 4] u (FreshB n es u)) := Lib.hid (fun lo hi v u h => by
              have := ImplSeenFrom_any lo hi n 4 v xs u h.1 h.2
              rw [(see_four HK.out).1, (see_four HK.out).2, hes] at this
              exact this)
            have KA1 : Hid (∀ (lo hi : Nat) (v : Value) (u : World), Rw lo hi v es u → Calls Try.prog 16 #[.agg #[.int .i64 n, v]] u (FreshI ts_ u)) := Lib.hid (fun lo hi v u h => by
              have := SpecTable_any lo hi n v es u h.1 h.2
              rw [table_yes hE, ← hes, tab_mir HK.out, hts] at this
              exact this)
            have KA2 : Hid (∀ (lo hi : Nat) (v : Value) (u : World), Rw lo hi v xs u → Calls Try.prog 16 #[.agg #[.int .i64 n, v]] u (FreshI ts_ u)) := Lib.hid (fun lo hi v u h => by
              have := SpecTable_any lo hi n v xs u h.1 h.2
              rw [table_yes HK.out, hts] at this
              exact this)
            have HFS := Lib.hid hfs
            clear hes hfs hgs hts hE hF hG
            obtain ⟨c_P00, c_P01⟩ := id P0
            go_wp2_with fail
            clear c_P00 c_P01
            refine (KM1.out _ _ _ _ ⟨R0, by omega⟩).mono ?_
            rintro e w13 ⟨v10, rfl, R10, hb⟩
            obtain ⟨a10, c10, rfl⟩ := R10.form
            have R0_ := R0.below (hb.mono (by omega))
            have P0_ := P0.keep hb
            have R8_ := R8.below (hb.mono (by omega))
            have P8_ := P8.keep hb
            have B_ := bel_c B (Nat.le_refl _) hb
            have zw13 : wr.heap.size ≤ w13.heap.size := by have := hb.size; first | exact this | simpa using this
            clear R0 P0 R8 P8 B
            have R0 := R0_
            have P0 := P0_
            have R8 := R8_
            have P8 := P8_
            have B := B_
            clear R0_ P0_ R8_ P8_ B_ hb
            have NB := bel0 w13 (.cells #[.int .i64 n, .slice a10 es.length c10] 26)
            have R0_ := R0.below (NB.mono (by omega))
            have P0_ := P0.keep NB
            have R8_ := R8.below (NB.mono (by omega))
            have P8_ := P8.keep NB
            have R10_ := R10.below (NB.mono (by omega))
            have B_ := bel_n B (Nat.le_refl _) (.cells #[.int .i64 n, .slice a10 es.length c10] 26)
            clear R0 P0 R8 P8 R10 B
            have R0 := R0_
            have P0 := P0_
            have R8 := R8_
            have P8 := P8_
            have R10 := R10_
            have B := B_
            clear R0_ P0_ R8_ P8_ R10_ B_ NB
            have P10 := Two.new w13 (.int .i64 n) (.slice a10 es.length c10) 26
            have zg10 : w13.heap.size + 1 = (w13.alloc (.cells #[.int .i64 n, .slice a10 es.length c10] 26)).heap.size := by simp
            obtain ⟨c_P00, c_P01⟩ := id P0
            go_upto_region 20 with fail
            generalize (w13.alloc (.cells #[.int .i64 n, .slice a10 es.length c10] 26)) = g2 at *
            have D0 : Below g2.heap.size g2 g2.drew := ⟨rfl, rfl, rfl, Nat.le_refl _, fun _ _ => rfl⟩
            have BD := Lib.hid (bel_c B (Nat.le_refl _) D0)
            have KP : ∀ u v, Below u.heap.size u v → (u.cell? ⟨w1.heap.size, 0, none⟩ = some (.int .i64 n) ∧ u.cell? ⟨w1.heap.size, 1, none⟩ = some (.slice (some ⟨g, 0, none⟩) xs.length cv)) → (v.cell? ⟨w1.heap.size, 0, none⟩ = some (.int .i64 n) ∧ v.cell? ⟨w1.heap.size, 1, none⟩ = some (.slice (some ⟨g, 0, none⟩) xs.length cv)) := fun u v hb h => ⟨kept hb h.1, kept hb h.2⟩
            go_region_held3 (fun w' => w'.cell? ⟨w1.heap.size, 0, none⟩ = some (.int .i64 n) ∧ w'.cell? ⟨w1.heap.size, 1, none⟩ = some (.slice (some ⟨g, 0, none⟩) xs.length cv)) (first | assumption | (refine KP _ _ (by assumption) ?_; assumption) | go_keep)
              ((go_at_call 14; refine (At_any a len cap 0 _ _ (HS.out _ BD.out) (by omega) (by omega)).mono ?_; rintro e w' ⟨X0, X0a, X0b, rfl, rfl⟩))
            have Xr := tmod_in5 X0a n0
            clear BD KP c_P00 c_P01
            generalize X0.tmod n = X at *
            have hb := D0
            clear D0
            have R0_ := R0.below (hb.mono (by omega))
            have P0_ := P0.keep hb
            have R8_ := R8.below (hb.mono (by omega))
            have P8_ := P8.keep hb
            have R10_ := R10.below (hb.mono (by omega))
            have P10_ := P10.keep hb
            have B_ := bel_c B (Nat.le_refl _) hb
            have zg2_drew : g2.heap.size ≤ g2.drew.heap.size := by have := hb.size; first | exact this | simpa using this
            clear R0 P0 R8 P8 R10 P10 B
            have R0 := R0_
            have P0 := P0_
            have R8 := R8_
            have P8 := P8_
            have R10 := R10_
            have P10 := P10_
            have B := B_
            clear R0_ P0_ R8_ P8_ R10_ P10_ B_ hb
            generalize g2.drew = w14 at *
            obtain ⟨c_P00, c_P01⟩ := id P0
            go_upto_region 21 with fail
            have D0 : Below w14.heap.size w14 w14.drew := ⟨rfl, rfl, rfl, Nat.le_refl _, fun _ _ => rfl⟩
            have BD := Lib.hid (bel_c B (Nat.le_refl _) D0)
            have KP : ∀ u v, Below u.heap.size u v → (u.cell? ⟨w1.heap.size, 0, none⟩ = some (.int .i64 n) ∧ u.cell? ⟨w1.heap.size, 1, none⟩ = some (.slice (some ⟨g, 0, none⟩) xs.length cv)) → (v.cell? ⟨w1.heap.size, 0, none⟩ = some (.int .i64 n) ∧ v.cell? ⟨w1.heap.size, 1, none⟩ = some (.slice (some ⟨g, 0, none⟩) xs.length cv)) := fun u v hb h => ⟨kept hb h.1, kept hb h.2⟩
            go_region_held3 (fun w' => w'.cell? ⟨w1.heap.size, 0, none⟩ = some (.int .i64 n) ∧ w'.cell? ⟨w1.heap.size, 1, none⟩ = some (.slice (some ⟨g, 0, none⟩) xs.length cv)) (first | assumption | (refine KP _ _ (by assumption) ?_; assumption) | go_keep)
              ((go_at_call 14; refine (At_any a len cap 1 _ _ (HS.out _ BD.out) (by omega) (by omega)).mono ?_; rintro e w' ⟨Y0, Y0a, Y0b, rfl, rfl⟩))
            have Yr := tmod_in5 Y0a n0
            clear BD KP c_P00 c_P01
            generalize Y0.tmod n = Y at *
            have hb := D0
            clear D0
            have R0_ := R0.below (hb.mono (by omega))
            have P0_ := P0.keep hb
            have R8_ := R8.below (hb.mono (by omega))
            have P8_ := P8.keep hb
            have R10_ := R10.below (hb.mono (by omega))
            have P10_ := P10.keep hb
            have B_ := bel_c B (Nat.le_refl _) hb
            have zw14_drew : w14.heap.size ≤ w14.drew.heap.size := by have := hb.size; first | exact this | simpa using this
            clear R0 P0 R8 P8 R10 P10 B
            have R0 := R0_
            have P0 := P0_
            have R8 := R8_
            have P8 := P8_
            have R10 := R10_
            have P10 := P10_
            have B := B_
            clear R0_ P0_ R8_ P8_ R10_ P10_ B_ hb
            generalize w14.drew = w15 at *
            obtain ⟨c_P00, c_P01⟩ := id P0
            go_wp2_with fail
            clear c_P00 c_P01
            refine (KT1.out _ _ _ _ ⟨R0, by omega⟩).mono ?_
            rintro e w16 ⟨v13, rfl, R13, hb⟩
            obtain ⟨a13, c13, rfl⟩ := R13.form
            have R0_ := R0.below (hb.mono (by omega))
            have P0_ := P0.keep hb
            have R8_ := R8.below (hb.mono (by omega))
            have P8_ := P8.keep hb
            have R10_ := R10.below (hb.mono (by omega))
            have P10_ := P10.keep hb
            have B_ := bel_c B (Nat.le_refl _) hb
            have zw16 : w15.heap.size ≤ w16.heap.size := by have := hb.size; first | exact this | simpa using this
            clear R0 P0 R8 P8 R10 P10 B
            have R0 := R0_
            have P0 := P0_
            have R8 := R8_
            have P8 := P8_
            have R10 := R10_
            have P10 := P10_
            have B := B_
            clear R0_ P0_ R8_ P8_ R10_ P10_ B_ hb
            have NB := bel0 w16 (.cells #[.int .i64 n, .slice a13 fs.length c13] 26)
            have R0_ := R0.below (NB.mono (by omega))
            have P0_ := P0.keep NB
            have R8_ := R8.below (NB.mono (by omega))
            have P8_ := P8.keep NB
            have R10_ := R10.below (NB.mono (by omega))
            have P10_ := P10.keep NB
            have R13_ := R13.below (NB.mono (by omega))
            have B_ := bel_n B (Nat.le_refl _) (.cells #[.int .i64 n, .slice a13 fs.length c13] 26)
            clear R0 P0 R8 P8 R10 P10 R13 B
            have R0 := R0_
            have P0 := P0_
            have R8 := R8_
            have P8 := P8_
            have R10 := R10_
            have P10 := P10_
            have R13 := R13_
            have B := B_
            clear R0_ P0_ R8_ P8_ R10_ P10_ R13_ B_ NB
            have P13 := Two.new w16 (.int .i64 n) (.slice a13 fs.length c13) 26
            have zg13 : w16.heap.size + 1 = (w16.alloc (.cells #[.int .i64 n, .slice a13 fs.length c13] 26)).heap.size := by simp
            obtain ⟨c_P00, c_P01⟩ := id P0
            obtain ⟨c_P80, c_P81⟩ := id P8
            obtain ⟨c_P100, c_P101⟩ := id P10
            obtain ⟨c_P130, c_P131⟩ := id P13
            go_upto_region 23 with fail
            generalize (w16.alloc (.cells #[.int .i64 n, .slice a13 fs.length c13] 26)) = g3 at *
            have hin : InB n X Y := ⟨Xr, Yr⟩
            have hct := cAt_turn HK.out hin
            rw [HFS.out] at hct
            have hck := cAt_ok HK.out hin
            obtain ⟨q2, hq2⟩ : ∃ q2, cAt n xs X Y = q2 := ⟨_, rfl⟩
            obtain ⟨qz, hqz⟩ : ∃ qz, turnC q2 = qz := ⟨_, rfl⟩
            rw [hq2] at hck
            rw [hq2, hqz] at hct
            have KC1 : Hid (∀ (lo hi : Nat) (v : Value) (u : World), Rw lo hi v fs u → Calls Try.prog 17 #[.agg #[.int .i64 n, v], .int .i64 (n - 1 - Y), .int .i64 X] u (fun e w' => e = .returned (.agg #[.int .i64 qz.s, .int .i64 qz.a, .int .i64 qz.b]) ∧ Below u.heap.size u w')) := Lib.hid (fun lo hi v u h => by
              have := SpecCellAt_any lo hi n (n - 1 - Y) X v fs u h.1 h.2
              rw [hct] at this
              exact this)
            have KC2 : Hid (∀ (lo hi : Nat) (v : Value) (u : World), Rw lo hi v xs u → Calls Try.prog 17 #[.agg #[.int .i64 n, v], .int .i64 X, .int .i64 Y] u (fun e w' => e = .returned (.agg #[.int .i64 q2.s, .int .i64 q2.a, .int .i64 q2.b]) ∧ Below u.heap.size u w')) := Lib.hid (fun lo hi v u h => by
              have := SpecCellAt_any lo hi n X Y v xs u h.1 h.2
              rw [hq2] at this
              exact this)
            have KTC : Hid (∀ u : World, Calls Try.prog 18 #[.agg #[.int .i64 q2.s, .int .i64 q2.a, .int .i64 q2.b]] u (fun e w' => e = .returned (.agg #[.int .i64 qz.s, .int .i64 qz.a, .int .i64 qz.b]) ∧ Below u.heap.size u w')) := Lib.hid (fun u => by
              have := SpecTurnCell_any q2.s q2.a q2.b u
              rw [show turnZ ⟨q2.s, q2.a, q2.b⟩ = qz from (if_pos hck).trans hqz] at this
              exact this)
            clear hin hct hck hq2 hqz HFS
            obtain ⟨qs2, qa2, qb2⟩ := q2
            obtain ⟨zs, za_, zb⟩ := qz
            dsimp only at KC1 KC2 KTC
            have hw5 : IntKind.i64.wrap (n - 1) = n - 1 := by rw [IntKind.wrap_i64]; omega
            have hw6 : IntKind.i64.wrap (n - 1 - Y) = n - 1 - Y := by rw [IntKind.wrap_i64]; omega
            obtain ⟨l0, h0, RR0⟩ : ∃ l h, Rw l h (.slice (some ⟨g, 0, none⟩) xs.length cv) xs g3 := ⟨_, _, R0, by omega⟩
            obtain ⟨l8, h8, RR8⟩ : ∃ l h, Rw l h (.slice a8 xs.length c8) xs g3 := ⟨_, _, R8, by omega⟩
            obtain ⟨l10, h10, RR10⟩ : ∃ l h, Rw l h (.slice a10 es.length c10) es g3 := ⟨_, _, R10, by omega⟩
            obtain ⟨l13, h13, RR13⟩ : ∃ l h, Rw l h (.slice a13 fs.length c13) fs g3 := ⟨_, _, R13, by omega⟩
            have KP : ∀ u v, Below u.heap.size u v → (u.cell? ⟨w1.heap.size, 0, none⟩ = some (.int .i64 n) ∧ u.cell? ⟨w1.heap.size, 1, none⟩ = some (.slice (some ⟨g, 0, none⟩) xs.length cv) ∧ u.cell? ⟨wo.heap.size, 0, none⟩ = some (.int .i64 n) ∧ u.cell? ⟨wo.heap.size, 1, none⟩ = some (.slice a8 xs.length c8) ∧ u.cell? ⟨w13.heap.size, 0, none⟩ = some (.int .i64 n) ∧ u.cell? ⟨w13.heap.size, 1, none⟩ = some (.slice a10 es.length c10) ∧ u.cell? ⟨w16.heap.size, 0, none⟩ = some (.int .i64 n) ∧ u.cell? ⟨w16.heap.size, 1, none⟩ = some (.slice a13 fs.length c13) ∧ Rw l0 h0 (.slice (some ⟨g, 0, none⟩) xs.length cv) xs u ∧ Rw l8 h8 (.slice a8 xs.length c8) xs u ∧ Rw l10 h10 (.slice a10 es.length c10) es u ∧ Rw l13 h13 (.slice a13 fs.length c13) fs u ∧ Below w.heap.size w u) → (v.cell? ⟨w1.heap.size, 0, none⟩ = some (.int .i64 n) ∧ v.cell? ⟨w1.heap.size, 1, none⟩ = some (.slice (some ⟨g, 0, none⟩) xs.length cv) ∧ v.cell? ⟨wo.heap.size, 0, none⟩ = some (.int .i64 n) ∧ v.cell? ⟨wo.heap.size, 1, none⟩ = some (.slice a8 xs.length c8) ∧ v.cell? ⟨w13.heap.size, 0, none⟩ = some (.int .i64 n) ∧ v.cell? ⟨w13.heap.size, 1, none⟩ = some (.slice a10 es.length c10) ∧ v.cell? ⟨w16.heap.size, 0, none⟩ = some (.int .i64 n) ∧ v.cell? ⟨w16.heap.size, 1, none⟩ = some (.slice a13 fs.length c13) ∧ Rw l0 h0 (.slice (some ⟨g, 0, none⟩) xs.length cv) xs v ∧ Rw l8 h8 (.slice a8 xs.length c8) xs v ∧ Rw l10 h10 (.slice a10 es.length c10) es v ∧ Rw l13 h13 (.slice a13 fs.length c13) fs v ∧ Below w.heap.size w v) := fun u v hb h => ⟨kept hb h.1, kept hb h.2.1, kept hb h.2.2.1, kept hb h.2.2.2.1, kept hb h.2.2.2.2.1, kept hb h.2.2.2.2.2.1, kept hb h.2.2.2.2.2.2.1, kept hb h.2.2.2.2.2.2.2.1, h.2.2.2.2.2.2.2.2.1.keep hb, h.2.2.2.2.2.2.2.2.2.1.keep hb, h.2.2.2.2.2.2.2.2.2.2.1.keep hb, h.2.2.2.2.2.2.2.2.2.2.2.1.keep hb, bel_c h.2.2.2.2.2.2.2.2.2.2.2.2 (Nat.le_refl _) hb⟩
            have D0 : Below g3.heap.size g3 g3.drew := ⟨rfl, rfl, rfl, Nat.le_refl _, fun _ _ => rfl⟩
            have S0 : g3.drew.cell? ⟨w1.heap.size, 0, none⟩ = some (.int .i64 n) ∧ g3.drew.cell? ⟨w1.heap.size, 1, none⟩ = some (.slice (some ⟨g, 0, none⟩) xs.length cv) ∧ g3.drew.cell? ⟨wo.heap.size, 0, none⟩ = some (.int .i64 n) ∧ g3.drew.cell? ⟨wo.heap.size, 1, none⟩ = some (.slice a8 xs.length c8) ∧ g3.drew.cell? ⟨w13.heap.size, 0, none⟩ = some (.int .i64 n) ∧ g3.drew.cell? ⟨w13.heap.size, 1, none⟩ = some (.slice a10 es.length c10) ∧ g3.drew.cell? ⟨w16.heap.size, 0, none⟩ = some (.int .i64 n) ∧ g3.drew.cell? ⟨w16.heap.size, 1, none⟩ = some (.slice a13 fs.length c13) ∧ Rw l0 h0 (.slice (some ⟨g, 0, none⟩) xs.length cv) xs g3.drew ∧ Rw l8 h8 (.slice a8 xs.length c8) xs g3.drew ∧ Rw l10 h10 (.slice a10 es.length c10) es g3.drew ∧ Rw l13 h13 (.slice a13 fs.length c13) fs g3.drew ∧ Below w.heap.size w g3.drew := KP g3 g3.drew D0 ⟨c_P00, c_P01, c_P80, c_P81, c_P100, c_P101, c_P130, c_P131, RR0, RR8, RR10, RR13, B⟩
            have H0 : Hid (∀ u : World, (u.cell? ⟨w1.heap.size, 0, none⟩ = some (.int .i64 n) ∧ u.cell? ⟨w1.heap.size, 1, none⟩ = some (.slice (some ⟨g, 0, none⟩) xs.length cv) ∧ u.cell? ⟨wo.heap.size, 0, none⟩ = some (.int .i64 n) ∧ u.cell? ⟨wo.heap.size, 1, none⟩ = some (.slice a8 xs.length c8) ∧ u.cell? ⟨w13.heap.size, 0, none⟩ = some (.int .i64 n) ∧ u.cell? ⟨w13.heap.size, 1, none⟩ = some (.slice a10 es.length c10) ∧ u.cell? ⟨w16.heap.size, 0, none⟩ = some (.int .i64 n) ∧ u.cell? ⟨w16.heap.size, 1, none⟩ = some (.slice a13 fs.length c13) ∧ Rw l0 h0 (.slice (some ⟨g, 0, none⟩) xs.length cv) xs u ∧ Rw l8 h8 (.slice a8 xs.length c8) xs u ∧ Rw l10 h10 (.slice a10 es.length c10) es u ∧ Rw l13 h13 (.slice a13 fs.length c13) fs u ∧ Below w.heap.size w u) → Rw l0 h0 (.slice (some ⟨g, 0, none⟩) xs.length cv) xs u) := Lib.hid (fun u h => h.2.2.2.2.2.2.2.2.1)
            have H8 : Hid (∀ u : World, (u.cell? ⟨w1.heap.size, 0, none⟩ = some (.int .i64 n) ∧ u.cell? ⟨w1.heap.size, 1, none⟩ = some (.slice (some ⟨g, 0, none⟩) xs.length cv) ∧ u.cell? ⟨wo.heap.size, 0, none⟩ = some (.int .i64 n) ∧ u.cell? ⟨wo.heap.size, 1, none⟩ = some (.slice a8 xs.length c8) ∧ u.cell? ⟨w13.heap.size, 0, none⟩ = some (.int .i64 n) ∧ u.cell? ⟨w13.heap.size, 1, none⟩ = some (.slice a10 es.length c10) ∧ u.cell? ⟨w16.heap.size, 0, none⟩ = some (.int .i64 n) ∧ u.cell? ⟨w16.heap.size, 1, none⟩ = some (.slice a13 fs.length c13) ∧ Rw l0 h0 (.slice (some ⟨g, 0, none⟩) xs.length cv) xs u ∧ Rw l8 h8 (.slice a8 xs.length c8) xs u ∧ Rw l10 h10 (.slice a10 es.length c10) es u ∧ Rw l13 h13 (.slice a13 fs.length c13) fs u ∧ Below w.heap.size w u) → Rw l8 h8 (.slice a8 xs.length c8) xs u) := Lib.hid (fun u h => h.2.2.2.2.2.2.2.2.2.1)
            have H10 : Hid (∀ u : World, (u.cell? ⟨w1.heap.size, 0, none⟩ = some (.int .i64 n) ∧ u.cell? ⟨w1.heap.size, 1, none⟩ = some (.slice (some ⟨g, 0, none⟩) xs.length cv) ∧ u.cell? ⟨wo.heap.size, 0, none⟩ = some (.int .i64 n) ∧ u.cell? ⟨wo.heap.size, 1, none⟩ = some (.slice a8 xs.length c8) ∧ u.cell? ⟨w13.heap.size, 0, none⟩ = some (.int .i64 n) ∧ u.cell? ⟨w13.heap.size, 1, none⟩ = some (.slice a10 es.length c10) ∧ u.cell? ⟨w16.heap.size, 0, none⟩ = some (.int .i64 n) ∧ u.cell? ⟨w16.heap.size, 1, none⟩ = some (.slice a13 fs.length c13) ∧ Rw l0 h0 (.slice (some ⟨g, 0, none⟩) xs.length cv) xs u ∧ Rw l8 h8 (.slice a8 xs.length c8) xs u ∧ Rw l10 h10 (.slice a10 es.length c10) es u ∧ Rw l13 h13 (.slice a13 fs.length c13) fs u ∧ Below w.heap.size w u) → Rw l10 h10 (.slice a10 es.length c10) es u) := Lib.hid (fun u h => h.2.2.2.2.2.2.2.2.2.2.1)
            have H13 : Hid (∀ u : World, (u.cell? ⟨w1.heap.size, 0, none⟩ = some (.int .i64 n) ∧ u.cell? ⟨w1.heap.size, 1, none⟩ = some (.slice (some ⟨g, 0, none⟩) xs.length cv) ∧ u.cell? ⟨wo.heap.size, 0, none⟩ = some (.int .i64 n) ∧ u.cell? ⟨wo.heap.size, 1, none⟩ = some (.slice a8 xs.length c8) ∧ u.cell? ⟨w13.heap.size, 0, none⟩ = some (.int .i64 n) ∧ u.cell? ⟨w13.heap.size, 1, none⟩ = some (.slice a10 es.length c10) ∧ u.cell? ⟨w16.heap.size, 0, none⟩ = some (.int .i64 n) ∧ u.cell? ⟨w16.heap.size, 1, none⟩ = some (.slice a13 fs.length c13) ∧ Rw l0 h0 (.slice (some ⟨g, 0, none⟩) xs.length cv) xs u ∧ Rw l8 h8 (.slice a8 xs.length c8) xs u ∧ Rw l10 h10 (.slice a10 es.length c10) es u ∧ Rw l13 h13 (.slice a13 fs.length c13) fs u ∧ Below w.heap.size w u) → Rw l13 h13 (.slice a13 fs.length c13) fs u) := Lib.hid (fun u h => h.2.2.2.2.2.2.2.2.2.2.2.1)
            have HBW : Hid (∀ u : World, (u.cell? ⟨w1.heap.size, 0, none⟩ = some (.int .i64 n) ∧ u.cell? ⟨w1.heap.size, 1, none⟩ = some (.slice (some ⟨g, 0, none⟩) xs.length cv) ∧ u.cell? ⟨wo.heap.size, 0, none⟩ = some (.int .i64 n) ∧ u.cell? ⟨wo.heap.size, 1, none⟩ = some (.slice a8 xs.length c8) ∧ u.cell? ⟨w13.heap.size, 0, none⟩ = some (.int .i64 n) ∧ u.cell? ⟨w13.heap.size, 1, none⟩ = some (.slice a10 es.length c10) ∧ u.cell? ⟨w16.heap.size, 0, none⟩ = some (.int .i64 n) ∧ u.cell? ⟨w16.heap.size, 1, none⟩ = some (.slice a13 fs.length c13) ∧ Rw l0 h0 (.slice (some ⟨g, 0, none⟩) xs.length cv) xs u ∧ Rw l8 h8 (.slice a8 xs.length c8) xs u ∧ Rw l10 h10 (.slice a10 es.length c10) es u ∧ Rw l13 h13 (.slice a13 fs.length c13) fs u ∧ Below w.heap.size w u) → Below w.heap.size w u) := Lib.hid (fun u h => h.2.2.2.2.2.2.2.2.2.2.2.2)
            clear R0 R8 R10 R13 RR0 RR8 RR10 RR13 P0 P8 P10 P13 B D0 HT HM CTC CMC CQ' CT0' CM0' c_P00 c_P01 c_P80 c_P81 c_P100 c_P101 c_P130 c_P131
            go_region_held3 (fun w' => w'.cell? ⟨w1.heap.size, 0, none⟩ = some (.int .i64 n) ∧ w'.cell? ⟨w1.heap.size, 1, none⟩ = some (.slice (some ⟨g, 0, none⟩) xs.length cv) ∧ w'.cell? ⟨wo.heap.size, 0, none⟩ = some (.int .i64 n) ∧ w'.cell? ⟨wo.heap.size, 1, none⟩ = some (.slice a8 xs.length c8) ∧ w'.cell? ⟨w13.heap.size, 0, none⟩ = some (.int .i64 n) ∧ w'.cell? ⟨w13.heap.size, 1, none⟩ = some (.slice a10 es.length c10) ∧ w'.cell? ⟨w16.heap.size, 0, none⟩ = some (.int .i64 n) ∧ w'.cell? ⟨w16.heap.size, 1, none⟩ = some (.slice a13 fs.length c13) ∧ Rw l0 h0 (.slice (some ⟨g, 0, none⟩) xs.length cv) xs w' ∧ Rw l8 h8 (.slice a8 xs.length c8) xs w' ∧ Rw l10 h10 (.slice a10 es.length c10) es w' ∧ Rw l13 h13 (.slice a13 fs.length c13) fs w' ∧ Below w.heap.size w w') (first | assumption | (refine KP _ _ (by assumption) ?_; assumption) | go_keep)
              ((first
                | (go_at_call 10; (with_reducible refine (Same_yes _ _ _ _ n _ _ es _ (Rw.top R5) (H10.out _ (by assumption))).mono ?_); rintro e y4 ⟨rfl, hb⟩)
                | (go_at_call 10; (with_reducible refine (Same_yes _ _ _ _ n _ _ es _ (Rw.top R2) (H10.out _ (by assumption))).mono ?_); rintro e y3 ⟨rfl, hb⟩; clear R2)
                | (go_at_call 10; (with_reducible refine (Same_yes _ _ _ _ n _ _ xs _ (Rw.top R1) (H0.out _ (by assumption))).mono ?_); rintro e y2 ⟨rfl, hb⟩; clear R1)
                | (go_at_call 10; (with_reducible refine (Same_yes _ _ _ _ n _ _ xs _ (H8.out _ (by assumption)) (H0.out _ (by assumption))).mono ?_); rintro e y1 ⟨rfl, hb⟩)
                | (go_at_call 13; (with_reducible refine (KM2.out _ _ _ _ (H10.out _ (by assumption))).mono ?_); rintro e u1 ⟨v1, rfl, R1, hb⟩; obtain ⟨b1, d1, rfl⟩ := R1.form)
                | (go_at_call 13; (with_reducible refine (KM3.out _ _ _ _ (H13.out _ (by assumption))).mono ?_); rintro e u4 ⟨v4, rfl, R4, hb⟩; obtain ⟨b4, d4, rfl⟩ := R4.form)
                | (go_at_call 11; (with_reducible refine (KS4.out _ _ _ _ (H0.out _ (by assumption))).mono ?_); rintro e u2 ⟨v2, rfl, R2, hb⟩; obtain ⟨b2, d2, rfl⟩ := R2.form)
                | (go_at_call 12; (with_reducible refine (KT2.out _ _ _ _ (Rw.top R4)).mono ?_); rintro e u5 ⟨v5, rfl, R5, hb⟩; obtain ⟨b5, d5, rfl⟩ := R5.form; clear R4)
                | (go_at_call 16; (with_reducible refine (KA1.out _ _ _ _ (H10.out _ (by assumption))).mono ?_); rintro e x1 ⟨i1, rfl, I1, hb⟩; obtain ⟨j1, k1, rfl⟩ := I1.form)
                | (go_at_call 16; (with_reducible refine (KA2.out _ _ _ _ (H0.out _ (by assumption))).mono ?_); rintro e x2 ⟨i2, rfl, I2, hb⟩; obtain ⟨j2, k2, rfl⟩ := I2.form; have I3 := I1.below hb; have zi := hb.size; clear I1)
                | (go_at_call 15; refine (SameInts_any _ _ _ _ _ _ ts_ _ I3 I2 zi (Nat.le_refl _)).mono ?_; rintro e y6 ⟨rfl, hb⟩; clear I3 I2)
                | (go_at_call 17; (with_reducible refine (KC1.out _ _ _ _ (H13.out _ (by assumption))).mono ?_); rintro e y7 ⟨rfl, hb⟩)
                | (go_at_call 17; (with_reducible refine (KC2.out _ _ _ _ (H0.out _ (by assumption))).mono ?_); rintro e y8 ⟨rfl, hb⟩)
                | (go_at_call 18; refine (KTC.out _).mono ?_; rintro e y9 ⟨rfl, hb⟩)))
            all_goals
              go_wp2_with fail
              go_ret
              exact ⟨rfl, HBW.out _ (by assumption)⟩
  · have hl' : 1048576 < len := by omega
    go_enter Try.func3, Try.ntmps3
    go_wp2_with fail
    refine (Big_yes a len cap w hl hl').mono ?_
    rintro e w' ⟨rfl, rfl⟩
    go_wp2_with fail
    go_ret
    exact ⟨rfl, Below.refl _ _⟩

end Go.Proofs.Ytfidnhhlcdbaeaa
