/- Joins: the program's joins. Joins: the program's joins of any part. Joins: the program's JoinsOf. Joins: the model's JoinsOf. The walk of FnExactJoinsOf. -/
import Derived.Test.YtboahceibeeifaaJnIh
import Derived.Test.YtboahceibeeifaaM2
import Derived.Test.YtboahceibeeifaaCutIc
import Derived.Test.YtboahceibeeifaaLayIc
import Derived.Test.YtboahceibeeifaaCutIk
import Derived.Test.YtboahceibeeifaaWith
import Derived.Test.YtboahceibeeifaaJnSj
import Derived.Test.YtboahceibeeifaaCutIm
import Derived.Test.YtboahceibeeifaaCutIp
import Derived.Deep.RegionLaw
import Derived.Deep.RegionHeld3
import Derived.Deep.DeepCutAuto
import Derived.Test.YtboahceibeeifaaLayS

set_option linter.unusedSimpArgs false
set_option linter.unusedVariables false
namespace Go.Proofs.Ytboahceibeeifaa
open Go.ChangeShapes Go.WideShapes Go.ChangeAt Go.RowKit

theorem Within.thenB {lo hi B : Nat} {u v w : World} (h : Within lo hi u v) (k : Below B v w) (hB : u.heap.size ≤ B) : Within lo hi u w :=
  ⟨k.os.trans h.os, k.tape.trans h.tape, k.output.trans h.output, Nat.le_trans h.size k.size, fun i hi ho => (k.block i (by omega)).trans (h.block i hi ho)⟩
theorem owW {w w' : World} {b e size n lo hi : Nat} {v : Value} {xs : List Value} (h : w.ownsRow b e size v n xs) (hb : Within lo hi w w') (hh : hi ≤ b) : w'.ownsRow b e size v n xs := by
  obtain ⟨h1, h2 | ⟨g, cap, cur, hv, hg, hh', r⟩⟩ := h
  · exact ⟨h1, .inl h2⟩
  · exact ⟨h1, .inr ⟨g, cap, cur, hv, hg, by rw [hb.block g (lt_of_heap hh') (.inr (by omega))]; exact hh', r⟩⟩
/-- Joins are handed back; the number goes on. -/
def JoinI (nb : Nat) (T : Int) (js : List J3) (u : Int) (w : World) (e : Ending) (w' : World) : Prop :=
  ∃ v, e = .returned (.tuple #[v, .int .i64 u]) ∧ OwnJ w.heap.size w' v js ∧ w'.cell? ⟨nb, 0, none⟩ = some (.int .i64 (T + js.length)) ∧ w'.frozen? ⟨nb, 0, none⟩ = false ∧ Within nb (nb + 1) w w'
set_option maxHeartbeats 3200000 in
set_option maxRecDepth 20000 in
theorem IJoins_one (lo hi : Nat) (m n : Int) (v : Value) (xs : List P5) (l t : Int) (lo2 hi2 : Nat) (M N : Int) (vW : Value) (W : List P5) (nb : Nat) (T : Int) (u : Int) (w : World) (r : PatIn lo hi w v xs) (hhi : hi ≤ w.heap.size) (r2 : PatIn lo2 hi2 w vW W) (hhi2 : hi2 ≤ w.heap.size) (hnb : nb < w.heap.size) (hn1 : hi ≤ nb ∨ nb < lo) (hn2 : hi2 ≤ nb ∨ nb < lo2) (lay : LayOk m n xs) (layW : LayOk M N W) (cN : w.cell? ⟨nb, 0, none⟩ = some (.int .i64 T)) (fN : w.frozen? ⟨nb, 0, none⟩ = false) (l0 : 0 ≤ l) (l1 : l + m ≤ 12) (t0 : 0 ≤ t) (t1 : t + n ≤ 12) (hl1 : xs.length = 1) (hu : u = patL M N W l t) (wfW : ∀ c ∈ W, c.Wf) :
    Calls Try.prog 36 #[.agg #[.int .i64 m, .int .i64 n, v, .int .i64 l, .int .i64 t], .agg #[.int .i64 M, .int .i64 N, vW], .pointer (some ⟨nb, 0, none⟩)] w (JoinI nb T [] u w) := by
  obtain ⟨b, cap, rfl⟩ := r.form
  obtain ⟨bW, cW, rfl⟩ := r2.form
  have CP : Hid (∀ q : World, Below w.heap.size w q → Calls Try.prog 59 #[.agg #[.int .i64 M, .int .i64 N, .slice bW W.length cW], .int .i64 l, .int .i64 t] q fun e w' => e = .returned (.int .i64 u) ∧ Below q.heap.size q w') := Lib.hid (fun q hb => by rw [hu]; exact ImplPatchAt_any lo2 hi2 M N _ W l t q (r2.below (hb.mono hhi2)) (Nat.le_trans hhi2 hb.size) wfW)
  have HB0 : Hid (Below w.heap.size w ((w.alloc (.cells #[.int .i64 m, .int .i64 n, .slice b xs.length cap, .int .i64 l, .int .i64 t] 62)).alloc (.cells #[.int .i64 M, .int .i64 N, .slice bW W.length cW] 26))) := Lib.hid (bel_n (bel0 w _) (Nat.le_refl _) _)
  have HN : Hid (w.cell? ⟨nb, 0, none⟩ = some (.int .i64 T) ∧ w.frozen? ⟨nb, 0, none⟩ = false) := Lib.hid ⟨cN, fN⟩
  rw [hl1] at HB0 ⊢
  clear r r2 lay layW hu cN fN
  go_enter Try.func36, Try.ntmps36
  go_wp2_with fail
  refine (args_eqL (CP.out _ HB0.out) (by with_reducible rfl)).mono ?_
  rintro e y ⟨rfl, hb⟩
  have HB1 := Lib.hid (bel_c HB0.out (Nat.le_refl _) hb)
  clear hb HB0 CP
  go_wp2_with fail
  refine bodyPost_ret (v := .tuple #[.slice none 0 0, .int .i64 u]) (by simp [results, Try.results36, go_sem]) rfl ⟨_, rfl, OwnJ.nil _ _, ?_, ?_, Within.of_below HB1.out⟩
  · simpa using kept HB1.out HN.out.1
  · exact keptF HB1.out HN.out.1 HN.out.2

set_option maxHeartbeats 9600000 in
set_option maxRecDepth 20000 in
theorem IJoins_join (lo hi : Nat) (m n : Int) (v : Value) (xs : List P5) (l t : Int) (lo2 hi2 : Nat) (M N : Int) (vW : Value) (W : List P5) (nb : Nat) (T : Int) (c : C2) (rr : List C2) (j1 j2 : List J3) (u1 u2 : Int) (w : World) (r : PatIn lo hi w v xs) (hhi : hi ≤ w.heap.size) (r2 : PatIn lo2 hi2 w vW W) (hhi2 : hi2 ≤ w.heap.size) (hnb : nb < w.heap.size) (hn1 : hi ≤ nb ∨ nb < lo) (hn2 : hi2 ≤ nb ∨ nb < lo2) (lay : LayOk m n xs) (layW : LayOk M N W) (cN : w.cell? ⟨nb, 0, none⟩ = some (.int .i64 T)) (fN : w.frozen? ⟨nb, 0, none⟩ = false) (l0 : 0 ≤ l) (l1 : l + m ≤ 12) (t0 : 0 ≤ t) (t1 : t + n ≤ 12) (hl1 : xs.length ≠ 1) (hcs : cutsL m n xs = c :: rr) (hj1 : j1.length + 1 = (pL1 m n c xs).length) (hj2 : j2.length + 1 = (pL2 m n c xs).length) (T0 : 0 ≤ T) (T1 : T + xs.length ≤ 40)
    (ih1 : ∀ (lo hi : Nat) (v : Value) (lo2 hi2 : Nat) (vW : Value) (w : World), PatIn lo hi w v (pL1 m n c xs) → hi ≤ w.heap.size → PatIn lo2 hi2 w vW W → hi2 ≤ w.heap.size → nb < w.heap.size → (hi ≤ nb ∨ nb < lo) → (hi2 ≤ nb ∨ nb < lo2) → w.cell? ⟨nb, 0, none⟩ = some (.int .i64 T) → w.frozen? ⟨nb, 0, none⟩ = false → Calls Try.prog 36 #[.agg #[.int .i64 (pM1 m c), .int .i64 (pN1 n c), v, .int .i64 l, .int .i64 t], .agg #[.int .i64 M, .int .i64 N, vW], .pointer (some ⟨nb, 0, none⟩)] w (JoinI nb T j1 u1 w))
    (ih2 : ∀ (lo hi : Nat) (v : Value) (lo2 hi2 : Nat) (vW : Value) (w : World), PatIn lo hi w v (pL2 m n c xs) → hi ≤ w.heap.size → PatIn lo2 hi2 w vW W → hi2 ≤ w.heap.size → nb < w.heap.size → (hi ≤ nb ∨ nb < lo) → (hi2 ≤ nb ∨ nb < lo2) → w.cell? ⟨nb, 0, none⟩ = some (.int .i64 (T + j1.length)) → w.frozen? ⟨nb, 0, none⟩ = false → Calls Try.prog 36 #[.agg #[.int .i64 (pM2 m c), .int .i64 (pN2 n c), v, .int .i64 (pX2 c + l), .int .i64 (pY2 c + t)], .agg #[.int .i64 M, .int .i64 N, vW], .pointer (some ⟨nb, 0, none⟩)] w (JoinI nb (T + j1.length) j2 u2 w)) :
    Calls Try.prog 36 #[.agg #[.int .i64 m, .int .i64 n, v, .int .i64 l, .int .i64 t], .agg #[.int .i64 M, .int .i64 N, vW], .pointer (some ⟨nb, 0, none⟩)] w (JoinI nb T (j1 ++ j2 ++ [⟨c.up, u1, u2⟩]) (T + (j1.length + j2.length)) w) := by
  have hc := first_cut hcs
  have hpl := part_len lay hc
  obtain ⟨ij, hij, jz0, jz1, jz2⟩ := info_parts3 info_Jn
  obtain ⟨b, cap, rfl⟩ := r.form
  obtain ⟨bW, cW, rfl⟩ := r2.form
  have hx12 := lay.2.2.1.2
  have hm1 := lay.1.1
  have hn1' := lay.2.1.1
  have hd : ((xs.length : Int) == 1) = false := by simp; omega
  have R2 := Lib.hid r2
  have CC : Hid (∀ u : World, Below w.heap.size w u → Calls Try.prog 60 #[.agg #[.int .i64 m, .int .i64 n, .slice b xs.length cap]] u (FreshCut (c :: rr) u)) := Lib.hid (fun u hb => by rw [← hcs]; exact Cuts_any lo hi m n _ xs u (r.below (hb.mono hhi)) (Nat.le_trans hhi hb.size) lay)
  have CH : Hid (∀ u : World, Below w.heap.size w u → Calls Try.prog 61 #[.agg #[.int .i64 m, .int .i64 n, .slice b xs.length cap, .int .i64 l, .int .i64 t], .agg #[.bool c.up, .int .i64 c.a]] u (HalvesIs m n c l t xs u)) := Lib.hid (fun u hb => Halves_any lo hi m n _ xs l t c.up c.a u (r.below (hb.mono hhi)) (Nat.le_trans hhi hb.size) lay hc l0 (by omega) t0 (by omega))
  have HIH1 := Lib.hid ih1
  have HIH2 := Lib.hid ih2
  obtain ⟨W0, hW0⟩ : ∃ Z, Z = (w.alloc (.cells #[.int .i64 m, .int .i64 n, .slice b xs.length cap, .int .i64 l, .int .i64 t] 62)).alloc (.cells #[.int .i64 M, .int .i64 N, .slice bW W.length cW] 26) := ⟨_, rfl⟩
  have hs0 : W0.heap.size = w.heap.size + 1 + 1 := by rw [hW0]; simp
  have HB0 : Hid (Below w.heap.size w W0) := Lib.hid (by rw [hW0]; exact bel_n (bel0 w _) (Nat.le_refl _) _)
  have B1 : BoxQ w.heap.size m n (.slice b xs.length cap) l t W0 := by rw [hW0]; exact (BoxQ.new w m n (.slice b xs.length cap) l t 62).below (bel0 _ _) (by simp)
  have q0 : W0.cell? ⟨w.heap.size + 1, 0, none⟩ = some (.int .i64 M) := by rw [hW0]; simp
  have q1 : W0.cell? ⟨w.heap.size + 1, 1, none⟩ = some (.int .i64 N) := by rw [hW0]; simp
  have q2 : W0.cell? ⟨w.heap.size + 1, 2, none⟩ = some (.slice bW W.length cW) := by rw [hW0]; simp
  have n0 : W0.cell? ⟨nb, 0, none⟩ = some (.int .i64 T) := kept HB0.out cN
  have g0 : W0.frozen? ⟨nb, 0, none⟩ = false := keptF HB0.out cN fN
  have HB1 := Lib.hid B1
  obtain ⟨⟨b0, b1, b2, b3, b4⟩, _⟩ := B1
  have hWs := hW0.symm
  obtain ⟨up, a⟩ := c
  unfold HalvesIs at CH
  simp only at CH
  clear hW0 r r2 lay layW hc hcs ih1 ih2 cN fN
  obtain ⟨JR, hJR⟩ : ∃ J, J = j1 ++ j2 ++ [(⟨up, u1, u2⟩ : J3)] := ⟨_, rfl⟩
  obtain ⟨UR, hUR⟩ : ∃ U, U = T + ((j1.length : Int) + j2.length) := ⟨_, rfl⟩
  have HJR := Lib.hid hJR
  have HUR := Lib.hid hUR
  rw [show j1 ++ j2 ++ [(⟨(⟨up, a⟩ : C2).up, u1, u2⟩ : J3)] = JR from hJR.symm, ← hUR]
  clear hJR hUR
  generalize pM1 m ⟨up, a⟩ = M1 at *
  generalize pN1 n ⟨up, a⟩ = N1 at *
  generalize pM2 m ⟨up, a⟩ = M2 at *
  generalize pN2 n ⟨up, a⟩ = N2 at *
  generalize pX2 ⟨up, a⟩ + l = X2 at *
  generalize pY2 ⟨up, a⟩ + t = Y2 at *
  generalize pL1 m n ⟨up, a⟩ xs = L1 at *
  generalize pL2 m n ⟨up, a⟩ xs = L2 at *
  go_enter Try.func36, Try.ntmps36
  go_wp2_with fail
  refine (args_eqL (CC.out _ HB0.out) (by with_reducible rfl)).mono ?_
  rintro e y ⟨vc, rfl, RC, hb⟩
  obtain ⟨ac, cc, rfl⟩ := RC.form
  obtain ⟨g, rfl, hg, hg1, ⟨e0, e1⟩, _⟩ := RC.at (Below.refl _ _) (i := 0) (by simp)
  simp only [Nat.zero_mul, Nat.zero_add, List.getD_cons_zero] at e0 e1
  have HBY := Lib.hid (bel_c HB0.out (Nat.le_refl _) hb)
  have BC := bel0 y (.cells #[.bool up, .int .i64 a] 71)
  have HBC := Lib.hid (bel_c HBY.out (Nat.le_refl _) BC)
  have hsy := hb.size
  have B2 := HB1.out.below hb (by omega)
  have B3 := Lib.hid (B2.below BC (by omega))
  obtain ⟨⟨b0', b1', b2', b3', b4'⟩, _⟩ := B3.out
  have k0 : (y.alloc (.cells #[.bool up, .int .i64 a] 71)).cell? ⟨y.heap.size, 0, none⟩ = some (.bool up) := by simp
  have k1 : (y.alloc (.cells #[.bool up, .int .i64 a] 71)).cell? ⟨y.heap.size, 1, none⟩ = some (.int .i64 a) := by simp
  have q0' := kept BC (kept hb q0)
  have q1' := kept BC (kept hb q1)
  have q2' := kept BC (kept hb q2)
  have n0' := kept BC (kept hb n0)
  have g0' := keptF BC (kept hb n0) (keptF hb n0 g0)
  clear b0 b1 b2 b3 b4 q0 q1 q2 n0 g0 hWs hb BC RC HB0 HB1 CC B2 HBY
  go_wp2_with fail
  refine (args_eqL (CH.out _ HBC.out) (by with_reducible rfl)).mono ?_
  rintro e z ⟨v1, v2, k, rfl, RA, RB, hk1, hk2, hb⟩
  obtain ⟨aA, cA, rfl⟩ := RA.form
  obtain ⟨aB, cB, rfl⟩ := RB.form
  have HRA := Lib.hid (RA.below ((bel_n (bel0 z (.cells #[.int .i64 M1, .int .i64 N1, .slice aA L1.length cA, .int .i64 l, .int .i64 t] 62)) (Nat.le_refl _) (.cells #[.int .i64 M2, .int .i64 N2, .slice aB L2.length cB, .int .i64 X2, .int .i64 Y2] 62)).mono hk2))
  have HRB := Lib.hid (RB.below (bel_n (bel0 z (.cells #[.int .i64 M1, .int .i64 N1, .slice aA L1.length cA, .int .i64 l, .int .i64 t] 62)) (Nat.le_refl _) (.cells #[.int .i64 M2, .int .i64 N2, .slice aB L2.length cB, .int .i64 X2, .int .i64 Y2] 62)))
  have HBz := Lib.hid (bel_c HBC.out (Nat.le_refl _) hb)
  have BZ := bel_n (bel0 z (.cells #[.int .i64 M1, .int .i64 N1, .slice aA L1.length cA, .int .i64 l, .int .i64 t] 62)) (Nat.le_refl _) (.cells #[.int .i64 M2, .int .i64 N2, .slice aB L2.length cB, .int .i64 X2, .int .i64 Y2] 62)
  have HBA : Hid (BoxQ z.heap.size M1 N1 (.slice aA L1.length cA) l t ((z.alloc (.cells #[.int .i64 M1, .int .i64 N1, .slice aA L1.length cA, .int .i64 l, .int .i64 t] 62)).alloc (.cells #[.int .i64 M2, .int .i64 N2, .slice aB L2.length cB, .int .i64 X2, .int .i64 Y2] 62))) := Lib.hid ((BoxQ.new z M1 N1 (.slice aA L1.length cA) l t 62).below (bel0 _ _) (by simp))
  have HBB : Hid (BoxQ (z.heap.size + 1) M2 N2 (.slice aB L2.length cB) X2 Y2 ((z.alloc (.cells #[.int .i64 M1, .int .i64 N1, .slice aA L1.length cA, .int .i64 l, .int .i64 t] 62)).alloc (.cells #[.int .i64 M2, .int .i64 N2, .slice aB L2.length cB, .int .i64 X2, .int .i64 Y2] 62))) := Lib.hid (by
    have := BoxQ.new (z.alloc (.cells #[.int .i64 M1, .int .i64 N1, .slice aA L1.length cA, .int .i64 l, .int .i64 t] 62)) M2 N2 (.slice aB L2.length cB) X2 Y2 62
    rwa [show (z.alloc (.cells #[.int .i64 M1, .int .i64 N1, .slice aA L1.length cA, .int .i64 l, .int .i64 t] 62)).heap.size = z.heap.size + 1 by simp] at this)
  have k0z := kept BZ (kept hb k0)
  have q0z := kept BZ (kept hb q0')
  have q1z := kept BZ (kept hb q1')
  have q2z := kept BZ (kept hb q2')
  have n0z := kept BZ (kept hb n0')
  have g0z := keptF BZ (kept hb n0') (keptF hb n0' g0')
  have HZ1 := Lib.hid (bel_c HBz.out (Nat.le_refl _) BZ)
  have hsz := hb.size
  simp at hsz
  have hZs : ((z.alloc (.cells #[.int .i64 M1, .int .i64 N1, .slice aA L1.length cA, .int .i64 l, .int .i64 t] 62)).alloc (.cells #[.int .i64 M2, .int .i64 N2, .slice aB L2.length cB, .int .i64 X2, .int .i64 Y2] 62)).heap.size = z.heap.size + 1 + 1 := by simp
  have hal : (y.alloc (.cells #[.bool up, .int .i64 a] 71)).heap.size = y.heap.size + 1 := by simp
  have R2z := Lib.hid (R2.out.below (HZ1.out.mono hhi2))
  clear b0' b1' b2' b3' b4' q0' q1' q2' n0' g0' k0 k1 hb RA RB BZ HBC CH B3 HBz
  obtain ⟨Z1, hZ1⟩ : ∃ Z, (z.alloc (.cells #[.int .i64 M1, .int .i64 N1, .slice aA L1.length cA, .int .i64 l, .int .i64 t] 62)).alloc (.cells #[.int .i64 M2, .int .i64 N2, .slice aB L2.length cB, .int .i64 X2, .int .i64 Y2] 62) = Z := ⟨_, rfl⟩
  rw [hZ1] at HRA HRB HBA HBB k0z q0z q1z q2z n0z g0z HZ1 hZs R2z
  obtain ⟨⟨b0, b1, b2, b3, b4⟩, _⟩ := HBA.out
  go_wp2_with fail
  refine (args_eqL (HIH1.out _ _ _ _ _ _ Z1 HRA.out (by omega) R2z.out (by omega) (by omega) (.inr (by simp; omega)) hn2 n0z g0z) (by with_reducible rfl)).mono ?_
  rintro e A ⟨vj1, rfl, OJ1, cA1, fA1, WA⟩
  have hjl1 : j1.length ≤ 12 := by omega
  have hjl2 : j2.length ≤ 12 := by omega
  obtain ⟨aj1, cj1, rfl⟩ := (OJ1.row (by omega)).form
  have HOJ1 := Lib.hid OJ1
  have HBBa := Lib.hid (HBB.out.within WA (.inr (by omega)))
  have HRBa := Lib.hid (HRB.out.within WA (.inr (by omega)) (by omega))
  have R2a := Lib.hid (R2z.out.within WA (by omega) (by omega))
  have q0a := WA.cell q0z (.inr (by simp; omega))
  have q1a := WA.cell q1z (.inr (by simp; omega))
  have q2a := WA.cell q2z (.inr (by simp; omega))
  have k0a := WA.cell k0z (.inr (by simp; omega))
  have hsa := WA.size
  have HWA := Lib.hid ((Within.of_below HZ1.out).trans WA)
  clear b0 b1 b2 b3 b4 OJ1 WA HRA HRB HBA HBB k0z q0z q1z q2z n0z g0z R2z hZ1
  obtain ⟨⟨b0, b1, b2, b3, b4⟩, _⟩ := HBBa.out
  go_wp2_with fail
  refine (args_eqL (HIH2.out _ _ _ _ _ _ A HRBa.out (by omega) R2a.out (by omega) (by omega) (.inr (by omega)) hn2 cA1 fA1) (by with_reducible rfl)).mono ?_
  rintro e B ⟨vj2, rfl, OJ2, cB2, fB2, WB⟩
  obtain ⟨aj2, cj2, rfl⟩ := (OJ2.row (by omega)).form
  have HOB : Hid (B.ownsRow Z1.heap.size 40 3 (.slice aj1 j1.length cj1) j1.length (placesJn j1)) := Lib.hid (owW HOJ1.out WB (by omega))
  have HR2 : Hid (RowOf B (.slice aj2 j2.length cj2) j2.length (placesJn j2)) := Lib.hid ((OJ2.row (by omega)).rowOf (Below.refl _ _))
  have k0b := WB.cell k0a (.inr (by simp; omega))
  have hsb := WB.size
  have hsB : Z1.heap.size ≤ B.heap.size := by omega
  have HWB := Lib.hid (HWA.out.trans WB)
  have hp2 := placesJn_length j2
  have ho2 := oneJn j2
  have HCB := Lib.hid cB2
  have HFB := Lib.hid fB2
  clear b0 b1 b2 b3 b4 OJ2 WB HOJ1 HBBa HRBa R2a q0a q1a q2a k0a cA1 fA1 cB2 fB2 HWA
  go_wp2_with (first
    | (at_builtin; refine wpList_append_row rfl _ _ 28 rfl Z1.heap.size 40 ij _ 3 24 Try.underlying28 hij jz0 jz1 jz2 rfl (by decide) _ _ _ rfl HO4.out _ 1 [.bool up, .int .i64 u1, .int .i64 u2] rfl rfl HR4.out (by simp [Value.oneCell']) (by unfold maxLen; omega) (by omega) HS4.out (W2.heap.size + 1) (by simp) ?_; intro v3 W3 own3 grow3 at3; have HB4 := Lib.hid ((bel0 W2 (.cells #[.bool up, .int .i64 u1, .int .i64 u2] 40) |>.mono HS2.out).trans ((Below.refl Z1.heap.size _).grown grow3 HS4.out (ogL HO4.out))); have HO5 : Hid (OwnJ Z1.heap.size W3 v3 (j12 ++ [⟨up, u1, u2⟩])) := Lib.hid (OwnJ.both own3); obtain ⟨a3, c3, hv3⟩ := (HO5.out.row (by simp; omega)).form; have hl3 : (j12 ++ [(⟨up, u1, u2⟩ : J3)]).length = j12.length + 1 := (by simp); rw [hl3] at hv3; subst hv3)
    | (at_builtin; refine wpList_append_row rfl _ _ 28 rfl Z1.heap.size 40 ij _ 3 24 Try.underlying28 hij jz0 jz1 jz2 rfl (by decide) _ _ _ rfl HOB.out _ j2.length (placesJn j2) rfl hp2 HR2.out ho2 (by unfold maxLen; omega) (by omega) hsB (B.heap.size) rfl ?_; intro v2 W1 own2 grow2 at2; have HB3 := Lib.hid ((Below.refl Z1.heap.size _).grown grow2 hsB (ogL HOB.out)); have HO3 : Hid (OwnJ Z1.heap.size W1 v2 (j1 ++ j2)) := Lib.hid (OwnJ.both own2); obtain ⟨j12, hj12⟩ : ∃ j, j = j1 ++ j2 := ⟨_, rfl⟩; have hl12 : j12.length = j1.length + j2.length := (by rw [hj12]; simp); rw [← hj12] at HO3; have HJ12 := Lib.hid hj12; have HL12 := Lib.hid hl12; have hl12' : j12.length ≤ 24 := (by omega); clear hl12 hj12; obtain ⟨a2, c2, hv2⟩ := (HO3.out.row (by omega)).form; subst hv2; have k0y : W1.cell? ⟨y.heap.size, 0, none⟩ = some (.bool up) := (HB3.out.cell (p := ⟨y.heap.size, 0, none⟩) (by simp; omega)).trans k0b; have cNy : W1.cell? ⟨nb, 0, none⟩ = some (.int .i64 (T + j1.length + j2.length)) := (HB3.out.cell (p := ⟨nb, 0, none⟩) (by simp; omega)).trans HCB.out; have fNy : W1.frozen? ⟨nb, 0, none⟩ = false := (HB3.out.frozen (p := ⟨nb, 0, none⟩) (by simp; omega)).trans HFB.out; obtain ⟨W2, hW2⟩ : ∃ V, W1.setCell ⟨nb, 0, none⟩ (.int .i64 (T + j1.length + j2.length + 1)) = V := ⟨_, rfl⟩; have HS2 : Hid (Z1.heap.size ≤ W2.heap.size) := Lib.hid (by rw [← hW2]; have := HB3.out.size; simp [World.setCell]; omega); have HO2 : Hid (OwnJ Z1.heap.size W2 (.slice a2 j12.length c2) j12) := Lib.hid (by rw [← hW2]; exact osL HO3.out (by simp; omega) _); have k0w : W2.cell? ⟨y.heap.size, 0, none⟩ = some (.bool up) := (by rw [← hW2, World.cell?_setCell_other _ _ _ _ (by simp <;> omega)]; exact k0y); have HCW : Hid (W2.cell? ⟨nb, 0, none⟩ = some (.int .i64 (T + j1.length + j2.length + 1)) ∧ W2.frozen? ⟨nb, 0, none⟩ = false) := Lib.hid (by rw [← hW2]; exact ⟨World.cell?_setCell_same _ _ _ cNy, by rw [World.frozen?_setCell]; exact fNy⟩); have HWW : Hid (Within nb (nb + 1) w W2) := Lib.hid (by rw [← hW2]; exact Within.setCell (HWB.out.thenB HB3.out (by omega)) (p := ⟨nb, 0, none⟩) (Nat.le_refl _) (Nat.lt_succ_self _) _); have HO4 : Hid ((W2.alloc (.cells #[.bool up, .int .i64 u1, .int .i64 u2] 40)).ownsRow Z1.heap.size 40 3 (.slice a2 j12.length c2) j12.length (placesJn j12)) := Lib.hid (owL HO2.out (bel0 W2 _)); have HR4 : Hid (RowOf (W2.alloc (.cells #[.bool up, .int .i64 u1, .int .i64 u2] 40)) (.slice (some ⟨W2.heap.size, 0, none⟩) 1 1) 1 [.bool up, .int .i64 u1, .int .i64 u2]) := Lib.hid (.inr ⟨_, _, rfl, newsL W2 W2.heap.size #[.bool up, .int .i64 u1, .int .i64 u2] 40 rfl⟩); have HS4 : Hid (Z1.heap.size ≤ (W2.alloc (.cells #[.bool up, .int .i64 u1, .int .i64 u2] 40)).heap.size) := Lib.hid (by have := HS2.out; simp; omega)))
  refine bodyPost_ret (v := .tuple #[.slice a3 (j12.length + 1) c3, .int .i64 (T + j1.length + j2.length)]) (by simp [results, Try.results36, go_sem]) rfl ⟨.slice a3 (j12.length + 1) c3, ?_, ?_, ?_, ?_, ?_⟩
  · rw [HUR.out, Int.add_assoc]
  · have h9 := HO5.out
    rw [HJ12.out] at h9
    rw [HJR.out, HJ12.out]
    exact h9.wide (by omega)
  · have e9 : T + (JR.length : Int) = T + j1.length + j2.length + 1 := by rw [HJR.out]; simp; omega
    rw [e9]
    exact (HB4.out.cell (p := ⟨nb, 0, none⟩) (by simp; omega)).trans HCW.out.1
  · exact (HB4.out.frozen (p := ⟨nb, 0, none⟩) (by simp; omega)).trans HCW.out.2
  · exact HWW.out.thenB HB4.out (by omega)

end Go.Proofs.Ytboahceibeeifaa

set_option linter.unusedSimpArgs false
set_option linter.unusedVariables false
namespace Go.Proofs.Ytboahceibeeifaa
open Go.ChangeShapes Go.WideShapes Go.ChangeAt Go.RowKit

/-- The program's joins, of a part whose patches lie in the whole. -/
theorem IJoins_is {M N : Int} {W : List P5} (layW : LayOk M N W) (wfW : ∀ c ∈ W, c.Wf) {m n : Int} {xs : List P5} {ns : List Int} {T : Int} {js : List J3} {u : Int} {b : Bool} (h : TreeIs m n xs ns T js u b) :
    ∀ (l t : Int), b = true → Sub W l t xs ns → 0 ≤ l → l + m ≤ 12 → 0 ≤ t → t + n ≤ 12 → 0 ≤ T → T + xs.length ≤ 40 →
    ∀ (lo hi : Nat) (v : Value) (lo2 hi2 : Nat) (vW : Value) (nb : Nat) (w : World), PatIn lo hi w v xs → hi ≤ w.heap.size → PatIn lo2 hi2 w vW W → hi2 ≤ w.heap.size → nb < w.heap.size → (hi ≤ nb ∨ nb < lo) → (hi2 ≤ nb ∨ nb < lo2) → w.cell? ⟨nb, 0, none⟩ = some (.int .i64 T) → w.frozen? ⟨nb, 0, none⟩ = false →
    Calls Try.prog 36 #[.agg #[.int .i64 m, .int .i64 n, v, .int .i64 l, .int .i64 t], .agg #[.int .i64 M, .int .i64 N, vW], .pointer (some ⟨nb, 0, none⟩)] w (JoinI nb T js u w) := by
  induction h with
  | one h hl hn =>
    intro l t hb hs l0 l1 t0 t1 T0 T1 lo hi v lo2 hi2 vW nb w r hhi r2 hhi2 hnb hn1 hn2 cN fN
    exact IJoins_one lo hi _ _ v _ l t lo2 hi2 M N vW W nb _ _ w r hhi r2 hhi2 hnb hn1 hn2 h layW cN fN l0 l1 t0 t1 hl (hs.one h hl layW) wfW
  | knot h hl hn hc => intro l t hb; cases hb
  | @join m n xs ns T c rr j1 j2 u1 u2 b1 b2 h hl hn hc k1 k2 ih1 ih2 =>
    intro l t hb hs l0 l1 t0 t1 T0 T1 lo hi v lo2 hi2 vW nb w r hhi r2 hhi2 hnb hn1 hn2 cN fN
    obtain ⟨e1, e2⟩ : b1 = true ∧ b2 = true := by simpa using hb
    subst e1 e2
    have hc' := first_cut hc
    have hln := part_len h hc'
    have f1 := k1.full rfl
    have f2 := k2.full rfl
    have s1 := hs.left h hc'
    have s2 := hs.right h hc'
    rw [Int.add_comm l, Int.add_comm t] at s2
    have B : l + pM1 m c ≤ 12 ∧ t + pN1 n c ≤ 12 ∧ 0 ≤ pX2 c + l ∧ pX2 c + l + pM2 m c ≤ 12 ∧ 0 ≤ pY2 c + t ∧ pY2 c + t + pN2 n c ≤ 12 := by
      have h1 := cut_in hc'
      obtain ⟨up, a⟩ := c
      cases up <;> simp [pM1, pN1, pM2, pN2, pX2, pY2, endC] at h1 ⊢ <;> omega
    obtain ⟨g1, g2, g3, g4, g5, g6⟩ := B
    have I1 := ih1 l t rfl s1 l0 g1 t0 g2 T0 (by omega)
    have I2 := ih2 (pX2 c + l) (pY2 c + t) rfl s2 g3 g4 g5 g6 (by omega) (by omega)
    exact IJoins_join lo hi m n v xs l t lo2 hi2 M N vW W nb T c rr j1 j2 u1 u2 w r hhi r2 hhi2 hnb hn1 hn2 h layW cN fN l0 l1 t0 t1 hl hc f1 f2 T0 T1
      (fun lo hi v lo2 hi2 vW w => I1 lo hi v lo2 hi2 vW nb w) (fun lo hi v lo2 hi2 vW w => I2 lo hi v lo2 hi2 vW nb w)

end Go.Proofs.Ytboahceibeeifaa

set_option linter.unusedSimpArgs false
set_option linter.unusedVariables false
namespace Go.Proofs.Ytboahceibeeifaa
open Go.ChangeShapes Go.WideShapes Go.ChangeAt Go.RowKit

set_option maxHeartbeats 3200000 in
set_option maxRecDepth 20000 in
theorem ImplJoinsOf_any (lo hi : Nat) (m n : Int) (v : Value) (xs : List P5) (wf : ∀ c ∈ xs, c.Wf) (w : World) (r : PatIn lo hi w v xs) (hhi : hi ≤ w.heap.size) (hlo : lo ≤ w.heap.size) :
    Calls Try.prog 11 #[.agg #[.int .i64 m, .int .i64 n, v]] w (JoinsV (joinsL m n xs) (sewB m n xs) w) := by
  obtain ⟨b, cap, rfl⟩ := r.form
  have R := Lib.hid r
  have hl := r.1
  have HR : Hid (∀ u : World, Below w.heap.size w u → PatIn lo hi u (.slice b xs.length cap) xs ∧ hi ≤ u.heap.size) := Lib.hid (fun u hb => ⟨r.below (hb.mono hhi), Nat.le_trans hhi hb.size⟩)
  have CS : Hid (∀ u : World, Below w.heap.size w u → Calls Try.prog 34 #[.agg #[.int .i64 m, .int .i64 n, .slice b xs.length cap]] u fun e w' => e = .returned (.bool (sewB m n xs)) ∧ Below u.heap.size u w') := Lib.hid (fun u hb => ImplCanSew_any lo hi m n _ xs wf u (HR.out u hb).1 (HR.out u hb).2 (Nat.le_trans hlo hb.size))
  have HB0 : Hid (Below w.heap.size w (w.alloc (.cells #[.int .i64 m, .int .i64 n, .slice b xs.length cap] 26))) := Lib.hid (bel0 w _)
  clear r
  by_cases h : sewB m n xs = false
  · rw [joins_no h]
    rw [h] at CS ⊢
    clear h wf
    go_enter Try.func11, Try.ntmps11
    go_wp2_with fail
    refine (args_eqL (CS.out _ HB0.out) (by with_reducible rfl)).mono ?_
    rintro e w1 ⟨rfl, hb1⟩
    have HBZ := Lib.hid (bel_c HB0.out (Nat.le_refl _) hb1)
    clear hb1
    go_wp2_with fail
    refine bodyPost_ret (v := .tuple #[.slice none 0 0, .bool false]) (by simp [results, Try.results11, go_sem]) rfl ⟨_, rfl, ⟨by simp, .inl ⟨rfl, _, _, rfl⟩⟩, ?_⟩
    exact HBZ.out
  · have h' : sewB m n xs = true := by simpa using h
    have lay := lay_of (sew_layB h')
    have hx1 := lay.2.2.1.1
    have hx12 := lay.2.2.1.2
    have TI := joins_tree h'
    have PA : Hid (∀ u : World, Below w.heap.size w u → Calls Try.prog 35 #[.agg #[.int .i64 m, .int .i64 n, .slice b xs.length cap], .int .i64 0, .int .i64 0, .int .i64 m, .int .i64 n] u (PartIs m n 0 0 xs u)) := Lib.hid (fun u hb => PartAt_any lo hi m n _ xs 0 0 m n u (HR.out u hb).1 (HR.out u hb).2 lay lay.1.1 lay.1.2 lay.2.1.1 lay.2.1.2 (by omega) (by omega) (by omega) (by omega))
    have JI : Hid (∀ (lo1 hi1 : Nat) (v1 : Value) (nb : Nat) (u : World), PatIn lo1 hi1 u v1 xs → hi1 ≤ u.heap.size → Below w.heap.size w u → w.heap.size ≤ nb → nb < u.heap.size → (hi1 ≤ nb ∨ nb < lo1) → u.cell? ⟨nb, 0, none⟩ = some (.int .i64 xs.length) → u.frozen? ⟨nb, 0, none⟩ = false →
        Calls Try.prog 36 #[.agg #[.int .i64 m, .int .i64 n, v1, .int .i64 0, .int .i64 0], .agg #[.int .i64 m, .int .i64 n, .slice b xs.length cap], .pointer (some ⟨nb, 0, none⟩)] u (JoinI nb xs.length (joinsL m n xs) (treeR m n xs).2.1 u)) :=
      Lib.hid (fun lo1 hi1 v1 nb u k1 k2 k3 k4 k5 k6 k7 k8 => IJoins_is lay wf TI 0 0 rfl (Sub.all xs) (by omega) (by have := lay.1.2; omega) (by omega) (by have := lay.2.1.2; omega) (by omega) (by omega) lo1 hi1 v1 lo hi _ nb u k1 k2 (HR.out u k3).1 (HR.out u k3).2 k5 k6 (.inl (by omega)) k7 k8)
    have RS := Lib.hid (restr_all lay)
    have HLJ := TI.full rfl
    generalize (treeR m n xs).2.1 = uu at JI
    clear TI
    generalize joinsL m n xs = JL at *
    rw [h'] at CS ⊢
    clear h h' wf lay
    go_enter Try.func11, Try.ntmps11
    go_wp2_with fail
    refine (args_eqL (CS.out _ HB0.out) (by with_reducible rfl)).mono ?_
    rintro e w1 ⟨rfl, hb1⟩
    have HB1 := Lib.hid (bel_c HB0.out (Nat.le_refl _) hb1)
    have b0 := kept (p := ⟨w.heap.size, 0, none⟩) (x := .int .i64 m) hb1 (by go_simp)
    have b1 := kept (p := ⟨w.heap.size, 1, none⟩) (x := .int .i64 n) hb1 (by go_simp)
    have b2 := kept (p := ⟨w.heap.size, 2, none⟩) (x := .slice b xs.length cap) hb1 (by go_simp)
    have hs1 := hb1.size
    simp at hs1
    clear hb1
    have BG := bel0 w1 (.cells #[.int .i64 (xs.length : Int)] 3)
    have hnG : (w1.alloc (.cells #[.int .i64 (xs.length : Int)] 3)).heap.size = w1.heap.size + 1 := by simp
    have n0 : (w1.alloc (.cells #[.int .i64 (xs.length : Int)] 3)).cell? ⟨w1.heap.size, 0, none⟩ = some (.int .i64 (xs.length : Int)) := by go_simp
    have g0 : (w1.alloc (.cells #[.int .i64 (xs.length : Int)] 3)).frozen? ⟨w1.heap.size, 0, none⟩ = false := by go_simp
    have c0 := kept BG b0
    have c1 := kept BG b1
    have c2 := kept BG b2
    have HBG := bel_c HB1.out (Nat.le_refl _) BG
    clear BG
    go_wp2_with fail
    clear b0 b1 b2
    obtain ⟨G, hG⟩ : ∃ G, w1.alloc (.cells #[.int .i64 (xs.length : Int)] 3) = G := ⟨_, rfl⟩
    rw [hG] at hnG n0 g0 c0 c1 c2 HBG ⊢
    clear hG
    have D0 : Below G.heap.size G G.drew := ⟨rfl, rfl, rfl, Nat.le_refl _, fun _ _ => rfl⟩
    have n0d := kept D0 n0
    have g0d := keptF D0 n0 g0
    have HBD := Lib.hid (bel_c HBG (Nat.le_refl _) D0)
    have hnD : G.drew.heap.size = w1.heap.size + 1 := hnG
    have e0 := kept D0 c0
    have e1 := kept D0 c1
    have e2 := kept D0 c2
    clear D0 HBG
    go_region_law (first
      | (go_simp; go_at_call 35; refine (args_eqL (PA.out _ HBD.out) (by with_reducible rfl)).mono ?_; rintro e y ⟨vp, rfl, RC, hb⟩; rw [RS.out] at RC; obtain ⟨aP, cP, rfl⟩ := RC.form; have RC0 := Lib.hid RC; have HBY := Lib.hid (bel_c HBD.out (Nat.le_refl _) hb); have f0 := kept hb e0; have f1 := kept hb e1; have f2 := kept hb e2; have n1 := kept hb n0d; have g1 := keptF hb n0d g0d; have hsy := hb.size; clear RC hb)
      | (go_simp; go_at_call 36; refine (args_eqL (JI.out _ _ _ _ _ RC0.out (Nat.le_refl _) HBY.out (by omega) (by omega) (.inr (by omega)) n1 g1) (by with_reducible rfl)).mono ?_; rintro e Z ⟨vj, rfl, OJ, cZ, fZ, WZ⟩; obtain ⟨aj, cj, rfl⟩ := (OJ.row (by omega)).form; have HJ := Lib.hid (OJ.row (by omega)); have HZ := Lib.hid (HBY.out.trans ((WZ.below (by omega)).mono (by omega))); have hyz := WZ.size; clear OJ cZ fZ WZ))
    all_goals
      go_wp2_with fail
      refine bodyPost_ret (v := .tuple #[.slice aj JL.length cj, .bool true]) (by simp [results, Try.results11, go_sem]) rfl ⟨_, rfl, HJ.out.wide (by omega) (Nat.le_refl _), HZ.out⟩

end Go.Proofs.Ytboahceibeeifaa

set_option linter.unusedSimpArgs false
set_option linter.unusedVariables false
namespace Go.Proofs.Ytboahceibeeifaa
open Go.ChangeShapes Go.WideShapes Go.ChangeAt Go.RowKit

set_option maxHeartbeats 3200000 in
set_option maxRecDepth 20000 in
theorem SpecJoinsOf_any (lo hi : Nat) (m n : Int) (v : Value) (xs : List P5) (w : World) (r : PatIn lo hi w v xs) (hhi : hi ≤ w.heap.size) :
    Calls Try.prog 18 #[.agg #[.int .i64 m, .int .i64 n, v]] w (JoinsV (joinsL m n xs) (sewB m n xs) w) := by
  obtain ⟨ii, hii, iz0, iz1, iz2⟩ := info_parts3 info_intJ
  obtain ⟨b, cap, rfl⟩ := r.form
  have R := Lib.hid r
  have hl := r.1
  have LK : Hid (∀ u : World, Below w.heap.size w u → Calls Try.prog 37 #[.agg #[.int .i64 m, .int .i64 n, .slice b xs.length cap]] u fun e w' => e = .returned (.bool (layB m n xs)) ∧ Below u.heap.size u w') := Lib.hid (fun u hb => SpecLayoutOk_any lo hi m n _ xs u (r.below (hb.mono hhi)) (Nat.le_trans hhi hb.size))
  have HB0 : Hid (Below w.heap.size w (w.alloc (.cells #[.int .i64 m, .int .i64 n, .slice b xs.length cap] 26))) := Lib.hid (bel0 w _)
  clear r
  by_cases h0 : layB m n xs = true
  · rw [h0] at LK
    have hx12 := (lay_of h0).2.2.1.2
    have hx1 := (lay_of h0).2.2.1.1
    have TI := SpecTree_is (treeR_is h0)
    have HSW := Lib.hid (treeR_sew h0)
    have HJL : Hid ((treeR m n xs).2.2 = true → (treeR m n xs).1 = joinsL m n xs) := Lib.hid (fun h => (joins_yes (by rw [← treeR_sew h0]; exact h)).symm)
    have HJN : Hid ((treeR m n xs).2.2 = false → joinsL m n xs = []) := Lib.hid (fun h => joins_no (by rw [← treeR_sew h0]; exact h))
    obtain ⟨jr, hjr⟩ : ∃ j, j = (treeR m n xs).1 := ⟨_, rfl⟩
    obtain ⟨ur, hur⟩ : ∃ j, j = (treeR m n xs).2.1 := ⟨_, rfl⟩
    obtain ⟨br, hbr⟩ : ∃ j, j = (treeR m n xs).2.2 := ⟨_, rfl⟩
    rw [← hjr, ← hur, ← hbr] at TI
    rw [← hbr] at HSW
    rw [← hbr, ← hjr] at HJL
    rw [← hbr] at HJN
    have HTI := Lib.hid TI
    clear hjr hur hbr TI h0
    generalize joinsL m n xs = JL at HJL HJN
    generalize sewB m n xs = SB at HSW
    have hsb := HSW.out
    subst hsb
    go_enter Try.func18, Try.ntmps18
    go_wp2_with fail
    refine (args_eqL (LK.out _ HB0.out) (by with_reducible rfl)).mono ?_
    rintro e w0 ⟨rfl, hb0⟩
    have a0 := kept (p := ⟨w.heap.size, 0, none⟩) (x := .int .i64 m) hb0 (by go_simp)
    have a1 := kept (p := ⟨w.heap.size, 1, none⟩) (x := .int .i64 n) hb0 (by go_simp)
    have a2 := kept (p := ⟨w.heap.size, 2, none⟩) (x := .slice b xs.length cap) hb0 (by go_simp)
    have HB1 := Lib.hid (bel_c HB0.out (Nat.le_refl _) hb0)
    clear hb0 HB0 LK
    have HO0 : Hid (OwnD w0.heap.size (w0.alloc (.cells #[] 3)) (.slice (some ⟨w0.heap.size, 0, none⟩) 0 0) (numsN 0)) := Lib.hid (by
      have := World.ownsRow_lit (base := w0.heap.size) (e := 3) (size := 1) w0 #[] 0 (Nat.le_refl _) (by decide) rfl
      simpa [OwnD, numsN, ivals] using this)
    have HBX := Lib.hid (bel0 w0 (.cells #[] 3))
    go_wp2_with fail
    go_loopw [4, 5] (fun q i wr => ∃ k : Nat, k ≤ xs.length ∧ i = .int .i64 k ∧ Hid (OwnD w0.heap.size wr q (numsN k)) ∧ Hid (Below w0.heap.size w0 wr)) (fun _ i _ => xs.length - (intOf i).toNat)
    case atStart => exact ⟨0, Nat.zero_le _, rfl, HO0, HBX⟩
    case round =>
      clear HO0 HBX
      obtain ⟨k, hk, rfl, hown, hbel⟩ := hrel
      have c0 := kept hbel.out a0
      have c1 := kept hbel.out a1
      have c2 := kept hbel.out a2
      have hsw := hbel.out.size
      have hkl := numsN_len k
      by_cases hlt : k < xs.length
      · have HN : Hid (numsN (k + 1) = numsN k ++ [(k : Int)]) := Lib.hid (numsN_succ k)
        obtain ⟨N, hN⟩ : ∃ N, N = numsN k := ⟨_, rfl⟩
        rw [← hN] at hown hkl HN
        have BW := bel0 wr (.cells #[.int .i64 k] 3)
        have HQ : Hid ((wr.alloc (.cells #[.int .i64 k] 3)).ownsRow w0.heap.size 3 1 u4 N.length (ivals N)) := Lib.hid (owL hown.out BW)
        have HBD := Lib.hid (bel_c hbel.out (Nat.le_refl _) BW)
        have HSX := Lib.hid HBD.out.size
        have HNW := Lib.hid (newsL wr wr.heap.size #[.int .i64 k] 3 rfl)
        have hkl' : N.length ≤ 12 := by omega
        have HKL := Lib.hid hkl
        clear hN hown hbel BW hkl
        go_wp2_with (at_builtin; refine wpList_append_lies _ rfl _ _ 77 rfl w0.heap.size 3 ii _ 1 8 Try.underlying77 hii iz0 iz1 iz2 rfl (by decide) _ _ _ rfl HQ.out ⟨wr.heap.size, 0, none⟩ 1 1 [.int .i64 k] rfl rfl HNW.out (by simp [Value.oneCell']) (by omega) (by unfold maxLen; omega) (by omega) HSX.out (wr.heap.size + 1) (by simp) ?_; intro gg c5 w5 hown5 hgrow hat hlt5; have hbw := (Below.refl w0.heap.size _).grown hgrow HSX.out (ogL HQ.out))
        have HP5 : Hid (OwnD w0.heap.size w5 (.slice (some ⟨gg, 0, none⟩) (N.length + 1) c5) (numsN (k + 1))) := Lib.hid (by rw [HN.out]; exact OwnD.more hown5)
        have HB5 := Lib.hid (HBD.out.trans hbw)
        clear hown5 hgrow hat hlt5 hbw HQ HNW HSX HBD
        go_wp2_with fail
        go_roundw
        case rel => exact ⟨k + 1, by omega, by go_num, HP5, HB5⟩
        case measure => simp [intOf] <;> omega
      · obtain rfl : k = xs.length := by omega
        have HI := Lib.hid (hown.out.row (by omega))
        obtain ⟨aq, cq, hq⟩ := HI.out.form
        rw [hkl] at hq
        subst hq
        have HBZ := Lib.hid (bel_c HB1.out (Nat.le_refl _) hbel.out)
        clear hown hbel hkl
        go_wp2_with fail
        refine (args_eqL (HTI.out _ _ _ _ _ _ _ (R.out.below (HBZ.out.mono hhi)) (Nat.le_trans hhi HBZ.out.size) HI.out (Nat.le_refl _) (by omega) (by omega)) (by with_reducible rfl)).mono ?_
        rintro e Z ⟨vj, rfl, RJ, hbz⟩
        obtain ⟨aj, cj, rfl⟩ := RJ.form
        have HJ := Lib.hid RJ
        have HBE := Lib.hid (bel_c HBZ.out (Nat.le_refl _) hbz)
        have hwz := HBZ.out.size
        clear RJ hbz c0 c1 c2
        rcases br with _ | _
        · have e1 := HJN.out rfl
          subst e1
          clear HJL HJN
          go_wp2_with fail
          refine bodyPost_ret (v := .tuple #[.slice (some ⟨Z.heap.size, 0, none⟩) 0 0, .bool false]) (by simp [results, Try.results18, go_sem]) rfl ⟨_, rfl, ⟨by simp, .inl ⟨rfl, _, _, rfl⟩⟩, ?_⟩
          exact bel_n HBE.out (Nat.le_refl _) _
        · have e1 := HJL.out rfl
          subst e1
          clear HJL HJN
          go_wp2_with fail
          refine bodyPost_ret (v := .tuple #[.slice aj jr.length cj, .bool true]) (by simp [results, Try.results18, go_sem]) rfl ⟨_, rfl, HJ.out.wide hwz (Nat.le_refl _), HBE.out⟩
  · have h' : layB m n xs = false := by simpa using h0
    rw [h'] at LK
    have hs : sewB m n xs = false := (sew_no_lay h').symm
    rw [joins_no hs, hs]
    clear h0 h' hs
    go_enter Try.func18, Try.ntmps18
    go_wp2_with fail
    refine (args_eqL (LK.out _ HB0.out) (by with_reducible rfl)).mono ?_
    rintro e w0 ⟨rfl, hb0⟩
    have HB1 := Lib.hid (bel_c HB0.out (Nat.le_refl _) hb0)
    clear hb0 HB0 LK
    go_wp2_with fail
    refine bodyPost_ret (v := .tuple #[.slice (some ⟨w0.heap.size, 0, none⟩) 0 0, .bool false]) (by simp [results, Try.results18, go_sem]) rfl ⟨_, rfl, ⟨by simp, .inl ⟨rfl, _, _, rfl⟩⟩, ?_⟩
    exact bel_n HB1.out (Nat.le_refl _) _

end Go.Proofs.Ytboahceibeeifaa

set_option linter.unusedSimpArgs false
set_option linter.unusedVariables false
namespace Go.Proofs.Ytboahceibeeifaa
open Go.ChangeShapes Go.WideShapes Go.ChangeAt Go.RowKit

set_option maxHeartbeats 1000000 in
theorem JoinsLaw_walk (m n : Int) (a : Option Addr) (len cap : Nat) (xs : List P5) (w : World) (x0 : ArgPat w a len xs) (wf : ∀ c ∈ xs, c.Wf) :
    Calls Try.prog 4 #[.agg #[.int .i64 m, .int .i64 n, .slice a len cap]] w fun e w' => e = .returned (.bool true) ∧ Below w.heap.size w w' := by
  have hm : len ≤ 9223372036854775807 := by have := x0.2.1; unfold maxLen at this; omega
  have HA : Hid (∀ W, Below w.heap.size w W → ArgPat W a len xs) := Lib.hid (fun W hb => x0.below hb)
  clear x0
  have CS := fun lo hi v (w : World) (r : PatIn lo hi w v xs) (h : hi ≤ w.heap.size) => SpecJoinsOf_any lo hi m n v xs w r h
  have CI := fun lo hi v (w : World) (r : PatIn lo hi w v xs) (h : hi ≤ w.heap.size) => ImplJoinsOf_any 0 hi m n v xs wf w (PatIn.wide (lo := lo) (hi := hi) r (Nat.zero_le _) (Nat.le_refl _)) h (Nat.zero_le _)
  unfold JoinsV at CS CI
  generalize joinsL m n xs = zs at CS CI
  generalize sewB m n xs = ok at CS CI
  have hq := mkP_pos xs
  have hp := mkJ_pos zs
  by_cases hl : len ≤ 1048576
  · have hs : ¬ ((1048576 : Int) - (len : Int) < 0) := by omega
    have hl' : (len : Int) ≤ 1048576 := by omega
    go_enter Try.func4, Try.ntmps4
    have A0 := Tri.new w (.int .i64 m) (.int .i64 n) (.slice a len cap) 43
    have B := bel0 w (.cells #[.int .i64 m, .int .i64 n, .slice a len cap] 43)
    go_wp2_with fail
    refine (SzL_yes m n a len cap 1048576 _ (by omega) hl').mono ?_
    rintro e w1 ⟨rfl, hb⟩
    have A0_ := A0.keep hb
    have B_ := bel_c B (Nat.le_refl _) hb
    have zw1 : w.heap.size + 1 ≤ w1.heap.size := by have := hb.size; simpa using this
    clear A0 B
    have A0 := A0_
    have B := B_
    clear A0_ B_ hb
    obtain ⟨c_A00, c_A01, c_A02⟩ := id A0
    go_wp2_with fail
    clear c_A00 c_A01 c_A02
    refine (ToLayout_any m n a len cap xs _ (HA.out _ B) hl).mono ?_
    rintro e w2 ⟨v, rfl, R1, hb⟩
    obtain ⟨a1, c1, rfl⟩ := R1.form
    have A0_ := A0.keep hb
    have B_ := bel_c B (Nat.le_refl _) hb
    have zw2 : w1.heap.size ≤ w2.heap.size := by have := hb.size; simpa using this
    clear A0 B
    have A0 := A0_
    have B := B_
    clear A0_ B_ hb
    go_wp2_with fail
    refine (CS _ _ _ _ R1 (by omega)).mono ?_
    rintro e w3 ⟨u1, rfl, I1, hb⟩
    obtain ⟨b1, d1, rfl⟩ := I1.form
    have A0_ := A0.keep hb
    have R1_ := R1.below (hb.mono (by omega))
    have B_ := bel_c B (Nat.le_refl _) hb
    have zw3 : w2.heap.size ≤ w3.heap.size := by have := hb.size; simpa using this
    clear A0 R1 B
    have A0 := A0_
    have R1 := R1_
    have B := B_
    clear A0_ R1_ B_ hb
    clear R1
    obtain ⟨c_A00, c_A01, c_A02⟩ := id A0
    go_wp2_with fail
    clear c_A00 c_A01 c_A02
    refine (ToLayout_any m n a len cap xs _ (HA.out _ B) hl).mono ?_
    rintro e w4 ⟨v, rfl, R2, hb⟩
    obtain ⟨a2, c2, rfl⟩ := R2.form
    have A0_ := A0.keep hb
    have I1_ := I1.below (hb.mono (by omega))
    have B_ := bel_c B (Nat.le_refl _) hb
    have zw4 : w3.heap.size ≤ w4.heap.size := by have := hb.size; simpa using this
    clear A0 I1 B
    have A0 := A0_
    have I1 := I1_
    have B := B_
    clear A0_ I1_ B_ hb
    have NB := bel0 w4 (.cells #[.int .i64 m, .int .i64 n, .slice a2 xs.length c2] 26)
    have A0_ := A0.keep NB
    have I1_ := I1.below (NB.mono (by omega))
    have R2_ := R2.below (NB.mono (by omega))
    have B_ := bel_n B (Nat.le_refl _) (.cells #[.int .i64 m, .int .i64 n, .slice a2 xs.length c2] 26)
    clear A0 I1 R2 B
    have A0 := A0_
    have I1 := I1_
    have R2 := R2_
    have B := B_
    clear A0_ I1_ R2_ B_ NB
    have P2 := Tri.new w4 (.int .i64 m) (.int .i64 n) (.slice a2 xs.length c2) 26
    go_wp2_with fail
    refine (CI _ _ _ _ R2 (by simp)).mono ?_
    rintro e w5 ⟨u2, rfl, I2, hb⟩
    simp at I2
    obtain ⟨b2, d2, rfl⟩ := I2.form
    have A0_ := A0.keep hb
    have I1_ := I1.below (hb.mono (by simp <;> omega))
    have R2_ := R2.below (hb.mono (by simp <;> omega))
    have P2_ := P2.keep hb
    have B_ := bel_c B (Nat.le_refl _) hb
    have zw5 : w4.heap.size + 1 ≤ w5.heap.size := by have := hb.size; simpa using this
    clear A0 I1 R2 P2 B
    have A0 := A0_
    have I1 := I1_
    have R2 := R2_
    have P2 := P2_
    have B := B_
    clear A0_ I1_ R2_ P2_ B_ hb
    go_wp2_with fail
    refine (EqJnS_any _ _ _ _ _ _ zs _ I2 I1 (by omega) (by omega)).mono ?_
    rintro e w6 ⟨rfl, hb⟩
    have A0_ := A0.keep hb
    have I1_ := I1.below (hb.mono (by omega))
    have R2_ := R2.below (hb.mono (by omega))
    have P2_ := P2.keep hb
    have I2_ := I2.below (hb.mono (by omega))
    have B_ := bel_c B (Nat.le_refl _) hb
    have zw6 : w5.heap.size ≤ w6.heap.size := by have := hb.size; simpa using this
    clear A0 I1 R2 P2 I2 B
    have A0 := A0_
    have I1 := I1_
    have R2 := R2_
    have P2 := P2_
    have I2 := I2_
    have B := B_
    clear A0_ I1_ R2_ P2_ I2_ B_ hb
    have D0 : Below w6.heap.size w6 w6.drew := ⟨rfl, rfl, rfl, Nat.le_refl _, fun _ _ => rfl⟩
    have BD := Lib.hid (bel_c B (Nat.le_refl _) D0)
    have RD := Lib.hid (R2.below (D0.mono (by omega)))
    have zR : w4.heap.size ≤ w6.heap.size := by omega
    have KP : ∀ u v, Below u.heap.size u v → (u.cell? ⟨w.heap.size, 0, none⟩ = some (.int .i64 m) ∧ u.cell? ⟨w.heap.size, 1, none⟩ = some (.int .i64 n) ∧ u.cell? ⟨w.heap.size, 2, none⟩ = some (.slice a len cap) ∧ u.cell? ⟨w4.heap.size, 0, none⟩ = some (.int .i64 m) ∧ u.cell? ⟨w4.heap.size, 1, none⟩ = some (.int .i64 n) ∧ u.cell? ⟨w4.heap.size, 2, none⟩ = some (.slice a2 xs.length c2)) → (v.cell? ⟨w.heap.size, 0, none⟩ = some (.int .i64 m) ∧ v.cell? ⟨w.heap.size, 1, none⟩ = some (.int .i64 n) ∧ v.cell? ⟨w.heap.size, 2, none⟩ = some (.slice a len cap) ∧ v.cell? ⟨w4.heap.size, 0, none⟩ = some (.int .i64 m) ∧ v.cell? ⟨w4.heap.size, 1, none⟩ = some (.int .i64 n) ∧ v.cell? ⟨w4.heap.size, 2, none⟩ = some (.slice a2 xs.length c2)) := fun u v hb h => ⟨kept hb h.1, kept hb h.2.1, kept hb h.2.2.1, kept hb h.2.2.2.1, kept hb h.2.2.2.2.1, kept hb h.2.2.2.2.2⟩
    obtain ⟨c_A00, c_A01, c_A02⟩ := id A0
    obtain ⟨c_P20, c_P21, c_P22⟩ := id P2
    go_wp2_with fail
    go_region_held3 (fun w' => w'.cell? ⟨w.heap.size, 0, none⟩ = some (.int .i64 m) ∧ w'.cell? ⟨w.heap.size, 1, none⟩ = some (.int .i64 n) ∧ w'.cell? ⟨w.heap.size, 2, none⟩ = some (.slice a len cap) ∧ w'.cell? ⟨w4.heap.size, 0, none⟩ = some (.int .i64 m) ∧ w'.cell? ⟨w4.heap.size, 1, none⟩ = some (.int .i64 n) ∧ w'.cell? ⟨w4.heap.size, 2, none⟩ = some (.slice a2 xs.length c2)) (first | (refine KP _ _ (by assumption) ?_; assumption) | go_keep)
      ((first
        | (go_at_call 19; refine (ToLayout_any m n a len cap xs _ (HA.out _ BD.out) hl).mono ?_; rintro e w7 ⟨vx, rfl, inx, hbx⟩; have IX := Lib.hid (RD.out.below (hbx.mono zR)); have JX := Lib.hid inx)
        | (go_at_call 21; refine (EqLayout_any _ _ _ _ m n _ _ xs _ IX.out JX.out (Nat.le_trans zR hbx.size) (Nat.le_refl _)).mono ?_; rintro e w8 ⟨rfl, hby⟩)))
    clear c_A00 c_A01 c_A02 c_P20 c_P21 c_P22 IX JX RD BD KP
    have hb : Below w6.heap.size w6 w8 := bel_c (D0.trans hbx) (Nat.le_refl _) hby
    clear D0 hbx hby
    have A0_ := A0.keep hb
    have I1_ := I1.below (hb.mono (by omega))
    have R2_ := R2.below (hb.mono (by omega))
    have P2_ := P2.keep hb
    have I2_ := I2.below (hb.mono (by omega))
    have B_ := bel_c B (Nat.le_refl _) hb
    have zw8 : w6.heap.size ≤ w8.heap.size := by have := hb.size; simpa using this
    clear A0 I1 R2 P2 I2 B
    have A0 := A0_
    have I1 := I1_
    have R2 := R2_
    have P2 := P2_
    have I2 := I2_
    have B := B_
    clear A0_ I1_ R2_ P2_ I2_ B_ hb
    obtain ⟨c_P20, c_P21, c_P22⟩ := id P2
    go_wp2_with fail
    clear c_P20 c_P21 c_P22
    refine (MarkLayout_any _ _ m n _ xs _ R2 (by omega)).mono ?_
    rintro e w9 ⟨rfl, Rm, hw⟩
    clear R2
    have A0_ := A0.within hw (by omega)
    have I1_ := I1.within hw (by omega) (by omega)
    have P2_ := P2.within hw (by omega)
    have I2_ := I2.within hw (by omega) (by omega)
    have B_ := bel_wL B (Nat.le_refl _) hw (by omega)
    have zw9 : w8.heap.size ≤ w9.heap.size := by have := hw.size; simpa using this
    clear A0 I1 P2 I2 B
    have A0 := A0_
    have I1 := I1_
    have P2 := P2_
    have I2 := I2_
    have B := B_
    clear A0_ I1_ P2_ I2_ B_ hw
    have R2 := Rm
    clear Rm
    clear R2
    clear P2
    go_wp2_with fail
    refine (EqJnS_any _ _ _ _ _ _ zs _ I2 I1 (by omega) (by omega)).mono ?_
    rintro e w10 ⟨rfl, hb⟩
    have A0_ := A0.keep hb
    have I1_ := I1.below (hb.mono (by omega))
    have I2_ := I2.below (hb.mono (by omega))
    have B_ := bel_c B (Nat.le_refl _) hb
    have zw10 : w9.heap.size ≤ w10.heap.size := by have := hb.size; simpa using this
    clear A0 I1 I2 B
    have A0 := A0_
    have I1 := I1_
    have I2 := I2_
    have B := B_
    clear A0_ I1_ I2_ B_ hb
    go_wp2_with fail
    refine (MarkJOne _ _ _ zs _ I2).mono ?_
    rintro e w11 ⟨rfl, Im, hw⟩
    clear I2
    have A0_ := A0.within hw (by omega)
    have I1_ := I1.within hw (by omega) (by omega)
    have B_ := bel_wL B (Nat.le_refl _) hw (by omega)
    have zw11 : w10.heap.size ≤ w11.heap.size := by have := hw.size; simpa using this
    clear A0 I1 B
    have A0 := A0_
    have I1 := I1_
    have B := B_
    clear A0_ I1_ B_ hw
    have I2 := Im
    clear Im
    go_wp2_with fail
    refine (HeldJOne _ _ _ zs _ I2).mono ?_
    rintro e w' ⟨rfl, hw'⟩
    have hw'' := hw'.symm
    subst hw''
    clear hw'
    obtain ⟨c_A00, c_A01, c_A02⟩ := id A0
    go_wp2_with fail
    clear c_A00 c_A01 c_A02
    refine (ToLayout_any m n a len cap xs _ (HA.out _ B) hl).mono ?_
    rintro e w12 ⟨v, rfl, R3, hb⟩
    obtain ⟨a3, c3, rfl⟩ := R3.form
    have A0_ := A0.keep hb
    have I1_ := I1.below (hb.mono (by omega))
    have I2_ := I2.below (hb.mono (by omega))
    have B_ := bel_c B (Nat.le_refl _) hb
    have zw12 : w11.heap.size ≤ w12.heap.size := by have := hb.size; simpa using this
    clear A0 I1 I2 B
    have A0 := A0_
    have I1 := I1_
    have I2 := I2_
    have B := B_
    clear A0_ I1_ I2_ B_ hb
    go_wp2_with fail
    refine (CI _ _ _ _ R3 (by omega)).mono ?_
    rintro e w13 ⟨u3, rfl, I3, hb⟩
    obtain ⟨b3, d3, rfl⟩ := I3.form
    have A0_ := A0.keep hb
    have I1_ := I1.below (hb.mono (by omega))
    have I2_ := I2.below (hb.mono (by omega))
    have R3_ := R3.below (hb.mono (by omega))
    have B_ := bel_c B (Nat.le_refl _) hb
    have zw13 : w12.heap.size ≤ w13.heap.size := by have := hb.size; simpa using this
    clear A0 I1 I2 R3 B
    have A0 := A0_
    have I1 := I1_
    have I2 := I2_
    have R3 := R3_
    have B := B_
    clear A0_ I1_ I2_ R3_ B_ hb
    clear R3
    go_wp2_with fail
    refine (EqJnS_any _ _ _ _ _ _ zs _ I3 I1 (by omega) (by omega)).mono ?_
    rintro e w14 ⟨rfl, hb⟩
    have A0_ := A0.keep hb
    have I1_ := I1.below (hb.mono (by omega))
    have I2_ := I2.below (hb.mono (by omega))
    have I3_ := I3.below (hb.mono (by omega))
    have B_ := bel_c B (Nat.le_refl _) hb
    have zw14 : w13.heap.size ≤ w14.heap.size := by have := hb.size; simpa using this
    clear A0 I1 I2 I3 B
    have A0 := A0_
    have I1 := I1_
    have I2 := I2_
    have I3 := I3_
    have B := B_
    clear A0_ I1_ I2_ I3_ B_ hb
    go_wp2_with fail
    refine (HeldJOne _ _ _ zs _ I2).mono ?_
    rintro e w' ⟨rfl, hw'⟩
    have hw'' := hw'.symm
    subst hw''
    clear hw'
    go_wp2_with fail
    go_ret
    exact ⟨rfl, B⟩
  · have hl' : (1048576 : Int) < len := by omega
    go_enter Try.func4, Try.ntmps4
    go_wp2_with fail
    refine (SzL_no m n a len cap 1048576 _ (by omega) (by omega) hm hl').mono ?_
    rintro e w1 ⟨rfl, hb1⟩
    go_wp2_with fail
    go_ret
    exact ⟨rfl, bel_c (bel0 w _) (Nat.le_refl _) hb1⟩

end Go.Proofs.Ytboahceibeeifaa
