/- Joins: the model's l11Joins. -/
import Derived.Test.YtlkiacgpiodkiaaM25
import Derived.Test.YtlkiacgpiodkiaaM22
import Derived.Test.YtlkiacgpiodkiaaM13
import Derived.Test.YtlkiacgpiodkiaaCutSd
import Derived.Test.YtlkiacgpiodkiaaM10
import Derived.Deep.RegionLaw
import Derived.Deep.RegionHeld3
import Derived.Deep.DeepCutAuto

set_option linter.unusedSimpArgs false
set_option linter.unusedVariables false
namespace Go.Proofs.Ytlkiacgpiodkiaa
open Go.ChangeShapes Go.WideShapes Go.ChangeAt Go.RowKit

/-- Joins are handed back, with a unit and whether there are any. -/
def JoinsW (js : List J3) (u : Int) (b : Bool) (w : World) (e : Ending) (w' : World) : Prop :=
  ∃ v, e = .returned (.tuple #[v, .int .i64 u, .bool b]) ∧ JnIn w.heap.size w'.heap.size w' v js ∧ Below w.heap.size w w'
theorem owG {w w' : World} {b e size n : Nat} {v : Value} {xs : List Value} {row : Option Nat} (h : w.ownsRow b e size v n xs) (hg : w.grownBy w' row) (hr : ∀ g, v.ownBlock = some g → row ≠ some g) : w'.ownsRow b e size v n xs := by
  obtain ⟨h1, h2 | ⟨g, cap, cur, hv, hge, hh, r⟩⟩ := h
  · exact ⟨h1, .inl h2⟩
  · subst hv
    exact ⟨h1, .inr ⟨g, cap, cur, rfl, hge, by rw [hg.block g (lt_of_heap hh) (fun e => hr g rfl e.symm)]; exact hh, r⟩⟩
theorem sel_t {a : Int} {p : P5} : sel2 ⟨true, a⟩ p = decide (a ≤ p.x) := by simp [sel2]
theorem sel_f {a : Int} {p : P5} : sel2 ⟨false, a⟩ p = decide (a ≤ p.y) := by simp [sel2]
theorem IntIn.form0 {lo hi : Nat} {w : World} {v : Value} {zs : List Int} {n : Nat} (h : IntIn lo hi w v zs) (hn : zs.length = n) : ∃ a cap, v = .slice a n cap := by
  obtain ⟨a, c, e⟩ := h.form
  exact ⟨a, c, by rw [e, hn]⟩

set_option maxHeartbeats 3200000 in
set_option maxRecDepth 20000 in
theorem SJoins_one (lo hi : Nat) (m n : Int) (v : Value) (xs : List P5) (lo2 hi2 : Nat) (vn : Value) (ns : List Int) (t : Int) (w : World) (r : PatIn lo hi w v xs) (hhi : hi ≤ w.heap.size) (r2 : IntIn lo2 hi2 w vn ns) (hhi2 : hi2 ≤ w.heap.size) (hn : ns.length = xs.length) (t0 : 0 ≤ t) (t1 : t + xs.length ≤ 40) (lay : LayOk m n xs) (hl1 : xs.length = 1) :
    Calls Try.prog 51 #[.agg #[.int .i64 m, .int .i64 n, v], vn, .int .i64 t] w (JoinsW [] (ns.getD 0 0) true w) := by
  obtain ⟨b, cap, rfl⟩ := r.form
  obtain ⟨an, cn, rfl⟩ := r2.form0 (hn.trans hl1)
  obtain ⟨g, rfl, _, hg1, e0, _⟩ := r2.at ((bel0 w (.cells #[.int .i64 m, .int .i64 n, .slice b 1 cap] 50)).mono hhi2) (i := 0) (by omega)
  have HB0 : Hid (Below w.heap.size w (w.alloc (.cells #[.int .i64 m, .int .i64 n, .slice b 1 cap] 50))) := Lib.hid (bel0 w _)
  rw [hl1]
  obtain ⟨z, hz⟩ : ∃ z, z = ns.getD 0 0 := ⟨_, rfl⟩
  rw [← hz] at e0 ⊢
  have e1 := kept (bel0 (w.alloc (.cells #[.int .i64 m, .int .i64 n, .slice b 1 cap] 50)) (.cells #[] 34)) e0
  clear r r2 lay hz hn t1
  go_enter Try.func51, Try.ntmps51
  go_wp2_with fail
  go_region_law (fail)
  all_goals
    go_wp2_with fail
    refine bodyPost_ret (v := .tuple #[.slice (some ⟨w.heap.size + 1, 0, none⟩) 0 0, .int .i64 z, .bool true]) (by simp [results, Try.results51, go_sem]) rfl ⟨_, rfl, ⟨by simp, .inl ⟨rfl, _, _, rfl⟩⟩, ?_⟩
    first | exact bel_dr9 (bel_n HB0.out (Nat.le_refl _) _) | exact bel_n (bel_dr9 HB0.out) (Nat.le_refl _) _ | exact bel_n HB0.out (Nat.le_refl _) _

set_option maxHeartbeats 3200000 in
set_option maxRecDepth 20000 in
theorem SJoins_knot (lo hi : Nat) (m n : Int) (v : Value) (xs : List P5) (lo2 hi2 : Nat) (vn : Value) (ns : List Int) (t : Int) (w : World) (r : PatIn lo hi w v xs) (hhi : hi ≤ w.heap.size) (r2 : IntIn lo2 hi2 w vn ns) (hhi2 : hi2 ≤ w.heap.size) (hn : ns.length = xs.length) (t0 : 0 ≤ t) (t1 : t + xs.length ≤ 40) (lay : LayOk m n xs) (hl1 : xs.length ≠ 1) (hcs : cutsL m n xs = []) :
    Calls Try.prog 51 #[.agg #[.int .i64 m, .int .i64 n, v], vn, .int .i64 t] w (JoinsW [] 0 false w) := by
  obtain ⟨b, cap, rfl⟩ := r.form
  have hl := r.1
  have hd : ((xs.length : Int) == 1) = false := by simp; omega
  have CC : Hid (∀ u : World, Below w.heap.size w u → Calls Try.prog 54 #[.agg #[.int .i64 m, .int .i64 n, .slice b xs.length cap]] u (FreshCut [] u)) := Lib.hid (fun u hb => by rw [← hcs, ← cuts_yes (lay_yes lay).symm]; exact SpecCutsOf_any lo hi m n _ xs u (r.below (hb.mono hhi)) (Nat.le_trans hhi hb.size))
  have HB0 : Hid (Below w.heap.size w (w.alloc (.cells #[.int .i64 m, .int .i64 n, .slice b xs.length cap] 50))) := Lib.hid (bel0 w _)
  clear r r2 lay hcs hn t0 t1
  go_enter Try.func51, Try.ntmps51
  go_wp2_with fail
  refine (args_eqL (CC.out _ HB0.out) (by with_reducible rfl)).mono ?_
  rintro e w1 ⟨vc, rfl, RC, hb1⟩
  obtain ⟨ac, cc, rfl⟩ := RC.form
  have HB1 := Lib.hid (bel_c HB0.out (Nat.le_refl _) hb1)
  clear hb1 RC HB0 CC
  go_wp2_with fail
  refine bodyPost_ret (v := .tuple #[.slice (some ⟨w1.heap.size, 0, none⟩) 0 0, .int .i64 0, .bool false]) (by simp [results, Try.results51, go_sem]) rfl ⟨_, rfl, ⟨by simp, .inl ⟨rfl, _, _, rfl⟩⟩, ?_⟩
  exact bel_n HB1.out (Nat.le_refl _) _

set_option maxHeartbeats 9600000 in
set_option maxRecDepth 20000 in
theorem SJoins_join (lo hi : Nat) (m n : Int) (v : Value) (xs : List P5) (lo2 hi2 : Nat) (vn : Value) (ns : List Int) (t : Int) (c : C2) (rr : List C2) (j1 j2 : List J3) (u1 u2 : Int) (b1 b2 : Bool) (w : World) (r : PatIn lo hi w v xs) (hhi : hi ≤ w.heap.size) (r2 : IntIn lo2 hi2 w vn ns) (hhi2 : hi2 ≤ w.heap.size) (hn : ns.length = xs.length) (t0 : 0 ≤ t) (t1 : t + xs.length ≤ 40) (lay : LayOk m n xs) (hl1 : xs.length ≠ 1) (hcs : cutsL m n xs = c :: rr) (hj1 : j1.length + 1 ≤ (pL1 m n c xs).length) (hj2 : j2.length + 1 ≤ (pL2 m n c xs).length)
    (ih1 : ∀ (lo hi : Nat) (v : Value) (lo2 hi2 : Nat) (vn : Value) (w : World), PatIn lo hi w v (pL1 m n c xs) → hi ≤ w.heap.size → IntIn lo2 hi2 w vn (numK c false xs ns xs.length) → hi2 ≤ w.heap.size → 0 ≤ t → t + (pL1 m n c xs).length ≤ 40 → Calls Try.prog 51 #[.agg #[.int .i64 (pM1 m c), .int .i64 (pN1 n c), v], vn, .int .i64 t] w (JoinsW j1 u1 b1 w))
    (ih2 : ∀ (lo hi : Nat) (v : Value) (lo2 hi2 : Nat) (vn : Value) (w : World), PatIn lo hi w v (pL2 m n c xs) → hi ≤ w.heap.size → IntIn lo2 hi2 w vn (numK c true xs ns xs.length) → hi2 ≤ w.heap.size → 0 ≤ (t + j1.length) → (t + j1.length) + (pL2 m n c xs).length ≤ 40 → Calls Try.prog 51 #[.agg #[.int .i64 (pM2 m c), .int .i64 (pN2 n c), v], vn, .int .i64 (t + j1.length)] w (JoinsW j2 u2 b2 w)) :
    Calls Try.prog 51 #[.agg #[.int .i64 m, .int .i64 n, v], vn, .int .i64 t] w (JoinsW (if b1 && b2 then j1 ++ j2 ++ [⟨c.up, u1, u2⟩] else []) (if b1 && b2 then t + (j1.length + j2.length) else 0) (b1 && b2) w) := by
  obtain ⟨jr, hjr⟩ : ∃ j, j = (if b1 && b2 then j1 ++ j2 ++ [⟨c.up, u1, u2⟩] else []) := ⟨_, rfl⟩
  obtain ⟨ur, hur⟩ : ∃ u, u = (if b1 && b2 then t + (j1.length + j2.length) else 0) := ⟨_, rfl⟩
  obtain ⟨br, hbr⟩ : ∃ b, b = (b1 && b2) := ⟨_, rfl⟩
  rw [← hjr, ← hur, ← hbr]
  have HJR := Lib.hid hjr
  have HUR := Lib.hid hur
  have HBR := Lib.hid hbr
  clear hjr hur hbr
  have hc := first_cut hcs
  have hpl := part_len lay hc
  obtain ⟨ii, hii, iz0, iz1, iz2⟩ := info_parts3 info_intJ
  obtain ⟨b, cap, rfl⟩ := r.form
  obtain ⟨an, cn, rfl⟩ := r2.form0 hn
  have R := Lib.hid r
  have R2 := Lib.hid r2
  have HL := Lib.hid lay
  have HC := Lib.hid hc
  have hx12 := lay.2.2.1.2
  have hn1 := Lib.hid (num1_len lay hc ns)
  have hn2 := Lib.hid (num2_len lay hc ns)
  have hd : ((xs.length : Int) == 1) = false := by simp; omega
  have CC : Hid (∀ u : World, Below w.heap.size w u → Calls Try.prog 54 #[.agg #[.int .i64 m, .int .i64 n, .slice b xs.length cap]] u (FreshCut (c :: rr) u)) := Lib.hid (fun u hb => by rw [← hcs, ← cuts_yes (lay_yes lay).symm]; exact SpecCutsOf_any lo hi m n _ xs u (r.below (hb.mono hhi)) (Nat.le_trans hhi hb.size))
  have HB0 : Hid (Below w.heap.size w (w.alloc (.cells #[.int .i64 m, .int .i64 n, .slice b xs.length cap] 50))) := Lib.hid (bel0 w _)
  have HIH1 := Lib.hid ih1
  have HIH2 := Lib.hid ih2
  have HNN := Lib.hid hn
  clear r r2 lay hcs hc ih1 ih2 hn
  go_enter Try.func51, Try.ntmps51
  go_wp2_with fail
  refine (args_eqL (CC.out _ HB0.out) (by with_reducible rfl)).mono ?_
  rintro e w1 ⟨vc, rfl, RC, hb1⟩
  obtain ⟨ac, cc, rfl⟩ := RC.form
  obtain ⟨g, rfl, hg, hg1, ⟨e0, e1⟩, _⟩ := RC.at (Below.refl _ _) (i := 0) (by simp)
  obtain ⟨up, a⟩ := c
  simp only [Nat.zero_mul, Nat.zero_add, List.getD_cons_zero] at e0 e1
  have b0 := kept (p := ⟨w.heap.size, 0, none⟩) (x := .int .i64 m) hb1 (by go_simp)
  have b1' := kept (p := ⟨w.heap.size, 1, none⟩) (x := .int .i64 n) hb1 (by go_simp)
  have b2' := kept (p := ⟨w.heap.size, 2, none⟩) (x := .slice b xs.length cap) hb1 (by go_simp)
  have hs1 := hb1.size
  simp at hs1
  have HB1 := Lib.hid (bel_c HB0.out (Nat.le_refl _) hb1)
  have hgc := RC.1
  clear hb1 RC HB0 CC
  generalize w1 = G at *
  obtain ⟨M1, hM1⟩ : ∃ M1, M1 = pM1 m ⟨up, a⟩ := ⟨_, rfl⟩
  obtain ⟨N1, hN1⟩ : ∃ N1, N1 = pN1 n ⟨up, a⟩ := ⟨_, rfl⟩
  obtain ⟨M2, hM2⟩ : ∃ M2, M2 = pM2 m ⟨up, a⟩ := ⟨_, rfl⟩
  obtain ⟨N2, hN2⟩ : ∃ N2, N2 = pN2 n ⟨up, a⟩ := ⟨_, rfl⟩
  obtain ⟨L1, hL1⟩ : ∃ L1, L1 = pL1 m n ⟨up, a⟩ xs := ⟨_, rfl⟩
  obtain ⟨L2, hL2⟩ : ∃ L2, L2 = pL2 m n ⟨up, a⟩ xs := ⟨_, rfl⟩
  have D0 : Below G.heap.size G G.drew := ⟨rfl, rfl, rfl, Nat.le_refl _, fun _ _ => rfl⟩
  have CS : Hid (∀ u : World, (u.cell? ⟨w.heap.size, 0, none⟩ = some (.int .i64 m) ∧ u.cell? ⟨w.heap.size, 1, none⟩ = some (.int .i64 n) ∧ u.cell? ⟨w.heap.size, 2, none⟩ = some (.slice b xs.length cap) ∧ u.cell? ⟨g, 0, none⟩ = some (.bool up) ∧ u.cell? ⟨g, 1, none⟩ = some (.int .i64 a) ∧ Below G.heap.size G u) → Calls Try.prog 55 #[.agg #[.int .i64 m, .int .i64 n, .slice b xs.length cap], .agg #[.bool up, .int .i64 a]] u (SplitLW M1 N1 L1 M2 N2 L2 true u)) := Lib.hid (fun u h => by
    have hu := bel_c HB1.out (Nat.le_refl _) h.2.2.2.2.2
    have hcb : cutB m n xs ⟨up, a⟩ = true := by rw [← cut_lay (lay_yes HL.out).symm]; exact HC.out
    have hsp := SpecSplitLayout_any lo hi m n _ xs up a u (R.out.below (hu.mono hhi)) (Nat.le_trans hhi hu.size)
    obtain ⟨e1, e2, e3, e4, e5, e6⟩ := s_yes hcb
    rw [e1, e2, e3, e4, e5, e6, hcb, ← hM1, ← hN1, ← hM2, ← hN2, ← hL1, ← hL2] at hsp
    exact hsp)
  have S0 : G.drew.cell? ⟨w.heap.size, 0, none⟩ = some (.int .i64 m) ∧ G.drew.cell? ⟨w.heap.size, 1, none⟩ = some (.int .i64 n) ∧ G.drew.cell? ⟨w.heap.size, 2, none⟩ = some (.slice b xs.length cap) ∧ G.drew.cell? ⟨g, 0, none⟩ = some (.bool up) ∧ G.drew.cell? ⟨g, 1, none⟩ = some (.int .i64 a) ∧ Below G.heap.size G G.drew := ⟨kept D0 b0, kept D0 b1', kept D0 b2', kept D0 e0, kept D0 e1, D0⟩
  rw [← hM1, ← hN1, ← hL1] at HIH1
  rw [← hM2, ← hN2, ← hL2] at HIH2
  rw [← hL1] at hj1 hpl hn1
  rw [← hL2] at hj2 hpl hn2
  clear hM1 hN1 hM2 hN2 hL1 hL2
  have KP : ∀ u v : World, Below u.heap.size u v → (u.cell? ⟨w.heap.size, 0, none⟩ = some (.int .i64 m) ∧ u.cell? ⟨w.heap.size, 1, none⟩ = some (.int .i64 n) ∧ u.cell? ⟨w.heap.size, 2, none⟩ = some (.slice b xs.length cap) ∧ u.cell? ⟨g, 0, none⟩ = some (.bool up) ∧ u.cell? ⟨g, 1, none⟩ = some (.int .i64 a) ∧ Below G.heap.size G u) → (v.cell? ⟨w.heap.size, 0, none⟩ = some (.int .i64 m) ∧ v.cell? ⟨w.heap.size, 1, none⟩ = some (.int .i64 n) ∧ v.cell? ⟨w.heap.size, 2, none⟩ = some (.slice b xs.length cap) ∧ v.cell? ⟨g, 0, none⟩ = some (.bool up) ∧ v.cell? ⟨g, 1, none⟩ = some (.int .i64 a) ∧ Below G.heap.size G v) := fun u v hb h => ⟨kept hb h.1, kept hb h.2.1, kept hb h.2.2.1, kept hb h.2.2.2.1, kept hb h.2.2.2.2.1, bel_c h.2.2.2.2.2 (Nat.le_refl _) hb⟩
  have KS : ∀ (u : World) (p : Nat) (x0 x1 x2 : Value), G.heap.size ≤ p → (u.cell? ⟨w.heap.size, 0, none⟩ = some (.int .i64 m) ∧ u.cell? ⟨w.heap.size, 1, none⟩ = some (.int .i64 n) ∧ u.cell? ⟨w.heap.size, 2, none⟩ = some (.slice b xs.length cap) ∧ u.cell? ⟨g, 0, none⟩ = some (.bool up) ∧ u.cell? ⟨g, 1, none⟩ = some (.int .i64 a) ∧ Below G.heap.size G u) → ((set3 u p x0 x1 x2).cell? ⟨w.heap.size, 0, none⟩ = some (.int .i64 m) ∧ (set3 u p x0 x1 x2).cell? ⟨w.heap.size, 1, none⟩ = some (.int .i64 n) ∧ (set3 u p x0 x1 x2).cell? ⟨w.heap.size, 2, none⟩ = some (.slice b xs.length cap) ∧ (set3 u p x0 x1 x2).cell? ⟨g, 0, none⟩ = some (.bool up) ∧ (set3 u p x0 x1 x2).cell? ⟨g, 1, none⟩ = some (.int .i64 a) ∧ Below G.heap.size G (set3 u p x0 x1 x2)) := fun u p x0 x1 x2 hp h => by
    have h1 : p ≠ w.heap.size := by omega
    have h2 : p ≠ g := by omega
    exact ⟨(set3_far h1).trans h.1, (set3_far h1).trans h.2.1, (set3_far h1).trans h.2.2.1, (set3_far h2).trans h.2.2.2.1, (set3_far h2).trans h.2.2.2.2.1, ((h.2.2.2.2.2.setCell hp _).setCell hp _).setCell hp _⟩
  have KP1 := Lib.hid KP
  have KS1 := Lib.hid KS
  clear KP KS D0
  go_upto_region 6 with fail
  go_cut [10, 11] (fun q t wx => WL G M1 N1 M2 N2 L1 L2 q t wx)
  case first =>
    (try simp only [List.append_eq, List.cons_append, List.nil_append])
    have hS := S0
    refine reg_begin (fun w' => w'.cell? ⟨w.heap.size, 0, none⟩ = some (.int .i64 m) ∧ w'.cell? ⟨w.heap.size, 1, none⟩ = some (.int .i64 n) ∧ w'.cell? ⟨w.heap.size, 2, none⟩ = some (.slice b xs.length cap) ∧ w'.cell? ⟨g, 0, none⟩ = some (.bool up) ∧ w'.cell? ⟨g, 1, none⟩ = some (.int .i64 a) ∧ Below G.heap.size G w') (by kernel_rfl) hS ?_
    refine reg_take 0 (v := ?_) rfl (by kernel_rfl) (by kernel_rfl) (by kernel_rfl) (fun _ _ _ h => h) (by rfl) (by intro w hSw; (try dsimp only at hSw); go_simp; first | done | with_reducible rfl) hS ?_
    (try simp only [Act.put, List.setIfInBounds_toArray, List.set_cons_zero, List.set_cons_succ])
    refine reg_take 1 (v := ?_) rfl (by kernel_rfl) (by kernel_rfl) (by kernel_rfl) (fun _ _ _ h => h) (by rfl) (by intro w hSw; (try dsimp only at hSw); go_simp; first | done | with_reducible rfl) hS ?_
    (try simp only [Act.put, List.setIfInBounds_toArray, List.set_cons_zero, List.set_cons_succ])
    refine reg_take 2 (v := ?_) rfl (by kernel_rfl) (by kernel_rfl) (by kernel_rfl) (fun _ _ _ h => h) (by rfl) (by intro w hSw; (try dsimp only at hSw); go_simp; first | done | with_reducible rfl) hS ?_
    (try simp only [Act.put, List.setIfInBounds_toArray, List.set_cons_zero, List.set_cons_succ])
    refine reg_take 3 (v := ?_) rfl (by kernel_rfl) (by kernel_rfl) (by kernel_rfl) (fun _ _ _ h => h) (by rfl) (by intro w hSw; (try dsimp only at hSw); go_simp; first | done | with_reducible rfl) hS ?_
    (try simp only [Act.put, List.setIfInBounds_toArray, List.set_cons_zero, List.set_cons_succ])
    have hz0 : G.drew.heap.size ≤ G.heap.size ∧ G.heap.size ≤ G.drew.heap.size := ⟨Nat.le_refl _, Nat.le_refl _⟩
    generalize G.drew = U0 at hS hz0 ⊢
    refine reg_three 4 9 10 rfl rfl rfl (by kernel_rfl) (by rfl) (by rfl) (by rfl) (fun K hK => ?_) (fun K hK => ?_) (fun K hK => ?_)
    · go_simp
      go_at_call 55
      refine (args_eqL (CS.out _ hS) (by with_reducible rfl)).mono ?_
      rintro e y1 ⟨vA, vB, rfl, RA, RB, hb⟩
      have RA0 := Lib.hid RA
      have RB0 := Lib.hid RB
      obtain ⟨aA, cA, rfl⟩ := RA.form
      obtain ⟨aB, cB, rfl⟩ := RB.form
      clear RA RB
      have hzy1 := hb.size
      refine hK.out _ _ (KP1.out _ _ hb hS) (fun hS' => ?_)
      clear hK K hS
      have hS := hS'
      clear hS'
      try (try simp only [Act.put, List.setIfInBounds_toArray, List.set_cons_zero, List.set_cons_succ])
      clear hb
      refine reg_take 5 (v := ?_) rfl (by kernel_rfl) (by kernel_rfl) (by kernel_rfl) (fun _ _ _ h => h) (by rfl) (by intro w hSw; (try dsimp only at hSw); go_simp; first | done | with_reducible rfl) hS ?_
      (try simp only [Act.put, List.setIfInBounds_toArray, List.set_cons_zero, List.set_cons_succ])
      refine reg_take 6 (v := ?_) rfl (by kernel_rfl) (by kernel_rfl) (by kernel_rfl) (fun _ _ _ h => h) (by rfl) (by intro w hSw; (try dsimp only at hSw); go_simp; first | done | with_reducible rfl) hS ?_
      (try simp only [Act.put, List.setIfInBounds_toArray, List.set_cons_zero, List.set_cons_succ])
      refine reg_take 7 (v := ?_) rfl (by kernel_rfl) (by kernel_rfl) (by kernel_rfl) (fun _ _ _ h => h) (by rfl) (by intro w hSw; (try dsimp only at hSw); go_simp; first | done | with_reducible rfl) hS ?_
      (try simp only [Act.put, List.setIfInBounds_toArray, List.set_cons_zero, List.set_cons_succ])
      refine reg_take 8 (v := ?_) rfl (by kernel_rfl) (by kernel_rfl) (by kernel_rfl) (fun _ _ _ h => h) (by rfl) (by intro w hSw; (try dsimp only at hSw); go_simp; first | done | with_reducible rfl) hS ?_
      (try simp only [Act.put, List.setIfInBounds_toArray, List.set_cons_zero, List.set_cons_succ])
      refine reg_two 9 10 rfl rfl (by kernel_rfl) (by rfl) (by rfl) (fun K hK => ?_) (fun K hK => ?_)
      · go_simp
        refine hK.out _ _ (KP1.out _ _ (bel0 _ _) hS) (fun hS' => ?_)
        clear hK K hS
        have hS := hS'
        clear hS'
        try (try simp only [Act.put, List.setIfInBounds_toArray, List.set_cons_zero, List.set_cons_succ])
        have hbe : Below y1.heap.size y1 (y1.alloc (.cells #[.int .i64 0, .int .i64 0, .slice none 0 0] 50)) := bel0 _ _
        have HX9 := Lib.hid (BoxL.new y1 (.int .i64 0) (.int .i64 0) (.slice none 0 0) 50)
        have hzV2 : (y1.alloc (.cells #[.int .i64 0, .int .i64 0, .slice none 0 0] 50)).heap.size ≤ y1.heap.size + 1 ∧ y1.heap.size + 1 ≤ (y1.alloc (.cells #[.int .i64 0, .int .i64 0, .slice none 0 0] 50)).heap.size := by simp
        have RA0 := Lib.hid (RA0.out.below (hbe.mono (by omega)))
        have RB0 := Lib.hid (RB0.out.below (hbe.mono (by omega)))
        obtain ⟨V2, hV⟩ : ∃ V, V = y1.alloc (.cells #[.int .i64 0, .int .i64 0, .slice none 0 0] 50) := ⟨_, rfl⟩
        rw [← hV] at hS HX9 hzV2 RA0 RB0 ⊢
        clear hV hbe
        refine reg_call 10 rfl (by kernel_rfl) (by rfl) (fun K hK => ?_)
        go_simp
        refine hK.out _ _ (KP1.out _ _ (bel0 _ _) hS) (fun hS' => ?_)
        clear hK K hS
        have hS := hS'
        clear hS'
        try (try simp only [Act.put, List.setIfInBounds_toArray, List.set_cons_zero, List.set_cons_succ])
        have hbe : Below V2.heap.size V2 (V2.alloc (.cells #[.int .i64 0, .int .i64 0, .slice none 0 0] 50)) := bel0 _ _
        have HX10 := Lib.hid (BoxL.new V2 (.int .i64 0) (.int .i64 0) (.slice none 0 0) 50)
        have hzV3 : (V2.alloc (.cells #[.int .i64 0, .int .i64 0, .slice none 0 0] 50)).heap.size ≤ V2.heap.size + 1 ∧ V2.heap.size + 1 ≤ (V2.alloc (.cells #[.int .i64 0, .int .i64 0, .slice none 0 0] 50)).heap.size := by simp
        have HX9 := Lib.hid (HX9.out.below hbe (by omega))
        have RA0 := Lib.hid (RA0.out.below (hbe.mono (by omega)))
        have RB0 := Lib.hid (RB0.out.below (hbe.mono (by omega)))
        obtain ⟨V3, hV⟩ : ∃ V, V = V2.alloc (.cells #[.int .i64 0, .int .i64 0, .slice none 0 0] 50) := ⟨_, rfl⟩
        rw [← hV] at hS HX9 HX10 hzV3 RA0 RB0 ⊢
        clear hV hbe
        clear KP1
        refine reg_call 11 rfl (by kernel_rfl) (by rfl) (fun K hK => ?_)
        have ec0 := HX9.out.1
        have ec1 := HX9.out.2.1
        have ec2 := HX9.out.2.2.1
        have ec3 := HX9.out.2.2.2.1
        have ec4 := HX9.out.2.2.2.2.1
        have ec5 := HX9.out.2.2.2.2.2
        go_simp
        refine hK.out _ _ (KS1.out _ y1.heap.size (.int .i64 M1) (.int .i64 N1) (.slice aA L1.length cA) (by omega) hS) (fun hS' => ?_)
        clear hK K hS ec0 ec1 ec2 ec3 ec4 ec5
        have hS := hS'
        clear hS'
        try (try simp only [Act.put, List.setIfInBounds_toArray, List.set_cons_zero, List.set_cons_succ])
        have HX9 : Hid (BoxL y1.heap.size (.int .i64 M1) (.int .i64 N1) (.slice aA L1.length cA) (set3 V3 y1.heap.size (.int .i64 M1) (.int .i64 N1) (.slice aA L1.length cA))) := Lib.hid (BoxL.put3 HX9.out)
        have HX10 : Hid (BoxL V2.heap.size (.int .i64 0) (.int .i64 0) (.slice none 0 0) (set3 V3 y1.heap.size (.int .i64 M1) (.int .i64 N1) (.slice aA L1.length cA))) := Lib.hid (BoxL.far3 HX10.out (show y1.heap.size ≠ V2.heap.size by omega))
        have RA0 : Hid (PatIn _ _ (set3 V3 y1.heap.size (.int .i64 M1) (.int .i64 N1) (.slice aA L1.length cA)) _ _) := Lib.hid (row3 RA0.out (by omega) (by first | omega | (simp [World.setCell] <;> omega)))
        have RB0 : Hid (PatIn _ _ (set3 V3 y1.heap.size (.int .i64 M1) (.int .i64 N1) (.slice aA L1.length cA)) _ _) := Lib.hid (row3 RB0.out (by omega) (by first | omega | (simp [World.setCell] <;> omega)))
        refine reg_call 12 rfl (by kernel_rfl) (by rfl) (fun K hK => ?_)
        have ec0 := HX10.out.1
        have ec1 := HX10.out.2.1
        have ec2 := HX10.out.2.2.1
        have ec3 := HX10.out.2.2.2.1
        have ec4 := HX10.out.2.2.2.2.1
        have ec5 := HX10.out.2.2.2.2.2
        go_simp
        refine hK.out _ _ (KS1.out _ V2.heap.size (.int .i64 M2) (.int .i64 N2) (.slice aB L2.length cB) (by omega) hS) (fun hS' => ?_)
        clear hK K hS ec0 ec1 ec2 ec3 ec4 ec5
        have hS := hS'
        clear hS'
        try (try simp only [Act.put, List.setIfInBounds_toArray, List.set_cons_zero, List.set_cons_succ])
        have HX10 : Hid (BoxL V2.heap.size (.int .i64 M2) (.int .i64 N2) (.slice aB L2.length cB) (set3 (set3 V3 y1.heap.size (.int .i64 M1) (.int .i64 N1) (.slice aA L1.length cA)) V2.heap.size (.int .i64 M2) (.int .i64 N2) (.slice aB L2.length cB))) := Lib.hid (BoxL.put3 HX10.out)
        have HX9 : Hid (BoxL y1.heap.size (.int .i64 M1) (.int .i64 N1) (.slice aA L1.length cA) (set3 (set3 V3 y1.heap.size (.int .i64 M1) (.int .i64 N1) (.slice aA L1.length cA)) V2.heap.size (.int .i64 M2) (.int .i64 N2) (.slice aB L2.length cB))) := Lib.hid (BoxL.far3 HX9.out (show V2.heap.size ≠ y1.heap.size by omega))
        have RA0 : Hid (PatIn _ _ (set3 (set3 V3 y1.heap.size (.int .i64 M1) (.int .i64 N1) (.slice aA L1.length cA)) V2.heap.size (.int .i64 M2) (.int .i64 N2) (.slice aB L2.length cB)) _ _) := Lib.hid (row3 RA0.out (by omega) (by first | omega | (simp [World.setCell] <;> omega)))
        have RB0 : Hid (PatIn _ _ (set3 (set3 V3 y1.heap.size (.int .i64 M1) (.int .i64 N1) (.slice aA L1.length cA)) V2.heap.size (.int .i64 M2) (.int .i64 N2) (.slice aB L2.length cB)) _ _) := Lib.hid (row3 RB0.out (by omega) (by first | omega | (simp [World.setCell] <;> omega)))
        refine reg_take 13 (v := ?_) rfl (by kernel_rfl) (by kernel_rfl) (by kernel_rfl) (fun _ _ _ h => h) (by rfl) (by intro w hSw; (try dsimp only at hSw); go_simp; first | done | with_reducible rfl) hS ?_
        (try simp only [Act.put, List.setIfInBounds_toArray, List.set_cons_zero, List.set_cons_succ])
        refine wpAnyH_done (by kernel_rfl) ?_ _
        have HBW := Lib.hid hS.2.2.2.2.2
        clear hS
        go_wp2_with fail
        go_meet
        exact ⟨_, _, _, _, y1.heap.size, rfl, rfl, HX9, HX10, Lib.hid (RA0.out.wide (by omega) (Nat.le_refl _)), Lib.hid (RB0.out.wide (by omega) (Nat.le_refl _)), by simp [World.setCell] <;> omega, HBW⟩
      · go_simp
        refine hK.out _ _ (KP1.out _ _ (bel0 _ _) hS) (fun hS' => ?_)
        clear hK K hS
        have hS := hS'
        clear hS'
        try (try simp only [Act.put, List.setIfInBounds_toArray, List.set_cons_zero, List.set_cons_succ])
        have hbe : Below y1.heap.size y1 (y1.alloc (.cells #[.int .i64 0, .int .i64 0, .slice none 0 0] 50)) := bel0 _ _
        have HX10 := Lib.hid (BoxL.new y1 (.int .i64 0) (.int .i64 0) (.slice none 0 0) 50)
        have hzV2 : (y1.alloc (.cells #[.int .i64 0, .int .i64 0, .slice none 0 0] 50)).heap.size ≤ y1.heap.size + 1 ∧ y1.heap.size + 1 ≤ (y1.alloc (.cells #[.int .i64 0, .int .i64 0, .slice none 0 0] 50)).heap.size := by simp
        have RA0 := Lib.hid (RA0.out.below (hbe.mono (by omega)))
        have RB0 := Lib.hid (RB0.out.below (hbe.mono (by omega)))
        obtain ⟨V2, hV⟩ : ∃ V, V = y1.alloc (.cells #[.int .i64 0, .int .i64 0, .slice none 0 0] 50) := ⟨_, rfl⟩
        rw [← hV] at hS HX10 hzV2 RA0 RB0 ⊢
        clear hV hbe
        refine reg_call 9 rfl (by kernel_rfl) (by rfl) (fun K hK => ?_)
        go_simp
        refine hK.out _ _ (KP1.out _ _ (bel0 _ _) hS) (fun hS' => ?_)
        clear hK K hS
        have hS := hS'
        clear hS'
        try (try simp only [Act.put, List.setIfInBounds_toArray, List.set_cons_zero, List.set_cons_succ])
        have hbe : Below V2.heap.size V2 (V2.alloc (.cells #[.int .i64 0, .int .i64 0, .slice none 0 0] 50)) := bel0 _ _
        have HX9 := Lib.hid (BoxL.new V2 (.int .i64 0) (.int .i64 0) (.slice none 0 0) 50)
        have hzV3 : (V2.alloc (.cells #[.int .i64 0, .int .i64 0, .slice none 0 0] 50)).heap.size ≤ V2.heap.size + 1 ∧ V2.heap.size + 1 ≤ (V2.alloc (.cells #[.int .i64 0, .int .i64 0, .slice none 0 0] 50)).heap.size := by simp
        have HX10 := Lib.hid (HX10.out.below hbe (by omega))
        have RA0 := Lib.hid (RA0.out.below (hbe.mono (by omega)))
        have RB0 := Lib.hid (RB0.out.below (hbe.mono (by omega)))
        obtain ⟨V3, hV⟩ : ∃ V, V = V2.alloc (.cells #[.int .i64 0, .int .i64 0, .slice none 0 0] 50) := ⟨_, rfl⟩
        rw [← hV] at hS HX10 HX9 hzV3 RA0 RB0 ⊢
        clear hV hbe
        clear KP1
        refine reg_call 11 rfl (by kernel_rfl) (by rfl) (fun K hK => ?_)
        have ec0 := HX9.out.1
        have ec1 := HX9.out.2.1
        have ec2 := HX9.out.2.2.1
        have ec3 := HX9.out.2.2.2.1
        have ec4 := HX9.out.2.2.2.2.1
        have ec5 := HX9.out.2.2.2.2.2
        go_simp
        refine hK.out _ _ (KS1.out _ V2.heap.size (.int .i64 M1) (.int .i64 N1) (.slice aA L1.length cA) (by omega) hS) (fun hS' => ?_)
        clear hK K hS ec0 ec1 ec2 ec3 ec4 ec5
        have hS := hS'
        clear hS'
        try (try simp only [Act.put, List.setIfInBounds_toArray, List.set_cons_zero, List.set_cons_succ])
        have HX9 : Hid (BoxL V2.heap.size (.int .i64 M1) (.int .i64 N1) (.slice aA L1.length cA) (set3 V3 V2.heap.size (.int .i64 M1) (.int .i64 N1) (.slice aA L1.length cA))) := Lib.hid (BoxL.put3 HX9.out)
        have HX10 : Hid (BoxL y1.heap.size (.int .i64 0) (.int .i64 0) (.slice none 0 0) (set3 V3 V2.heap.size (.int .i64 M1) (.int .i64 N1) (.slice aA L1.length cA))) := Lib.hid (BoxL.far3 HX10.out (show V2.heap.size ≠ y1.heap.size by omega))
        have RA0 : Hid (PatIn _ _ (set3 V3 V2.heap.size (.int .i64 M1) (.int .i64 N1) (.slice aA L1.length cA)) _ _) := Lib.hid (row3 RA0.out (by omega) (by first | omega | (simp [World.setCell] <;> omega)))
        have RB0 : Hid (PatIn _ _ (set3 V3 V2.heap.size (.int .i64 M1) (.int .i64 N1) (.slice aA L1.length cA)) _ _) := Lib.hid (row3 RB0.out (by omega) (by first | omega | (simp [World.setCell] <;> omega)))
        refine reg_call 12 rfl (by kernel_rfl) (by rfl) (fun K hK => ?_)
        have ec0 := HX10.out.1
        have ec1 := HX10.out.2.1
        have ec2 := HX10.out.2.2.1
        have ec3 := HX10.out.2.2.2.1
        have ec4 := HX10.out.2.2.2.2.1
        have ec5 := HX10.out.2.2.2.2.2
        go_simp
        refine hK.out _ _ (KS1.out _ y1.heap.size (.int .i64 M2) (.int .i64 N2) (.slice aB L2.length cB) (by omega) hS) (fun hS' => ?_)
        clear hK K hS ec0 ec1 ec2 ec3 ec4 ec5
        have hS := hS'
        clear hS'
        try (try simp only [Act.put, List.setIfInBounds_toArray, List.set_cons_zero, List.set_cons_succ])
        have HX10 : Hid (BoxL y1.heap.size (.int .i64 M2) (.int .i64 N2) (.slice aB L2.length cB) (set3 (set3 V3 V2.heap.size (.int .i64 M1) (.int .i64 N1) (.slice aA L1.length cA)) y1.heap.size (.int .i64 M2) (.int .i64 N2) (.slice aB L2.length cB))) := Lib.hid (BoxL.put3 HX10.out)
        have HX9 : Hid (BoxL V2.heap.size (.int .i64 M1) (.int .i64 N1) (.slice aA L1.length cA) (set3 (set3 V3 V2.heap.size (.int .i64 M1) (.int .i64 N1) (.slice aA L1.length cA)) y1.heap.size (.int .i64 M2) (.int .i64 N2) (.slice aB L2.length cB))) := Lib.hid (BoxL.far3 HX9.out (show y1.heap.size ≠ V2.heap.size by omega))
        have RA0 : Hid (PatIn _ _ (set3 (set3 V3 V2.heap.size (.int .i64 M1) (.int .i64 N1) (.slice aA L1.length cA)) y1.heap.size (.int .i64 M2) (.int .i64 N2) (.slice aB L2.length cB)) _ _) := Lib.hid (row3 RA0.out (by omega) (by first | omega | (simp [World.setCell] <;> omega)))
        have RB0 : Hid (PatIn _ _ (set3 (set3 V3 V2.heap.size (.int .i64 M1) (.int .i64 N1) (.slice aA L1.length cA)) y1.heap.size (.int .i64 M2) (.int .i64 N2) (.slice aB L2.length cB)) _ _) := Lib.hid (row3 RB0.out (by omega) (by first | omega | (simp [World.setCell] <;> omega)))
        refine reg_take 13 (v := ?_) rfl (by kernel_rfl) (by kernel_rfl) (by kernel_rfl) (fun _ _ _ h => h) (by rfl) (by intro w hSw; (try dsimp only at hSw); go_simp; first | done | with_reducible rfl) hS ?_
        (try simp only [Act.put, List.setIfInBounds_toArray, List.set_cons_zero, List.set_cons_succ])
        refine wpAnyH_done (by kernel_rfl) ?_ _
        have HBW := Lib.hid hS.2.2.2.2.2
        clear hS
        go_wp2_with fail
        go_meet
        exact ⟨_, _, _, _, y1.heap.size, rfl, rfl, HX9, HX10, Lib.hid (RA0.out.wide (by omega) (Nat.le_refl _)), Lib.hid (RB0.out.wide (by omega) (Nat.le_refl _)), by simp [World.setCell] <;> omega, HBW⟩
    · go_simp
      refine hK.out _ _ (KP1.out _ _ (bel0 _ _) hS) (fun hS' => ?_)
      clear hK K hS
      have hS := hS'
      clear hS'
      try (try simp only [Act.put, List.setIfInBounds_toArray, List.set_cons_zero, List.set_cons_succ])
      have hbe : Below U0.heap.size U0 (U0.alloc (.cells #[.int .i64 0, .int .i64 0, .slice none 0 0] 50)) := bel0 _ _
      have HX9 := Lib.hid (BoxL.new U0 (.int .i64 0) (.int .i64 0) (.slice none 0 0) 50)
      have hzV1 : (U0.alloc (.cells #[.int .i64 0, .int .i64 0, .slice none 0 0] 50)).heap.size ≤ U0.heap.size + 1 ∧ U0.heap.size + 1 ≤ (U0.alloc (.cells #[.int .i64 0, .int .i64 0, .slice none 0 0] 50)).heap.size := by simp
      obtain ⟨V1, hV⟩ : ∃ V, V = U0.alloc (.cells #[.int .i64 0, .int .i64 0, .slice none 0 0] 50) := ⟨_, rfl⟩
      rw [← hV] at hS HX9 hzV1 ⊢
      clear hV hbe
      refine reg_two 4 10 rfl rfl (by kernel_rfl) (by rfl) (by rfl) (fun K hK => ?_) (fun K hK => ?_)
      · go_simp
        go_at_call 55
        refine (args_eqL (CS.out _ hS) (by with_reducible rfl)).mono ?_
        rintro e y2 ⟨vA, vB, rfl, RA, RB, hb⟩
        have RA0 := Lib.hid RA
        have RB0 := Lib.hid RB
        obtain ⟨aA, cA, rfl⟩ := RA.form
        obtain ⟨aB, cB, rfl⟩ := RB.form
        clear RA RB
        have hzy2 := hb.size
        have HX9 := Lib.hid (HX9.out.below hb (by omega))
        refine hK.out _ _ (KP1.out _ _ hb hS) (fun hS' => ?_)
        clear hK K hS
        have hS := hS'
        clear hS'
        try (try simp only [Act.put, List.setIfInBounds_toArray, List.set_cons_zero, List.set_cons_succ])
        clear hb
        refine reg_take 5 (v := ?_) rfl (by kernel_rfl) (by kernel_rfl) (by kernel_rfl) (fun _ _ _ h => h) (by rfl) (by intro w hSw; (try dsimp only at hSw); go_simp; first | done | with_reducible rfl) hS ?_
        (try simp only [Act.put, List.setIfInBounds_toArray, List.set_cons_zero, List.set_cons_succ])
        refine reg_take 6 (v := ?_) rfl (by kernel_rfl) (by kernel_rfl) (by kernel_rfl) (fun _ _ _ h => h) (by rfl) (by intro w hSw; (try dsimp only at hSw); go_simp; first | done | with_reducible rfl) hS ?_
        (try simp only [Act.put, List.setIfInBounds_toArray, List.set_cons_zero, List.set_cons_succ])
        refine reg_take 7 (v := ?_) rfl (by kernel_rfl) (by kernel_rfl) (by kernel_rfl) (fun _ _ _ h => h) (by rfl) (by intro w hSw; (try dsimp only at hSw); go_simp; first | done | with_reducible rfl) hS ?_
        (try simp only [Act.put, List.setIfInBounds_toArray, List.set_cons_zero, List.set_cons_succ])
        refine reg_take 8 (v := ?_) rfl (by kernel_rfl) (by kernel_rfl) (by kernel_rfl) (fun _ _ _ h => h) (by rfl) (by intro w hSw; (try dsimp only at hSw); go_simp; first | done | with_reducible rfl) hS ?_
        (try simp only [Act.put, List.setIfInBounds_toArray, List.set_cons_zero, List.set_cons_succ])
        refine reg_call 10 rfl (by kernel_rfl) (by rfl) (fun K hK => ?_)
        go_simp
        refine hK.out _ _ (KP1.out _ _ (bel0 _ _) hS) (fun hS' => ?_)
        clear hK K hS
        have hS := hS'
        clear hS'
        try (try simp only [Act.put, List.setIfInBounds_toArray, List.set_cons_zero, List.set_cons_succ])
        have hbe : Below y2.heap.size y2 (y2.alloc (.cells #[.int .i64 0, .int .i64 0, .slice none 0 0] 50)) := bel0 _ _
        have HX10 := Lib.hid (BoxL.new y2 (.int .i64 0) (.int .i64 0) (.slice none 0 0) 50)
        have hzV3 : (y2.alloc (.cells #[.int .i64 0, .int .i64 0, .slice none 0 0] 50)).heap.size ≤ y2.heap.size + 1 ∧ y2.heap.size + 1 ≤ (y2.alloc (.cells #[.int .i64 0, .int .i64 0, .slice none 0 0] 50)).heap.size := by simp
        have HX9 := Lib.hid (HX9.out.below hbe (by omega))
        have RA0 := Lib.hid (RA0.out.below (hbe.mono (by omega)))
        have RB0 := Lib.hid (RB0.out.below (hbe.mono (by omega)))
        obtain ⟨V3, hV⟩ : ∃ V, V = y2.alloc (.cells #[.int .i64 0, .int .i64 0, .slice none 0 0] 50) := ⟨_, rfl⟩
        rw [← hV] at hS HX9 HX10 hzV3 RA0 RB0 ⊢
        clear hV hbe
        clear KP1
        refine reg_call 11 rfl (by kernel_rfl) (by rfl) (fun K hK => ?_)
        have ec0 := HX9.out.1
        have ec1 := HX9.out.2.1
        have ec2 := HX9.out.2.2.1
        have ec3 := HX9.out.2.2.2.1
        have ec4 := HX9.out.2.2.2.2.1
        have ec5 := HX9.out.2.2.2.2.2
        go_simp
        refine hK.out _ _ (KS1.out _ U0.heap.size (.int .i64 M1) (.int .i64 N1) (.slice aA L1.length cA) (by omega) hS) (fun hS' => ?_)
        clear hK K hS ec0 ec1 ec2 ec3 ec4 ec5
        have hS := hS'
        clear hS'
        try (try simp only [Act.put, List.setIfInBounds_toArray, List.set_cons_zero, List.set_cons_succ])
        have HX9 : Hid (BoxL U0.heap.size (.int .i64 M1) (.int .i64 N1) (.slice aA L1.length cA) (set3 V3 U0.heap.size (.int .i64 M1) (.int .i64 N1) (.slice aA L1.length cA))) := Lib.hid (BoxL.put3 HX9.out)
        have HX10 : Hid (BoxL y2.heap.size (.int .i64 0) (.int .i64 0) (.slice none 0 0) (set3 V3 U0.heap.size (.int .i64 M1) (.int .i64 N1) (.slice aA L1.length cA))) := Lib.hid (BoxL.far3 HX10.out (show U0.heap.size ≠ y2.heap.size by omega))
        have RA0 : Hid (PatIn _ _ (set3 V3 U0.heap.size (.int .i64 M1) (.int .i64 N1) (.slice aA L1.length cA)) _ _) := Lib.hid (row3 RA0.out (by omega) (by first | omega | (simp [World.setCell] <;> omega)))
        have RB0 : Hid (PatIn _ _ (set3 V3 U0.heap.size (.int .i64 M1) (.int .i64 N1) (.slice aA L1.length cA)) _ _) := Lib.hid (row3 RB0.out (by omega) (by first | omega | (simp [World.setCell] <;> omega)))
        refine reg_call 12 rfl (by kernel_rfl) (by rfl) (fun K hK => ?_)
        have ec0 := HX10.out.1
        have ec1 := HX10.out.2.1
        have ec2 := HX10.out.2.2.1
        have ec3 := HX10.out.2.2.2.1
        have ec4 := HX10.out.2.2.2.2.1
        have ec5 := HX10.out.2.2.2.2.2
        go_simp
        refine hK.out _ _ (KS1.out _ y2.heap.size (.int .i64 M2) (.int .i64 N2) (.slice aB L2.length cB) (by omega) hS) (fun hS' => ?_)
        clear hK K hS ec0 ec1 ec2 ec3 ec4 ec5
        have hS := hS'
        clear hS'
        try (try simp only [Act.put, List.setIfInBounds_toArray, List.set_cons_zero, List.set_cons_succ])
        have HX10 : Hid (BoxL y2.heap.size (.int .i64 M2) (.int .i64 N2) (.slice aB L2.length cB) (set3 (set3 V3 U0.heap.size (.int .i64 M1) (.int .i64 N1) (.slice aA L1.length cA)) y2.heap.size (.int .i64 M2) (.int .i64 N2) (.slice aB L2.length cB))) := Lib.hid (BoxL.put3 HX10.out)
        have HX9 : Hid (BoxL U0.heap.size (.int .i64 M1) (.int .i64 N1) (.slice aA L1.length cA) (set3 (set3 V3 U0.heap.size (.int .i64 M1) (.int .i64 N1) (.slice aA L1.length cA)) y2.heap.size (.int .i64 M2) (.int .i64 N2) (.slice aB L2.length cB))) := Lib.hid (BoxL.far3 HX9.out (show y2.heap.size ≠ U0.heap.size by omega))
        have RA0 : Hid (PatIn _ _ (set3 (set3 V3 U0.heap.size (.int .i64 M1) (.int .i64 N1) (.slice aA L1.length cA)) y2.heap.size (.int .i64 M2) (.int .i64 N2) (.slice aB L2.length cB)) _ _) := Lib.hid (row3 RA0.out (by omega) (by first | omega | (simp [World.setCell] <;> omega)))
        have RB0 : Hid (PatIn _ _ (set3 (set3 V3 U0.heap.size (.int .i64 M1) (.int .i64 N1) (.slice aA L1.length cA)) y2.heap.size (.int .i64 M2) (.int .i64 N2) (.slice aB L2.length cB)) _ _) := Lib.hid (row3 RB0.out (by omega) (by first | omega | (simp [World.setCell] <;> omega)))
        refine reg_take 13 (v := ?_) rfl (by kernel_rfl) (by kernel_rfl) (by kernel_rfl) (fun _ _ _ h => h) (by rfl) (by intro w hSw; (try dsimp only at hSw); go_simp; first | done | with_reducible rfl) hS ?_
        (try simp only [Act.put, List.setIfInBounds_toArray, List.set_cons_zero, List.set_cons_succ])
        refine wpAnyH_done (by kernel_rfl) ?_ _
        have HBW := Lib.hid hS.2.2.2.2.2
        clear hS
        go_wp2_with fail
        go_meet
        exact ⟨_, _, _, _, y2.heap.size, rfl, rfl, HX9, HX10, Lib.hid (RA0.out.wide (by omega) (Nat.le_refl _)), Lib.hid (RB0.out.wide (by omega) (Nat.le_refl _)), by simp [World.setCell] <;> omega, HBW⟩
      · go_simp
        refine hK.out _ _ (KP1.out _ _ (bel0 _ _) hS) (fun hS' => ?_)
        clear hK K hS
        have hS := hS'
        clear hS'
        try (try simp only [Act.put, List.setIfInBounds_toArray, List.set_cons_zero, List.set_cons_succ])
        have hbe : Below V1.heap.size V1 (V1.alloc (.cells #[.int .i64 0, .int .i64 0, .slice none 0 0] 50)) := bel0 _ _
        have HX10 := Lib.hid (BoxL.new V1 (.int .i64 0) (.int .i64 0) (.slice none 0 0) 50)
        have hzV2 : (V1.alloc (.cells #[.int .i64 0, .int .i64 0, .slice none 0 0] 50)).heap.size ≤ V1.heap.size + 1 ∧ V1.heap.size + 1 ≤ (V1.alloc (.cells #[.int .i64 0, .int .i64 0, .slice none 0 0] 50)).heap.size := by simp
        have HX9 := Lib.hid (HX9.out.below hbe (by omega))
        obtain ⟨V2, hV⟩ : ∃ V, V = V1.alloc (.cells #[.int .i64 0, .int .i64 0, .slice none 0 0] 50) := ⟨_, rfl⟩
        rw [← hV] at hS HX9 HX10 hzV2 ⊢
        clear hV hbe
        refine reg_call 4 rfl (by kernel_rfl) (by rfl) (fun K hK => ?_)
        go_simp
        go_at_call 55
        refine (args_eqL (CS.out _ hS) (by with_reducible rfl)).mono ?_
        rintro e y3 ⟨vA, vB, rfl, RA, RB, hb⟩
        have RA0 := Lib.hid RA
        have RB0 := Lib.hid RB
        obtain ⟨aA, cA, rfl⟩ := RA.form
        obtain ⟨aB, cB, rfl⟩ := RB.form
        clear RA RB
        have hzy3 := hb.size
        have HX9 := Lib.hid (HX9.out.below hb (by omega))
        have HX10 := Lib.hid (HX10.out.below hb (by omega))
        refine hK.out _ _ (KP1.out _ _ hb hS) (fun hS' => ?_)
        clear hK K hS
        have hS := hS'
        clear hS'
        try (try simp only [Act.put, List.setIfInBounds_toArray, List.set_cons_zero, List.set_cons_succ])
        clear hb
        refine reg_take 5 (v := ?_) rfl (by kernel_rfl) (by kernel_rfl) (by kernel_rfl) (fun _ _ _ h => h) (by rfl) (by intro w hSw; (try dsimp only at hSw); go_simp; first | done | with_reducible rfl) hS ?_
        (try simp only [Act.put, List.setIfInBounds_toArray, List.set_cons_zero, List.set_cons_succ])
        refine reg_take 6 (v := ?_) rfl (by kernel_rfl) (by kernel_rfl) (by kernel_rfl) (fun _ _ _ h => h) (by rfl) (by intro w hSw; (try dsimp only at hSw); go_simp; first | done | with_reducible rfl) hS ?_
        (try simp only [Act.put, List.setIfInBounds_toArray, List.set_cons_zero, List.set_cons_succ])
        refine reg_take 7 (v := ?_) rfl (by kernel_rfl) (by kernel_rfl) (by kernel_rfl) (fun _ _ _ h => h) (by rfl) (by intro w hSw; (try dsimp only at hSw); go_simp; first | done | with_reducible rfl) hS ?_
        (try simp only [Act.put, List.setIfInBounds_toArray, List.set_cons_zero, List.set_cons_succ])
        refine reg_take 8 (v := ?_) rfl (by kernel_rfl) (by kernel_rfl) (by kernel_rfl) (fun _ _ _ h => h) (by rfl) (by intro w hSw; (try dsimp only at hSw); go_simp; first | done | with_reducible rfl) hS ?_
        (try simp only [Act.put, List.setIfInBounds_toArray, List.set_cons_zero, List.set_cons_succ])
        clear KP1
        refine reg_call 11 rfl (by kernel_rfl) (by rfl) (fun K hK => ?_)
        have ec0 := HX9.out.1
        have ec1 := HX9.out.2.1
        have ec2 := HX9.out.2.2.1
        have ec3 := HX9.out.2.2.2.1
        have ec4 := HX9.out.2.2.2.2.1
        have ec5 := HX9.out.2.2.2.2.2
        go_simp
        refine hK.out _ _ (KS1.out _ U0.heap.size (.int .i64 M1) (.int .i64 N1) (.slice aA L1.length cA) (by omega) hS) (fun hS' => ?_)
        clear hK K hS ec0 ec1 ec2 ec3 ec4 ec5
        have hS := hS'
        clear hS'
        try (try simp only [Act.put, List.setIfInBounds_toArray, List.set_cons_zero, List.set_cons_succ])
        have HX9 : Hid (BoxL U0.heap.size (.int .i64 M1) (.int .i64 N1) (.slice aA L1.length cA) (set3 y3 U0.heap.size (.int .i64 M1) (.int .i64 N1) (.slice aA L1.length cA))) := Lib.hid (BoxL.put3 HX9.out)
        have HX10 : Hid (BoxL V1.heap.size (.int .i64 0) (.int .i64 0) (.slice none 0 0) (set3 y3 U0.heap.size (.int .i64 M1) (.int .i64 N1) (.slice aA L1.length cA))) := Lib.hid (BoxL.far3 HX10.out (show U0.heap.size ≠ V1.heap.size by omega))
        have RA0 : Hid (PatIn _ _ (set3 y3 U0.heap.size (.int .i64 M1) (.int .i64 N1) (.slice aA L1.length cA)) _ _) := Lib.hid (row3 RA0.out (by omega) (by first | omega | (simp [World.setCell] <;> omega)))
        have RB0 : Hid (PatIn _ _ (set3 y3 U0.heap.size (.int .i64 M1) (.int .i64 N1) (.slice aA L1.length cA)) _ _) := Lib.hid (row3 RB0.out (by omega) (by first | omega | (simp [World.setCell] <;> omega)))
        refine reg_call 12 rfl (by kernel_rfl) (by rfl) (fun K hK => ?_)
        have ec0 := HX10.out.1
        have ec1 := HX10.out.2.1
        have ec2 := HX10.out.2.2.1
        have ec3 := HX10.out.2.2.2.1
        have ec4 := HX10.out.2.2.2.2.1
        have ec5 := HX10.out.2.2.2.2.2
        go_simp
        refine hK.out _ _ (KS1.out _ V1.heap.size (.int .i64 M2) (.int .i64 N2) (.slice aB L2.length cB) (by omega) hS) (fun hS' => ?_)
        clear hK K hS ec0 ec1 ec2 ec3 ec4 ec5
        have hS := hS'
        clear hS'
        try (try simp only [Act.put, List.setIfInBounds_toArray, List.set_cons_zero, List.set_cons_succ])
        have HX10 : Hid (BoxL V1.heap.size (.int .i64 M2) (.int .i64 N2) (.slice aB L2.length cB) (set3 (set3 y3 U0.heap.size (.int .i64 M1) (.int .i64 N1) (.slice aA L1.length cA)) V1.heap.size (.int .i64 M2) (.int .i64 N2) (.slice aB L2.length cB))) := Lib.hid (BoxL.put3 HX10.out)
        have HX9 : Hid (BoxL U0.heap.size (.int .i64 M1) (.int .i64 N1) (.slice aA L1.length cA) (set3 (set3 y3 U0.heap.size (.int .i64 M1) (.int .i64 N1) (.slice aA L1.length cA)) V1.heap.size (.int .i64 M2) (.int .i64 N2) (.slice aB L2.length cB))) := Lib.hid (BoxL.far3 HX9.out (show V1.heap.size ≠ U0.heap.size by omega))
        have RA0 : Hid (PatIn _ _ (set3 (set3 y3 U0.heap.size (.int .i64 M1) (.int .i64 N1) (.slice aA L1.length cA)) V1.heap.size (.int .i64 M2) (.int .i64 N2) (.slice aB L2.length cB)) _ _) := Lib.hid (row3 RA0.out (by omega) (by first | omega | (simp [World.setCell] <;> omega)))
        have RB0 : Hid (PatIn _ _ (set3 (set3 y3 U0.heap.size (.int .i64 M1) (.int .i64 N1) (.slice aA L1.length cA)) V1.heap.size (.int .i64 M2) (.int .i64 N2) (.slice aB L2.length cB)) _ _) := Lib.hid (row3 RB0.out (by omega) (by first | omega | (simp [World.setCell] <;> omega)))
        refine reg_take 13 (v := ?_) rfl (by kernel_rfl) (by kernel_rfl) (by kernel_rfl) (fun _ _ _ h => h) (by rfl) (by intro w hSw; (try dsimp only at hSw); go_simp; first | done | with_reducible rfl) hS ?_
        (try simp only [Act.put, List.setIfInBounds_toArray, List.set_cons_zero, List.set_cons_succ])
        refine wpAnyH_done (by kernel_rfl) ?_ _
        have HBW := Lib.hid hS.2.2.2.2.2
        clear hS
        go_wp2_with fail
        go_meet
        exact ⟨_, _, _, _, y3.heap.size, rfl, rfl, HX9, HX10, Lib.hid (RA0.out.wide (by omega) (Nat.le_refl _)), Lib.hid (RB0.out.wide (by omega) (Nat.le_refl _)), by simp [World.setCell] <;> omega, HBW⟩
    · go_simp
      refine hK.out _ _ (KP1.out _ _ (bel0 _ _) hS) (fun hS' => ?_)
      clear hK K hS
      have hS := hS'
      clear hS'
      try (try simp only [Act.put, List.setIfInBounds_toArray, List.set_cons_zero, List.set_cons_succ])
      have hbe : Below U0.heap.size U0 (U0.alloc (.cells #[.int .i64 0, .int .i64 0, .slice none 0 0] 50)) := bel0 _ _
      have HX10 := Lib.hid (BoxL.new U0 (.int .i64 0) (.int .i64 0) (.slice none 0 0) 50)
      have hzV1 : (U0.alloc (.cells #[.int .i64 0, .int .i64 0, .slice none 0 0] 50)).heap.size ≤ U0.heap.size + 1 ∧ U0.heap.size + 1 ≤ (U0.alloc (.cells #[.int .i64 0, .int .i64 0, .slice none 0 0] 50)).heap.size := by simp
      obtain ⟨V1, hV⟩ : ∃ V, V = U0.alloc (.cells #[.int .i64 0, .int .i64 0, .slice none 0 0] 50) := ⟨_, rfl⟩
      rw [← hV] at hS HX10 hzV1 ⊢
      clear hV hbe
      refine reg_two 4 9 rfl rfl (by kernel_rfl) (by rfl) (by rfl) (fun K hK => ?_) (fun K hK => ?_)
      · go_simp
        go_at_call 55
        refine (args_eqL (CS.out _ hS) (by with_reducible rfl)).mono ?_
        rintro e y2 ⟨vA, vB, rfl, RA, RB, hb⟩
        have RA0 := Lib.hid RA
        have RB0 := Lib.hid RB
        obtain ⟨aA, cA, rfl⟩ := RA.form
        obtain ⟨aB, cB, rfl⟩ := RB.form
        clear RA RB
        have hzy2 := hb.size
        have HX10 := Lib.hid (HX10.out.below hb (by omega))
        refine hK.out _ _ (KP1.out _ _ hb hS) (fun hS' => ?_)
        clear hK K hS
        have hS := hS'
        clear hS'
        try (try simp only [Act.put, List.setIfInBounds_toArray, List.set_cons_zero, List.set_cons_succ])
        clear hb
        refine reg_take 5 (v := ?_) rfl (by kernel_rfl) (by kernel_rfl) (by kernel_rfl) (fun _ _ _ h => h) (by rfl) (by intro w hSw; (try dsimp only at hSw); go_simp; first | done | with_reducible rfl) hS ?_
        (try simp only [Act.put, List.setIfInBounds_toArray, List.set_cons_zero, List.set_cons_succ])
        refine reg_take 6 (v := ?_) rfl (by kernel_rfl) (by kernel_rfl) (by kernel_rfl) (fun _ _ _ h => h) (by rfl) (by intro w hSw; (try dsimp only at hSw); go_simp; first | done | with_reducible rfl) hS ?_
        (try simp only [Act.put, List.setIfInBounds_toArray, List.set_cons_zero, List.set_cons_succ])
        refine reg_take 7 (v := ?_) rfl (by kernel_rfl) (by kernel_rfl) (by kernel_rfl) (fun _ _ _ h => h) (by rfl) (by intro w hSw; (try dsimp only at hSw); go_simp; first | done | with_reducible rfl) hS ?_
        (try simp only [Act.put, List.setIfInBounds_toArray, List.set_cons_zero, List.set_cons_succ])
        refine reg_take 8 (v := ?_) rfl (by kernel_rfl) (by kernel_rfl) (by kernel_rfl) (fun _ _ _ h => h) (by rfl) (by intro w hSw; (try dsimp only at hSw); go_simp; first | done | with_reducible rfl) hS ?_
        (try simp only [Act.put, List.setIfInBounds_toArray, List.set_cons_zero, List.set_cons_succ])
        refine reg_call 9 rfl (by kernel_rfl) (by rfl) (fun K hK => ?_)
        go_simp
        refine hK.out _ _ (KP1.out _ _ (bel0 _ _) hS) (fun hS' => ?_)
        clear hK K hS
        have hS := hS'
        clear hS'
        try (try simp only [Act.put, List.setIfInBounds_toArray, List.set_cons_zero, List.set_cons_succ])
        have hbe : Below y2.heap.size y2 (y2.alloc (.cells #[.int .i64 0, .int .i64 0, .slice none 0 0] 50)) := bel0 _ _
        have HX9 := Lib.hid (BoxL.new y2 (.int .i64 0) (.int .i64 0) (.slice none 0 0) 50)
        have hzV3 : (y2.alloc (.cells #[.int .i64 0, .int .i64 0, .slice none 0 0] 50)).heap.size ≤ y2.heap.size + 1 ∧ y2.heap.size + 1 ≤ (y2.alloc (.cells #[.int .i64 0, .int .i64 0, .slice none 0 0] 50)).heap.size := by simp
        have HX10 := Lib.hid (HX10.out.below hbe (by omega))
        have RA0 := Lib.hid (RA0.out.below (hbe.mono (by omega)))
        have RB0 := Lib.hid (RB0.out.below (hbe.mono (by omega)))
        obtain ⟨V3, hV⟩ : ∃ V, V = y2.alloc (.cells #[.int .i64 0, .int .i64 0, .slice none 0 0] 50) := ⟨_, rfl⟩
        rw [← hV] at hS HX10 HX9 hzV3 RA0 RB0 ⊢
        clear hV hbe
        clear KP1
        refine reg_call 11 rfl (by kernel_rfl) (by rfl) (fun K hK => ?_)
        have ec0 := HX9.out.1
        have ec1 := HX9.out.2.1
        have ec2 := HX9.out.2.2.1
        have ec3 := HX9.out.2.2.2.1
        have ec4 := HX9.out.2.2.2.2.1
        have ec5 := HX9.out.2.2.2.2.2
        go_simp
        refine hK.out _ _ (KS1.out _ y2.heap.size (.int .i64 M1) (.int .i64 N1) (.slice aA L1.length cA) (by omega) hS) (fun hS' => ?_)
        clear hK K hS ec0 ec1 ec2 ec3 ec4 ec5
        have hS := hS'
        clear hS'
        try (try simp only [Act.put, List.setIfInBounds_toArray, List.set_cons_zero, List.set_cons_succ])
        have HX9 : Hid (BoxL y2.heap.size (.int .i64 M1) (.int .i64 N1) (.slice aA L1.length cA) (set3 V3 y2.heap.size (.int .i64 M1) (.int .i64 N1) (.slice aA L1.length cA))) := Lib.hid (BoxL.put3 HX9.out)
        have HX10 : Hid (BoxL U0.heap.size (.int .i64 0) (.int .i64 0) (.slice none 0 0) (set3 V3 y2.heap.size (.int .i64 M1) (.int .i64 N1) (.slice aA L1.length cA))) := Lib.hid (BoxL.far3 HX10.out (show y2.heap.size ≠ U0.heap.size by omega))
        have RA0 : Hid (PatIn _ _ (set3 V3 y2.heap.size (.int .i64 M1) (.int .i64 N1) (.slice aA L1.length cA)) _ _) := Lib.hid (row3 RA0.out (by omega) (by first | omega | (simp [World.setCell] <;> omega)))
        have RB0 : Hid (PatIn _ _ (set3 V3 y2.heap.size (.int .i64 M1) (.int .i64 N1) (.slice aA L1.length cA)) _ _) := Lib.hid (row3 RB0.out (by omega) (by first | omega | (simp [World.setCell] <;> omega)))
        refine reg_call 12 rfl (by kernel_rfl) (by rfl) (fun K hK => ?_)
        have ec0 := HX10.out.1
        have ec1 := HX10.out.2.1
        have ec2 := HX10.out.2.2.1
        have ec3 := HX10.out.2.2.2.1
        have ec4 := HX10.out.2.2.2.2.1
        have ec5 := HX10.out.2.2.2.2.2
        go_simp
        refine hK.out _ _ (KS1.out _ U0.heap.size (.int .i64 M2) (.int .i64 N2) (.slice aB L2.length cB) (by omega) hS) (fun hS' => ?_)
        clear hK K hS ec0 ec1 ec2 ec3 ec4 ec5
        have hS := hS'
        clear hS'
        try (try simp only [Act.put, List.setIfInBounds_toArray, List.set_cons_zero, List.set_cons_succ])
        have HX10 : Hid (BoxL U0.heap.size (.int .i64 M2) (.int .i64 N2) (.slice aB L2.length cB) (set3 (set3 V3 y2.heap.size (.int .i64 M1) (.int .i64 N1) (.slice aA L1.length cA)) U0.heap.size (.int .i64 M2) (.int .i64 N2) (.slice aB L2.length cB))) := Lib.hid (BoxL.put3 HX10.out)
        have HX9 : Hid (BoxL y2.heap.size (.int .i64 M1) (.int .i64 N1) (.slice aA L1.length cA) (set3 (set3 V3 y2.heap.size (.int .i64 M1) (.int .i64 N1) (.slice aA L1.length cA)) U0.heap.size (.int .i64 M2) (.int .i64 N2) (.slice aB L2.length cB))) := Lib.hid (BoxL.far3 HX9.out (show U0.heap.size ≠ y2.heap.size by omega))
        have RA0 : Hid (PatIn _ _ (set3 (set3 V3 y2.heap.size (.int .i64 M1) (.int .i64 N1) (.slice aA L1.length cA)) U0.heap.size (.int .i64 M2) (.int .i64 N2) (.slice aB L2.length cB)) _ _) := Lib.hid (row3 RA0.out (by omega) (by first | omega | (simp [World.setCell] <;> omega)))
        have RB0 : Hid (PatIn _ _ (set3 (set3 V3 y2.heap.size (.int .i64 M1) (.int .i64 N1) (.slice aA L1.length cA)) U0.heap.size (.int .i64 M2) (.int .i64 N2) (.slice aB L2.length cB)) _ _) := Lib.hid (row3 RB0.out (by omega) (by first | omega | (simp [World.setCell] <;> omega)))
        refine reg_take 13 (v := ?_) rfl (by kernel_rfl) (by kernel_rfl) (by kernel_rfl) (fun _ _ _ h => h) (by rfl) (by intro w hSw; (try dsimp only at hSw); go_simp; first | done | with_reducible rfl) hS ?_
        (try simp only [Act.put, List.setIfInBounds_toArray, List.set_cons_zero, List.set_cons_succ])
        refine wpAnyH_done (by kernel_rfl) ?_ _
        have HBW := Lib.hid hS.2.2.2.2.2
        clear hS
        go_wp2_with fail
        go_meet
        exact ⟨_, _, _, _, y2.heap.size, rfl, rfl, HX9, HX10, Lib.hid (RA0.out.wide (by omega) (Nat.le_refl _)), Lib.hid (RB0.out.wide (by omega) (Nat.le_refl _)), by simp [World.setCell] <;> omega, HBW⟩
      · go_simp
        refine hK.out _ _ (KP1.out _ _ (bel0 _ _) hS) (fun hS' => ?_)
        clear hK K hS
        have hS := hS'
        clear hS'
        try (try simp only [Act.put, List.setIfInBounds_toArray, List.set_cons_zero, List.set_cons_succ])
        have hbe : Below V1.heap.size V1 (V1.alloc (.cells #[.int .i64 0, .int .i64 0, .slice none 0 0] 50)) := bel0 _ _
        have HX9 := Lib.hid (BoxL.new V1 (.int .i64 0) (.int .i64 0) (.slice none 0 0) 50)
        have hzV2 : (V1.alloc (.cells #[.int .i64 0, .int .i64 0, .slice none 0 0] 50)).heap.size ≤ V1.heap.size + 1 ∧ V1.heap.size + 1 ≤ (V1.alloc (.cells #[.int .i64 0, .int .i64 0, .slice none 0 0] 50)).heap.size := by simp
        have HX10 := Lib.hid (HX10.out.below hbe (by omega))
        obtain ⟨V2, hV⟩ : ∃ V, V = V1.alloc (.cells #[.int .i64 0, .int .i64 0, .slice none 0 0] 50) := ⟨_, rfl⟩
        rw [← hV] at hS HX10 HX9 hzV2 ⊢
        clear hV hbe
        refine reg_call 4 rfl (by kernel_rfl) (by rfl) (fun K hK => ?_)
        go_simp
        go_at_call 55
        refine (args_eqL (CS.out _ hS) (by with_reducible rfl)).mono ?_
        rintro e y3 ⟨vA, vB, rfl, RA, RB, hb⟩
        have RA0 := Lib.hid RA
        have RB0 := Lib.hid RB
        obtain ⟨aA, cA, rfl⟩ := RA.form
        obtain ⟨aB, cB, rfl⟩ := RB.form
        clear RA RB
        have hzy3 := hb.size
        have HX10 := Lib.hid (HX10.out.below hb (by omega))
        have HX9 := Lib.hid (HX9.out.below hb (by omega))
        refine hK.out _ _ (KP1.out _ _ hb hS) (fun hS' => ?_)
        clear hK K hS
        have hS := hS'
        clear hS'
        try (try simp only [Act.put, List.setIfInBounds_toArray, List.set_cons_zero, List.set_cons_succ])
        clear hb
        refine reg_take 5 (v := ?_) rfl (by kernel_rfl) (by kernel_rfl) (by kernel_rfl) (fun _ _ _ h => h) (by rfl) (by intro w hSw; (try dsimp only at hSw); go_simp; first | done | with_reducible rfl) hS ?_
        (try simp only [Act.put, List.setIfInBounds_toArray, List.set_cons_zero, List.set_cons_succ])
        refine reg_take 6 (v := ?_) rfl (by kernel_rfl) (by kernel_rfl) (by kernel_rfl) (fun _ _ _ h => h) (by rfl) (by intro w hSw; (try dsimp only at hSw); go_simp; first | done | with_reducible rfl) hS ?_
        (try simp only [Act.put, List.setIfInBounds_toArray, List.set_cons_zero, List.set_cons_succ])
        refine reg_take 7 (v := ?_) rfl (by kernel_rfl) (by kernel_rfl) (by kernel_rfl) (fun _ _ _ h => h) (by rfl) (by intro w hSw; (try dsimp only at hSw); go_simp; first | done | with_reducible rfl) hS ?_
        (try simp only [Act.put, List.setIfInBounds_toArray, List.set_cons_zero, List.set_cons_succ])
        refine reg_take 8 (v := ?_) rfl (by kernel_rfl) (by kernel_rfl) (by kernel_rfl) (fun _ _ _ h => h) (by rfl) (by intro w hSw; (try dsimp only at hSw); go_simp; first | done | with_reducible rfl) hS ?_
        (try simp only [Act.put, List.setIfInBounds_toArray, List.set_cons_zero, List.set_cons_succ])
        clear KP1
        refine reg_call 11 rfl (by kernel_rfl) (by rfl) (fun K hK => ?_)
        have ec0 := HX9.out.1
        have ec1 := HX9.out.2.1
        have ec2 := HX9.out.2.2.1
        have ec3 := HX9.out.2.2.2.1
        have ec4 := HX9.out.2.2.2.2.1
        have ec5 := HX9.out.2.2.2.2.2
        go_simp
        refine hK.out _ _ (KS1.out _ V1.heap.size (.int .i64 M1) (.int .i64 N1) (.slice aA L1.length cA) (by omega) hS) (fun hS' => ?_)
        clear hK K hS ec0 ec1 ec2 ec3 ec4 ec5
        have hS := hS'
        clear hS'
        try (try simp only [Act.put, List.setIfInBounds_toArray, List.set_cons_zero, List.set_cons_succ])
        have HX9 : Hid (BoxL V1.heap.size (.int .i64 M1) (.int .i64 N1) (.slice aA L1.length cA) (set3 y3 V1.heap.size (.int .i64 M1) (.int .i64 N1) (.slice aA L1.length cA))) := Lib.hid (BoxL.put3 HX9.out)
        have HX10 : Hid (BoxL U0.heap.size (.int .i64 0) (.int .i64 0) (.slice none 0 0) (set3 y3 V1.heap.size (.int .i64 M1) (.int .i64 N1) (.slice aA L1.length cA))) := Lib.hid (BoxL.far3 HX10.out (show V1.heap.size ≠ U0.heap.size by omega))
        have RA0 : Hid (PatIn _ _ (set3 y3 V1.heap.size (.int .i64 M1) (.int .i64 N1) (.slice aA L1.length cA)) _ _) := Lib.hid (row3 RA0.out (by omega) (by first | omega | (simp [World.setCell] <;> omega)))
        have RB0 : Hid (PatIn _ _ (set3 y3 V1.heap.size (.int .i64 M1) (.int .i64 N1) (.slice aA L1.length cA)) _ _) := Lib.hid (row3 RB0.out (by omega) (by first | omega | (simp [World.setCell] <;> omega)))
        refine reg_call 12 rfl (by kernel_rfl) (by rfl) (fun K hK => ?_)
        have ec0 := HX10.out.1
        have ec1 := HX10.out.2.1
        have ec2 := HX10.out.2.2.1
        have ec3 := HX10.out.2.2.2.1
        have ec4 := HX10.out.2.2.2.2.1
        have ec5 := HX10.out.2.2.2.2.2
        go_simp
        refine hK.out _ _ (KS1.out _ U0.heap.size (.int .i64 M2) (.int .i64 N2) (.slice aB L2.length cB) (by omega) hS) (fun hS' => ?_)
        clear hK K hS ec0 ec1 ec2 ec3 ec4 ec5
        have hS := hS'
        clear hS'
        try (try simp only [Act.put, List.setIfInBounds_toArray, List.set_cons_zero, List.set_cons_succ])
        have HX10 : Hid (BoxL U0.heap.size (.int .i64 M2) (.int .i64 N2) (.slice aB L2.length cB) (set3 (set3 y3 V1.heap.size (.int .i64 M1) (.int .i64 N1) (.slice aA L1.length cA)) U0.heap.size (.int .i64 M2) (.int .i64 N2) (.slice aB L2.length cB))) := Lib.hid (BoxL.put3 HX10.out)
        have HX9 : Hid (BoxL V1.heap.size (.int .i64 M1) (.int .i64 N1) (.slice aA L1.length cA) (set3 (set3 y3 V1.heap.size (.int .i64 M1) (.int .i64 N1) (.slice aA L1.length cA)) U0.heap.size (.int .i64 M2) (.int .i64 N2) (.slice aB L2.length cB))) := Lib.hid (BoxL.far3 HX9.out (show U0.heap.size ≠ V1.heap.size by omega))
        have RA0 : Hid (PatIn _ _ (set3 (set3 y3 V1.heap.size (.int .i64 M1) (.int .i64 N1) (.slice aA L1.length cA)) U0.heap.size (.int .i64 M2) (.int .i64 N2) (.slice aB L2.length cB)) _ _) := Lib.hid (row3 RA0.out (by omega) (by first | omega | (simp [World.setCell] <;> omega)))
        have RB0 : Hid (PatIn _ _ (set3 (set3 y3 V1.heap.size (.int .i64 M1) (.int .i64 N1) (.slice aA L1.length cA)) U0.heap.size (.int .i64 M2) (.int .i64 N2) (.slice aB L2.length cB)) _ _) := Lib.hid (row3 RB0.out (by omega) (by first | omega | (simp [World.setCell] <;> omega)))
        refine reg_take 13 (v := ?_) rfl (by kernel_rfl) (by kernel_rfl) (by kernel_rfl) (fun _ _ _ h => h) (by rfl) (by intro w hSw; (try dsimp only at hSw); go_simp; first | done | with_reducible rfl) hS ?_
        (try simp only [Act.put, List.setIfInBounds_toArray, List.set_cons_zero, List.set_cons_succ])
        refine wpAnyH_done (by kernel_rfl) ?_ _
        have HBW := Lib.hid hS.2.2.2.2.2
        clear hS
        go_wp2_with fail
        go_meet
        exact ⟨_, _, _, _, y3.heap.size, rfl, rfl, HX9, HX10, Lib.hid (RA0.out.wide (by omega) (Nat.le_refl _)), Lib.hid (RB0.out.wide (by omega) (Nat.le_refl _)), by simp [World.setCell] <;> omega, HBW⟩
  case rest =>
    obtain ⟨pA, pB, vA, vB, kk, rfl, rfl, HA, HB, RA, RB, hk, HBW⟩ := hcut
    generalize wc = X at *
    have k2 := kept HBW.out b2'
    have f0 := kept HBW.out e0
    have f1 := kept HBW.out e1
    have HBX := Lib.hid (bel_c HB1.out (Nat.le_refl _) HBW.out)
    have hsx := HBW.out.size
    clear b0 b1' b2' e0 e1 S0 CS KP1 KS1
    have BY : Below X.heap.size X ((X.alloc (.cells #[] 3)).alloc (.cells #[] 3)) := bel_n (bel0 X _) (Nat.le_refl _) _
    have HO1 : Hid (OwnD X.heap.size ((X.alloc (.cells #[] 3)).alloc (.cells #[] 3)) (.slice (some ⟨X.heap.size, 0, none⟩) 0 0) (numK ⟨up, a⟩ false xs ns 0)) := Lib.hid (by
      have := World.ownsRow_lit (base := X.heap.size) (e := 3) (size := 1) X #[] 0 (Nat.le_refl _) (by decide) rfl
      exact owL this (bel0 _ _))
    have HO2 : Hid (OwnD X.heap.size ((X.alloc (.cells #[] 3)).alloc (.cells #[] 3)) (.slice (some ⟨X.heap.size + 1, 0, none⟩) 0 0) (numK ⟨up, a⟩ true xs ns 0)) := Lib.hid (by
      have := World.ownsRow_lit (base := X.heap.size) (e := 3) (size := 1) (X.alloc (.cells #[] 3)) #[] 0 (by simp) (by decide) rfl
      simpa [OwnD, numK, idxs, ivals] using this)
    have HDI : Hid (Dis (.slice (some ⟨X.heap.size, 0, none⟩) 0 0) (.slice (some ⟨X.heap.size + 1, 0, none⟩) 0 0)) := Lib.hid (fun g h1 h2 => by simp [Value.ownBlock] at h1 h2; omega)
    have HYB := Lib.hid BY
    clear BY
    go_wp2_with fail
    go_loopw [13, 14, 15] (fun q1 q2 i wr => ∃ k : Nat, k ≤ xs.length ∧ i = .int .i64 k ∧ Hid (OwnD X.heap.size wr q1 (numK ⟨up, a⟩ false xs ns k)) ∧ Hid (OwnD X.heap.size wr q2 (numK ⟨up, a⟩ true xs ns k)) ∧ Hid (Dis q1 q2) ∧ Hid (Below X.heap.size X wr)) (fun _ _ i _ => xs.length - (intOf i).toNat)
    case atStart => exact ⟨0, Nat.zero_le _, rfl, HO1, HO2, HDI, HYB⟩
    case round =>
      clear HO1 HO2 HDI HYB
      obtain ⟨k, hkx, rfl, ho1, ho2, hdis, hbel⟩ := hrel
      have k2w := kept hbel.out k2
      have hsw := hbel.out.size
      by_cases hlt : k < xs.length
      · skip
        obtain ⟨gp, rfl, _, _, ⟨p0, p1, p2, p3, p4⟩, _⟩ := R.out.at ((bel_c HBX.out (Nat.le_refl _) hbel.out).mono hhi) hlt
        obtain ⟨gn, rfl, _, _, n0, _⟩ := R2.out.at ((bel_c HBX.out (Nat.le_refl _) hbel.out).mono hhi2) (i := k) (by rw [HNN.out]; exact hlt)
        obtain ⟨d, hdd⟩ : ∃ d, d = xs.getD k P5.zero := ⟨_, rfl⟩
        rw [← hdd] at p0 p1 p2 p3 p4
        have HDD : Hid (pat xs k = d) := Lib.hid hdd.symm
        have HZ : ∀ (b : Bool), sel2 ⟨up, a⟩ (pat xs k) = b → numK ⟨up, a⟩ b xs ns (k + 1) = numK ⟨up, a⟩ b xs ns k ++ [ns.getD k 0] := fun b h => numK_yes h
        have HZN : ∀ (b : Bool), sel2 ⟨up, a⟩ (pat xs k) ≠ b → numK ⟨up, a⟩ b xs ns (k + 1) = numK ⟨up, a⟩ b xs ns k := fun b h => numK_no h
        rw [HDD.out] at HZ HZN
        obtain ⟨z, hz⟩ : ∃ z, z = ns.getD k 0 := ⟨_, rfl⟩
        rw [← hz] at n0 HZ
        have hl1 := numK_len ⟨up, a⟩ false xs ns k
        have hl2 := numK_len ⟨up, a⟩ true xs ns k
        obtain ⟨N1, hN1⟩ : ∃ N, N = numK ⟨up, a⟩ false xs ns k := ⟨_, rfl⟩
        obtain ⟨N2, hN2⟩ : ∃ N, N = numK ⟨up, a⟩ true xs ns k := ⟨_, rfl⟩
        rw [← hN1] at ho1 hl1
        rw [← hN2] at ho2 hl2
        have hZ1 := HZ false
        have hZ2 := HZ true
        have hZ3 := HZN false
        have hZ4 := HZN true
        rw [← hN1] at hZ1 hZ3
        rw [← hN2] at hZ2 hZ4
        have BA := bel0 wr (.cells #[.int .i64 d.x, .int .i64 d.y, .int .i64 d.w, .int .i64 d.h, .int .i64 d.c] 73)
        have DA : Below (wr.alloc (.cells #[.int .i64 d.x, .int .i64 d.y, .int .i64 d.w, .int .i64 d.h, .int .i64 d.c] 73)).heap.size (wr.alloc (.cells #[.int .i64 d.x, .int .i64 d.y, .int .i64 d.w, .int .i64 d.h, .int .i64 d.c] 73)) (wr.alloc (.cells #[.int .i64 d.x, .int .i64 d.y, .int .i64 d.w, .int .i64 d.h, .int .i64 d.c] 73)).drew := ⟨rfl, rfl, rfl, Nat.le_refl _, fun _ _ => rfl⟩
        have S1 : (wr.alloc (.cells #[.int .i64 d.x, .int .i64 d.y, .int .i64 d.w, .int .i64 d.h, .int .i64 d.c] 73)).drew.cell? ⟨g, 0, none⟩ = some (.bool up) := kept DA (kept BA (kept hbel.out f0))
        have S2 : (wr.alloc (.cells #[.int .i64 d.x, .int .i64 d.y, .int .i64 d.w, .int .i64 d.h, .int .i64 d.c] 73)).drew.cell? ⟨g, 1, none⟩ = some (.int .i64 a) := kept DA (kept BA (kept hbel.out f1))
        have S3 : (wr.alloc (.cells #[.int .i64 d.x, .int .i64 d.y, .int .i64 d.w, .int .i64 d.h, .int .i64 d.c] 73)).drew.cell? ⟨wr.heap.size, 0, none⟩ = some (.int .i64 d.x) := kept DA (by simp)
        have S4 : (wr.alloc (.cells #[.int .i64 d.x, .int .i64 d.y, .int .i64 d.w, .int .i64 d.h, .int .i64 d.c] 73)).drew.cell? ⟨wr.heap.size, 1, none⟩ = some (.int .i64 d.y) := kept DA (by simp)
        have BD := bel_c BA (Nat.le_refl _) DA
        have nz := kept BD n0
        obtain ⟨Wd, hWd⟩ : ∃ W, (wr.alloc (.cells #[.int .i64 d.x, .int .i64 d.y, .int .i64 d.w, .int .i64 d.h, .int .i64 d.c] 73)).drew = W := ⟨_, rfl⟩
        rw [hWd] at nz BD
        have BW := bel_c BD (Nat.le_refl _) (bel0 Wd (.cells #[.int .i64 z] 3))
        have HQ1 : Hid ((Wd.alloc (.cells #[.int .i64 z] 3)).ownsRow X.heap.size 3 1 u13 N1.length (ivals N1)) := Lib.hid (owL ho1.out BW)
        have HQ2 : Hid ((Wd.alloc (.cells #[.int .i64 z] 3)).ownsRow X.heap.size 3 1 u14 N2.length (ivals N2)) := Lib.hid (owL ho2.out BW)
        have HBD := Lib.hid (bel_c hbel.out (Nat.le_refl _) BW)
        have HSX := Lib.hid HBD.out.size
        have HNW := Lib.hid (newsL Wd Wd.heap.size #[.int .i64 z] 3 rfl)
        clear HZ HZN hN1 hN2 hz hdd HDD ho1 ho2 hbel BA DA BD BW n0 hsw f0 f1 k2
        cases up
        · skip
          have S0 := And.intro S1 (And.intro S2 (And.intro S3 S4))
          clear S1 S2 S3 S4
          by_cases hsel : a ≤ d.y
          · have hs : sel2 ⟨false, a⟩ d = true := by rw [sel_f]; exact decide_eq_true hsel
            have HN2 := Lib.hid (hZ2 hs)
            have HN1 := Lib.hid (hZ3 (by rw [hs]; decide))
            clear hZ1 hZ2 hZ3 hZ4 hs
            go_wp2_with fail
            (try simp only [List.append_eq, List.cons_append, List.nil_append])
            have hS := S0
            refine reg_begin (fun w' => w'.cell? ⟨g, 0, none⟩ = some (.bool false) ∧ w'.cell? ⟨g, 1, none⟩ = some (.int .i64 a) ∧ w'.cell? ⟨wr.heap.size, 0, none⟩ = some (.int .i64 d.x) ∧ w'.cell? ⟨wr.heap.size, 1, none⟩ = some (.int .i64 d.y)) (by kernel_rfl) hS ?_
            refine reg_take 0 (v := ?_) rfl (by kernel_rfl) (by kernel_rfl) (by kernel_rfl) (fun _ _ _ h => h) (by rfl) (by intro w hSw; (try dsimp only at hSw); go_simp; first | done | with_reducible rfl) hS ?_
            (try simp only [Act.put, List.setIfInBounds_toArray, List.set_cons_zero, List.set_cons_succ])
            refine reg_take 1 (v := ?_) rfl (by kernel_rfl) (by kernel_rfl) (by kernel_rfl) (fun _ _ _ h => h) (by rfl) (by intro w hSw; (try dsimp only at hSw); go_simp; first | done | with_reducible rfl) hS ?_
            (try simp only [Act.put, List.setIfInBounds_toArray, List.set_cons_zero, List.set_cons_succ])
            refine reg_take 2 (v := ?_) rfl (by kernel_rfl) (by kernel_rfl) (by kernel_rfl) (fun _ _ _ h => h) (by rfl) (by intro w hSw; (try dsimp only at hSw); go_simp; first | done | with_reducible rfl) hS ?_
            (try simp only [Act.put, List.setIfInBounds_toArray, List.set_cons_zero, List.set_cons_succ])
            refine reg_take 3 (v := ?_) rfl (by kernel_rfl) (by kernel_rfl) (by kernel_rfl) (fun _ _ _ h => h) (by rfl) (by intro w hSw; (try dsimp only at hSw); go_simp; first | done | with_reducible rfl) hS ?_
            (try simp only [Act.put, List.setIfInBounds_toArray, List.set_cons_zero, List.set_cons_succ])
            refine reg_take 4 (v := ?_) rfl (by kernel_rfl) (by kernel_rfl) (by kernel_rfl) (fun _ _ _ h => h) (by rfl) (by intro w hSw; (try dsimp only at hSw); go_simp; first | done | with_reducible rfl) hS ?_
            (try simp only [Act.put, List.setIfInBounds_toArray, List.set_cons_zero, List.set_cons_succ])
            refine reg_skip 5 rfl (by kernel_rfl) (by kernel_rfl) (by kernel_rfl) (fun _ _ _ h => h) (by rfl) hS ?_
            (try simp only [Act.put, List.setIfInBounds_toArray, List.set_cons_zero, List.set_cons_succ])
            refine reg_skip 6 rfl (by kernel_rfl) (by kernel_rfl) (by kernel_rfl) (fun _ _ _ h => h) (by rfl) hS ?_
            (try simp only [Act.put, List.setIfInBounds_toArray, List.set_cons_zero, List.set_cons_succ])
            refine reg_skip 7 rfl (by kernel_rfl) (by kernel_rfl) (by kernel_rfl) (fun _ _ _ h => h) (by rfl) hS ?_
            (try simp only [Act.put, List.setIfInBounds_toArray, List.set_cons_zero, List.set_cons_succ])
            refine reg_skip 8 rfl (by kernel_rfl) (by kernel_rfl) (by kernel_rfl) (fun _ _ _ h => h) (by rfl) hS ?_
            (try simp only [Act.put, List.setIfInBounds_toArray, List.set_cons_zero, List.set_cons_succ])
            refine reg_skip 9 rfl (by kernel_rfl) (by kernel_rfl) (by kernel_rfl) (fun _ _ _ h => h) (by rfl) hS ?_
            (try simp only [Act.put, List.setIfInBounds_toArray, List.set_cons_zero, List.set_cons_succ])
            refine reg_skip 10 rfl (by kernel_rfl) (by kernel_rfl) (by kernel_rfl) (fun _ _ _ h => h) (by rfl) hS ?_
            (try simp only [Act.put, List.setIfInBounds_toArray, List.set_cons_zero, List.set_cons_succ])
            refine reg_skip 11 rfl (by kernel_rfl) (by kernel_rfl) (by kernel_rfl) (fun _ _ _ h => h) (by rfl) hS ?_
            (try simp only [Act.put, List.setIfInBounds_toArray, List.set_cons_zero, List.set_cons_succ])
            refine reg_take 12 (v := ?_) rfl (by kernel_rfl) (by kernel_rfl) (by kernel_rfl) (fun _ _ _ h => h) (by rfl) (by intro w hSw; (try dsimp only at hSw); go_simp; first | done | with_reducible rfl) hS ?_
            (try simp only [Act.put, List.setIfInBounds_toArray, List.set_cons_zero, List.set_cons_succ])
            refine reg_take 13 (v := ?_) rfl (by kernel_rfl) (by kernel_rfl) (by kernel_rfl) (fun _ _ _ h => h) (by rfl) (by intro w hSw; (try dsimp only at hSw); go_simp; first | done | with_reducible rfl) hS ?_
            (try simp only [Act.put, List.setIfInBounds_toArray, List.set_cons_zero, List.set_cons_succ])
            refine reg_take 14 (v := ?_) rfl (by kernel_rfl) (by kernel_rfl) (by kernel_rfl) (fun _ _ _ h => h) (by rfl) (by intro w hSw; (try dsimp only at hSw); go_simp; first | done | with_reducible rfl) hS ?_
            (try simp only [Act.put, List.setIfInBounds_toArray, List.set_cons_zero, List.set_cons_succ])
            refine reg_take 15 (v := ?_) rfl (by kernel_rfl) (by kernel_rfl) (by kernel_rfl) (fun _ _ _ h => h) (by rfl) (by intro w hSw; (try dsimp only at hSw); go_simp; first | done | with_reducible rfl) hS ?_
            (try simp only [Act.put, List.setIfInBounds_toArray, List.set_cons_zero, List.set_cons_succ])
            refine reg_take 16 (v := ?_) rfl (by kernel_rfl) (by kernel_rfl) (by kernel_rfl) (fun _ _ _ h => h) (by rfl) (by intro w hSw; (try dsimp only at hSw); go_simp; first | done | with_reducible rfl) hS ?_
            (try simp only [Act.put, List.setIfInBounds_toArray, List.set_cons_zero, List.set_cons_succ])
            refine reg_take 17 (v := ?_) rfl (by kernel_rfl) (by kernel_rfl) (by kernel_rfl) (fun _ _ _ h => h) (by rfl) (by intro w hSw; (try dsimp only at hSw); go_simp; first | done | with_reducible rfl) hS ?_
            (try simp only [Act.put, List.setIfInBounds_toArray, List.set_cons_zero, List.set_cons_succ])
            refine reg_take 18 (v := ?_) rfl (by kernel_rfl) (by kernel_rfl) (by kernel_rfl) (fun _ _ _ h => h) (by rfl) (by intro w hSw; (try dsimp only at hSw); go_simp; first | done | with_reducible rfl) hS ?_
            (try simp only [Act.put, List.setIfInBounds_toArray, List.set_cons_zero, List.set_cons_succ])
            refine reg_take 19 (v := ?_) rfl (by kernel_rfl) (by kernel_rfl) (by kernel_rfl) (fun _ _ _ h => h) (by rfl) (by intro w hSw; (try dsimp only at hSw); go_simp; first | done | with_reducible rfl) hS ?_
            (try simp only [Act.put, List.setIfInBounds_toArray, List.set_cons_zero, List.set_cons_succ])
            refine reg_take 20 (v := ?_) rfl (by kernel_rfl) (by kernel_rfl) (by kernel_rfl) (fun _ _ _ h => h) (by rfl) (by intro w hSw; (try dsimp only at hSw); go_simp; first | done | with_reducible rfl) hS ?_
            (try simp only [Act.put, List.setIfInBounds_toArray, List.set_cons_zero, List.set_cons_succ])
            refine reg_take 21 (v := ?_) rfl (by kernel_rfl) (by kernel_rfl) (by kernel_rfl) (fun _ _ _ h => h) (by rfl) (by intro w hSw; (try dsimp only at hSw); go_simp; first | done | with_reducible rfl) hS ?_
            (try simp only [Act.put, List.setIfInBounds_toArray, List.set_cons_zero, List.set_cons_succ])
            refine reg_take 22 (v := ?_) rfl (by kernel_rfl) (by kernel_rfl) (by kernel_rfl) (fun _ _ _ h => h) (by rfl) (by intro w hSw; (try dsimp only at hSw); go_simp; first | done | with_reducible rfl) hS ?_
            (try simp only [Act.put, List.setIfInBounds_toArray, List.set_cons_zero, List.set_cons_succ])
            refine reg_take 23 (v := ?_) rfl (by kernel_rfl) (by kernel_rfl) (by kernel_rfl) (fun _ _ _ h => h) (by rfl) (by intro w hSw; (try dsimp only at hSw); go_simp; first | done | with_reducible rfl) hS ?_
            (try simp only [Act.put, List.setIfInBounds_toArray, List.set_cons_zero, List.set_cons_succ])
            refine reg_take 24 (v := ?_) rfl (by kernel_rfl) (by kernel_rfl) (by kernel_rfl) (fun _ _ _ h => h) (by rfl) (by intro w hSw; (try dsimp only at hSw); go_simp; first | done | with_reducible rfl) hS ?_
            (try simp only [Act.put, List.setIfInBounds_toArray, List.set_cons_zero, List.set_cons_succ])
            refine reg_take 25 (v := ?_) rfl (by kernel_rfl) (by kernel_rfl) (by kernel_rfl) (fun _ _ _ h => h) (by rfl) (by intro w hSw; (try dsimp only at hSw); go_simp; first | done | with_reducible rfl) hS ?_
            (try simp only [Act.put, List.setIfInBounds_toArray, List.set_cons_zero, List.set_cons_succ])
            refine reg_take 26 (v := ?_) rfl (by kernel_rfl) (by kernel_rfl) (by kernel_rfl) (fun _ _ _ h => h) (by rfl) (by intro w hSw; (try dsimp only at hSw); go_simp; first | done | with_reducible rfl) hS ?_
            (try simp only [Act.put, List.setIfInBounds_toArray, List.set_cons_zero, List.set_cons_succ])
            refine reg_take 27 (v := ?_) rfl (by kernel_rfl) (by kernel_rfl) (by kernel_rfl) (fun _ _ _ h => h) (by rfl) (by intro w hSw; (try dsimp only at hSw); go_simp; first | done | with_reducible rfl) hS ?_
            (try simp only [Act.put, List.setIfInBounds_toArray, List.set_cons_zero, List.set_cons_succ])
            refine reg_take 28 (v := ?_) rfl (by kernel_rfl) (by kernel_rfl) (by kernel_rfl) (fun _ _ _ h => h) (by rfl) (by intro w hSw; (try dsimp only at hSw); go_simp; first | done | with_reducible rfl) hS ?_
            (try simp only [Act.put, List.setIfInBounds_toArray, List.set_cons_zero, List.set_cons_succ])
            refine wpAnyH_done (by kernel_rfl) ?_ _
            clear hS
            rw [hWd]
            go_wp2_with (at_builtin; refine wpList_append_lies _ rfl _ _ 28 rfl X.heap.size 3 ii _ 1 8 Try.underlying28 hii iz0 iz1 iz2 rfl (by decide) _ _ _ rfl HQ2.out ⟨Wd.heap.size, 0, none⟩ 1 1 [.int .i64 z] rfl rfl HNW.out (by simp [Value.oneCell']) (by omega) (by unfold maxLen; omega) (by omega) HSX.out (Wd.heap.size + 1) (by simp) ?_; intro gg c5 w5 hown5 hgrow hat hlt5; have hbw := (Below.refl X.heap.size _).grown hgrow HSX.out (ogL HQ2.out))
            have HP2 := Lib.hid (OwnD.more hown5)
            have HP1 : Hid (OwnD X.heap.size w5 u13 (numK ⟨false, a⟩ false xs ns (k + 1))) := Lib.hid (by rw [HN1.out]; exact owG HQ1.out hgrow (fun g h1 h2 => hdis.out g h1 h2))
            have HPN : Hid (OwnD X.heap.size w5 (.slice (some ⟨gg, 0, none⟩) (N2.length + 1) c5) (numK ⟨false, a⟩ true xs ns (k + 1))) := Lib.hid (by rw [HN2.out]; exact HP2.out)
            have HD5 : Hid (Dis u13 (.slice (some ⟨gg, 0, none⟩) (N2.length + 1) c5)) := Lib.hid (dis_symm (dis_new (dis_symm hdis.out) HQ1.out hat (by simp)))
            have HB5 := Lib.hid (HBD.out.trans hbw)
            clear hown5 hgrow hat hlt5 hbw HQ1 HQ2 HNW HSX HBD
            go_wp2_with fail
            go_roundw
            case rel => exact ⟨k + 1, by omega, by go_num, HP1, HPN, HD5, HB5⟩
            case measure => simp [intOf] <;> omega
          · have hs : sel2 ⟨false, a⟩ d = false := by rw [sel_f]; exact decide_eq_false hsel
            have HN1 := Lib.hid (hZ1 hs)
            have HN2 := Lib.hid (hZ4 (by rw [hs]; decide))
            clear hZ1 hZ2 hZ3 hZ4 hs
            go_wp2_with fail
            (try simp only [List.append_eq, List.cons_append, List.nil_append])
            have hS := S0
            refine reg_begin (fun w' => w'.cell? ⟨g, 0, none⟩ = some (.bool false) ∧ w'.cell? ⟨g, 1, none⟩ = some (.int .i64 a) ∧ w'.cell? ⟨wr.heap.size, 0, none⟩ = some (.int .i64 d.x) ∧ w'.cell? ⟨wr.heap.size, 1, none⟩ = some (.int .i64 d.y)) (by kernel_rfl) hS ?_
            refine reg_take 0 (v := ?_) rfl (by kernel_rfl) (by kernel_rfl) (by kernel_rfl) (fun _ _ _ h => h) (by rfl) (by intro w hSw; (try dsimp only at hSw); go_simp; first | done | with_reducible rfl) hS ?_
            (try simp only [Act.put, List.setIfInBounds_toArray, List.set_cons_zero, List.set_cons_succ])
            refine reg_take 1 (v := ?_) rfl (by kernel_rfl) (by kernel_rfl) (by kernel_rfl) (fun _ _ _ h => h) (by rfl) (by intro w hSw; (try dsimp only at hSw); go_simp; first | done | with_reducible rfl) hS ?_
            (try simp only [Act.put, List.setIfInBounds_toArray, List.set_cons_zero, List.set_cons_succ])
            refine reg_take 2 (v := ?_) rfl (by kernel_rfl) (by kernel_rfl) (by kernel_rfl) (fun _ _ _ h => h) (by rfl) (by intro w hSw; (try dsimp only at hSw); go_simp; first | done | with_reducible rfl) hS ?_
            (try simp only [Act.put, List.setIfInBounds_toArray, List.set_cons_zero, List.set_cons_succ])
            refine reg_take 3 (v := ?_) rfl (by kernel_rfl) (by kernel_rfl) (by kernel_rfl) (fun _ _ _ h => h) (by rfl) (by intro w hSw; (try dsimp only at hSw); go_simp; first | done | with_reducible rfl) hS ?_
            (try simp only [Act.put, List.setIfInBounds_toArray, List.set_cons_zero, List.set_cons_succ])
            refine reg_take 4 (v := ?_) rfl (by kernel_rfl) (by kernel_rfl) (by kernel_rfl) (fun _ _ _ h => h) (by rfl) (by intro w hSw; (try dsimp only at hSw); go_simp; first | done | with_reducible rfl) hS ?_
            (try simp only [Act.put, List.setIfInBounds_toArray, List.set_cons_zero, List.set_cons_succ])
            refine reg_skip 5 rfl (by kernel_rfl) (by kernel_rfl) (by kernel_rfl) (fun _ _ _ h => h) (by rfl) hS ?_
            (try simp only [Act.put, List.setIfInBounds_toArray, List.set_cons_zero, List.set_cons_succ])
            refine reg_skip 6 rfl (by kernel_rfl) (by kernel_rfl) (by kernel_rfl) (fun _ _ _ h => h) (by rfl) hS ?_
            (try simp only [Act.put, List.setIfInBounds_toArray, List.set_cons_zero, List.set_cons_succ])
            refine reg_skip 7 rfl (by kernel_rfl) (by kernel_rfl) (by kernel_rfl) (fun _ _ _ h => h) (by rfl) hS ?_
            (try simp only [Act.put, List.setIfInBounds_toArray, List.set_cons_zero, List.set_cons_succ])
            refine reg_skip 8 rfl (by kernel_rfl) (by kernel_rfl) (by kernel_rfl) (fun _ _ _ h => h) (by rfl) hS ?_
            (try simp only [Act.put, List.setIfInBounds_toArray, List.set_cons_zero, List.set_cons_succ])
            refine reg_skip 9 rfl (by kernel_rfl) (by kernel_rfl) (by kernel_rfl) (fun _ _ _ h => h) (by rfl) hS ?_
            (try simp only [Act.put, List.setIfInBounds_toArray, List.set_cons_zero, List.set_cons_succ])
            refine reg_skip 10 rfl (by kernel_rfl) (by kernel_rfl) (by kernel_rfl) (fun _ _ _ h => h) (by rfl) hS ?_
            (try simp only [Act.put, List.setIfInBounds_toArray, List.set_cons_zero, List.set_cons_succ])
            refine reg_skip 11 rfl (by kernel_rfl) (by kernel_rfl) (by kernel_rfl) (fun _ _ _ h => h) (by rfl) hS ?_
            (try simp only [Act.put, List.setIfInBounds_toArray, List.set_cons_zero, List.set_cons_succ])
            refine reg_take 12 (v := ?_) rfl (by kernel_rfl) (by kernel_rfl) (by kernel_rfl) (fun _ _ _ h => h) (by rfl) (by intro w hSw; (try dsimp only at hSw); go_simp; first | done | with_reducible rfl) hS ?_
            (try simp only [Act.put, List.setIfInBounds_toArray, List.set_cons_zero, List.set_cons_succ])
            refine reg_take 13 (v := ?_) rfl (by kernel_rfl) (by kernel_rfl) (by kernel_rfl) (fun _ _ _ h => h) (by rfl) (by intro w hSw; (try dsimp only at hSw); go_simp; first | done | with_reducible rfl) hS ?_
            (try simp only [Act.put, List.setIfInBounds_toArray, List.set_cons_zero, List.set_cons_succ])
            refine reg_take 14 (v := ?_) rfl (by kernel_rfl) (by kernel_rfl) (by kernel_rfl) (fun _ _ _ h => h) (by rfl) (by intro w hSw; (try dsimp only at hSw); go_simp; first | done | with_reducible rfl) hS ?_
            (try simp only [Act.put, List.setIfInBounds_toArray, List.set_cons_zero, List.set_cons_succ])
            refine reg_take 15 (v := ?_) rfl (by kernel_rfl) (by kernel_rfl) (by kernel_rfl) (fun _ _ _ h => h) (by rfl) (by intro w hSw; (try dsimp only at hSw); go_simp; first | done | with_reducible rfl) hS ?_
            (try simp only [Act.put, List.setIfInBounds_toArray, List.set_cons_zero, List.set_cons_succ])
            refine reg_take 16 (v := ?_) rfl (by kernel_rfl) (by kernel_rfl) (by kernel_rfl) (fun _ _ _ h => h) (by rfl) (by intro w hSw; (try dsimp only at hSw); go_simp; first | done | with_reducible rfl) hS ?_
            (try simp only [Act.put, List.setIfInBounds_toArray, List.set_cons_zero, List.set_cons_succ])
            refine reg_take 17 (v := ?_) rfl (by kernel_rfl) (by kernel_rfl) (by kernel_rfl) (fun _ _ _ h => h) (by rfl) (by intro w hSw; (try dsimp only at hSw); go_simp; first | done | with_reducible rfl) hS ?_
            (try simp only [Act.put, List.setIfInBounds_toArray, List.set_cons_zero, List.set_cons_succ])
            refine reg_take 18 (v := ?_) rfl (by kernel_rfl) (by kernel_rfl) (by kernel_rfl) (fun _ _ _ h => h) (by rfl) (by intro w hSw; (try dsimp only at hSw); go_simp; first | done | with_reducible rfl) hS ?_
            (try simp only [Act.put, List.setIfInBounds_toArray, List.set_cons_zero, List.set_cons_succ])
            refine reg_take 19 (v := ?_) rfl (by kernel_rfl) (by kernel_rfl) (by kernel_rfl) (fun _ _ _ h => h) (by rfl) (by intro w hSw; (try dsimp only at hSw); go_simp; first | done | with_reducible rfl) hS ?_
            (try simp only [Act.put, List.setIfInBounds_toArray, List.set_cons_zero, List.set_cons_succ])
            refine reg_take 20 (v := ?_) rfl (by kernel_rfl) (by kernel_rfl) (by kernel_rfl) (fun _ _ _ h => h) (by rfl) (by intro w hSw; (try dsimp only at hSw); go_simp; first | done | with_reducible rfl) hS ?_
            (try simp only [Act.put, List.setIfInBounds_toArray, List.set_cons_zero, List.set_cons_succ])
            refine reg_take 21 (v := ?_) rfl (by kernel_rfl) (by kernel_rfl) (by kernel_rfl) (fun _ _ _ h => h) (by rfl) (by intro w hSw; (try dsimp only at hSw); go_simp; first | done | with_reducible rfl) hS ?_
            (try simp only [Act.put, List.setIfInBounds_toArray, List.set_cons_zero, List.set_cons_succ])
            refine reg_take 22 (v := ?_) rfl (by kernel_rfl) (by kernel_rfl) (by kernel_rfl) (fun _ _ _ h => h) (by rfl) (by intro w hSw; (try dsimp only at hSw); go_simp; first | done | with_reducible rfl) hS ?_
            (try simp only [Act.put, List.setIfInBounds_toArray, List.set_cons_zero, List.set_cons_succ])
            refine reg_take 23 (v := ?_) rfl (by kernel_rfl) (by kernel_rfl) (by kernel_rfl) (fun _ _ _ h => h) (by rfl) (by intro w hSw; (try dsimp only at hSw); go_simp; first | done | with_reducible rfl) hS ?_
            (try simp only [Act.put, List.setIfInBounds_toArray, List.set_cons_zero, List.set_cons_succ])
            refine reg_take 24 (v := ?_) rfl (by kernel_rfl) (by kernel_rfl) (by kernel_rfl) (fun _ _ _ h => h) (by rfl) (by intro w hSw; (try dsimp only at hSw); go_simp; first | done | with_reducible rfl) hS ?_
            (try simp only [Act.put, List.setIfInBounds_toArray, List.set_cons_zero, List.set_cons_succ])
            refine reg_take 25 (v := ?_) rfl (by kernel_rfl) (by kernel_rfl) (by kernel_rfl) (fun _ _ _ h => h) (by rfl) (by intro w hSw; (try dsimp only at hSw); go_simp; first | done | with_reducible rfl) hS ?_
            (try simp only [Act.put, List.setIfInBounds_toArray, List.set_cons_zero, List.set_cons_succ])
            refine reg_take 26 (v := ?_) rfl (by kernel_rfl) (by kernel_rfl) (by kernel_rfl) (fun _ _ _ h => h) (by rfl) (by intro w hSw; (try dsimp only at hSw); go_simp; first | done | with_reducible rfl) hS ?_
            (try simp only [Act.put, List.setIfInBounds_toArray, List.set_cons_zero, List.set_cons_succ])
            refine reg_take 27 (v := ?_) rfl (by kernel_rfl) (by kernel_rfl) (by kernel_rfl) (fun _ _ _ h => h) (by rfl) (by intro w hSw; (try dsimp only at hSw); go_simp; first | done | with_reducible rfl) hS ?_
            (try simp only [Act.put, List.setIfInBounds_toArray, List.set_cons_zero, List.set_cons_succ])
            refine reg_take 28 (v := ?_) rfl (by kernel_rfl) (by kernel_rfl) (by kernel_rfl) (fun _ _ _ h => h) (by rfl) (by intro w hSw; (try dsimp only at hSw); go_simp; first | done | with_reducible rfl) hS ?_
            (try simp only [Act.put, List.setIfInBounds_toArray, List.set_cons_zero, List.set_cons_succ])
            refine wpAnyH_done (by kernel_rfl) ?_ _
            clear hS
            rw [hWd]
            go_wp2_with (at_builtin; refine wpList_append_lies _ rfl _ _ 28 rfl X.heap.size 3 ii _ 1 8 Try.underlying28 hii iz0 iz1 iz2 rfl (by decide) _ _ _ rfl HQ1.out ⟨Wd.heap.size, 0, none⟩ 1 1 [.int .i64 z] rfl rfl HNW.out (by simp [Value.oneCell']) (by omega) (by unfold maxLen; omega) (by omega) HSX.out (Wd.heap.size + 1) (by simp) ?_; intro gg c5 w5 hown5 hgrow hat hlt5; have hbw := (Below.refl X.heap.size _).grown hgrow HSX.out (ogL HQ1.out))
            have HP1 := Lib.hid (OwnD.more hown5)
            have HP2 : Hid (OwnD X.heap.size w5 u14 (numK ⟨false, a⟩ true xs ns (k + 1))) := Lib.hid (by rw [HN2.out]; exact owG HQ2.out hgrow (fun g h1 h2 => hdis.out g h2 h1))
            have HPN : Hid (OwnD X.heap.size w5 (.slice (some ⟨gg, 0, none⟩) (N1.length + 1) c5) (numK ⟨false, a⟩ false xs ns (k + 1))) := Lib.hid (by rw [HN1.out]; exact HP1.out)
            have HD5 : Hid (Dis (.slice (some ⟨gg, 0, none⟩) (N1.length + 1) c5) u14) := Lib.hid (dis_new hdis.out HQ2.out hat (by simp))
            have HB5 := Lib.hid (HBD.out.trans hbw)
            clear hown5 hgrow hat hlt5 hbw HQ1 HQ2 HNW HSX HBD
            go_wp2_with fail
            go_roundw
            case rel => exact ⟨k + 1, by omega, by go_num, HPN, HP2, HD5, HB5⟩
            case measure => simp [intOf] <;> omega
        · skip
          have S0 := And.intro S1 (And.intro S2 (And.intro S3 S4))
          clear S1 S2 S3 S4
          by_cases hsel : a ≤ d.x
          · have hs : sel2 ⟨true, a⟩ d = true := by rw [sel_t]; exact decide_eq_true hsel
            have HN2 := Lib.hid (hZ2 hs)
            have HN1 := Lib.hid (hZ3 (by rw [hs]; decide))
            clear hZ1 hZ2 hZ3 hZ4 hs
            go_wp2_with fail
            (try simp only [List.append_eq, List.cons_append, List.nil_append])
            have hS := S0
            refine reg_begin (fun w' => w'.cell? ⟨g, 0, none⟩ = some (.bool true) ∧ w'.cell? ⟨g, 1, none⟩ = some (.int .i64 a) ∧ w'.cell? ⟨wr.heap.size, 0, none⟩ = some (.int .i64 d.x) ∧ w'.cell? ⟨wr.heap.size, 1, none⟩ = some (.int .i64 d.y)) (by kernel_rfl) hS ?_
            refine reg_take 0 (v := ?_) rfl (by kernel_rfl) (by kernel_rfl) (by kernel_rfl) (fun _ _ _ h => h) (by rfl) (by intro w hSw; (try dsimp only at hSw); go_simp; first | done | with_reducible rfl) hS ?_
            (try simp only [Act.put, List.setIfInBounds_toArray, List.set_cons_zero, List.set_cons_succ])
            refine reg_take 1 (v := ?_) rfl (by kernel_rfl) (by kernel_rfl) (by kernel_rfl) (fun _ _ _ h => h) (by rfl) (by intro w hSw; (try dsimp only at hSw); go_simp; first | done | with_reducible rfl) hS ?_
            (try simp only [Act.put, List.setIfInBounds_toArray, List.set_cons_zero, List.set_cons_succ])
            refine reg_take 2 (v := ?_) rfl (by kernel_rfl) (by kernel_rfl) (by kernel_rfl) (fun _ _ _ h => h) (by rfl) (by intro w hSw; (try dsimp only at hSw); go_simp; first | done | with_reducible rfl) hS ?_
            (try simp only [Act.put, List.setIfInBounds_toArray, List.set_cons_zero, List.set_cons_succ])
            refine reg_take 3 (v := ?_) rfl (by kernel_rfl) (by kernel_rfl) (by kernel_rfl) (fun _ _ _ h => h) (by rfl) (by intro w hSw; (try dsimp only at hSw); go_simp; first | done | with_reducible rfl) hS ?_
            (try simp only [Act.put, List.setIfInBounds_toArray, List.set_cons_zero, List.set_cons_succ])
            refine reg_take 4 (v := ?_) rfl (by kernel_rfl) (by kernel_rfl) (by kernel_rfl) (fun _ _ _ h => h) (by rfl) (by intro w hSw; (try dsimp only at hSw); go_simp; first | done | with_reducible rfl) hS ?_
            (try simp only [Act.put, List.setIfInBounds_toArray, List.set_cons_zero, List.set_cons_succ])
            refine reg_take 5 (v := ?_) rfl (by kernel_rfl) (by kernel_rfl) (by kernel_rfl) (fun _ _ _ h => h) (by rfl) (by intro w hSw; (try dsimp only at hSw); go_simp; first | done | with_reducible rfl) hS ?_
            (try simp only [Act.put, List.setIfInBounds_toArray, List.set_cons_zero, List.set_cons_succ])
            refine reg_take 6 (v := ?_) rfl (by kernel_rfl) (by kernel_rfl) (by kernel_rfl) (fun _ _ _ h => h) (by rfl) (by intro w hSw; (try dsimp only at hSw); go_simp; first | done | with_reducible rfl) hS ?_
            (try simp only [Act.put, List.setIfInBounds_toArray, List.set_cons_zero, List.set_cons_succ])
            refine reg_take 7 (v := ?_) rfl (by kernel_rfl) (by kernel_rfl) (by kernel_rfl) (fun _ _ _ h => h) (by rfl) (by intro w hSw; (try dsimp only at hSw); go_simp; first | done | with_reducible rfl) hS ?_
            (try simp only [Act.put, List.setIfInBounds_toArray, List.set_cons_zero, List.set_cons_succ])
            refine reg_take 8 (v := ?_) rfl (by kernel_rfl) (by kernel_rfl) (by kernel_rfl) (fun _ _ _ h => h) (by rfl) (by intro w hSw; (try dsimp only at hSw); go_simp; first | done | with_reducible rfl) hS ?_
            (try simp only [Act.put, List.setIfInBounds_toArray, List.set_cons_zero, List.set_cons_succ])
            refine reg_take 9 (v := ?_) rfl (by kernel_rfl) (by kernel_rfl) (by kernel_rfl) (fun _ _ _ h => h) (by rfl) (by intro w hSw; (try dsimp only at hSw); go_simp; first | done | with_reducible rfl) hS ?_
            (try simp only [Act.put, List.setIfInBounds_toArray, List.set_cons_zero, List.set_cons_succ])
            refine reg_take 10 (v := ?_) rfl (by kernel_rfl) (by kernel_rfl) (by kernel_rfl) (fun _ _ _ h => h) (by rfl) (by intro w hSw; (try dsimp only at hSw); go_simp; first | done | with_reducible rfl) hS ?_
            (try simp only [Act.put, List.setIfInBounds_toArray, List.set_cons_zero, List.set_cons_succ])
            refine reg_take 11 (v := .bool true) rfl (by kernel_rfl) (by kernel_rfl) (by kernel_rfl) (fun _ _ _ h => h) (by rfl) (by intro w hSw; (try dsimp only at hSw); go_simp; first | done | with_reducible rfl) hS ?_
            (try simp only [Act.put, List.setIfInBounds_toArray, List.set_cons_zero, List.set_cons_succ])
            refine reg_take 12 (v := ?_) rfl (by kernel_rfl) (by kernel_rfl) (by kernel_rfl) (fun _ _ _ h => h) (by rfl) (by intro w hSw; (try dsimp only at hSw); go_simp; first | done | with_reducible rfl) hS ?_
            (try simp only [Act.put, List.setIfInBounds_toArray, List.set_cons_zero, List.set_cons_succ])
            refine reg_take 13 (v := ?_) rfl (by kernel_rfl) (by kernel_rfl) (by kernel_rfl) (fun _ _ _ h => h) (by rfl) (by intro w hSw; (try dsimp only at hSw); go_simp; first | done | with_reducible rfl) hS ?_
            (try simp only [Act.put, List.setIfInBounds_toArray, List.set_cons_zero, List.set_cons_succ])
            refine reg_skip 14 rfl (by kernel_rfl) (by kernel_rfl) (by kernel_rfl) (fun _ _ _ h => h) (by rfl) hS ?_
            (try simp only [Act.put, List.setIfInBounds_toArray, List.set_cons_zero, List.set_cons_succ])
            refine reg_skip 15 rfl (by kernel_rfl) (by kernel_rfl) (by kernel_rfl) (fun _ _ _ h => h) (by rfl) hS ?_
            (try simp only [Act.put, List.setIfInBounds_toArray, List.set_cons_zero, List.set_cons_succ])
            refine reg_skip 16 rfl (by kernel_rfl) (by kernel_rfl) (by kernel_rfl) (fun _ _ _ h => h) (by rfl) hS ?_
            (try simp only [Act.put, List.setIfInBounds_toArray, List.set_cons_zero, List.set_cons_succ])
            refine reg_skip 17 rfl (by kernel_rfl) (by kernel_rfl) (by kernel_rfl) (fun _ _ _ h => h) (by rfl) hS ?_
            (try simp only [Act.put, List.setIfInBounds_toArray, List.set_cons_zero, List.set_cons_succ])
            refine reg_skip 18 rfl (by kernel_rfl) (by kernel_rfl) (by kernel_rfl) (fun _ _ _ h => h) (by rfl) hS ?_
            (try simp only [Act.put, List.setIfInBounds_toArray, List.set_cons_zero, List.set_cons_succ])
            refine reg_skip 19 rfl (by kernel_rfl) (by kernel_rfl) (by kernel_rfl) (fun _ _ _ h => h) (by rfl) hS ?_
            (try simp only [Act.put, List.setIfInBounds_toArray, List.set_cons_zero, List.set_cons_succ])
            refine reg_skip 20 rfl (by kernel_rfl) (by kernel_rfl) (by kernel_rfl) (fun _ _ _ h => h) (by rfl) hS ?_
            (try simp only [Act.put, List.setIfInBounds_toArray, List.set_cons_zero, List.set_cons_succ])
            refine reg_skip 21 rfl (by kernel_rfl) (by kernel_rfl) (by kernel_rfl) (fun _ _ _ h => h) (by rfl) hS ?_
            (try simp only [Act.put, List.setIfInBounds_toArray, List.set_cons_zero, List.set_cons_succ])
            refine reg_skip 22 rfl (by kernel_rfl) (by kernel_rfl) (by kernel_rfl) (fun _ _ _ h => h) (by rfl) hS ?_
            (try simp only [Act.put, List.setIfInBounds_toArray, List.set_cons_zero, List.set_cons_succ])
            refine reg_skip 23 rfl (by kernel_rfl) (by kernel_rfl) (by kernel_rfl) (fun _ _ _ h => h) (by rfl) hS ?_
            (try simp only [Act.put, List.setIfInBounds_toArray, List.set_cons_zero, List.set_cons_succ])
            refine reg_skip 24 rfl (by kernel_rfl) (by kernel_rfl) (by kernel_rfl) (fun _ _ _ h => h) (by rfl) hS ?_
            (try simp only [Act.put, List.setIfInBounds_toArray, List.set_cons_zero, List.set_cons_succ])
            refine reg_skip 25 rfl (by kernel_rfl) (by kernel_rfl) (by kernel_rfl) (fun _ _ _ h => h) (by rfl) hS ?_
            (try simp only [Act.put, List.setIfInBounds_toArray, List.set_cons_zero, List.set_cons_succ])
            refine reg_skip 26 rfl (by kernel_rfl) (by kernel_rfl) (by kernel_rfl) (fun _ _ _ h => h) (by rfl) hS ?_
            (try simp only [Act.put, List.setIfInBounds_toArray, List.set_cons_zero, List.set_cons_succ])
            refine reg_skip 27 rfl (by kernel_rfl) (by kernel_rfl) (by kernel_rfl) (fun _ _ _ h => h) (by rfl) hS ?_
            (try simp only [Act.put, List.setIfInBounds_toArray, List.set_cons_zero, List.set_cons_succ])
            refine reg_take 28 (v := ?_) rfl (by kernel_rfl) (by kernel_rfl) (by kernel_rfl) (fun _ _ _ h => h) (by rfl) (by intro w hSw; (try dsimp only at hSw); go_simp; first | done | with_reducible rfl) hS ?_
            (try simp only [Act.put, List.setIfInBounds_toArray, List.set_cons_zero, List.set_cons_succ])
            refine wpAnyH_done (by kernel_rfl) ?_ _
            clear hS
            rw [hWd]
            go_wp2_with (at_builtin; refine wpList_append_lies _ rfl _ _ 28 rfl X.heap.size 3 ii _ 1 8 Try.underlying28 hii iz0 iz1 iz2 rfl (by decide) _ _ _ rfl HQ2.out ⟨Wd.heap.size, 0, none⟩ 1 1 [.int .i64 z] rfl rfl HNW.out (by simp [Value.oneCell']) (by omega) (by unfold maxLen; omega) (by omega) HSX.out (Wd.heap.size + 1) (by simp) ?_; intro gg c5 w5 hown5 hgrow hat hlt5; have hbw := (Below.refl X.heap.size _).grown hgrow HSX.out (ogL HQ2.out))
            have HP2 := Lib.hid (OwnD.more hown5)
            have HP1 : Hid (OwnD X.heap.size w5 u13 (numK ⟨true, a⟩ false xs ns (k + 1))) := Lib.hid (by rw [HN1.out]; exact owG HQ1.out hgrow (fun g h1 h2 => hdis.out g h1 h2))
            have HPN : Hid (OwnD X.heap.size w5 (.slice (some ⟨gg, 0, none⟩) (N2.length + 1) c5) (numK ⟨true, a⟩ true xs ns (k + 1))) := Lib.hid (by rw [HN2.out]; exact HP2.out)
            have HD5 : Hid (Dis u13 (.slice (some ⟨gg, 0, none⟩) (N2.length + 1) c5)) := Lib.hid (dis_symm (dis_new (dis_symm hdis.out) HQ1.out hat (by simp)))
            have HB5 := Lib.hid (HBD.out.trans hbw)
            clear hown5 hgrow hat hlt5 hbw HQ1 HQ2 HNW HSX HBD
            go_wp2_with fail
            go_roundw
            case rel => exact ⟨k + 1, by omega, by go_num, HP1, HPN, HD5, HB5⟩
            case measure => simp [intOf] <;> omega
          · have hs : sel2 ⟨true, a⟩ d = false := by rw [sel_t]; exact decide_eq_false hsel
            have HN1 := Lib.hid (hZ1 hs)
            have HN2 := Lib.hid (hZ4 (by rw [hs]; decide))
            clear hZ1 hZ2 hZ3 hZ4 hs
            go_wp2_with fail
            (try simp only [List.append_eq, List.cons_append, List.nil_append])
            have hS := S0
            refine reg_begin (fun w' => w'.cell? ⟨g, 0, none⟩ = some (.bool true) ∧ w'.cell? ⟨g, 1, none⟩ = some (.int .i64 a) ∧ w'.cell? ⟨wr.heap.size, 0, none⟩ = some (.int .i64 d.x) ∧ w'.cell? ⟨wr.heap.size, 1, none⟩ = some (.int .i64 d.y)) (by kernel_rfl) hS ?_
            refine reg_take 0 (v := ?_) rfl (by kernel_rfl) (by kernel_rfl) (by kernel_rfl) (fun _ _ _ h => h) (by rfl) (by intro w hSw; (try dsimp only at hSw); go_simp; first | done | with_reducible rfl) hS ?_
            (try simp only [Act.put, List.setIfInBounds_toArray, List.set_cons_zero, List.set_cons_succ])
            refine reg_take 1 (v := ?_) rfl (by kernel_rfl) (by kernel_rfl) (by kernel_rfl) (fun _ _ _ h => h) (by rfl) (by intro w hSw; (try dsimp only at hSw); go_simp; first | done | with_reducible rfl) hS ?_
            (try simp only [Act.put, List.setIfInBounds_toArray, List.set_cons_zero, List.set_cons_succ])
            refine reg_take 2 (v := ?_) rfl (by kernel_rfl) (by kernel_rfl) (by kernel_rfl) (fun _ _ _ h => h) (by rfl) (by intro w hSw; (try dsimp only at hSw); go_simp; first | done | with_reducible rfl) hS ?_
            (try simp only [Act.put, List.setIfInBounds_toArray, List.set_cons_zero, List.set_cons_succ])
            refine reg_take 3 (v := ?_) rfl (by kernel_rfl) (by kernel_rfl) (by kernel_rfl) (fun _ _ _ h => h) (by rfl) (by intro w hSw; (try dsimp only at hSw); go_simp; first | done | with_reducible rfl) hS ?_
            (try simp only [Act.put, List.setIfInBounds_toArray, List.set_cons_zero, List.set_cons_succ])
            refine reg_take 4 (v := ?_) rfl (by kernel_rfl) (by kernel_rfl) (by kernel_rfl) (fun _ _ _ h => h) (by rfl) (by intro w hSw; (try dsimp only at hSw); go_simp; first | done | with_reducible rfl) hS ?_
            (try simp only [Act.put, List.setIfInBounds_toArray, List.set_cons_zero, List.set_cons_succ])
            refine reg_take 5 (v := ?_) rfl (by kernel_rfl) (by kernel_rfl) (by kernel_rfl) (fun _ _ _ h => h) (by rfl) (by intro w hSw; (try dsimp only at hSw); go_simp; first | done | with_reducible rfl) hS ?_
            (try simp only [Act.put, List.setIfInBounds_toArray, List.set_cons_zero, List.set_cons_succ])
            refine reg_take 6 (v := ?_) rfl (by kernel_rfl) (by kernel_rfl) (by kernel_rfl) (fun _ _ _ h => h) (by rfl) (by intro w hSw; (try dsimp only at hSw); go_simp; first | done | with_reducible rfl) hS ?_
            (try simp only [Act.put, List.setIfInBounds_toArray, List.set_cons_zero, List.set_cons_succ])
            refine reg_take 7 (v := ?_) rfl (by kernel_rfl) (by kernel_rfl) (by kernel_rfl) (fun _ _ _ h => h) (by rfl) (by intro w hSw; (try dsimp only at hSw); go_simp; first | done | with_reducible rfl) hS ?_
            (try simp only [Act.put, List.setIfInBounds_toArray, List.set_cons_zero, List.set_cons_succ])
            refine reg_take 8 (v := ?_) rfl (by kernel_rfl) (by kernel_rfl) (by kernel_rfl) (fun _ _ _ h => h) (by rfl) (by intro w hSw; (try dsimp only at hSw); go_simp; first | done | with_reducible rfl) hS ?_
            (try simp only [Act.put, List.setIfInBounds_toArray, List.set_cons_zero, List.set_cons_succ])
            refine reg_take 9 (v := ?_) rfl (by kernel_rfl) (by kernel_rfl) (by kernel_rfl) (fun _ _ _ h => h) (by rfl) (by intro w hSw; (try dsimp only at hSw); go_simp; first | done | with_reducible rfl) hS ?_
            (try simp only [Act.put, List.setIfInBounds_toArray, List.set_cons_zero, List.set_cons_succ])
            refine reg_take 10 (v := ?_) rfl (by kernel_rfl) (by kernel_rfl) (by kernel_rfl) (fun _ _ _ h => h) (by rfl) (by intro w hSw; (try dsimp only at hSw); go_simp; first | done | with_reducible rfl) hS ?_
            (try simp only [Act.put, List.setIfInBounds_toArray, List.set_cons_zero, List.set_cons_succ])
            refine reg_take 11 (v := .bool false) rfl (by kernel_rfl) (by kernel_rfl) (by kernel_rfl) (fun _ _ _ h => h) (by rfl) (by intro w hSw; (try dsimp only at hSw); go_simp; first | done | with_reducible rfl) hS ?_
            (try simp only [Act.put, List.setIfInBounds_toArray, List.set_cons_zero, List.set_cons_succ])
            refine reg_take 12 (v := ?_) rfl (by kernel_rfl) (by kernel_rfl) (by kernel_rfl) (fun _ _ _ h => h) (by rfl) (by intro w hSw; (try dsimp only at hSw); go_simp; first | done | with_reducible rfl) hS ?_
            (try simp only [Act.put, List.setIfInBounds_toArray, List.set_cons_zero, List.set_cons_succ])
            refine reg_take 13 (v := ?_) rfl (by kernel_rfl) (by kernel_rfl) (by kernel_rfl) (fun _ _ _ h => h) (by rfl) (by intro w hSw; (try dsimp only at hSw); go_simp; first | done | with_reducible rfl) hS ?_
            (try simp only [Act.put, List.setIfInBounds_toArray, List.set_cons_zero, List.set_cons_succ])
            refine reg_take 14 (v := ?_) rfl (by kernel_rfl) (by kernel_rfl) (by kernel_rfl) (fun _ _ _ h => h) (by rfl) (by intro w hSw; (try dsimp only at hSw); go_simp; first | done | with_reducible rfl) hS ?_
            (try simp only [Act.put, List.setIfInBounds_toArray, List.set_cons_zero, List.set_cons_succ])
            refine reg_take 15 (v := ?_) rfl (by kernel_rfl) (by kernel_rfl) (by kernel_rfl) (fun _ _ _ h => h) (by rfl) (by intro w hSw; (try dsimp only at hSw); go_simp; first | done | with_reducible rfl) hS ?_
            (try simp only [Act.put, List.setIfInBounds_toArray, List.set_cons_zero, List.set_cons_succ])
            refine reg_take 16 (v := ?_) rfl (by kernel_rfl) (by kernel_rfl) (by kernel_rfl) (fun _ _ _ h => h) (by rfl) (by intro w hSw; (try dsimp only at hSw); go_simp; first | done | with_reducible rfl) hS ?_
            (try simp only [Act.put, List.setIfInBounds_toArray, List.set_cons_zero, List.set_cons_succ])
            refine reg_take 17 (v := ?_) rfl (by kernel_rfl) (by kernel_rfl) (by kernel_rfl) (fun _ _ _ h => h) (by rfl) (by intro w hSw; (try dsimp only at hSw); go_simp; first | done | with_reducible rfl) hS ?_
            (try simp only [Act.put, List.setIfInBounds_toArray, List.set_cons_zero, List.set_cons_succ])
            refine reg_take 18 (v := ?_) rfl (by kernel_rfl) (by kernel_rfl) (by kernel_rfl) (fun _ _ _ h => h) (by rfl) (by intro w hSw; (try dsimp only at hSw); go_simp; first | done | with_reducible rfl) hS ?_
            (try simp only [Act.put, List.setIfInBounds_toArray, List.set_cons_zero, List.set_cons_succ])
            refine reg_take 19 (v := ?_) rfl (by kernel_rfl) (by kernel_rfl) (by kernel_rfl) (fun _ _ _ h => h) (by rfl) (by intro w hSw; (try dsimp only at hSw); go_simp; first | done | with_reducible rfl) hS ?_
            (try simp only [Act.put, List.setIfInBounds_toArray, List.set_cons_zero, List.set_cons_succ])
            refine reg_skip 20 rfl (by kernel_rfl) (by kernel_rfl) (by kernel_rfl) (fun _ _ _ h => h) (by rfl) hS ?_
            (try simp only [Act.put, List.setIfInBounds_toArray, List.set_cons_zero, List.set_cons_succ])
            refine reg_skip 21 rfl (by kernel_rfl) (by kernel_rfl) (by kernel_rfl) (fun _ _ _ h => h) (by rfl) hS ?_
            (try simp only [Act.put, List.setIfInBounds_toArray, List.set_cons_zero, List.set_cons_succ])
            refine reg_skip 22 rfl (by kernel_rfl) (by kernel_rfl) (by kernel_rfl) (fun _ _ _ h => h) (by rfl) hS ?_
            (try simp only [Act.put, List.setIfInBounds_toArray, List.set_cons_zero, List.set_cons_succ])
            refine reg_skip 23 rfl (by kernel_rfl) (by kernel_rfl) (by kernel_rfl) (fun _ _ _ h => h) (by rfl) hS ?_
            (try simp only [Act.put, List.setIfInBounds_toArray, List.set_cons_zero, List.set_cons_succ])
            refine reg_skip 24 rfl (by kernel_rfl) (by kernel_rfl) (by kernel_rfl) (fun _ _ _ h => h) (by rfl) hS ?_
            (try simp only [Act.put, List.setIfInBounds_toArray, List.set_cons_zero, List.set_cons_succ])
            refine reg_skip 25 rfl (by kernel_rfl) (by kernel_rfl) (by kernel_rfl) (fun _ _ _ h => h) (by rfl) hS ?_
            (try simp only [Act.put, List.setIfInBounds_toArray, List.set_cons_zero, List.set_cons_succ])
            refine reg_skip 26 rfl (by kernel_rfl) (by kernel_rfl) (by kernel_rfl) (fun _ _ _ h => h) (by rfl) hS ?_
            (try simp only [Act.put, List.setIfInBounds_toArray, List.set_cons_zero, List.set_cons_succ])
            refine reg_take 27 (v := ?_) rfl (by kernel_rfl) (by kernel_rfl) (by kernel_rfl) (fun _ _ _ h => h) (by rfl) (by intro w hSw; (try dsimp only at hSw); go_simp; first | done | with_reducible rfl) hS ?_
            (try simp only [Act.put, List.setIfInBounds_toArray, List.set_cons_zero, List.set_cons_succ])
            refine reg_take 28 (v := ?_) rfl (by kernel_rfl) (by kernel_rfl) (by kernel_rfl) (fun _ _ _ h => h) (by rfl) (by intro w hSw; (try dsimp only at hSw); go_simp; first | done | with_reducible rfl) hS ?_
            (try simp only [Act.put, List.setIfInBounds_toArray, List.set_cons_zero, List.set_cons_succ])
            refine wpAnyH_done (by kernel_rfl) ?_ _
            clear hS
            rw [hWd]
            go_wp2_with (at_builtin; refine wpList_append_lies _ rfl _ _ 28 rfl X.heap.size 3 ii _ 1 8 Try.underlying28 hii iz0 iz1 iz2 rfl (by decide) _ _ _ rfl HQ1.out ⟨Wd.heap.size, 0, none⟩ 1 1 [.int .i64 z] rfl rfl HNW.out (by simp [Value.oneCell']) (by omega) (by unfold maxLen; omega) (by omega) HSX.out (Wd.heap.size + 1) (by simp) ?_; intro gg c5 w5 hown5 hgrow hat hlt5; have hbw := (Below.refl X.heap.size _).grown hgrow HSX.out (ogL HQ1.out))
            have HP1 := Lib.hid (OwnD.more hown5)
            have HP2 : Hid (OwnD X.heap.size w5 u14 (numK ⟨true, a⟩ true xs ns (k + 1))) := Lib.hid (by rw [HN2.out]; exact owG HQ2.out hgrow (fun g h1 h2 => hdis.out g h2 h1))
            have HPN : Hid (OwnD X.heap.size w5 (.slice (some ⟨gg, 0, none⟩) (N1.length + 1) c5) (numK ⟨true, a⟩ false xs ns (k + 1))) := Lib.hid (by rw [HN1.out]; exact HP1.out)
            have HD5 : Hid (Dis (.slice (some ⟨gg, 0, none⟩) (N1.length + 1) c5) u14) := Lib.hid (dis_new hdis.out HQ2.out hat (by simp))
            have HB5 := Lib.hid (HBD.out.trans hbw)
            clear hown5 hgrow hat hlt5 hbw HQ1 HQ2 HNW HSX HBD
            go_wp2_with fail
            go_roundw
            case rel => exact ⟨k + 1, by omega, by go_num, HPN, HP2, HD5, HB5⟩
            case measure => simp [intOf] <;> omega
      · obtain rfl : k = xs.length := by omega
        have HI1 := Lib.hid (ho1.out.row (by have := numK_len ⟨up, a⟩ false xs ns xs.length; omega))
        have HI2 := Lib.hid (ho2.out.row (by have := numK_len ⟨up, a⟩ true xs ns xs.length; omega))
        obtain ⟨a0, a1, a2, _, _, _⟩ := HA.out.below hbel.out HA.out.lt
        have HBL := Lib.hid hbel.out
        have hb1l : j1.length ≤ 12 := by omega
        have hb2l : j2.length ≤ 12 := by omega
        clear ho1 ho2 hdis hbel hlt k2
        go_wp2_with fail
        clear k2w
        refine (args_eqL (HIH1.out _ _ vA _ _ u13 _ (RA.out.below (HBL.out.mono hk)) (by omega) HI1.out (Nat.le_refl _) t0 (by omega)) (by with_reducible rfl)).mono ?_
        rintro e y ⟨vj1, rfl, J1, hby⟩
        obtain ⟨aj1, cj1, rfl⟩ := J1.form
        have HB2 := Lib.hid ((HB.out.below HBL.out HB.out.lt).below hby (by have := (HB.out.below HBL.out HB.out.lt).lt; exact this))
        obtain ⟨c0, c1, c2, _, _, _⟩ := HB2.out
        have HJ1 := Lib.hid J1
        have HBY := Lib.hid hby
        have hsy := hby.size
        clear hby J1 a0 a1 a2
        go_wp2_with fail
        refine (args_eqL (HIH2.out _ _ vB _ _ u14 _ ((RB.out.below (HBL.out.mono hk)).below (HBY.out.mono (by omega))) (by omega) (HI2.out.below HBY.out) hsy (by omega) (by omega)) (by with_reducible rfl)).mono ?_
        rintro e Z ⟨vj2, rfl, J2, hbz⟩
        obtain ⟨aj2, cj2, rfl⟩ := J2.form
        have f0z := kept hbz (kept HBY.out (kept HBL.out f0))
        have HJ1z := Lib.hid (HJ1.out.below hbz)
        have HJ2 := Lib.hid J2
        have hsz := hbz.size
        have HBZ := Lib.hid (bel_c (bel_c (bel_c HBX.out (Nat.le_refl _) HBL.out) (Nat.le_refl _) HBY.out) (Nat.le_refl _) hbz)
        clear hbz J2 c0 c1 c2 HJ1 HBY HBL HB2 HI1 HI2 HIH1 HIH2 HA HB RA RB f0 f1 hgc
        rcases b1 with _ | _
        · have e1 : jr = [] := by have := HJR.out; simpa using this
          have e2 : ur = 0 := by have := HUR.out; simpa using this
          have e3 : br = false := by have := HBR.out; simpa using this
          clear HJR HUR HBR HJ1z HJ2
          subst e1
          subst e2
          subst e3
          go_wp2_with fail
          refine bodyPost_ret (v := .tuple #[.slice (some ⟨Z.heap.size, 0, none⟩) 0 0, .int .i64 0, .bool false]) (by simp [results, Try.results51, go_sem]) rfl ⟨_, rfl, ⟨by simp, .inl ⟨rfl, _, _, rfl⟩⟩, ?_⟩
          exact bel_n HBZ.out (Nat.le_refl _) _
        · rcases b2 with _ | _
          · have e1 : jr = [] := by have := HJR.out; simpa using this
            have e2 : ur = 0 := by have := HUR.out; simpa using this
            have e3 : br = false := by have := HBR.out; simpa using this
            clear HJR HUR HBR HJ1z HJ2
            subst e1
            subst e2
            subst e3
            go_wp2_with fail
            refine bodyPost_ret (v := .tuple #[.slice (some ⟨Z.heap.size, 0, none⟩) 0 0, .int .i64 0, .bool false]) (by simp [results, Try.results51, go_sem]) rfl ⟨_, rfl, ⟨by simp, .inl ⟨rfl, _, _, rfl⟩⟩, ?_⟩
            exact bel_n HBZ.out (Nat.le_refl _) _
          · have e1 : jr = j1 ++ j2 ++ [⟨up, u1, u2⟩] := by have := HJR.out; simpa using this
            have e2 : ur = t + (j1.length + j2.length) := by have := HUR.out; simpa using this
            have e3 : br = true := by have := HBR.out; simpa using this
            have HE2 := Lib.hid e2
            subst e1 e3
            obtain ⟨ij, hij, jz0, jz1, jz2⟩ := info_parts3 info_Jn
            have HO1 : Hid ((Z.alloc (.cells #[] 34)).ownsRow Z.heap.size 34 3 (.slice (some ⟨Z.heap.size, 0, none⟩) 0 0) 0 []) := Lib.hid (by
              have := World.ownsRow_lit (base := Z.heap.size) (e := 34) (size := 3) Z #[] 0 (Nat.le_refl _) (by decide) rfl
              simpa using this)
            have BZ1 := bel0 Z (.cells #[] 34)
            have HR1 : Hid (RowOf (Z.alloc (.cells #[] 34)) (.slice aj1 j1.length cj1) j1.length (placesJn j1)) := Lib.hid (HJ1z.out.rowOf (BZ1.mono hsz))
            have hp1 := placesJn_length j1
            have hp2 := placesJn_length j2
            have ho1 := oneJn j1
            have ho2 := oneJn j2
            have HZB := Lib.hid BZ1
            clear HJR HUR HBR e2 BZ1 HJ1z
            go_wp2_with (first
              | (at_builtin; refine wpList_append_row rfl _ _ 24 rfl Z.heap.size 34 ij _ 3 24 Try.underlying24 hij jz0 jz1 jz2 rfl (by decide) _ _ _ rfl HO4.out _ 1 [.bool up, .int .i64 u1, .int .i64 u2] rfl rfl HR4.out (by simp [Value.oneCell']) (by unfold maxLen; omega) (by omega) HS4.out (W2.heap.size + 1) (by simp) ?_; intro v3 W3 own3 grow3 at3; have HB4 := Lib.hid ((bel_n HB3.out (Nat.le_refl _) (.cells #[.bool up, .int .i64 u1, .int .i64 u2] 34)).trans ((Below.refl Z.heap.size _).grown grow3 HS4.out (ogL HO4.out))); have HO5 : Hid (OwnJ Z.heap.size W3 v3 (j12 ++ [⟨up, u1, u2⟩])) := Lib.hid (OwnJ.both own3); obtain ⟨a3, c3, hv3⟩ := (HO5.out.row (by simp; omega)).form; have hl3 : (j12 ++ [(⟨up, u1, u2⟩ : J3)]).length = j12.length + 1 := (by simp); rw [hl3] at hv3; subst hv3)
              | (at_builtin; refine wpList_append_row rfl _ _ 24 rfl Z.heap.size 34 ij _ 3 24 Try.underlying24 hij jz0 jz1 jz2 rfl (by decide) _ _ _ rfl HO2.out _ j2.length (placesJn j2) rfl hp2 HR2.out ho2 (by unfold maxLen; omega) (by omega) HS2.out (W1.heap.size) rfl ?_; intro v2 W2 own2 grow2 at2; have HB3 := Lib.hid (HB2.out.trans ((Below.refl Z.heap.size _).grown grow2 HS2.out (ogL HO2.out))); have HO3 : Hid (OwnJ Z.heap.size W2 v2 (j1 ++ j2)) := Lib.hid (OwnJ.both own2); obtain ⟨j12, hj12⟩ : ∃ j, j = j1 ++ j2 := ⟨_, rfl⟩; have hl12 : j12.length = j1.length + j2.length := (by rw [hj12]; simp); rw [← hj12] at HO3; have HJ12 := Lib.hid hj12; have HL12 := Lib.hid hl12; have hl12' : j12.length ≤ 24 := (by omega); clear hl12 hj12; obtain ⟨a2, c2, hv2⟩ := (HO3.out.row (by omega)).form; subst hv2; have f0y := kept (HB3.out.mono (Nat.le_refl _)) f0z; have HO4 : Hid ((W2.alloc (.cells #[.bool up, .int .i64 u1, .int .i64 u2] 34)).ownsRow Z.heap.size 34 3 (.slice a2 j12.length c2) j12.length (placesJn j12)) := Lib.hid (owL HO3.out (bel0 W2 _)); have HR4 : Hid (RowOf (W2.alloc (.cells #[.bool up, .int .i64 u1, .int .i64 u2] 34)) (.slice (some ⟨W2.heap.size, 0, none⟩) 1 1) 1 [.bool up, .int .i64 u1, .int .i64 u2]) := Lib.hid (.inr ⟨_, _, rfl, newsL W2 W2.heap.size #[.bool up, .int .i64 u1, .int .i64 u2] 34 rfl⟩); have HS4 : Hid (Z.heap.size ≤ (W2.alloc (.cells #[.bool up, .int .i64 u1, .int .i64 u2] 34)).heap.size) := Lib.hid (by have := HB3.out.size; simp; omega))
              | (at_builtin; refine wpList_append_row rfl _ _ 24 rfl Z.heap.size 34 ij _ 3 24 Try.underlying24 hij jz0 jz1 jz2 rfl (by decide) _ _ _ rfl HO1.out _ j1.length (placesJn j1) rfl hp1 HR1.out ho1 (by unfold maxLen; omega) (by omega) (by simp) (Z.heap.size + 1) (by simp) ?_; intro v1 W1 own1 grow1 at1; have HB2 := Lib.hid ((HZB.out).trans ((Below.refl Z.heap.size _).grown grow1 (by simp) (ogL HO1.out))); have HO2r : OwnJ Z.heap.size W1 v1 j1 := (by have := OwnJ.both (js := []) (ks := j1) own1; simpa using this); obtain ⟨a1, c1, hv1⟩ := (HO2r.row (by omega)).form; subst hv1; have HO2 : Hid (W1.ownsRow Z.heap.size 34 3 (.slice a1 j1.length c1) j1.length (placesJn j1)) := Lib.hid HO2r; have HR2 : Hid (RowOf W1 (.slice aj2 j2.length cj2) j2.length (placesJn j2)) := Lib.hid (HJ2.out.rowOf HB2.out); have HS2 := Lib.hid HB2.out.size; clear HO2r own1 grow1 at1))
            have HFI := Lib.hid (HO5.out.row (by simp; omega))
            have HBF := Lib.hid (bel_c HBZ.out (Nat.le_refl _) HB4.out)
            refine bodyPost_ret (v := .tuple #[.slice a3 (j12.length + 1) c3, .int .i64 (t + (j12.length + 1 : Nat) - 1), .bool true]) (by simp [results, Try.results51, go_sem]) rfl ⟨.slice a3 (j12.length + 1) c3, ?_, ?_, HBF.out⟩
            · rw [show t + ((j12.length + 1 : Nat) : Int) - 1 = ur by rw [HE2.out]; have := HL12.out; omega]
            · have h9 := HFI.out
              rw [HJ12.out] at h9
              rw [HJ12.out]
              exact h9.wide HBZ.out.size (Nat.le_refl _)
theorem SpecTree_is {m n : Int} {xs : List P5} {ns : List Int} {t : Int} {js : List J3} {u : Int} {b : Bool} (h : TreeIs m n xs ns t js u b) : ∀ (lo hi : Nat) (v : Value) (lo2 hi2 : Nat) (vn : Value) (w : World), PatIn lo hi w v xs → hi ≤ w.heap.size → IntIn lo2 hi2 w vn ns → hi2 ≤ w.heap.size → 0 ≤ t → t + xs.length ≤ 40 →
    Calls Try.prog 51 #[.agg #[.int .i64 m, .int .i64 n, v], vn, .int .i64 t] w (JoinsW js u b w) := by
  induction h with
  | one h hl hn => intro lo hi v lo2 hi2 vn w r hhi r2 hhi2 t0 t1; exact SJoins_one lo hi _ _ v _ lo2 hi2 vn _ _ w r hhi r2 hhi2 hn t0 t1 h hl
  | knot h hl hn hc => intro lo hi v lo2 hi2 vn w r hhi r2 hhi2 t0 t1; exact SJoins_knot lo hi _ _ v _ lo2 hi2 vn _ _ w r hhi r2 hhi2 hn t0 t1 h hl hc
  | join h hl hn hc k1 k2 ih1 ih2 => intro lo hi v lo2 hi2 vn w r hhi r2 hhi2 t0 t1; exact SJoins_join lo hi _ _ v _ lo2 hi2 vn _ _ _ _ _ _ _ _ _ _ w r hhi r2 hhi2 hn t0 t1 h hl hc k1.len k2.len ih1 ih2
/-- What JoinsOf answers. -/
def JoinsV (js : List J3) (b : Bool) (w : World) (e : Ending) (w' : World) : Prop :=
  ∃ v, e = .returned (.tuple #[v, .bool b]) ∧ JnIn w.heap.size w'.heap.size w' v js ∧ Below w.heap.size w w'

end Go.Proofs.Ytlkiacgpiodkiaa
