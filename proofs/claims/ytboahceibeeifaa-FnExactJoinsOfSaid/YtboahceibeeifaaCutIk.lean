/- Cuts: the program's knot: a layout is split once. -/
import Derived.Test.YtboahceibeeifaaCutIs
import Derived.Test.YtboahceibeeifaaCutIc
import Derived.Deep.RegionHeld3
import Derived.Deep.DeepCutAuto

set_option linter.unusedSimpArgs false
set_option linter.unusedVariables false
namespace Go.Proofs.Ytboahceibeeifaa
open Go.ChangeShapes Go.WideShapes Go.ChangeAt Go.RowKit

/-- Two parts in boxes of their own. -/
def WS (G : World) (M1 N1 M2 N2 X2 Y2 : Int) (L1 L2 : List P5) (q t : Value) (u : World) : Prop :=
  ∃ pA pB vA vB k kk, q = .pointer (some ⟨pA, 0, none⟩) ∧ t = .pointer (some ⟨pB, 0, none⟩) ∧ Hid (BoxQ pA M1 N1 vA 0 0 u) ∧ Hid (BoxQ pB M2 N2 vB X2 Y2 u) ∧
    Hid (PatIn G.heap.size k u vA L1) ∧ Hid (PatIn G.heap.size kk u vB L2) ∧ k ≤ u.heap.size ∧ kk ≤ u.heap.size ∧ Hid (Below G.heap.size G u)
/-- Both parts are handed back: in letters. -/
def SplitV (M1 N1 M2 N2 X2 Y2 : Int) (L1 L2 : List P5) (w : World) (e : Ending) (w' : World) : Prop :=
  ∃ v1 v2 k, e = .returned (.tuple #[.agg #[.int .i64 M1, .int .i64 N1, v1, .int .i64 0, .int .i64 0], .agg #[.int .i64 M2, .int .i64 N2, v2, .int .i64 X2, .int .i64 Y2]]) ∧
    PatIn w.heap.size k w' v1 L1 ∧ PatIn k w'.heap.size w' v2 L2 ∧ w.heap.size ≤ k ∧ k ≤ w'.heap.size ∧ Below w.heap.size w w'

theorem within5 {u : World} {p : Nat} {x0 x1 x2 x3 x4 : Value} : Within p (p + 1) u (set5 u p x0 x1 x2 x3 x4) := by
  unfold set5
  refine Within.setCell (Within.setCell (Within.setCell (Within.setCell (Within.setCell (Within.refl _ _ _) ?_ ?_ _) ?_ ?_ _) ?_ ?_ _) ?_ ?_ _) ?_ ?_ _ <;> simp
theorem row5 {lo hi p : Nat} {u : World} {v x0 x1 x2 x3 x4 : Value} {xs : List P5} (r : PatIn lo hi u v xs) (h : hi ≤ p ∨ p < lo) (hh : hi ≤ u.heap.size) : PatIn lo hi (set5 u p x0 x1 x2 x3 x4) v xs :=
  r.within within5 (h.imp id (fun z => z)) hh
theorem BoxQ.put5 {p : Nat} {m n m' n' : Int} {v : Value} {l t l' t' : Int} {u : World} {av : Option Addr} {len cap : Nat} (h : BoxQ p m n v l t u) : BoxQ p m' n' (.slice av len cap) l' t' (set5 u p (.int .i64 m') (.int .i64 n') (.slice av len cap) (.int .i64 l') (.int .i64 t')) := by
  obtain ⟨⟨e0, e1, e2, e3, e4⟩, f0, f1, f2, f3, f4⟩ := h
  refine ⟨⟨?_, ?_, ?_, ?_, ?_⟩, set5_frozen.trans f0, set5_frozen.trans f1, set5_frozen.trans f2, set5_frozen.trans f3, set5_frozen.trans f4⟩
  all_goals unfold set5
  · rw [World.cell?_setCell_other _ _ _ _ (by simp), World.cell?_setCell_other _ _ _ _ (by simp), World.cell?_setCell_other _ _ _ _ (by simp), World.cell?_setCell_other _ _ _ _ (by simp)]
    exact World.cell?_setCell_same _ _ _ e0
  · rw [World.cell?_setCell_other _ _ _ _ (by simp), World.cell?_setCell_other _ _ _ _ (by simp), World.cell?_setCell_other _ _ _ _ (by simp)]
    exact World.cell?_setCell_same _ _ _ ((World.cell?_setCell_other _ _ _ _ (by simp)).trans e1)
  · rw [World.cell?_setCell_other _ _ _ _ (by simp), World.cell?_setCell_other _ _ _ _ (by simp)]
    exact World.cell?_setCell_same _ _ _ ((World.cell?_setCell_other _ _ _ _ (by simp)).trans ((World.cell?_setCell_other _ _ _ _ (by simp)).trans e2))
  · rw [World.cell?_setCell_other _ _ _ _ (by simp)]
    exact World.cell?_setCell_same _ _ _ ((World.cell?_setCell_other _ _ _ _ (by simp)).trans ((World.cell?_setCell_other _ _ _ _ (by simp)).trans ((World.cell?_setCell_other _ _ _ _ (by simp)).trans e3)))
  · exact World.cell?_setCell_same _ _ _ ((World.cell?_setCell_other _ _ _ _ (by simp)).trans ((World.cell?_setCell_other _ _ _ _ (by simp)).trans ((World.cell?_setCell_other _ _ _ _ (by simp)).trans ((World.cell?_setCell_other _ _ _ _ (by simp)).trans e4))))
theorem BoxQ.far5 {p q : Nat} {m n : Int} {v : Value} {l t : Int} {u : World} (h : BoxQ p m n v l t u) (hq : q ≠ p) {x0 x1 x2 x3 x4 : Value} : BoxQ p m n v l t (set5 u q x0 x1 x2 x3 x4) :=
  ((((h.far hq _).far hq _).far hq _).far hq _).far hq _
section
variable {P : Program} {md : Region.Mode} {l : List Oper} {Q : Exit → Act → World → Prop} {S : World → Prop}
theorem reg_two (i j : Nat) {oi oj : Oper} {fuel : Nat} {listed : Array Bool} {a : Act} {w : World} (hi : l[i]? = some oi) (hj : l[j]? = some oj) (hr : Region.ready md l.toArray listed = [i, j])
    (hw : Region.wanted oi (yielded l.toArray a.tmps) = true) (hw2 : Region.wanted oj (yielded l.toArray a.tmps) = true)
    (h : ∀ K' : Act → World → Prop, Shut (∀ a w, S w → (S w → wpAnyH P md l.toArray Q S fuel (listed.setIfInBounds i true) a w) → K' a w) → Oper.wp P oi a w K' Q)
    (h2 : ∀ K' : Act → World → Prop, Shut (∀ a w, S w → (S w → wpAnyH P md l.toArray Q S fuel (listed.setIfInBounds j true) a w) → K' a w) → Oper.wp P oj a w K' Q) :
    wpAnyH P md l.toArray Q S (fuel + 1) listed a w :=
  wpAnyH_ready hr (by simp) (AllReadyH.cons (by simpa using hi) (fun K hK => by rw [if_pos hw]; exact h K hK) (AllReadyH.cons (by simpa using hj) (fun K hK => by rw [if_pos hw2]; exact h2 K hK) AllReadyH.nil))
theorem reg_three (i j k : Nat) {oi oj ok : Oper} {fuel : Nat} {listed : Array Bool} {a : Act} {w : World} (hi : l[i]? = some oi) (hj : l[j]? = some oj) (hk : l[k]? = some ok) (hr : Region.ready md l.toArray listed = [i, j, k])
    (hw : Region.wanted oi (yielded l.toArray a.tmps) = true) (hw2 : Region.wanted oj (yielded l.toArray a.tmps) = true) (hw3 : Region.wanted ok (yielded l.toArray a.tmps) = true)
    (h : ∀ K' : Act → World → Prop, Shut (∀ a w, S w → (S w → wpAnyH P md l.toArray Q S fuel (listed.setIfInBounds i true) a w) → K' a w) → Oper.wp P oi a w K' Q)
    (h2 : ∀ K' : Act → World → Prop, Shut (∀ a w, S w → (S w → wpAnyH P md l.toArray Q S fuel (listed.setIfInBounds j true) a w) → K' a w) → Oper.wp P oj a w K' Q)
    (h3 : ∀ K' : Act → World → Prop, Shut (∀ a w, S w → (S w → wpAnyH P md l.toArray Q S fuel (listed.setIfInBounds k true) a w) → K' a w) → Oper.wp P ok a w K' Q) :
    wpAnyH P md l.toArray Q S (fuel + 1) listed a w :=
  wpAnyH_ready hr (by simp) (AllReadyH.cons (by simpa using hi) (fun K hK => by rw [if_pos hw]; exact h K hK) (AllReadyH.cons (by simpa using hj) (fun K hK => by rw [if_pos hw2]; exact h2 K hK) (AllReadyH.cons (by simpa using hk) (fun K hK => by rw [if_pos hw3]; exact h3 K hK) AllReadyH.nil)))
end

/-- A knot is handed back, or none. -/
def KnotV (M N : Int) (X : List P5) (ok : Bool) (lo : Nat) (w : World) (e : Ending) (w' : World) : Prop :=
  ∃ v, e = .returned (.tuple #[.agg #[.int .i64 M, .int .i64 N, v], .bool ok]) ∧ PatIn lo w'.heap.size w' v X ∧ Below w.heap.size w w'

set_option maxHeartbeats 6400000 in
set_option maxRecDepth 20000 in
theorem Knot_left (lo hi : Nat) (m n : Int) (v : Value) (xs : List P5) (c : C2) (rr : List C2) (M N : Int) (X : List P5) (w : World) (r : PatIn lo hi w v xs) (hhi : hi ≤ w.heap.size) (hlo : lo ≤ w.heap.size) (lay : LayOk m n xs) (hl1 : xs.length ≠ 1) (hcs : cutsL m n xs = c :: rr)
    (ih : ∀ (lo hi : Nat) (v : Value) (w : World), PatIn lo hi w v (pL1 m n c xs) → hi ≤ w.heap.size → lo ≤ w.heap.size → Calls Try.prog 57 #[.agg #[.int .i64 (pM1 m c), .int .i64 (pN1 n c), v]] w (KnotV M N X true lo w)) :
    Calls Try.prog 57 #[.agg #[.int .i64 m, .int .i64 n, v]] w (KnotV M N X true lo w) := by
  have hc := first_cut hcs
  obtain ⟨b, cap, rfl⟩ := r.form
  have R := Lib.hid r
  have HL := Lib.hid lay
  have HIH := Lib.hid ih
  have HC := Lib.hid hc
  have hlen : ((xs.length : Nat) : Int) = 1 → False := fun h => hl1 (by omega)
  have hd : ((xs.length : Int) == 1) = false := by simp; omega
  have CC : Hid (∀ u : World, Below w.heap.size w u → Calls Try.prog 60 #[.agg #[.int .i64 m, .int .i64 n, .slice b xs.length cap]] u (FreshCut (c :: rr) u)) := Lib.hid (fun u hb => by rw [← hcs]; exact Cuts_any lo hi m n _ xs u (r.below (hb.mono hhi)) (Nat.le_trans hhi hb.size) lay)
  have HB2 : Hid (Below w.heap.size w ((w.alloc (.cells #[.int .i64 m, .int .i64 n, .slice b xs.length cap] 26)).alloc (.cells #[.int .i64 0, .int .i64 0, .slice none 0 0] 26))) := Lib.hid (bel_n (bel0 w _) (Nat.le_refl _) _)
  clear r lay ih hcs hc
  go_enter Try.func57, Try.ntmps57
  go_wp2_with fail
  refine (CC.out _ HB2.out).mono ?_
  rintro e w1 ⟨vc, rfl, RC, hb1⟩
  obtain ⟨ac, cc, rfl⟩ := RC.form
  obtain ⟨g, rfl, hg, hg1, ⟨e0, e1⟩, _⟩ := RC.at (Below.refl _ _) (i := 0) (by simp)
  obtain ⟨up, a⟩ := c
  simp only [Nat.zero_mul, Nat.zero_add, List.getD_cons_zero] at e0 e1
  have b0 := kept (p := ⟨w.heap.size, 0, none⟩) (x := .int .i64 m) hb1 (by go_simp)
  have b1 := kept (p := ⟨w.heap.size, 1, none⟩) (x := .int .i64 n) hb1 (by go_simp)
  have b2 := kept (p := ⟨w.heap.size, 2, none⟩) (x := .slice b xs.length cap) hb1 (by go_simp)
  have hB1 := bel_c HB2.out (Nat.le_refl _) hb1
  have BR : Hid (BoxL (w.heap.size + 1) (.int .i64 0) (.int .i64 0) (.slice none 0 0) w1) := Lib.hid (by
    have := BoxL.new (w.alloc (.cells #[.int .i64 m, .int .i64 n, .slice b xs.length cap] 26)) (.int .i64 0) (.int .i64 0) (.slice none 0 0) 26
    rw [show (w.alloc (.cells #[.int .i64 m, .int .i64 n, .slice b xs.length cap] 26)).heap.size = w.heap.size + 1 by simp] at this
    exact this.below hb1 (by simp))
  have hs1 := hb1.size
  simp at hs1
  have HB1 := Lib.hid hB1
  clear hB1 hb1 RC
  generalize w1 = G at *
  obtain ⟨M1, hM1⟩ : ∃ M1, M1 = pM1 m ⟨up, a⟩ := ⟨_, rfl⟩
  obtain ⟨N1, hN1⟩ : ∃ N1, N1 = pN1 n ⟨up, a⟩ := ⟨_, rfl⟩
  obtain ⟨M2, hM2⟩ : ∃ M2, M2 = pM2 m ⟨up, a⟩ := ⟨_, rfl⟩
  obtain ⟨N2, hN2⟩ : ∃ N2, N2 = pN2 n ⟨up, a⟩ := ⟨_, rfl⟩
  obtain ⟨X2, hX2⟩ : ∃ X2, X2 = pX2 ⟨up, a⟩ := ⟨_, rfl⟩
  obtain ⟨Y2, hY2⟩ : ∃ Y2, Y2 = pY2 ⟨up, a⟩ := ⟨_, rfl⟩
  obtain ⟨L1, hL1⟩ : ∃ L1, L1 = pL1 m n ⟨up, a⟩ xs := ⟨_, rfl⟩
  obtain ⟨L2, hL2⟩ : ∃ L2, L2 = pL2 m n ⟨up, a⟩ xs := ⟨_, rfl⟩
  have D0 : Below G.heap.size G G.drew := ⟨rfl, rfl, rfl, Nat.le_refl _, fun _ _ => rfl⟩
  have CS : Hid (∀ u : World, (u.cell? ⟨w.heap.size, 0, none⟩ = some (.int .i64 m) ∧ u.cell? ⟨w.heap.size, 1, none⟩ = some (.int .i64 n) ∧ u.cell? ⟨w.heap.size, 2, none⟩ = some (.slice b xs.length cap) ∧ u.cell? ⟨g, 0, none⟩ = some (.bool up) ∧ u.cell? ⟨g, 1, none⟩ = some (.int .i64 a) ∧ Below G.heap.size G u) → Calls Try.prog 70 #[.agg #[.int .i64 m, .int .i64 n, .slice b xs.length cap], .agg #[.bool up, .int .i64 a]] u (SplitV M1 N1 M2 N2 X2 Y2 L1 L2 u)) := Lib.hid (fun u h => by
    have hu := bel_c HB1.out (Nat.le_refl _) h.2.2.2.2.2
    rw [hM1, hN1, hM2, hN2, hX2, hY2, hL1, hL2]
    exact Split_any lo hi m n _ xs up a u (R.out.below (hu.mono hhi)) (Nat.le_trans hhi hu.size) HL.out HC.out)
  have S0 : G.drew.cell? ⟨w.heap.size, 0, none⟩ = some (.int .i64 m) ∧ G.drew.cell? ⟨w.heap.size, 1, none⟩ = some (.int .i64 n) ∧ G.drew.cell? ⟨w.heap.size, 2, none⟩ = some (.slice b xs.length cap) ∧ G.drew.cell? ⟨g, 0, none⟩ = some (.bool up) ∧ G.drew.cell? ⟨g, 1, none⟩ = some (.int .i64 a) ∧ Below G.heap.size G G.drew := ⟨kept D0 b0, kept D0 b1, kept D0 b2, kept D0 e0, kept D0 e1, D0⟩
  rw [← hM1, ← hN1, ← hL1] at HIH
  clear hM1 hN1 hM2 hN2 hX2 hY2 hL1 hL2
  have KP : ∀ u v : World, Below u.heap.size u v → (u.cell? ⟨w.heap.size, 0, none⟩ = some (.int .i64 m) ∧ u.cell? ⟨w.heap.size, 1, none⟩ = some (.int .i64 n) ∧ u.cell? ⟨w.heap.size, 2, none⟩ = some (.slice b xs.length cap) ∧ u.cell? ⟨g, 0, none⟩ = some (.bool up) ∧ u.cell? ⟨g, 1, none⟩ = some (.int .i64 a) ∧ Below G.heap.size G u) → (v.cell? ⟨w.heap.size, 0, none⟩ = some (.int .i64 m) ∧ v.cell? ⟨w.heap.size, 1, none⟩ = some (.int .i64 n) ∧ v.cell? ⟨w.heap.size, 2, none⟩ = some (.slice b xs.length cap) ∧ v.cell? ⟨g, 0, none⟩ = some (.bool up) ∧ v.cell? ⟨g, 1, none⟩ = some (.int .i64 a) ∧ Below G.heap.size G v) := fun u v hb h => ⟨kept hb h.1, kept hb h.2.1, kept hb h.2.2.1, kept hb h.2.2.2.1, kept hb h.2.2.2.2.1, bel_c h.2.2.2.2.2 (Nat.le_refl _) hb⟩
  have KS : ∀ (u : World) (p : Nat) (x0 x1 x2 x3 x4 : Value), G.heap.size ≤ p → (u.cell? ⟨w.heap.size, 0, none⟩ = some (.int .i64 m) ∧ u.cell? ⟨w.heap.size, 1, none⟩ = some (.int .i64 n) ∧ u.cell? ⟨w.heap.size, 2, none⟩ = some (.slice b xs.length cap) ∧ u.cell? ⟨g, 0, none⟩ = some (.bool up) ∧ u.cell? ⟨g, 1, none⟩ = some (.int .i64 a) ∧ Below G.heap.size G u) → ((set5 u p x0 x1 x2 x3 x4).cell? ⟨w.heap.size, 0, none⟩ = some (.int .i64 m) ∧ (set5 u p x0 x1 x2 x3 x4).cell? ⟨w.heap.size, 1, none⟩ = some (.int .i64 n) ∧ (set5 u p x0 x1 x2 x3 x4).cell? ⟨w.heap.size, 2, none⟩ = some (.slice b xs.length cap) ∧ (set5 u p x0 x1 x2 x3 x4).cell? ⟨g, 0, none⟩ = some (.bool up) ∧ (set5 u p x0 x1 x2 x3 x4).cell? ⟨g, 1, none⟩ = some (.int .i64 a) ∧ Below G.heap.size G (set5 u p x0 x1 x2 x3 x4)) := fun u p x0 x1 x2 x3 x4 hp h => by
    have h1 : p ≠ w.heap.size := by omega
    have h2 : p ≠ g := by omega
    exact ⟨(set5_far h1).trans h.1, (set5_far h1).trans h.2.1, (set5_far h1).trans h.2.2.1, (set5_far h2).trans h.2.2.2.1, (set5_far h2).trans h.2.2.2.2.1, ((((h.2.2.2.2.2.setCell hp _).setCell hp _).setCell hp _).setCell hp _).setCell hp _⟩
  have KP1 := Lib.hid KP
  have KS1 := Lib.hid KS
  clear KP KS D0
  go_upto_region 6 with fail
  go_cut [5, 6] (fun q t wx => WS G M1 N1 M2 N2 X2 Y2 L1 L2 q t wx)
  case first =>
    (try simp only [List.append_eq, List.cons_append, List.nil_append])
    have hS := S0
    refine reg_begin (fun w' => w'.cell? ⟨w.heap.size, 0, none⟩ = some (.int .i64 m) ∧ w'.cell? ⟨w.heap.size, 1, none⟩ = some (.int .i64 n) ∧ w'.cell? ⟨w.heap.size, 2, none⟩ = some (.slice b xs.length cap) ∧ w'.cell? ⟨g, 0, none⟩ = some (.bool up) ∧ w'.cell? ⟨g, 1, none⟩ = some (.int .i64 a) ∧ Below G.heap.size G w') (by kernel_rfl) hS ?_
    refine reg_take 0 (v := ?_) rfl (by kernel_rfl) (by kernel_rfl) (by kernel_rfl) (fun _ _ _ h => h) (by rfl) (by intro w hSw; (try dsimp only at hSw); go_simp; first | done | with_reducible rfl) hS ?_
    (try simp only [Act.put, List.setIfInBounds_toArray, List.set_cons_zero, List.set_cons_succ])
    refine reg_take 1 (v := ?_) rfl (by kernel_rfl) (by kernel_rfl) (by kernel_rfl) (fun _ _ _ h => h) (by rfl) (by intro w hSw; (try dsimp only at hSw); go_simp; first | done | with_reducible rfl) hS ?_
    (try simp only [Act.put, List.setIfInBounds_toArray, List.set_cons_zero, List.set_cons_succ])
    refine reg_take 2 (v := ?_) rfl (by kernel_rfl) (by kernel_rfl) (by kernel_rfl) (fun _ _ _ h => h) (by rfl) (by intro w hSw; (try dsimp only at hSw); go_simp; first | done | with_reducible rfl) hS ?_
    (try simp only [Act.put, List.setIfInBounds_toArray, List.set_cons_zero, List.set_cons_succ])
    refine reg_take 3 (v := ?_) rfl (by kernel_rfl) (by kernel_rfl) (by kernel_rfl) (fun _ _ _ h => h) (by rfl) (by intro w hSw; (try dsimp only at hSw); go_simp; first | done | with_reducible rfl) hS ?_
    (try simp only [Act.put, List.setIfInBounds_toArray, List.set_cons_zero, List.set_cons_succ])
    have hz0 : G.drew.heap.size ≤ G.heap.size ∧ G.heap.size ≤ G.drew.heap.size := ⟨Nat.le_refl _, Nat.le_refl _⟩
    generalize G.drew = U0 at hS hz0 ⊢
    refine reg_three 4 8 9 rfl rfl rfl (by kernel_rfl) (by rfl) (by rfl) (by rfl) (fun K hK => ?_) (fun K hK => ?_) (fun K hK => ?_)
    · go_simp
      go_at_call 70
      refine (args_eqL (CS.out _ hS) (by with_reducible rfl)).mono ?_
      rintro e y1 ⟨vA, vB, k, rfl, RA, RB, hk1, hk2, hb⟩
      have RA0 := Lib.hid RA
      have RB0 := Lib.hid RB
      obtain ⟨aA, cA, rfl⟩ := RA.form
      obtain ⟨aB, cB, rfl⟩ := RB.form
      clear RA RB
      have hzy1 := hb.size
      refine hK.out _ _ (KP1.out _ _ hb hS) (fun hS' => ?_)
      clear hK K hS
      have hS := hS'
      clear hS'
      try (try simp only [Act.put, List.setIfInBounds_toArray, List.set_cons_zero, List.set_cons_succ])
      clear hb
      refine reg_take 5 (v := ?_) rfl (by kernel_rfl) (by kernel_rfl) (by kernel_rfl) (fun _ _ _ h => h) (by rfl) (by intro w hSw; (try dsimp only at hSw); go_simp; first | done | with_reducible rfl) hS ?_
      (try simp only [Act.put, List.setIfInBounds_toArray, List.set_cons_zero, List.set_cons_succ])
      refine reg_take 6 (v := ?_) rfl (by kernel_rfl) (by kernel_rfl) (by kernel_rfl) (fun _ _ _ h => h) (by rfl) (by intro w hSw; (try dsimp only at hSw); go_simp; first | done | with_reducible rfl) hS ?_
      (try simp only [Act.put, List.setIfInBounds_toArray, List.set_cons_zero, List.set_cons_succ])
      refine reg_take 7 (v := ?_) rfl (by kernel_rfl) (by kernel_rfl) (by kernel_rfl) (fun _ _ _ h => h) (by rfl) (by intro w hSw; (try dsimp only at hSw); go_simp; first | done | with_reducible rfl) hS ?_
      (try simp only [Act.put, List.setIfInBounds_toArray, List.set_cons_zero, List.set_cons_succ])
      refine reg_two 8 9 rfl rfl (by kernel_rfl) (by rfl) (by rfl) (fun K hK => ?_) (fun K hK => ?_)
      · go_simp
        refine hK.out _ _ (KP1.out _ _ (bel0 _ _) hS) (fun hS' => ?_)
        clear hK K hS
        have hS := hS'
        clear hS'
        try (try simp only [Act.put, List.setIfInBounds_toArray, List.set_cons_zero, List.set_cons_succ])
        have hbe : Below y1.heap.size y1 (y1.alloc (.cells #[.int .i64 0, .int .i64 0, .slice none 0 0, .int .i64 0, .int .i64 0] 62)) := bel0 _ _
        have HX8 := Lib.hid (BoxQ.new y1 0 0 (.slice none 0 0) 0 0 62)
        have hzV2 : (y1.alloc (.cells #[.int .i64 0, .int .i64 0, .slice none 0 0, .int .i64 0, .int .i64 0] 62)).heap.size ≤ y1.heap.size + 1 ∧ y1.heap.size + 1 ≤ (y1.alloc (.cells #[.int .i64 0, .int .i64 0, .slice none 0 0, .int .i64 0, .int .i64 0] 62)).heap.size := by simp
        have RA0 := Lib.hid (RA0.out.below (hbe.mono (by omega)))
        have RB0 := Lib.hid (RB0.out.below (hbe.mono (by omega)))
        obtain ⟨V2, hV⟩ : ∃ V, V = y1.alloc (.cells #[.int .i64 0, .int .i64 0, .slice none 0 0, .int .i64 0, .int .i64 0] 62) := ⟨_, rfl⟩
        rw [← hV] at hS HX8 hzV2 RA0 RB0 ⊢
        clear hV hbe
        refine reg_call 9 rfl (by kernel_rfl) (by rfl) (fun K hK => ?_)
        go_simp
        refine hK.out _ _ (KP1.out _ _ (bel0 _ _) hS) (fun hS' => ?_)
        clear hK K hS
        have hS := hS'
        clear hS'
        try (try simp only [Act.put, List.setIfInBounds_toArray, List.set_cons_zero, List.set_cons_succ])
        have hbe : Below V2.heap.size V2 (V2.alloc (.cells #[.int .i64 0, .int .i64 0, .slice none 0 0, .int .i64 0, .int .i64 0] 62)) := bel0 _ _
        have HX9 := Lib.hid (BoxQ.new V2 0 0 (.slice none 0 0) 0 0 62)
        have hzV3 : (V2.alloc (.cells #[.int .i64 0, .int .i64 0, .slice none 0 0, .int .i64 0, .int .i64 0] 62)).heap.size ≤ V2.heap.size + 1 ∧ V2.heap.size + 1 ≤ (V2.alloc (.cells #[.int .i64 0, .int .i64 0, .slice none 0 0, .int .i64 0, .int .i64 0] 62)).heap.size := by simp
        have HX8 := Lib.hid (HX8.out.below hbe (by omega))
        have RA0 := Lib.hid (RA0.out.below (hbe.mono (by omega)))
        have RB0 := Lib.hid (RB0.out.below (hbe.mono (by omega)))
        obtain ⟨V3, hV⟩ : ∃ V, V = V2.alloc (.cells #[.int .i64 0, .int .i64 0, .slice none 0 0, .int .i64 0, .int .i64 0] 62) := ⟨_, rfl⟩
        rw [← hV] at hS HX8 HX9 hzV3 RA0 RB0 ⊢
        clear hV hbe
        clear KP1
        refine reg_call 10 rfl (by kernel_rfl) (by rfl) (fun K hK => ?_)
        have ec0 := HX8.out.1.1
        have ec1 := HX8.out.1.2.1
        have ec2 := HX8.out.1.2.2.1
        have ec3 := HX8.out.1.2.2.2.1
        have ec4 := HX8.out.1.2.2.2.2
        have ef0 := HX8.out.2.1
        have ef1 := HX8.out.2.2.1
        have ef2 := HX8.out.2.2.2.1
        have ef3 := HX8.out.2.2.2.2.1
        have ef4 := HX8.out.2.2.2.2.2
        go_simp
        refine hK.out _ _ (KS1.out _ y1.heap.size (.int .i64 M1) (.int .i64 N1) (.slice aA L1.length cA) (.int .i64 0) (.int .i64 0) (by omega) hS) (fun hS' => ?_)
        clear hK K hS ec0 ef0 ec1 ef1 ec2 ef2 ec3 ef3 ec4 ef4
        have hS := hS'
        clear hS'
        try (try simp only [Act.put, List.setIfInBounds_toArray, List.set_cons_zero, List.set_cons_succ])
        have HX8 : Hid (BoxQ y1.heap.size M1 N1 (.slice aA L1.length cA) 0 0 (set5 V3 y1.heap.size (.int .i64 M1) (.int .i64 N1) (.slice aA L1.length cA) (.int .i64 0) (.int .i64 0))) := Lib.hid (BoxQ.put5 HX8.out)
        have HX9 : Hid (BoxQ V2.heap.size 0 0 (.slice none 0 0) 0 0 (set5 V3 y1.heap.size (.int .i64 M1) (.int .i64 N1) (.slice aA L1.length cA) (.int .i64 0) (.int .i64 0))) := Lib.hid (BoxQ.far5 HX9.out (show y1.heap.size ≠ V2.heap.size by omega))
        have RA0 : Hid (PatIn _ _ (set5 V3 y1.heap.size (.int .i64 M1) (.int .i64 N1) (.slice aA L1.length cA) (.int .i64 0) (.int .i64 0)) _ _) := Lib.hid (row5 RA0.out (by omega) (by first | omega | (simp [World.setCell] <;> omega)))
        have RB0 : Hid (PatIn _ _ (set5 V3 y1.heap.size (.int .i64 M1) (.int .i64 N1) (.slice aA L1.length cA) (.int .i64 0) (.int .i64 0)) _ _) := Lib.hid (row5 RB0.out (by omega) (by first | omega | (simp [World.setCell] <;> omega)))
        refine reg_call 11 rfl (by kernel_rfl) (by rfl) (fun K hK => ?_)
        have ec0 := HX9.out.1.1
        have ec1 := HX9.out.1.2.1
        have ec2 := HX9.out.1.2.2.1
        have ec3 := HX9.out.1.2.2.2.1
        have ec4 := HX9.out.1.2.2.2.2
        have ef0 := HX9.out.2.1
        have ef1 := HX9.out.2.2.1
        have ef2 := HX9.out.2.2.2.1
        have ef3 := HX9.out.2.2.2.2.1
        have ef4 := HX9.out.2.2.2.2.2
        go_simp
        refine hK.out _ _ (KS1.out _ V2.heap.size (.int .i64 M2) (.int .i64 N2) (.slice aB L2.length cB) (.int .i64 X2) (.int .i64 Y2) (by omega) hS) (fun hS' => ?_)
        clear hK K hS ec0 ef0 ec1 ef1 ec2 ef2 ec3 ef3 ec4 ef4
        have hS := hS'
        clear hS'
        try (try simp only [Act.put, List.setIfInBounds_toArray, List.set_cons_zero, List.set_cons_succ])
        have HX9 : Hid (BoxQ V2.heap.size M2 N2 (.slice aB L2.length cB) X2 Y2 (set5 (set5 V3 y1.heap.size (.int .i64 M1) (.int .i64 N1) (.slice aA L1.length cA) (.int .i64 0) (.int .i64 0)) V2.heap.size (.int .i64 M2) (.int .i64 N2) (.slice aB L2.length cB) (.int .i64 X2) (.int .i64 Y2))) := Lib.hid (BoxQ.put5 HX9.out)
        have HX8 : Hid (BoxQ y1.heap.size M1 N1 (.slice aA L1.length cA) 0 0 (set5 (set5 V3 y1.heap.size (.int .i64 M1) (.int .i64 N1) (.slice aA L1.length cA) (.int .i64 0) (.int .i64 0)) V2.heap.size (.int .i64 M2) (.int .i64 N2) (.slice aB L2.length cB) (.int .i64 X2) (.int .i64 Y2))) := Lib.hid (BoxQ.far5 HX8.out (show V2.heap.size ≠ y1.heap.size by omega))
        have RA0 : Hid (PatIn _ _ (set5 (set5 V3 y1.heap.size (.int .i64 M1) (.int .i64 N1) (.slice aA L1.length cA) (.int .i64 0) (.int .i64 0)) V2.heap.size (.int .i64 M2) (.int .i64 N2) (.slice aB L2.length cB) (.int .i64 X2) (.int .i64 Y2)) _ _) := Lib.hid (row5 RA0.out (by omega) (by first | omega | (simp [World.setCell] <;> omega)))
        have RB0 : Hid (PatIn _ _ (set5 (set5 V3 y1.heap.size (.int .i64 M1) (.int .i64 N1) (.slice aA L1.length cA) (.int .i64 0) (.int .i64 0)) V2.heap.size (.int .i64 M2) (.int .i64 N2) (.slice aB L2.length cB) (.int .i64 X2) (.int .i64 Y2)) _ _) := Lib.hid (row5 RB0.out (by omega) (by first | omega | (simp [World.setCell] <;> omega)))
        refine wpAnyH_done (by kernel_rfl) ?_ _
        have HBW := Lib.hid hS.2.2.2.2.2
        clear hS
        go_wp2_with fail
        go_meet
        exact ⟨_, _, _, _, k, _, rfl, rfl, HX8, HX9, Lib.hid (RA0.out.wide (by omega) (Nat.le_refl _)), Lib.hid (RB0.out.wide (by omega) (Nat.le_refl _)), by simp [World.setCell] <;> omega, by simp [World.setCell] <;> omega, HBW⟩
      · go_simp
        refine hK.out _ _ (KP1.out _ _ (bel0 _ _) hS) (fun hS' => ?_)
        clear hK K hS
        have hS := hS'
        clear hS'
        try (try simp only [Act.put, List.setIfInBounds_toArray, List.set_cons_zero, List.set_cons_succ])
        have hbe : Below y1.heap.size y1 (y1.alloc (.cells #[.int .i64 0, .int .i64 0, .slice none 0 0, .int .i64 0, .int .i64 0] 62)) := bel0 _ _
        have HX9 := Lib.hid (BoxQ.new y1 0 0 (.slice none 0 0) 0 0 62)
        have hzV2 : (y1.alloc (.cells #[.int .i64 0, .int .i64 0, .slice none 0 0, .int .i64 0, .int .i64 0] 62)).heap.size ≤ y1.heap.size + 1 ∧ y1.heap.size + 1 ≤ (y1.alloc (.cells #[.int .i64 0, .int .i64 0, .slice none 0 0, .int .i64 0, .int .i64 0] 62)).heap.size := by simp
        have RA0 := Lib.hid (RA0.out.below (hbe.mono (by omega)))
        have RB0 := Lib.hid (RB0.out.below (hbe.mono (by omega)))
        obtain ⟨V2, hV⟩ : ∃ V, V = y1.alloc (.cells #[.int .i64 0, .int .i64 0, .slice none 0 0, .int .i64 0, .int .i64 0] 62) := ⟨_, rfl⟩
        rw [← hV] at hS HX9 hzV2 RA0 RB0 ⊢
        clear hV hbe
        refine reg_call 8 rfl (by kernel_rfl) (by rfl) (fun K hK => ?_)
        go_simp
        refine hK.out _ _ (KP1.out _ _ (bel0 _ _) hS) (fun hS' => ?_)
        clear hK K hS
        have hS := hS'
        clear hS'
        try (try simp only [Act.put, List.setIfInBounds_toArray, List.set_cons_zero, List.set_cons_succ])
        have hbe : Below V2.heap.size V2 (V2.alloc (.cells #[.int .i64 0, .int .i64 0, .slice none 0 0, .int .i64 0, .int .i64 0] 62)) := bel0 _ _
        have HX8 := Lib.hid (BoxQ.new V2 0 0 (.slice none 0 0) 0 0 62)
        have hzV3 : (V2.alloc (.cells #[.int .i64 0, .int .i64 0, .slice none 0 0, .int .i64 0, .int .i64 0] 62)).heap.size ≤ V2.heap.size + 1 ∧ V2.heap.size + 1 ≤ (V2.alloc (.cells #[.int .i64 0, .int .i64 0, .slice none 0 0, .int .i64 0, .int .i64 0] 62)).heap.size := by simp
        have HX9 := Lib.hid (HX9.out.below hbe (by omega))
        have RA0 := Lib.hid (RA0.out.below (hbe.mono (by omega)))
        have RB0 := Lib.hid (RB0.out.below (hbe.mono (by omega)))
        obtain ⟨V3, hV⟩ : ∃ V, V = V2.alloc (.cells #[.int .i64 0, .int .i64 0, .slice none 0 0, .int .i64 0, .int .i64 0] 62) := ⟨_, rfl⟩
        rw [← hV] at hS HX9 HX8 hzV3 RA0 RB0 ⊢
        clear hV hbe
        clear KP1
        refine reg_call 10 rfl (by kernel_rfl) (by rfl) (fun K hK => ?_)
        have ec0 := HX8.out.1.1
        have ec1 := HX8.out.1.2.1
        have ec2 := HX8.out.1.2.2.1
        have ec3 := HX8.out.1.2.2.2.1
        have ec4 := HX8.out.1.2.2.2.2
        have ef0 := HX8.out.2.1
        have ef1 := HX8.out.2.2.1
        have ef2 := HX8.out.2.2.2.1
        have ef3 := HX8.out.2.2.2.2.1
        have ef4 := HX8.out.2.2.2.2.2
        go_simp
        refine hK.out _ _ (KS1.out _ V2.heap.size (.int .i64 M1) (.int .i64 N1) (.slice aA L1.length cA) (.int .i64 0) (.int .i64 0) (by omega) hS) (fun hS' => ?_)
        clear hK K hS ec0 ef0 ec1 ef1 ec2 ef2 ec3 ef3 ec4 ef4
        have hS := hS'
        clear hS'
        try (try simp only [Act.put, List.setIfInBounds_toArray, List.set_cons_zero, List.set_cons_succ])
        have HX8 : Hid (BoxQ V2.heap.size M1 N1 (.slice aA L1.length cA) 0 0 (set5 V3 V2.heap.size (.int .i64 M1) (.int .i64 N1) (.slice aA L1.length cA) (.int .i64 0) (.int .i64 0))) := Lib.hid (BoxQ.put5 HX8.out)
        have HX9 : Hid (BoxQ y1.heap.size 0 0 (.slice none 0 0) 0 0 (set5 V3 V2.heap.size (.int .i64 M1) (.int .i64 N1) (.slice aA L1.length cA) (.int .i64 0) (.int .i64 0))) := Lib.hid (BoxQ.far5 HX9.out (show V2.heap.size ≠ y1.heap.size by omega))
        have RA0 : Hid (PatIn _ _ (set5 V3 V2.heap.size (.int .i64 M1) (.int .i64 N1) (.slice aA L1.length cA) (.int .i64 0) (.int .i64 0)) _ _) := Lib.hid (row5 RA0.out (by omega) (by first | omega | (simp [World.setCell] <;> omega)))
        have RB0 : Hid (PatIn _ _ (set5 V3 V2.heap.size (.int .i64 M1) (.int .i64 N1) (.slice aA L1.length cA) (.int .i64 0) (.int .i64 0)) _ _) := Lib.hid (row5 RB0.out (by omega) (by first | omega | (simp [World.setCell] <;> omega)))
        refine reg_call 11 rfl (by kernel_rfl) (by rfl) (fun K hK => ?_)
        have ec0 := HX9.out.1.1
        have ec1 := HX9.out.1.2.1
        have ec2 := HX9.out.1.2.2.1
        have ec3 := HX9.out.1.2.2.2.1
        have ec4 := HX9.out.1.2.2.2.2
        have ef0 := HX9.out.2.1
        have ef1 := HX9.out.2.2.1
        have ef2 := HX9.out.2.2.2.1
        have ef3 := HX9.out.2.2.2.2.1
        have ef4 := HX9.out.2.2.2.2.2
        go_simp
        refine hK.out _ _ (KS1.out _ y1.heap.size (.int .i64 M2) (.int .i64 N2) (.slice aB L2.length cB) (.int .i64 X2) (.int .i64 Y2) (by omega) hS) (fun hS' => ?_)
        clear hK K hS ec0 ef0 ec1 ef1 ec2 ef2 ec3 ef3 ec4 ef4
        have hS := hS'
        clear hS'
        try (try simp only [Act.put, List.setIfInBounds_toArray, List.set_cons_zero, List.set_cons_succ])
        have HX9 : Hid (BoxQ y1.heap.size M2 N2 (.slice aB L2.length cB) X2 Y2 (set5 (set5 V3 V2.heap.size (.int .i64 M1) (.int .i64 N1) (.slice aA L1.length cA) (.int .i64 0) (.int .i64 0)) y1.heap.size (.int .i64 M2) (.int .i64 N2) (.slice aB L2.length cB) (.int .i64 X2) (.int .i64 Y2))) := Lib.hid (BoxQ.put5 HX9.out)
        have HX8 : Hid (BoxQ V2.heap.size M1 N1 (.slice aA L1.length cA) 0 0 (set5 (set5 V3 V2.heap.size (.int .i64 M1) (.int .i64 N1) (.slice aA L1.length cA) (.int .i64 0) (.int .i64 0)) y1.heap.size (.int .i64 M2) (.int .i64 N2) (.slice aB L2.length cB) (.int .i64 X2) (.int .i64 Y2))) := Lib.hid (BoxQ.far5 HX8.out (show y1.heap.size ≠ V2.heap.size by omega))
        have RA0 : Hid (PatIn _ _ (set5 (set5 V3 V2.heap.size (.int .i64 M1) (.int .i64 N1) (.slice aA L1.length cA) (.int .i64 0) (.int .i64 0)) y1.heap.size (.int .i64 M2) (.int .i64 N2) (.slice aB L2.length cB) (.int .i64 X2) (.int .i64 Y2)) _ _) := Lib.hid (row5 RA0.out (by omega) (by first | omega | (simp [World.setCell] <;> omega)))
        have RB0 : Hid (PatIn _ _ (set5 (set5 V3 V2.heap.size (.int .i64 M1) (.int .i64 N1) (.slice aA L1.length cA) (.int .i64 0) (.int .i64 0)) y1.heap.size (.int .i64 M2) (.int .i64 N2) (.slice aB L2.length cB) (.int .i64 X2) (.int .i64 Y2)) _ _) := Lib.hid (row5 RB0.out (by omega) (by first | omega | (simp [World.setCell] <;> omega)))
        refine wpAnyH_done (by kernel_rfl) ?_ _
        have HBW := Lib.hid hS.2.2.2.2.2
        clear hS
        go_wp2_with fail
        go_meet
        exact ⟨_, _, _, _, k, _, rfl, rfl, HX8, HX9, Lib.hid (RA0.out.wide (by omega) (Nat.le_refl _)), Lib.hid (RB0.out.wide (by omega) (Nat.le_refl _)), by simp [World.setCell] <;> omega, by simp [World.setCell] <;> omega, HBW⟩
    · go_simp
      refine hK.out _ _ (KP1.out _ _ (bel0 _ _) hS) (fun hS' => ?_)
      clear hK K hS
      have hS := hS'
      clear hS'
      try (try simp only [Act.put, List.setIfInBounds_toArray, List.set_cons_zero, List.set_cons_succ])
      have hbe : Below U0.heap.size U0 (U0.alloc (.cells #[.int .i64 0, .int .i64 0, .slice none 0 0, .int .i64 0, .int .i64 0] 62)) := bel0 _ _
      have HX8 := Lib.hid (BoxQ.new U0 0 0 (.slice none 0 0) 0 0 62)
      have hzV1 : (U0.alloc (.cells #[.int .i64 0, .int .i64 0, .slice none 0 0, .int .i64 0, .int .i64 0] 62)).heap.size ≤ U0.heap.size + 1 ∧ U0.heap.size + 1 ≤ (U0.alloc (.cells #[.int .i64 0, .int .i64 0, .slice none 0 0, .int .i64 0, .int .i64 0] 62)).heap.size := by simp
      obtain ⟨V1, hV⟩ : ∃ V, V = U0.alloc (.cells #[.int .i64 0, .int .i64 0, .slice none 0 0, .int .i64 0, .int .i64 0] 62) := ⟨_, rfl⟩
      rw [← hV] at hS HX8 hzV1 ⊢
      clear hV hbe
      refine reg_two 4 9 rfl rfl (by kernel_rfl) (by rfl) (by rfl) (fun K hK => ?_) (fun K hK => ?_)
      · go_simp
        go_at_call 70
        refine (args_eqL (CS.out _ hS) (by with_reducible rfl)).mono ?_
        rintro e y2 ⟨vA, vB, k, rfl, RA, RB, hk1, hk2, hb⟩
        have RA0 := Lib.hid RA
        have RB0 := Lib.hid RB
        obtain ⟨aA, cA, rfl⟩ := RA.form
        obtain ⟨aB, cB, rfl⟩ := RB.form
        clear RA RB
        have hzy2 := hb.size
        have HX8 := Lib.hid (HX8.out.below hb (by omega))
        refine hK.out _ _ (KP1.out _ _ hb hS) (fun hS' => ?_)
        clear hK K hS
        have hS := hS'
        clear hS'
        try (try simp only [Act.put, List.setIfInBounds_toArray, List.set_cons_zero, List.set_cons_succ])
        clear hb
        refine reg_take 5 (v := ?_) rfl (by kernel_rfl) (by kernel_rfl) (by kernel_rfl) (fun _ _ _ h => h) (by rfl) (by intro w hSw; (try dsimp only at hSw); go_simp; first | done | with_reducible rfl) hS ?_
        (try simp only [Act.put, List.setIfInBounds_toArray, List.set_cons_zero, List.set_cons_succ])
        refine reg_take 6 (v := ?_) rfl (by kernel_rfl) (by kernel_rfl) (by kernel_rfl) (fun _ _ _ h => h) (by rfl) (by intro w hSw; (try dsimp only at hSw); go_simp; first | done | with_reducible rfl) hS ?_
        (try simp only [Act.put, List.setIfInBounds_toArray, List.set_cons_zero, List.set_cons_succ])
        refine reg_take 7 (v := ?_) rfl (by kernel_rfl) (by kernel_rfl) (by kernel_rfl) (fun _ _ _ h => h) (by rfl) (by intro w hSw; (try dsimp only at hSw); go_simp; first | done | with_reducible rfl) hS ?_
        (try simp only [Act.put, List.setIfInBounds_toArray, List.set_cons_zero, List.set_cons_succ])
        refine reg_call 9 rfl (by kernel_rfl) (by rfl) (fun K hK => ?_)
        go_simp
        refine hK.out _ _ (KP1.out _ _ (bel0 _ _) hS) (fun hS' => ?_)
        clear hK K hS
        have hS := hS'
        clear hS'
        try (try simp only [Act.put, List.setIfInBounds_toArray, List.set_cons_zero, List.set_cons_succ])
        have hbe : Below y2.heap.size y2 (y2.alloc (.cells #[.int .i64 0, .int .i64 0, .slice none 0 0, .int .i64 0, .int .i64 0] 62)) := bel0 _ _
        have HX9 := Lib.hid (BoxQ.new y2 0 0 (.slice none 0 0) 0 0 62)
        have hzV3 : (y2.alloc (.cells #[.int .i64 0, .int .i64 0, .slice none 0 0, .int .i64 0, .int .i64 0] 62)).heap.size ≤ y2.heap.size + 1 ∧ y2.heap.size + 1 ≤ (y2.alloc (.cells #[.int .i64 0, .int .i64 0, .slice none 0 0, .int .i64 0, .int .i64 0] 62)).heap.size := by simp
        have HX8 := Lib.hid (HX8.out.below hbe (by omega))
        have RA0 := Lib.hid (RA0.out.below (hbe.mono (by omega)))
        have RB0 := Lib.hid (RB0.out.below (hbe.mono (by omega)))
        obtain ⟨V3, hV⟩ : ∃ V, V = y2.alloc (.cells #[.int .i64 0, .int .i64 0, .slice none 0 0, .int .i64 0, .int .i64 0] 62) := ⟨_, rfl⟩
        rw [← hV] at hS HX8 HX9 hzV3 RA0 RB0 ⊢
        clear hV hbe
        clear KP1
        refine reg_call 10 rfl (by kernel_rfl) (by rfl) (fun K hK => ?_)
        have ec0 := HX8.out.1.1
        have ec1 := HX8.out.1.2.1
        have ec2 := HX8.out.1.2.2.1
        have ec3 := HX8.out.1.2.2.2.1
        have ec4 := HX8.out.1.2.2.2.2
        have ef0 := HX8.out.2.1
        have ef1 := HX8.out.2.2.1
        have ef2 := HX8.out.2.2.2.1
        have ef3 := HX8.out.2.2.2.2.1
        have ef4 := HX8.out.2.2.2.2.2
        go_simp
        refine hK.out _ _ (KS1.out _ U0.heap.size (.int .i64 M1) (.int .i64 N1) (.slice aA L1.length cA) (.int .i64 0) (.int .i64 0) (by omega) hS) (fun hS' => ?_)
        clear hK K hS ec0 ef0 ec1 ef1 ec2 ef2 ec3 ef3 ec4 ef4
        have hS := hS'
        clear hS'
        try (try simp only [Act.put, List.setIfInBounds_toArray, List.set_cons_zero, List.set_cons_succ])
        have HX8 : Hid (BoxQ U0.heap.size M1 N1 (.slice aA L1.length cA) 0 0 (set5 V3 U0.heap.size (.int .i64 M1) (.int .i64 N1) (.slice aA L1.length cA) (.int .i64 0) (.int .i64 0))) := Lib.hid (BoxQ.put5 HX8.out)
        have HX9 : Hid (BoxQ y2.heap.size 0 0 (.slice none 0 0) 0 0 (set5 V3 U0.heap.size (.int .i64 M1) (.int .i64 N1) (.slice aA L1.length cA) (.int .i64 0) (.int .i64 0))) := Lib.hid (BoxQ.far5 HX9.out (show U0.heap.size ≠ y2.heap.size by omega))
        have RA0 : Hid (PatIn _ _ (set5 V3 U0.heap.size (.int .i64 M1) (.int .i64 N1) (.slice aA L1.length cA) (.int .i64 0) (.int .i64 0)) _ _) := Lib.hid (row5 RA0.out (by omega) (by first | omega | (simp [World.setCell] <;> omega)))
        have RB0 : Hid (PatIn _ _ (set5 V3 U0.heap.size (.int .i64 M1) (.int .i64 N1) (.slice aA L1.length cA) (.int .i64 0) (.int .i64 0)) _ _) := Lib.hid (row5 RB0.out (by omega) (by first | omega | (simp [World.setCell] <;> omega)))
        refine reg_call 11 rfl (by kernel_rfl) (by rfl) (fun K hK => ?_)
        have ec0 := HX9.out.1.1
        have ec1 := HX9.out.1.2.1
        have ec2 := HX9.out.1.2.2.1
        have ec3 := HX9.out.1.2.2.2.1
        have ec4 := HX9.out.1.2.2.2.2
        have ef0 := HX9.out.2.1
        have ef1 := HX9.out.2.2.1
        have ef2 := HX9.out.2.2.2.1
        have ef3 := HX9.out.2.2.2.2.1
        have ef4 := HX9.out.2.2.2.2.2
        go_simp
        refine hK.out _ _ (KS1.out _ y2.heap.size (.int .i64 M2) (.int .i64 N2) (.slice aB L2.length cB) (.int .i64 X2) (.int .i64 Y2) (by omega) hS) (fun hS' => ?_)
        clear hK K hS ec0 ef0 ec1 ef1 ec2 ef2 ec3 ef3 ec4 ef4
        have hS := hS'
        clear hS'
        try (try simp only [Act.put, List.setIfInBounds_toArray, List.set_cons_zero, List.set_cons_succ])
        have HX9 : Hid (BoxQ y2.heap.size M2 N2 (.slice aB L2.length cB) X2 Y2 (set5 (set5 V3 U0.heap.size (.int .i64 M1) (.int .i64 N1) (.slice aA L1.length cA) (.int .i64 0) (.int .i64 0)) y2.heap.size (.int .i64 M2) (.int .i64 N2) (.slice aB L2.length cB) (.int .i64 X2) (.int .i64 Y2))) := Lib.hid (BoxQ.put5 HX9.out)
        have HX8 : Hid (BoxQ U0.heap.size M1 N1 (.slice aA L1.length cA) 0 0 (set5 (set5 V3 U0.heap.size (.int .i64 M1) (.int .i64 N1) (.slice aA L1.length cA) (.int .i64 0) (.int .i64 0)) y2.heap.size (.int .i64 M2) (.int .i64 N2) (.slice aB L2.length cB) (.int .i64 X2) (.int .i64 Y2))) := Lib.hid (BoxQ.far5 HX8.out (show y2.heap.size ≠ U0.heap.size by omega))
        have RA0 : Hid (PatIn _ _ (set5 (set5 V3 U0.heap.size (.int .i64 M1) (.int .i64 N1) (.slice aA L1.length cA) (.int .i64 0) (.int .i64 0)) y2.heap.size (.int .i64 M2) (.int .i64 N2) (.slice aB L2.length cB) (.int .i64 X2) (.int .i64 Y2)) _ _) := Lib.hid (row5 RA0.out (by omega) (by first | omega | (simp [World.setCell] <;> omega)))
        have RB0 : Hid (PatIn _ _ (set5 (set5 V3 U0.heap.size (.int .i64 M1) (.int .i64 N1) (.slice aA L1.length cA) (.int .i64 0) (.int .i64 0)) y2.heap.size (.int .i64 M2) (.int .i64 N2) (.slice aB L2.length cB) (.int .i64 X2) (.int .i64 Y2)) _ _) := Lib.hid (row5 RB0.out (by omega) (by first | omega | (simp [World.setCell] <;> omega)))
        refine wpAnyH_done (by kernel_rfl) ?_ _
        have HBW := Lib.hid hS.2.2.2.2.2
        clear hS
        go_wp2_with fail
        go_meet
        exact ⟨_, _, _, _, k, _, rfl, rfl, HX8, HX9, Lib.hid (RA0.out.wide (by omega) (Nat.le_refl _)), Lib.hid (RB0.out.wide (by omega) (Nat.le_refl _)), by simp [World.setCell] <;> omega, by simp [World.setCell] <;> omega, HBW⟩
      · go_simp
        refine hK.out _ _ (KP1.out _ _ (bel0 _ _) hS) (fun hS' => ?_)
        clear hK K hS
        have hS := hS'
        clear hS'
        try (try simp only [Act.put, List.setIfInBounds_toArray, List.set_cons_zero, List.set_cons_succ])
        have hbe : Below V1.heap.size V1 (V1.alloc (.cells #[.int .i64 0, .int .i64 0, .slice none 0 0, .int .i64 0, .int .i64 0] 62)) := bel0 _ _
        have HX9 := Lib.hid (BoxQ.new V1 0 0 (.slice none 0 0) 0 0 62)
        have hzV2 : (V1.alloc (.cells #[.int .i64 0, .int .i64 0, .slice none 0 0, .int .i64 0, .int .i64 0] 62)).heap.size ≤ V1.heap.size + 1 ∧ V1.heap.size + 1 ≤ (V1.alloc (.cells #[.int .i64 0, .int .i64 0, .slice none 0 0, .int .i64 0, .int .i64 0] 62)).heap.size := by simp
        have HX8 := Lib.hid (HX8.out.below hbe (by omega))
        obtain ⟨V2, hV⟩ : ∃ V, V = V1.alloc (.cells #[.int .i64 0, .int .i64 0, .slice none 0 0, .int .i64 0, .int .i64 0] 62) := ⟨_, rfl⟩
        rw [← hV] at hS HX8 HX9 hzV2 ⊢
        clear hV hbe
        refine reg_call 4 rfl (by kernel_rfl) (by rfl) (fun K hK => ?_)
        go_simp
        go_at_call 70
        refine (args_eqL (CS.out _ hS) (by with_reducible rfl)).mono ?_
        rintro e y3 ⟨vA, vB, k, rfl, RA, RB, hk1, hk2, hb⟩
        have RA0 := Lib.hid RA
        have RB0 := Lib.hid RB
        obtain ⟨aA, cA, rfl⟩ := RA.form
        obtain ⟨aB, cB, rfl⟩ := RB.form
        clear RA RB
        have hzy3 := hb.size
        have HX8 := Lib.hid (HX8.out.below hb (by omega))
        have HX9 := Lib.hid (HX9.out.below hb (by omega))
        refine hK.out _ _ (KP1.out _ _ hb hS) (fun hS' => ?_)
        clear hK K hS
        have hS := hS'
        clear hS'
        try (try simp only [Act.put, List.setIfInBounds_toArray, List.set_cons_zero, List.set_cons_succ])
        clear hb
        refine reg_take 5 (v := ?_) rfl (by kernel_rfl) (by kernel_rfl) (by kernel_rfl) (fun _ _ _ h => h) (by rfl) (by intro w hSw; (try dsimp only at hSw); go_simp; first | done | with_reducible rfl) hS ?_
        (try simp only [Act.put, List.setIfInBounds_toArray, List.set_cons_zero, List.set_cons_succ])
        refine reg_take 6 (v := ?_) rfl (by kernel_rfl) (by kernel_rfl) (by kernel_rfl) (fun _ _ _ h => h) (by rfl) (by intro w hSw; (try dsimp only at hSw); go_simp; first | done | with_reducible rfl) hS ?_
        (try simp only [Act.put, List.setIfInBounds_toArray, List.set_cons_zero, List.set_cons_succ])
        refine reg_take 7 (v := ?_) rfl (by kernel_rfl) (by kernel_rfl) (by kernel_rfl) (fun _ _ _ h => h) (by rfl) (by intro w hSw; (try dsimp only at hSw); go_simp; first | done | with_reducible rfl) hS ?_
        (try simp only [Act.put, List.setIfInBounds_toArray, List.set_cons_zero, List.set_cons_succ])
        clear KP1
        refine reg_call 10 rfl (by kernel_rfl) (by rfl) (fun K hK => ?_)
        have ec0 := HX8.out.1.1
        have ec1 := HX8.out.1.2.1
        have ec2 := HX8.out.1.2.2.1
        have ec3 := HX8.out.1.2.2.2.1
        have ec4 := HX8.out.1.2.2.2.2
        have ef0 := HX8.out.2.1
        have ef1 := HX8.out.2.2.1
        have ef2 := HX8.out.2.2.2.1
        have ef3 := HX8.out.2.2.2.2.1
        have ef4 := HX8.out.2.2.2.2.2
        go_simp
        refine hK.out _ _ (KS1.out _ U0.heap.size (.int .i64 M1) (.int .i64 N1) (.slice aA L1.length cA) (.int .i64 0) (.int .i64 0) (by omega) hS) (fun hS' => ?_)
        clear hK K hS ec0 ef0 ec1 ef1 ec2 ef2 ec3 ef3 ec4 ef4
        have hS := hS'
        clear hS'
        try (try simp only [Act.put, List.setIfInBounds_toArray, List.set_cons_zero, List.set_cons_succ])
        have HX8 : Hid (BoxQ U0.heap.size M1 N1 (.slice aA L1.length cA) 0 0 (set5 y3 U0.heap.size (.int .i64 M1) (.int .i64 N1) (.slice aA L1.length cA) (.int .i64 0) (.int .i64 0))) := Lib.hid (BoxQ.put5 HX8.out)
        have HX9 : Hid (BoxQ V1.heap.size 0 0 (.slice none 0 0) 0 0 (set5 y3 U0.heap.size (.int .i64 M1) (.int .i64 N1) (.slice aA L1.length cA) (.int .i64 0) (.int .i64 0))) := Lib.hid (BoxQ.far5 HX9.out (show U0.heap.size ≠ V1.heap.size by omega))
        have RA0 : Hid (PatIn _ _ (set5 y3 U0.heap.size (.int .i64 M1) (.int .i64 N1) (.slice aA L1.length cA) (.int .i64 0) (.int .i64 0)) _ _) := Lib.hid (row5 RA0.out (by omega) (by first | omega | (simp [World.setCell] <;> omega)))
        have RB0 : Hid (PatIn _ _ (set5 y3 U0.heap.size (.int .i64 M1) (.int .i64 N1) (.slice aA L1.length cA) (.int .i64 0) (.int .i64 0)) _ _) := Lib.hid (row5 RB0.out (by omega) (by first | omega | (simp [World.setCell] <;> omega)))
        refine reg_call 11 rfl (by kernel_rfl) (by rfl) (fun K hK => ?_)
        have ec0 := HX9.out.1.1
        have ec1 := HX9.out.1.2.1
        have ec2 := HX9.out.1.2.2.1
        have ec3 := HX9.out.1.2.2.2.1
        have ec4 := HX9.out.1.2.2.2.2
        have ef0 := HX9.out.2.1
        have ef1 := HX9.out.2.2.1
        have ef2 := HX9.out.2.2.2.1
        have ef3 := HX9.out.2.2.2.2.1
        have ef4 := HX9.out.2.2.2.2.2
        go_simp
        refine hK.out _ _ (KS1.out _ V1.heap.size (.int .i64 M2) (.int .i64 N2) (.slice aB L2.length cB) (.int .i64 X2) (.int .i64 Y2) (by omega) hS) (fun hS' => ?_)
        clear hK K hS ec0 ef0 ec1 ef1 ec2 ef2 ec3 ef3 ec4 ef4
        have hS := hS'
        clear hS'
        try (try simp only [Act.put, List.setIfInBounds_toArray, List.set_cons_zero, List.set_cons_succ])
        have HX9 : Hid (BoxQ V1.heap.size M2 N2 (.slice aB L2.length cB) X2 Y2 (set5 (set5 y3 U0.heap.size (.int .i64 M1) (.int .i64 N1) (.slice aA L1.length cA) (.int .i64 0) (.int .i64 0)) V1.heap.size (.int .i64 M2) (.int .i64 N2) (.slice aB L2.length cB) (.int .i64 X2) (.int .i64 Y2))) := Lib.hid (BoxQ.put5 HX9.out)
        have HX8 : Hid (BoxQ U0.heap.size M1 N1 (.slice aA L1.length cA) 0 0 (set5 (set5 y3 U0.heap.size (.int .i64 M1) (.int .i64 N1) (.slice aA L1.length cA) (.int .i64 0) (.int .i64 0)) V1.heap.size (.int .i64 M2) (.int .i64 N2) (.slice aB L2.length cB) (.int .i64 X2) (.int .i64 Y2))) := Lib.hid (BoxQ.far5 HX8.out (show V1.heap.size ≠ U0.heap.size by omega))
        have RA0 : Hid (PatIn _ _ (set5 (set5 y3 U0.heap.size (.int .i64 M1) (.int .i64 N1) (.slice aA L1.length cA) (.int .i64 0) (.int .i64 0)) V1.heap.size (.int .i64 M2) (.int .i64 N2) (.slice aB L2.length cB) (.int .i64 X2) (.int .i64 Y2)) _ _) := Lib.hid (row5 RA0.out (by omega) (by first | omega | (simp [World.setCell] <;> omega)))
        have RB0 : Hid (PatIn _ _ (set5 (set5 y3 U0.heap.size (.int .i64 M1) (.int .i64 N1) (.slice aA L1.length cA) (.int .i64 0) (.int .i64 0)) V1.heap.size (.int .i64 M2) (.int .i64 N2) (.slice aB L2.length cB) (.int .i64 X2) (.int .i64 Y2)) _ _) := Lib.hid (row5 RB0.out (by omega) (by first | omega | (simp [World.setCell] <;> omega)))
        refine wpAnyH_done (by kernel_rfl) ?_ _
        have HBW := Lib.hid hS.2.2.2.2.2
        clear hS
        go_wp2_with fail
        go_meet
        exact ⟨_, _, _, _, k, _, rfl, rfl, HX8, HX9, Lib.hid (RA0.out.wide (by omega) (Nat.le_refl _)), Lib.hid (RB0.out.wide (by omega) (Nat.le_refl _)), by simp [World.setCell] <;> omega, by simp [World.setCell] <;> omega, HBW⟩
    · go_simp
      refine hK.out _ _ (KP1.out _ _ (bel0 _ _) hS) (fun hS' => ?_)
      clear hK K hS
      have hS := hS'
      clear hS'
      try (try simp only [Act.put, List.setIfInBounds_toArray, List.set_cons_zero, List.set_cons_succ])
      have hbe : Below U0.heap.size U0 (U0.alloc (.cells #[.int .i64 0, .int .i64 0, .slice none 0 0, .int .i64 0, .int .i64 0] 62)) := bel0 _ _
      have HX9 := Lib.hid (BoxQ.new U0 0 0 (.slice none 0 0) 0 0 62)
      have hzV1 : (U0.alloc (.cells #[.int .i64 0, .int .i64 0, .slice none 0 0, .int .i64 0, .int .i64 0] 62)).heap.size ≤ U0.heap.size + 1 ∧ U0.heap.size + 1 ≤ (U0.alloc (.cells #[.int .i64 0, .int .i64 0, .slice none 0 0, .int .i64 0, .int .i64 0] 62)).heap.size := by simp
      obtain ⟨V1, hV⟩ : ∃ V, V = U0.alloc (.cells #[.int .i64 0, .int .i64 0, .slice none 0 0, .int .i64 0, .int .i64 0] 62) := ⟨_, rfl⟩
      rw [← hV] at hS HX9 hzV1 ⊢
      clear hV hbe
      refine reg_two 4 8 rfl rfl (by kernel_rfl) (by rfl) (by rfl) (fun K hK => ?_) (fun K hK => ?_)
      · go_simp
        go_at_call 70
        refine (args_eqL (CS.out _ hS) (by with_reducible rfl)).mono ?_
        rintro e y2 ⟨vA, vB, k, rfl, RA, RB, hk1, hk2, hb⟩
        have RA0 := Lib.hid RA
        have RB0 := Lib.hid RB
        obtain ⟨aA, cA, rfl⟩ := RA.form
        obtain ⟨aB, cB, rfl⟩ := RB.form
        clear RA RB
        have hzy2 := hb.size
        have HX9 := Lib.hid (HX9.out.below hb (by omega))
        refine hK.out _ _ (KP1.out _ _ hb hS) (fun hS' => ?_)
        clear hK K hS
        have hS := hS'
        clear hS'
        try (try simp only [Act.put, List.setIfInBounds_toArray, List.set_cons_zero, List.set_cons_succ])
        clear hb
        refine reg_take 5 (v := ?_) rfl (by kernel_rfl) (by kernel_rfl) (by kernel_rfl) (fun _ _ _ h => h) (by rfl) (by intro w hSw; (try dsimp only at hSw); go_simp; first | done | with_reducible rfl) hS ?_
        (try simp only [Act.put, List.setIfInBounds_toArray, List.set_cons_zero, List.set_cons_succ])
        refine reg_take 6 (v := ?_) rfl (by kernel_rfl) (by kernel_rfl) (by kernel_rfl) (fun _ _ _ h => h) (by rfl) (by intro w hSw; (try dsimp only at hSw); go_simp; first | done | with_reducible rfl) hS ?_
        (try simp only [Act.put, List.setIfInBounds_toArray, List.set_cons_zero, List.set_cons_succ])
        refine reg_take 7 (v := ?_) rfl (by kernel_rfl) (by kernel_rfl) (by kernel_rfl) (fun _ _ _ h => h) (by rfl) (by intro w hSw; (try dsimp only at hSw); go_simp; first | done | with_reducible rfl) hS ?_
        (try simp only [Act.put, List.setIfInBounds_toArray, List.set_cons_zero, List.set_cons_succ])
        refine reg_call 8 rfl (by kernel_rfl) (by rfl) (fun K hK => ?_)
        go_simp
        refine hK.out _ _ (KP1.out _ _ (bel0 _ _) hS) (fun hS' => ?_)
        clear hK K hS
        have hS := hS'
        clear hS'
        try (try simp only [Act.put, List.setIfInBounds_toArray, List.set_cons_zero, List.set_cons_succ])
        have hbe : Below y2.heap.size y2 (y2.alloc (.cells #[.int .i64 0, .int .i64 0, .slice none 0 0, .int .i64 0, .int .i64 0] 62)) := bel0 _ _
        have HX8 := Lib.hid (BoxQ.new y2 0 0 (.slice none 0 0) 0 0 62)
        have hzV3 : (y2.alloc (.cells #[.int .i64 0, .int .i64 0, .slice none 0 0, .int .i64 0, .int .i64 0] 62)).heap.size ≤ y2.heap.size + 1 ∧ y2.heap.size + 1 ≤ (y2.alloc (.cells #[.int .i64 0, .int .i64 0, .slice none 0 0, .int .i64 0, .int .i64 0] 62)).heap.size := by simp
        have HX9 := Lib.hid (HX9.out.below hbe (by omega))
        have RA0 := Lib.hid (RA0.out.below (hbe.mono (by omega)))
        have RB0 := Lib.hid (RB0.out.below (hbe.mono (by omega)))
        obtain ⟨V3, hV⟩ : ∃ V, V = y2.alloc (.cells #[.int .i64 0, .int .i64 0, .slice none 0 0, .int .i64 0, .int .i64 0] 62) := ⟨_, rfl⟩
        rw [← hV] at hS HX9 HX8 hzV3 RA0 RB0 ⊢
        clear hV hbe
        clear KP1
        refine reg_call 10 rfl (by kernel_rfl) (by rfl) (fun K hK => ?_)
        have ec0 := HX8.out.1.1
        have ec1 := HX8.out.1.2.1
        have ec2 := HX8.out.1.2.2.1
        have ec3 := HX8.out.1.2.2.2.1
        have ec4 := HX8.out.1.2.2.2.2
        have ef0 := HX8.out.2.1
        have ef1 := HX8.out.2.2.1
        have ef2 := HX8.out.2.2.2.1
        have ef3 := HX8.out.2.2.2.2.1
        have ef4 := HX8.out.2.2.2.2.2
        go_simp
        refine hK.out _ _ (KS1.out _ y2.heap.size (.int .i64 M1) (.int .i64 N1) (.slice aA L1.length cA) (.int .i64 0) (.int .i64 0) (by omega) hS) (fun hS' => ?_)
        clear hK K hS ec0 ef0 ec1 ef1 ec2 ef2 ec3 ef3 ec4 ef4
        have hS := hS'
        clear hS'
        try (try simp only [Act.put, List.setIfInBounds_toArray, List.set_cons_zero, List.set_cons_succ])
        have HX8 : Hid (BoxQ y2.heap.size M1 N1 (.slice aA L1.length cA) 0 0 (set5 V3 y2.heap.size (.int .i64 M1) (.int .i64 N1) (.slice aA L1.length cA) (.int .i64 0) (.int .i64 0))) := Lib.hid (BoxQ.put5 HX8.out)
        have HX9 : Hid (BoxQ U0.heap.size 0 0 (.slice none 0 0) 0 0 (set5 V3 y2.heap.size (.int .i64 M1) (.int .i64 N1) (.slice aA L1.length cA) (.int .i64 0) (.int .i64 0))) := Lib.hid (BoxQ.far5 HX9.out (show y2.heap.size ≠ U0.heap.size by omega))
        have RA0 : Hid (PatIn _ _ (set5 V3 y2.heap.size (.int .i64 M1) (.int .i64 N1) (.slice aA L1.length cA) (.int .i64 0) (.int .i64 0)) _ _) := Lib.hid (row5 RA0.out (by omega) (by first | omega | (simp [World.setCell] <;> omega)))
        have RB0 : Hid (PatIn _ _ (set5 V3 y2.heap.size (.int .i64 M1) (.int .i64 N1) (.slice aA L1.length cA) (.int .i64 0) (.int .i64 0)) _ _) := Lib.hid (row5 RB0.out (by omega) (by first | omega | (simp [World.setCell] <;> omega)))
        refine reg_call 11 rfl (by kernel_rfl) (by rfl) (fun K hK => ?_)
        have ec0 := HX9.out.1.1
        have ec1 := HX9.out.1.2.1
        have ec2 := HX9.out.1.2.2.1
        have ec3 := HX9.out.1.2.2.2.1
        have ec4 := HX9.out.1.2.2.2.2
        have ef0 := HX9.out.2.1
        have ef1 := HX9.out.2.2.1
        have ef2 := HX9.out.2.2.2.1
        have ef3 := HX9.out.2.2.2.2.1
        have ef4 := HX9.out.2.2.2.2.2
        go_simp
        refine hK.out _ _ (KS1.out _ U0.heap.size (.int .i64 M2) (.int .i64 N2) (.slice aB L2.length cB) (.int .i64 X2) (.int .i64 Y2) (by omega) hS) (fun hS' => ?_)
        clear hK K hS ec0 ef0 ec1 ef1 ec2 ef2 ec3 ef3 ec4 ef4
        have hS := hS'
        clear hS'
        try (try simp only [Act.put, List.setIfInBounds_toArray, List.set_cons_zero, List.set_cons_succ])
        have HX9 : Hid (BoxQ U0.heap.size M2 N2 (.slice aB L2.length cB) X2 Y2 (set5 (set5 V3 y2.heap.size (.int .i64 M1) (.int .i64 N1) (.slice aA L1.length cA) (.int .i64 0) (.int .i64 0)) U0.heap.size (.int .i64 M2) (.int .i64 N2) (.slice aB L2.length cB) (.int .i64 X2) (.int .i64 Y2))) := Lib.hid (BoxQ.put5 HX9.out)
        have HX8 : Hid (BoxQ y2.heap.size M1 N1 (.slice aA L1.length cA) 0 0 (set5 (set5 V3 y2.heap.size (.int .i64 M1) (.int .i64 N1) (.slice aA L1.length cA) (.int .i64 0) (.int .i64 0)) U0.heap.size (.int .i64 M2) (.int .i64 N2) (.slice aB L2.length cB) (.int .i64 X2) (.int .i64 Y2))) := Lib.hid (BoxQ.far5 HX8.out (show U0.heap.size ≠ y2.heap.size by omega))
        have RA0 : Hid (PatIn _ _ (set5 (set5 V3 y2.heap.size (.int .i64 M1) (.int .i64 N1) (.slice aA L1.length cA) (.int .i64 0) (.int .i64 0)) U0.heap.size (.int .i64 M2) (.int .i64 N2) (.slice aB L2.length cB) (.int .i64 X2) (.int .i64 Y2)) _ _) := Lib.hid (row5 RA0.out (by omega) (by first | omega | (simp [World.setCell] <;> omega)))
        have RB0 : Hid (PatIn _ _ (set5 (set5 V3 y2.heap.size (.int .i64 M1) (.int .i64 N1) (.slice aA L1.length cA) (.int .i64 0) (.int .i64 0)) U0.heap.size (.int .i64 M2) (.int .i64 N2) (.slice aB L2.length cB) (.int .i64 X2) (.int .i64 Y2)) _ _) := Lib.hid (row5 RB0.out (by omega) (by first | omega | (simp [World.setCell] <;> omega)))
        refine wpAnyH_done (by kernel_rfl) ?_ _
        have HBW := Lib.hid hS.2.2.2.2.2
        clear hS
        go_wp2_with fail
        go_meet
        exact ⟨_, _, _, _, k, _, rfl, rfl, HX8, HX9, Lib.hid (RA0.out.wide (by omega) (Nat.le_refl _)), Lib.hid (RB0.out.wide (by omega) (Nat.le_refl _)), by simp [World.setCell] <;> omega, by simp [World.setCell] <;> omega, HBW⟩
      · go_simp
        refine hK.out _ _ (KP1.out _ _ (bel0 _ _) hS) (fun hS' => ?_)
        clear hK K hS
        have hS := hS'
        clear hS'
        try (try simp only [Act.put, List.setIfInBounds_toArray, List.set_cons_zero, List.set_cons_succ])
        have hbe : Below V1.heap.size V1 (V1.alloc (.cells #[.int .i64 0, .int .i64 0, .slice none 0 0, .int .i64 0, .int .i64 0] 62)) := bel0 _ _
        have HX8 := Lib.hid (BoxQ.new V1 0 0 (.slice none 0 0) 0 0 62)
        have hzV2 : (V1.alloc (.cells #[.int .i64 0, .int .i64 0, .slice none 0 0, .int .i64 0, .int .i64 0] 62)).heap.size ≤ V1.heap.size + 1 ∧ V1.heap.size + 1 ≤ (V1.alloc (.cells #[.int .i64 0, .int .i64 0, .slice none 0 0, .int .i64 0, .int .i64 0] 62)).heap.size := by simp
        have HX9 := Lib.hid (HX9.out.below hbe (by omega))
        obtain ⟨V2, hV⟩ : ∃ V, V = V1.alloc (.cells #[.int .i64 0, .int .i64 0, .slice none 0 0, .int .i64 0, .int .i64 0] 62) := ⟨_, rfl⟩
        rw [← hV] at hS HX9 HX8 hzV2 ⊢
        clear hV hbe
        refine reg_call 4 rfl (by kernel_rfl) (by rfl) (fun K hK => ?_)
        go_simp
        go_at_call 70
        refine (args_eqL (CS.out _ hS) (by with_reducible rfl)).mono ?_
        rintro e y3 ⟨vA, vB, k, rfl, RA, RB, hk1, hk2, hb⟩
        have RA0 := Lib.hid RA
        have RB0 := Lib.hid RB
        obtain ⟨aA, cA, rfl⟩ := RA.form
        obtain ⟨aB, cB, rfl⟩ := RB.form
        clear RA RB
        have hzy3 := hb.size
        have HX9 := Lib.hid (HX9.out.below hb (by omega))
        have HX8 := Lib.hid (HX8.out.below hb (by omega))
        refine hK.out _ _ (KP1.out _ _ hb hS) (fun hS' => ?_)
        clear hK K hS
        have hS := hS'
        clear hS'
        try (try simp only [Act.put, List.setIfInBounds_toArray, List.set_cons_zero, List.set_cons_succ])
        clear hb
        refine reg_take 5 (v := ?_) rfl (by kernel_rfl) (by kernel_rfl) (by kernel_rfl) (fun _ _ _ h => h) (by rfl) (by intro w hSw; (try dsimp only at hSw); go_simp; first | done | with_reducible rfl) hS ?_
        (try simp only [Act.put, List.setIfInBounds_toArray, List.set_cons_zero, List.set_cons_succ])
        refine reg_take 6 (v := ?_) rfl (by kernel_rfl) (by kernel_rfl) (by kernel_rfl) (fun _ _ _ h => h) (by rfl) (by intro w hSw; (try dsimp only at hSw); go_simp; first | done | with_reducible rfl) hS ?_
        (try simp only [Act.put, List.setIfInBounds_toArray, List.set_cons_zero, List.set_cons_succ])
        refine reg_take 7 (v := ?_) rfl (by kernel_rfl) (by kernel_rfl) (by kernel_rfl) (fun _ _ _ h => h) (by rfl) (by intro w hSw; (try dsimp only at hSw); go_simp; first | done | with_reducible rfl) hS ?_
        (try simp only [Act.put, List.setIfInBounds_toArray, List.set_cons_zero, List.set_cons_succ])
        clear KP1
        refine reg_call 10 rfl (by kernel_rfl) (by rfl) (fun K hK => ?_)
        have ec0 := HX8.out.1.1
        have ec1 := HX8.out.1.2.1
        have ec2 := HX8.out.1.2.2.1
        have ec3 := HX8.out.1.2.2.2.1
        have ec4 := HX8.out.1.2.2.2.2
        have ef0 := HX8.out.2.1
        have ef1 := HX8.out.2.2.1
        have ef2 := HX8.out.2.2.2.1
        have ef3 := HX8.out.2.2.2.2.1
        have ef4 := HX8.out.2.2.2.2.2
        go_simp
        refine hK.out _ _ (KS1.out _ V1.heap.size (.int .i64 M1) (.int .i64 N1) (.slice aA L1.length cA) (.int .i64 0) (.int .i64 0) (by omega) hS) (fun hS' => ?_)
        clear hK K hS ec0 ef0 ec1 ef1 ec2 ef2 ec3 ef3 ec4 ef4
        have hS := hS'
        clear hS'
        try (try simp only [Act.put, List.setIfInBounds_toArray, List.set_cons_zero, List.set_cons_succ])
        have HX8 : Hid (BoxQ V1.heap.size M1 N1 (.slice aA L1.length cA) 0 0 (set5 y3 V1.heap.size (.int .i64 M1) (.int .i64 N1) (.slice aA L1.length cA) (.int .i64 0) (.int .i64 0))) := Lib.hid (BoxQ.put5 HX8.out)
        have HX9 : Hid (BoxQ U0.heap.size 0 0 (.slice none 0 0) 0 0 (set5 y3 V1.heap.size (.int .i64 M1) (.int .i64 N1) (.slice aA L1.length cA) (.int .i64 0) (.int .i64 0))) := Lib.hid (BoxQ.far5 HX9.out (show V1.heap.size ≠ U0.heap.size by omega))
        have RA0 : Hid (PatIn _ _ (set5 y3 V1.heap.size (.int .i64 M1) (.int .i64 N1) (.slice aA L1.length cA) (.int .i64 0) (.int .i64 0)) _ _) := Lib.hid (row5 RA0.out (by omega) (by first | omega | (simp [World.setCell] <;> omega)))
        have RB0 : Hid (PatIn _ _ (set5 y3 V1.heap.size (.int .i64 M1) (.int .i64 N1) (.slice aA L1.length cA) (.int .i64 0) (.int .i64 0)) _ _) := Lib.hid (row5 RB0.out (by omega) (by first | omega | (simp [World.setCell] <;> omega)))
        refine reg_call 11 rfl (by kernel_rfl) (by rfl) (fun K hK => ?_)
        have ec0 := HX9.out.1.1
        have ec1 := HX9.out.1.2.1
        have ec2 := HX9.out.1.2.2.1
        have ec3 := HX9.out.1.2.2.2.1
        have ec4 := HX9.out.1.2.2.2.2
        have ef0 := HX9.out.2.1
        have ef1 := HX9.out.2.2.1
        have ef2 := HX9.out.2.2.2.1
        have ef3 := HX9.out.2.2.2.2.1
        have ef4 := HX9.out.2.2.2.2.2
        go_simp
        refine hK.out _ _ (KS1.out _ U0.heap.size (.int .i64 M2) (.int .i64 N2) (.slice aB L2.length cB) (.int .i64 X2) (.int .i64 Y2) (by omega) hS) (fun hS' => ?_)
        clear hK K hS ec0 ef0 ec1 ef1 ec2 ef2 ec3 ef3 ec4 ef4
        have hS := hS'
        clear hS'
        try (try simp only [Act.put, List.setIfInBounds_toArray, List.set_cons_zero, List.set_cons_succ])
        have HX9 : Hid (BoxQ U0.heap.size M2 N2 (.slice aB L2.length cB) X2 Y2 (set5 (set5 y3 V1.heap.size (.int .i64 M1) (.int .i64 N1) (.slice aA L1.length cA) (.int .i64 0) (.int .i64 0)) U0.heap.size (.int .i64 M2) (.int .i64 N2) (.slice aB L2.length cB) (.int .i64 X2) (.int .i64 Y2))) := Lib.hid (BoxQ.put5 HX9.out)
        have HX8 : Hid (BoxQ V1.heap.size M1 N1 (.slice aA L1.length cA) 0 0 (set5 (set5 y3 V1.heap.size (.int .i64 M1) (.int .i64 N1) (.slice aA L1.length cA) (.int .i64 0) (.int .i64 0)) U0.heap.size (.int .i64 M2) (.int .i64 N2) (.slice aB L2.length cB) (.int .i64 X2) (.int .i64 Y2))) := Lib.hid (BoxQ.far5 HX8.out (show U0.heap.size ≠ V1.heap.size by omega))
        have RA0 : Hid (PatIn _ _ (set5 (set5 y3 V1.heap.size (.int .i64 M1) (.int .i64 N1) (.slice aA L1.length cA) (.int .i64 0) (.int .i64 0)) U0.heap.size (.int .i64 M2) (.int .i64 N2) (.slice aB L2.length cB) (.int .i64 X2) (.int .i64 Y2)) _ _) := Lib.hid (row5 RA0.out (by omega) (by first | omega | (simp [World.setCell] <;> omega)))
        have RB0 : Hid (PatIn _ _ (set5 (set5 y3 V1.heap.size (.int .i64 M1) (.int .i64 N1) (.slice aA L1.length cA) (.int .i64 0) (.int .i64 0)) U0.heap.size (.int .i64 M2) (.int .i64 N2) (.slice aB L2.length cB) (.int .i64 X2) (.int .i64 Y2)) _ _) := Lib.hid (row5 RB0.out (by omega) (by first | omega | (simp [World.setCell] <;> omega)))
        refine wpAnyH_done (by kernel_rfl) ?_ _
        have HBW := Lib.hid hS.2.2.2.2.2
        clear hS
        go_wp2_with fail
        go_meet
        exact ⟨_, _, _, _, k, _, rfl, rfl, HX8, HX9, Lib.hid (RA0.out.wide (by omega) (Nat.le_refl _)), Lib.hid (RB0.out.wide (by omega) (Nat.le_refl _)), by simp [World.setCell] <;> omega, by simp [World.setCell] <;> omega, HBW⟩
  case rest =>
    obtain ⟨pA, pB, vA, vB, k, kk, rfl, rfl, HA, HB, RA, RB, hk, hkk, HBW⟩ := hcut
    have hsx := HBW.out.size
    have BRx := Lib.hid (BR.out.below HBW.out (by omega))
    obtain ⟨⟨a0, a1, a2, _, _⟩, _⟩ := HA.out
    clear HA HB RB BR b0 b1 b2 e0 e1 S0 CS CC KP1 KS1
    go_wp2_with fail
    refine (HIH.out G.heap.size k vA _ RA.out hk (by omega)).mono ?_
    rintro e y ⟨v', rfl, RY, hby⟩
    obtain ⟨aY, cY, rfl⟩ := RY.form
    have RY0 := Lib.hid RY
    have hsy := hby.size
    have BRy := Lib.hid (BRx.out.below hby (by have := BRx.out.lt; omega))
    have HBY : Hid (Below w.heap.size w y) := Lib.hid (bel_c (HB1.out.trans (HBW.out.mono (by omega))) (by omega) hby)
    obtain ⟨d0, d1, d2, z0, z1, z2⟩ := BRy.out
    clear RY hby RA a0 a1 a2 BRx HBW HB1
    have k0 := kept (bel0 y (.cells #[.int .i64 M, .int .i64 N, .slice aY X.length cY] 26)) d0
    have k1 := kept (bel0 y (.cells #[.int .i64 M, .int .i64 N, .slice aY X.length cY] 26)) d1
    have k2 := kept (bel0 y (.cells #[.int .i64 M, .int .i64 N, .slice aY X.length cY] 26)) d2
    have j0 := keptF (bel0 y (.cells #[.int .i64 M, .int .i64 N, .slice aY X.length cY] 26)) d0 z0
    have j1 := keptF (bel0 y (.cells #[.int .i64 M, .int .i64 N, .slice aY X.length cY] 26)) d1 z1
    have j2 := keptF (bel0 y (.cells #[.int .i64 M, .int .i64 N, .slice aY X.length cY] 26)) d2 z2
    go_wp2_with fail
    refine bodyPost_ret (v := .tuple #[.agg #[.int .i64 M, .int .i64 N, .slice aY X.length cY], .bool true]) (by simp [results, Try.results57, go_sem, k0, k1, k2]) rfl ⟨_, rfl, ?_, ?_⟩
    · refine PatIn.wide (lo := G.heap.size) (hi := y.heap.size) (PatIn.set_far (PatIn.set_far (PatIn.set_far (RY0.out.below (bel0 _ _)) ?_ _) ?_ _) ?_ _) ?_ ?_
      all_goals first | omega | (simp [World.setCell] <;> omega)
    · refine Below.setCell (Below.setCell (Below.setCell (bel_n HBY.out ?_ _) ?_ _) ?_ _) ?_ _
      all_goals first | omega | (simp <;> omega)

set_option maxHeartbeats 6400000 in
set_option maxRecDepth 20000 in
theorem Knot_right (lo hi : Nat) (m n : Int) (v : Value) (xs : List P5) (c : C2) (rr : List C2) (M N : Int) (X : List P5) (ok : Bool) (w : World) (r : PatIn lo hi w v xs) (hhi : hi ≤ w.heap.size) (hlo : lo ≤ w.heap.size) (lay : LayOk m n xs) (hl1 : xs.length ≠ 1) (hcs : cutsL m n xs = c :: rr)
    (ih : ∀ (lo hi : Nat) (v : Value) (w : World), PatIn lo hi w v (pL1 m n c xs) → hi ≤ w.heap.size → lo ≤ w.heap.size → Calls Try.prog 57 #[.agg #[.int .i64 (pM1 m c), .int .i64 (pN1 n c), v]] w (KnotV 0 0 [] false lo w))
    (ih2 : ∀ (lo hi : Nat) (v : Value) (w : World), PatIn lo hi w v (pL2 m n c xs) → hi ≤ w.heap.size → lo ≤ w.heap.size → Calls Try.prog 57 #[.agg #[.int .i64 (pM2 m c), .int .i64 (pN2 n c), v]] w (KnotV M N X ok lo w)) :
    Calls Try.prog 57 #[.agg #[.int .i64 m, .int .i64 n, v]] w (KnotV M N X ok lo w) := by
  have hc := first_cut hcs
  obtain ⟨b, cap, rfl⟩ := r.form
  have R := Lib.hid r
  have HL := Lib.hid lay
  have HIH := Lib.hid ih
  have HIH2 := Lib.hid ih2
  have HC := Lib.hid hc
  have hlen : ((xs.length : Nat) : Int) = 1 → False := fun h => hl1 (by omega)
  have hd : ((xs.length : Int) == 1) = false := by simp; omega
  have CC : Hid (∀ u : World, Below w.heap.size w u → Calls Try.prog 60 #[.agg #[.int .i64 m, .int .i64 n, .slice b xs.length cap]] u (FreshCut (c :: rr) u)) := Lib.hid (fun u hb => by rw [← hcs]; exact Cuts_any lo hi m n _ xs u (r.below (hb.mono hhi)) (Nat.le_trans hhi hb.size) lay)
  have HB2 : Hid (Below w.heap.size w ((w.alloc (.cells #[.int .i64 m, .int .i64 n, .slice b xs.length cap] 26)).alloc (.cells #[.int .i64 0, .int .i64 0, .slice none 0 0] 26))) := Lib.hid (bel_n (bel0 w _) (Nat.le_refl _) _)
  clear r lay ih ih2 hcs hc
  go_enter Try.func57, Try.ntmps57
  go_wp2_with fail
  refine (CC.out _ HB2.out).mono ?_
  rintro e w1 ⟨vc, rfl, RC, hb1⟩
  obtain ⟨ac, cc, rfl⟩ := RC.form
  obtain ⟨g, rfl, hg, hg1, ⟨e0, e1⟩, _⟩ := RC.at (Below.refl _ _) (i := 0) (by simp)
  obtain ⟨up, a⟩ := c
  simp only [Nat.zero_mul, Nat.zero_add, List.getD_cons_zero] at e0 e1
  have b0 := kept (p := ⟨w.heap.size, 0, none⟩) (x := .int .i64 m) hb1 (by go_simp)
  have b1 := kept (p := ⟨w.heap.size, 1, none⟩) (x := .int .i64 n) hb1 (by go_simp)
  have b2 := kept (p := ⟨w.heap.size, 2, none⟩) (x := .slice b xs.length cap) hb1 (by go_simp)
  have hB1 := bel_c HB2.out (Nat.le_refl _) hb1
  have BR : Hid (BoxL (w.heap.size + 1) (.int .i64 0) (.int .i64 0) (.slice none 0 0) w1) := Lib.hid (by
    have := BoxL.new (w.alloc (.cells #[.int .i64 m, .int .i64 n, .slice b xs.length cap] 26)) (.int .i64 0) (.int .i64 0) (.slice none 0 0) 26
    rw [show (w.alloc (.cells #[.int .i64 m, .int .i64 n, .slice b xs.length cap] 26)).heap.size = w.heap.size + 1 by simp] at this
    exact this.below hb1 (by simp))
  have hs1 := hb1.size
  simp at hs1
  have HB1 := Lib.hid hB1
  clear hB1 hb1 RC
  generalize w1 = G at *
  obtain ⟨M1, hM1⟩ : ∃ M1, M1 = pM1 m ⟨up, a⟩ := ⟨_, rfl⟩
  obtain ⟨N1, hN1⟩ : ∃ N1, N1 = pN1 n ⟨up, a⟩ := ⟨_, rfl⟩
  obtain ⟨M2, hM2⟩ : ∃ M2, M2 = pM2 m ⟨up, a⟩ := ⟨_, rfl⟩
  obtain ⟨N2, hN2⟩ : ∃ N2, N2 = pN2 n ⟨up, a⟩ := ⟨_, rfl⟩
  obtain ⟨X2, hX2⟩ : ∃ X2, X2 = pX2 ⟨up, a⟩ := ⟨_, rfl⟩
  obtain ⟨Y2, hY2⟩ : ∃ Y2, Y2 = pY2 ⟨up, a⟩ := ⟨_, rfl⟩
  obtain ⟨L1, hL1⟩ : ∃ L1, L1 = pL1 m n ⟨up, a⟩ xs := ⟨_, rfl⟩
  obtain ⟨L2, hL2⟩ : ∃ L2, L2 = pL2 m n ⟨up, a⟩ xs := ⟨_, rfl⟩
  have D0 : Below G.heap.size G G.drew := ⟨rfl, rfl, rfl, Nat.le_refl _, fun _ _ => rfl⟩
  have CS : Hid (∀ u : World, (u.cell? ⟨w.heap.size, 0, none⟩ = some (.int .i64 m) ∧ u.cell? ⟨w.heap.size, 1, none⟩ = some (.int .i64 n) ∧ u.cell? ⟨w.heap.size, 2, none⟩ = some (.slice b xs.length cap) ∧ u.cell? ⟨g, 0, none⟩ = some (.bool up) ∧ u.cell? ⟨g, 1, none⟩ = some (.int .i64 a) ∧ Below G.heap.size G u) → Calls Try.prog 70 #[.agg #[.int .i64 m, .int .i64 n, .slice b xs.length cap], .agg #[.bool up, .int .i64 a]] u (SplitV M1 N1 M2 N2 X2 Y2 L1 L2 u)) := Lib.hid (fun u h => by
    have hu := bel_c HB1.out (Nat.le_refl _) h.2.2.2.2.2
    rw [hM1, hN1, hM2, hN2, hX2, hY2, hL1, hL2]
    exact Split_any lo hi m n _ xs up a u (R.out.below (hu.mono hhi)) (Nat.le_trans hhi hu.size) HL.out HC.out)
  have S0 : G.drew.cell? ⟨w.heap.size, 0, none⟩ = some (.int .i64 m) ∧ G.drew.cell? ⟨w.heap.size, 1, none⟩ = some (.int .i64 n) ∧ G.drew.cell? ⟨w.heap.size, 2, none⟩ = some (.slice b xs.length cap) ∧ G.drew.cell? ⟨g, 0, none⟩ = some (.bool up) ∧ G.drew.cell? ⟨g, 1, none⟩ = some (.int .i64 a) ∧ Below G.heap.size G G.drew := ⟨kept D0 b0, kept D0 b1, kept D0 b2, kept D0 e0, kept D0 e1, D0⟩
  rw [← hM1, ← hN1, ← hL1] at HIH
  rw [← hM2, ← hN2, ← hL2] at HIH2
  clear hM1 hN1 hM2 hN2 hX2 hY2 hL1 hL2
  have KP : ∀ u v : World, Below u.heap.size u v → (u.cell? ⟨w.heap.size, 0, none⟩ = some (.int .i64 m) ∧ u.cell? ⟨w.heap.size, 1, none⟩ = some (.int .i64 n) ∧ u.cell? ⟨w.heap.size, 2, none⟩ = some (.slice b xs.length cap) ∧ u.cell? ⟨g, 0, none⟩ = some (.bool up) ∧ u.cell? ⟨g, 1, none⟩ = some (.int .i64 a) ∧ Below G.heap.size G u) → (v.cell? ⟨w.heap.size, 0, none⟩ = some (.int .i64 m) ∧ v.cell? ⟨w.heap.size, 1, none⟩ = some (.int .i64 n) ∧ v.cell? ⟨w.heap.size, 2, none⟩ = some (.slice b xs.length cap) ∧ v.cell? ⟨g, 0, none⟩ = some (.bool up) ∧ v.cell? ⟨g, 1, none⟩ = some (.int .i64 a) ∧ Below G.heap.size G v) := fun u v hb h => ⟨kept hb h.1, kept hb h.2.1, kept hb h.2.2.1, kept hb h.2.2.2.1, kept hb h.2.2.2.2.1, bel_c h.2.2.2.2.2 (Nat.le_refl _) hb⟩
  have KS : ∀ (u : World) (p : Nat) (x0 x1 x2 x3 x4 : Value), G.heap.size ≤ p → (u.cell? ⟨w.heap.size, 0, none⟩ = some (.int .i64 m) ∧ u.cell? ⟨w.heap.size, 1, none⟩ = some (.int .i64 n) ∧ u.cell? ⟨w.heap.size, 2, none⟩ = some (.slice b xs.length cap) ∧ u.cell? ⟨g, 0, none⟩ = some (.bool up) ∧ u.cell? ⟨g, 1, none⟩ = some (.int .i64 a) ∧ Below G.heap.size G u) → ((set5 u p x0 x1 x2 x3 x4).cell? ⟨w.heap.size, 0, none⟩ = some (.int .i64 m) ∧ (set5 u p x0 x1 x2 x3 x4).cell? ⟨w.heap.size, 1, none⟩ = some (.int .i64 n) ∧ (set5 u p x0 x1 x2 x3 x4).cell? ⟨w.heap.size, 2, none⟩ = some (.slice b xs.length cap) ∧ (set5 u p x0 x1 x2 x3 x4).cell? ⟨g, 0, none⟩ = some (.bool up) ∧ (set5 u p x0 x1 x2 x3 x4).cell? ⟨g, 1, none⟩ = some (.int .i64 a) ∧ Below G.heap.size G (set5 u p x0 x1 x2 x3 x4)) := fun u p x0 x1 x2 x3 x4 hp h => by
    have h1 : p ≠ w.heap.size := by omega
    have h2 : p ≠ g := by omega
    exact ⟨(set5_far h1).trans h.1, (set5_far h1).trans h.2.1, (set5_far h1).trans h.2.2.1, (set5_far h2).trans h.2.2.2.1, (set5_far h2).trans h.2.2.2.2.1, ((((h.2.2.2.2.2.setCell hp _).setCell hp _).setCell hp _).setCell hp _).setCell hp _⟩
  have KP1 := Lib.hid KP
  have KS1 := Lib.hid KS
  clear KP KS D0
  go_upto_region 6 with fail
  go_cut [5, 6] (fun q t wx => WS G M1 N1 M2 N2 X2 Y2 L1 L2 q t wx)
  case first =>
    (try simp only [List.append_eq, List.cons_append, List.nil_append])
    have hS := S0
    refine reg_begin (fun w' => w'.cell? ⟨w.heap.size, 0, none⟩ = some (.int .i64 m) ∧ w'.cell? ⟨w.heap.size, 1, none⟩ = some (.int .i64 n) ∧ w'.cell? ⟨w.heap.size, 2, none⟩ = some (.slice b xs.length cap) ∧ w'.cell? ⟨g, 0, none⟩ = some (.bool up) ∧ w'.cell? ⟨g, 1, none⟩ = some (.int .i64 a) ∧ Below G.heap.size G w') (by kernel_rfl) hS ?_
    refine reg_take 0 (v := ?_) rfl (by kernel_rfl) (by kernel_rfl) (by kernel_rfl) (fun _ _ _ h => h) (by rfl) (by intro w hSw; (try dsimp only at hSw); go_simp; first | done | with_reducible rfl) hS ?_
    (try simp only [Act.put, List.setIfInBounds_toArray, List.set_cons_zero, List.set_cons_succ])
    refine reg_take 1 (v := ?_) rfl (by kernel_rfl) (by kernel_rfl) (by kernel_rfl) (fun _ _ _ h => h) (by rfl) (by intro w hSw; (try dsimp only at hSw); go_simp; first | done | with_reducible rfl) hS ?_
    (try simp only [Act.put, List.setIfInBounds_toArray, List.set_cons_zero, List.set_cons_succ])
    refine reg_take 2 (v := ?_) rfl (by kernel_rfl) (by kernel_rfl) (by kernel_rfl) (fun _ _ _ h => h) (by rfl) (by intro w hSw; (try dsimp only at hSw); go_simp; first | done | with_reducible rfl) hS ?_
    (try simp only [Act.put, List.setIfInBounds_toArray, List.set_cons_zero, List.set_cons_succ])
    refine reg_take 3 (v := ?_) rfl (by kernel_rfl) (by kernel_rfl) (by kernel_rfl) (fun _ _ _ h => h) (by rfl) (by intro w hSw; (try dsimp only at hSw); go_simp; first | done | with_reducible rfl) hS ?_
    (try simp only [Act.put, List.setIfInBounds_toArray, List.set_cons_zero, List.set_cons_succ])
    have hz0 : G.drew.heap.size ≤ G.heap.size ∧ G.heap.size ≤ G.drew.heap.size := ⟨Nat.le_refl _, Nat.le_refl _⟩
    generalize G.drew = U0 at hS hz0 ⊢
    refine reg_three 4 8 9 rfl rfl rfl (by kernel_rfl) (by rfl) (by rfl) (by rfl) (fun K hK => ?_) (fun K hK => ?_) (fun K hK => ?_)
    · go_simp
      go_at_call 70
      refine (args_eqL (CS.out _ hS) (by with_reducible rfl)).mono ?_
      rintro e y1 ⟨vA, vB, k, rfl, RA, RB, hk1, hk2, hb⟩
      have RA0 := Lib.hid RA
      have RB0 := Lib.hid RB
      obtain ⟨aA, cA, rfl⟩ := RA.form
      obtain ⟨aB, cB, rfl⟩ := RB.form
      clear RA RB
      have hzy1 := hb.size
      refine hK.out _ _ (KP1.out _ _ hb hS) (fun hS' => ?_)
      clear hK K hS
      have hS := hS'
      clear hS'
      try (try simp only [Act.put, List.setIfInBounds_toArray, List.set_cons_zero, List.set_cons_succ])
      clear hb
      refine reg_take 5 (v := ?_) rfl (by kernel_rfl) (by kernel_rfl) (by kernel_rfl) (fun _ _ _ h => h) (by rfl) (by intro w hSw; (try dsimp only at hSw); go_simp; first | done | with_reducible rfl) hS ?_
      (try simp only [Act.put, List.setIfInBounds_toArray, List.set_cons_zero, List.set_cons_succ])
      refine reg_take 6 (v := ?_) rfl (by kernel_rfl) (by kernel_rfl) (by kernel_rfl) (fun _ _ _ h => h) (by rfl) (by intro w hSw; (try dsimp only at hSw); go_simp; first | done | with_reducible rfl) hS ?_
      (try simp only [Act.put, List.setIfInBounds_toArray, List.set_cons_zero, List.set_cons_succ])
      refine reg_take 7 (v := ?_) rfl (by kernel_rfl) (by kernel_rfl) (by kernel_rfl) (fun _ _ _ h => h) (by rfl) (by intro w hSw; (try dsimp only at hSw); go_simp; first | done | with_reducible rfl) hS ?_
      (try simp only [Act.put, List.setIfInBounds_toArray, List.set_cons_zero, List.set_cons_succ])
      refine reg_two 8 9 rfl rfl (by kernel_rfl) (by rfl) (by rfl) (fun K hK => ?_) (fun K hK => ?_)
      · go_simp
        refine hK.out _ _ (KP1.out _ _ (bel0 _ _) hS) (fun hS' => ?_)
        clear hK K hS
        have hS := hS'
        clear hS'
        try (try simp only [Act.put, List.setIfInBounds_toArray, List.set_cons_zero, List.set_cons_succ])
        have hbe : Below y1.heap.size y1 (y1.alloc (.cells #[.int .i64 0, .int .i64 0, .slice none 0 0, .int .i64 0, .int .i64 0] 62)) := bel0 _ _
        have HX8 := Lib.hid (BoxQ.new y1 0 0 (.slice none 0 0) 0 0 62)
        have hzV2 : (y1.alloc (.cells #[.int .i64 0, .int .i64 0, .slice none 0 0, .int .i64 0, .int .i64 0] 62)).heap.size ≤ y1.heap.size + 1 ∧ y1.heap.size + 1 ≤ (y1.alloc (.cells #[.int .i64 0, .int .i64 0, .slice none 0 0, .int .i64 0, .int .i64 0] 62)).heap.size := by simp
        have RA0 := Lib.hid (RA0.out.below (hbe.mono (by omega)))
        have RB0 := Lib.hid (RB0.out.below (hbe.mono (by omega)))
        obtain ⟨V2, hV⟩ : ∃ V, V = y1.alloc (.cells #[.int .i64 0, .int .i64 0, .slice none 0 0, .int .i64 0, .int .i64 0] 62) := ⟨_, rfl⟩
        rw [← hV] at hS HX8 hzV2 RA0 RB0 ⊢
        clear hV hbe
        refine reg_call 9 rfl (by kernel_rfl) (by rfl) (fun K hK => ?_)
        go_simp
        refine hK.out _ _ (KP1.out _ _ (bel0 _ _) hS) (fun hS' => ?_)
        clear hK K hS
        have hS := hS'
        clear hS'
        try (try simp only [Act.put, List.setIfInBounds_toArray, List.set_cons_zero, List.set_cons_succ])
        have hbe : Below V2.heap.size V2 (V2.alloc (.cells #[.int .i64 0, .int .i64 0, .slice none 0 0, .int .i64 0, .int .i64 0] 62)) := bel0 _ _
        have HX9 := Lib.hid (BoxQ.new V2 0 0 (.slice none 0 0) 0 0 62)
        have hzV3 : (V2.alloc (.cells #[.int .i64 0, .int .i64 0, .slice none 0 0, .int .i64 0, .int .i64 0] 62)).heap.size ≤ V2.heap.size + 1 ∧ V2.heap.size + 1 ≤ (V2.alloc (.cells #[.int .i64 0, .int .i64 0, .slice none 0 0, .int .i64 0, .int .i64 0] 62)).heap.size := by simp
        have HX8 := Lib.hid (HX8.out.below hbe (by omega))
        have RA0 := Lib.hid (RA0.out.below (hbe.mono (by omega)))
        have RB0 := Lib.hid (RB0.out.below (hbe.mono (by omega)))
        obtain ⟨V3, hV⟩ : ∃ V, V = V2.alloc (.cells #[.int .i64 0, .int .i64 0, .slice none 0 0, .int .i64 0, .int .i64 0] 62) := ⟨_, rfl⟩
        rw [← hV] at hS HX8 HX9 hzV3 RA0 RB0 ⊢
        clear hV hbe
        clear KP1
        refine reg_call 10 rfl (by kernel_rfl) (by rfl) (fun K hK => ?_)
        have ec0 := HX8.out.1.1
        have ec1 := HX8.out.1.2.1
        have ec2 := HX8.out.1.2.2.1
        have ec3 := HX8.out.1.2.2.2.1
        have ec4 := HX8.out.1.2.2.2.2
        have ef0 := HX8.out.2.1
        have ef1 := HX8.out.2.2.1
        have ef2 := HX8.out.2.2.2.1
        have ef3 := HX8.out.2.2.2.2.1
        have ef4 := HX8.out.2.2.2.2.2
        go_simp
        refine hK.out _ _ (KS1.out _ y1.heap.size (.int .i64 M1) (.int .i64 N1) (.slice aA L1.length cA) (.int .i64 0) (.int .i64 0) (by omega) hS) (fun hS' => ?_)
        clear hK K hS ec0 ef0 ec1 ef1 ec2 ef2 ec3 ef3 ec4 ef4
        have hS := hS'
        clear hS'
        try (try simp only [Act.put, List.setIfInBounds_toArray, List.set_cons_zero, List.set_cons_succ])
        have HX8 : Hid (BoxQ y1.heap.size M1 N1 (.slice aA L1.length cA) 0 0 (set5 V3 y1.heap.size (.int .i64 M1) (.int .i64 N1) (.slice aA L1.length cA) (.int .i64 0) (.int .i64 0))) := Lib.hid (BoxQ.put5 HX8.out)
        have HX9 : Hid (BoxQ V2.heap.size 0 0 (.slice none 0 0) 0 0 (set5 V3 y1.heap.size (.int .i64 M1) (.int .i64 N1) (.slice aA L1.length cA) (.int .i64 0) (.int .i64 0))) := Lib.hid (BoxQ.far5 HX9.out (show y1.heap.size ≠ V2.heap.size by omega))
        have RA0 : Hid (PatIn _ _ (set5 V3 y1.heap.size (.int .i64 M1) (.int .i64 N1) (.slice aA L1.length cA) (.int .i64 0) (.int .i64 0)) _ _) := Lib.hid (row5 RA0.out (by omega) (by first | omega | (simp [World.setCell] <;> omega)))
        have RB0 : Hid (PatIn _ _ (set5 V3 y1.heap.size (.int .i64 M1) (.int .i64 N1) (.slice aA L1.length cA) (.int .i64 0) (.int .i64 0)) _ _) := Lib.hid (row5 RB0.out (by omega) (by first | omega | (simp [World.setCell] <;> omega)))
        refine reg_call 11 rfl (by kernel_rfl) (by rfl) (fun K hK => ?_)
        have ec0 := HX9.out.1.1
        have ec1 := HX9.out.1.2.1
        have ec2 := HX9.out.1.2.2.1
        have ec3 := HX9.out.1.2.2.2.1
        have ec4 := HX9.out.1.2.2.2.2
        have ef0 := HX9.out.2.1
        have ef1 := HX9.out.2.2.1
        have ef2 := HX9.out.2.2.2.1
        have ef3 := HX9.out.2.2.2.2.1
        have ef4 := HX9.out.2.2.2.2.2
        go_simp
        refine hK.out _ _ (KS1.out _ V2.heap.size (.int .i64 M2) (.int .i64 N2) (.slice aB L2.length cB) (.int .i64 X2) (.int .i64 Y2) (by omega) hS) (fun hS' => ?_)
        clear hK K hS ec0 ef0 ec1 ef1 ec2 ef2 ec3 ef3 ec4 ef4
        have hS := hS'
        clear hS'
        try (try simp only [Act.put, List.setIfInBounds_toArray, List.set_cons_zero, List.set_cons_succ])
        have HX9 : Hid (BoxQ V2.heap.size M2 N2 (.slice aB L2.length cB) X2 Y2 (set5 (set5 V3 y1.heap.size (.int .i64 M1) (.int .i64 N1) (.slice aA L1.length cA) (.int .i64 0) (.int .i64 0)) V2.heap.size (.int .i64 M2) (.int .i64 N2) (.slice aB L2.length cB) (.int .i64 X2) (.int .i64 Y2))) := Lib.hid (BoxQ.put5 HX9.out)
        have HX8 : Hid (BoxQ y1.heap.size M1 N1 (.slice aA L1.length cA) 0 0 (set5 (set5 V3 y1.heap.size (.int .i64 M1) (.int .i64 N1) (.slice aA L1.length cA) (.int .i64 0) (.int .i64 0)) V2.heap.size (.int .i64 M2) (.int .i64 N2) (.slice aB L2.length cB) (.int .i64 X2) (.int .i64 Y2))) := Lib.hid (BoxQ.far5 HX8.out (show V2.heap.size ≠ y1.heap.size by omega))
        have RA0 : Hid (PatIn _ _ (set5 (set5 V3 y1.heap.size (.int .i64 M1) (.int .i64 N1) (.slice aA L1.length cA) (.int .i64 0) (.int .i64 0)) V2.heap.size (.int .i64 M2) (.int .i64 N2) (.slice aB L2.length cB) (.int .i64 X2) (.int .i64 Y2)) _ _) := Lib.hid (row5 RA0.out (by omega) (by first | omega | (simp [World.setCell] <;> omega)))
        have RB0 : Hid (PatIn _ _ (set5 (set5 V3 y1.heap.size (.int .i64 M1) (.int .i64 N1) (.slice aA L1.length cA) (.int .i64 0) (.int .i64 0)) V2.heap.size (.int .i64 M2) (.int .i64 N2) (.slice aB L2.length cB) (.int .i64 X2) (.int .i64 Y2)) _ _) := Lib.hid (row5 RB0.out (by omega) (by first | omega | (simp [World.setCell] <;> omega)))
        refine wpAnyH_done (by kernel_rfl) ?_ _
        have HBW := Lib.hid hS.2.2.2.2.2
        clear hS
        go_wp2_with fail
        go_meet
        exact ⟨_, _, _, _, k, _, rfl, rfl, HX8, HX9, Lib.hid (RA0.out.wide (by omega) (Nat.le_refl _)), Lib.hid (RB0.out.wide (by omega) (Nat.le_refl _)), by simp [World.setCell] <;> omega, by simp [World.setCell] <;> omega, HBW⟩
      · go_simp
        refine hK.out _ _ (KP1.out _ _ (bel0 _ _) hS) (fun hS' => ?_)
        clear hK K hS
        have hS := hS'
        clear hS'
        try (try simp only [Act.put, List.setIfInBounds_toArray, List.set_cons_zero, List.set_cons_succ])
        have hbe : Below y1.heap.size y1 (y1.alloc (.cells #[.int .i64 0, .int .i64 0, .slice none 0 0, .int .i64 0, .int .i64 0] 62)) := bel0 _ _
        have HX9 := Lib.hid (BoxQ.new y1 0 0 (.slice none 0 0) 0 0 62)
        have hzV2 : (y1.alloc (.cells #[.int .i64 0, .int .i64 0, .slice none 0 0, .int .i64 0, .int .i64 0] 62)).heap.size ≤ y1.heap.size + 1 ∧ y1.heap.size + 1 ≤ (y1.alloc (.cells #[.int .i64 0, .int .i64 0, .slice none 0 0, .int .i64 0, .int .i64 0] 62)).heap.size := by simp
        have RA0 := Lib.hid (RA0.out.below (hbe.mono (by omega)))
        have RB0 := Lib.hid (RB0.out.below (hbe.mono (by omega)))
        obtain ⟨V2, hV⟩ : ∃ V, V = y1.alloc (.cells #[.int .i64 0, .int .i64 0, .slice none 0 0, .int .i64 0, .int .i64 0] 62) := ⟨_, rfl⟩
        rw [← hV] at hS HX9 hzV2 RA0 RB0 ⊢
        clear hV hbe
        refine reg_call 8 rfl (by kernel_rfl) (by rfl) (fun K hK => ?_)
        go_simp
        refine hK.out _ _ (KP1.out _ _ (bel0 _ _) hS) (fun hS' => ?_)
        clear hK K hS
        have hS := hS'
        clear hS'
        try (try simp only [Act.put, List.setIfInBounds_toArray, List.set_cons_zero, List.set_cons_succ])
        have hbe : Below V2.heap.size V2 (V2.alloc (.cells #[.int .i64 0, .int .i64 0, .slice none 0 0, .int .i64 0, .int .i64 0] 62)) := bel0 _ _
        have HX8 := Lib.hid (BoxQ.new V2 0 0 (.slice none 0 0) 0 0 62)
        have hzV3 : (V2.alloc (.cells #[.int .i64 0, .int .i64 0, .slice none 0 0, .int .i64 0, .int .i64 0] 62)).heap.size ≤ V2.heap.size + 1 ∧ V2.heap.size + 1 ≤ (V2.alloc (.cells #[.int .i64 0, .int .i64 0, .slice none 0 0, .int .i64 0, .int .i64 0] 62)).heap.size := by simp
        have HX9 := Lib.hid (HX9.out.below hbe (by omega))
        have RA0 := Lib.hid (RA0.out.below (hbe.mono (by omega)))
        have RB0 := Lib.hid (RB0.out.below (hbe.mono (by omega)))
        obtain ⟨V3, hV⟩ : ∃ V, V = V2.alloc (.cells #[.int .i64 0, .int .i64 0, .slice none 0 0, .int .i64 0, .int .i64 0] 62) := ⟨_, rfl⟩
        rw [← hV] at hS HX9 HX8 hzV3 RA0 RB0 ⊢
        clear hV hbe
        clear KP1
        refine reg_call 10 rfl (by kernel_rfl) (by rfl) (fun K hK => ?_)
        have ec0 := HX8.out.1.1
        have ec1 := HX8.out.1.2.1
        have ec2 := HX8.out.1.2.2.1
        have ec3 := HX8.out.1.2.2.2.1
        have ec4 := HX8.out.1.2.2.2.2
        have ef0 := HX8.out.2.1
        have ef1 := HX8.out.2.2.1
        have ef2 := HX8.out.2.2.2.1
        have ef3 := HX8.out.2.2.2.2.1
        have ef4 := HX8.out.2.2.2.2.2
        go_simp
        refine hK.out _ _ (KS1.out _ V2.heap.size (.int .i64 M1) (.int .i64 N1) (.slice aA L1.length cA) (.int .i64 0) (.int .i64 0) (by omega) hS) (fun hS' => ?_)
        clear hK K hS ec0 ef0 ec1 ef1 ec2 ef2 ec3 ef3 ec4 ef4
        have hS := hS'
        clear hS'
        try (try simp only [Act.put, List.setIfInBounds_toArray, List.set_cons_zero, List.set_cons_succ])
        have HX8 : Hid (BoxQ V2.heap.size M1 N1 (.slice aA L1.length cA) 0 0 (set5 V3 V2.heap.size (.int .i64 M1) (.int .i64 N1) (.slice aA L1.length cA) (.int .i64 0) (.int .i64 0))) := Lib.hid (BoxQ.put5 HX8.out)
        have HX9 : Hid (BoxQ y1.heap.size 0 0 (.slice none 0 0) 0 0 (set5 V3 V2.heap.size (.int .i64 M1) (.int .i64 N1) (.slice aA L1.length cA) (.int .i64 0) (.int .i64 0))) := Lib.hid (BoxQ.far5 HX9.out (show V2.heap.size ≠ y1.heap.size by omega))
        have RA0 : Hid (PatIn _ _ (set5 V3 V2.heap.size (.int .i64 M1) (.int .i64 N1) (.slice aA L1.length cA) (.int .i64 0) (.int .i64 0)) _ _) := Lib.hid (row5 RA0.out (by omega) (by first | omega | (simp [World.setCell] <;> omega)))
        have RB0 : Hid (PatIn _ _ (set5 V3 V2.heap.size (.int .i64 M1) (.int .i64 N1) (.slice aA L1.length cA) (.int .i64 0) (.int .i64 0)) _ _) := Lib.hid (row5 RB0.out (by omega) (by first | omega | (simp [World.setCell] <;> omega)))
        refine reg_call 11 rfl (by kernel_rfl) (by rfl) (fun K hK => ?_)
        have ec0 := HX9.out.1.1
        have ec1 := HX9.out.1.2.1
        have ec2 := HX9.out.1.2.2.1
        have ec3 := HX9.out.1.2.2.2.1
        have ec4 := HX9.out.1.2.2.2.2
        have ef0 := HX9.out.2.1
        have ef1 := HX9.out.2.2.1
        have ef2 := HX9.out.2.2.2.1
        have ef3 := HX9.out.2.2.2.2.1
        have ef4 := HX9.out.2.2.2.2.2
        go_simp
        refine hK.out _ _ (KS1.out _ y1.heap.size (.int .i64 M2) (.int .i64 N2) (.slice aB L2.length cB) (.int .i64 X2) (.int .i64 Y2) (by omega) hS) (fun hS' => ?_)
        clear hK K hS ec0 ef0 ec1 ef1 ec2 ef2 ec3 ef3 ec4 ef4
        have hS := hS'
        clear hS'
        try (try simp only [Act.put, List.setIfInBounds_toArray, List.set_cons_zero, List.set_cons_succ])
        have HX9 : Hid (BoxQ y1.heap.size M2 N2 (.slice aB L2.length cB) X2 Y2 (set5 (set5 V3 V2.heap.size (.int .i64 M1) (.int .i64 N1) (.slice aA L1.length cA) (.int .i64 0) (.int .i64 0)) y1.heap.size (.int .i64 M2) (.int .i64 N2) (.slice aB L2.length cB) (.int .i64 X2) (.int .i64 Y2))) := Lib.hid (BoxQ.put5 HX9.out)
        have HX8 : Hid (BoxQ V2.heap.size M1 N1 (.slice aA L1.length cA) 0 0 (set5 (set5 V3 V2.heap.size (.int .i64 M1) (.int .i64 N1) (.slice aA L1.length cA) (.int .i64 0) (.int .i64 0)) y1.heap.size (.int .i64 M2) (.int .i64 N2) (.slice aB L2.length cB) (.int .i64 X2) (.int .i64 Y2))) := Lib.hid (BoxQ.far5 HX8.out (show y1.heap.size ≠ V2.heap.size by omega))
        have RA0 : Hid (PatIn _ _ (set5 (set5 V3 V2.heap.size (.int .i64 M1) (.int .i64 N1) (.slice aA L1.length cA) (.int .i64 0) (.int .i64 0)) y1.heap.size (.int .i64 M2) (.int .i64 N2) (.slice aB L2.length cB) (.int .i64 X2) (.int .i64 Y2)) _ _) := Lib.hid (row5 RA0.out (by omega) (by first | omega | (simp [World.setCell] <;> omega)))
        have RB0 : Hid (PatIn _ _ (set5 (set5 V3 V2.heap.size (.int .i64 M1) (.int .i64 N1) (.slice aA L1.length cA) (.int .i64 0) (.int .i64 0)) y1.heap.size (.int .i64 M2) (.int .i64 N2) (.slice aB L2.length cB) (.int .i64 X2) (.int .i64 Y2)) _ _) := Lib.hid (row5 RB0.out (by omega) (by first | omega | (simp [World.setCell] <;> omega)))
        refine wpAnyH_done (by kernel_rfl) ?_ _
        have HBW := Lib.hid hS.2.2.2.2.2
        clear hS
        go_wp2_with fail
        go_meet
        exact ⟨_, _, _, _, k, _, rfl, rfl, HX8, HX9, Lib.hid (RA0.out.wide (by omega) (Nat.le_refl _)), Lib.hid (RB0.out.wide (by omega) (Nat.le_refl _)), by simp [World.setCell] <;> omega, by simp [World.setCell] <;> omega, HBW⟩
    · go_simp
      refine hK.out _ _ (KP1.out _ _ (bel0 _ _) hS) (fun hS' => ?_)
      clear hK K hS
      have hS := hS'
      clear hS'
      try (try simp only [Act.put, List.setIfInBounds_toArray, List.set_cons_zero, List.set_cons_succ])
      have hbe : Below U0.heap.size U0 (U0.alloc (.cells #[.int .i64 0, .int .i64 0, .slice none 0 0, .int .i64 0, .int .i64 0] 62)) := bel0 _ _
      have HX8 := Lib.hid (BoxQ.new U0 0 0 (.slice none 0 0) 0 0 62)
      have hzV1 : (U0.alloc (.cells #[.int .i64 0, .int .i64 0, .slice none 0 0, .int .i64 0, .int .i64 0] 62)).heap.size ≤ U0.heap.size + 1 ∧ U0.heap.size + 1 ≤ (U0.alloc (.cells #[.int .i64 0, .int .i64 0, .slice none 0 0, .int .i64 0, .int .i64 0] 62)).heap.size := by simp
      obtain ⟨V1, hV⟩ : ∃ V, V = U0.alloc (.cells #[.int .i64 0, .int .i64 0, .slice none 0 0, .int .i64 0, .int .i64 0] 62) := ⟨_, rfl⟩
      rw [← hV] at hS HX8 hzV1 ⊢
      clear hV hbe
      refine reg_two 4 9 rfl rfl (by kernel_rfl) (by rfl) (by rfl) (fun K hK => ?_) (fun K hK => ?_)
      · go_simp
        go_at_call 70
        refine (args_eqL (CS.out _ hS) (by with_reducible rfl)).mono ?_
        rintro e y2 ⟨vA, vB, k, rfl, RA, RB, hk1, hk2, hb⟩
        have RA0 := Lib.hid RA
        have RB0 := Lib.hid RB
        obtain ⟨aA, cA, rfl⟩ := RA.form
        obtain ⟨aB, cB, rfl⟩ := RB.form
        clear RA RB
        have hzy2 := hb.size
        have HX8 := Lib.hid (HX8.out.below hb (by omega))
        refine hK.out _ _ (KP1.out _ _ hb hS) (fun hS' => ?_)
        clear hK K hS
        have hS := hS'
        clear hS'
        try (try simp only [Act.put, List.setIfInBounds_toArray, List.set_cons_zero, List.set_cons_succ])
        clear hb
        refine reg_take 5 (v := ?_) rfl (by kernel_rfl) (by kernel_rfl) (by kernel_rfl) (fun _ _ _ h => h) (by rfl) (by intro w hSw; (try dsimp only at hSw); go_simp; first | done | with_reducible rfl) hS ?_
        (try simp only [Act.put, List.setIfInBounds_toArray, List.set_cons_zero, List.set_cons_succ])
        refine reg_take 6 (v := ?_) rfl (by kernel_rfl) (by kernel_rfl) (by kernel_rfl) (fun _ _ _ h => h) (by rfl) (by intro w hSw; (try dsimp only at hSw); go_simp; first | done | with_reducible rfl) hS ?_
        (try simp only [Act.put, List.setIfInBounds_toArray, List.set_cons_zero, List.set_cons_succ])
        refine reg_take 7 (v := ?_) rfl (by kernel_rfl) (by kernel_rfl) (by kernel_rfl) (fun _ _ _ h => h) (by rfl) (by intro w hSw; (try dsimp only at hSw); go_simp; first | done | with_reducible rfl) hS ?_
        (try simp only [Act.put, List.setIfInBounds_toArray, List.set_cons_zero, List.set_cons_succ])
        refine reg_call 9 rfl (by kernel_rfl) (by rfl) (fun K hK => ?_)
        go_simp
        refine hK.out _ _ (KP1.out _ _ (bel0 _ _) hS) (fun hS' => ?_)
        clear hK K hS
        have hS := hS'
        clear hS'
        try (try simp only [Act.put, List.setIfInBounds_toArray, List.set_cons_zero, List.set_cons_succ])
        have hbe : Below y2.heap.size y2 (y2.alloc (.cells #[.int .i64 0, .int .i64 0, .slice none 0 0, .int .i64 0, .int .i64 0] 62)) := bel0 _ _
        have HX9 := Lib.hid (BoxQ.new y2 0 0 (.slice none 0 0) 0 0 62)
        have hzV3 : (y2.alloc (.cells #[.int .i64 0, .int .i64 0, .slice none 0 0, .int .i64 0, .int .i64 0] 62)).heap.size ≤ y2.heap.size + 1 ∧ y2.heap.size + 1 ≤ (y2.alloc (.cells #[.int .i64 0, .int .i64 0, .slice none 0 0, .int .i64 0, .int .i64 0] 62)).heap.size := by simp
        have HX8 := Lib.hid (HX8.out.below hbe (by omega))
        have RA0 := Lib.hid (RA0.out.below (hbe.mono (by omega)))
        have RB0 := Lib.hid (RB0.out.below (hbe.mono (by omega)))
        obtain ⟨V3, hV⟩ : ∃ V, V = y2.alloc (.cells #[.int .i64 0, .int .i64 0, .slice none 0 0, .int .i64 0, .int .i64 0] 62) := ⟨_, rfl⟩
        rw [← hV] at hS HX8 HX9 hzV3 RA0 RB0 ⊢
        clear hV hbe
        clear KP1
        refine reg_call 10 rfl (by kernel_rfl) (by rfl) (fun K hK => ?_)
        have ec0 := HX8.out.1.1
        have ec1 := HX8.out.1.2.1
        have ec2 := HX8.out.1.2.2.1
        have ec3 := HX8.out.1.2.2.2.1
        have ec4 := HX8.out.1.2.2.2.2
        have ef0 := HX8.out.2.1
        have ef1 := HX8.out.2.2.1
        have ef2 := HX8.out.2.2.2.1
        have ef3 := HX8.out.2.2.2.2.1
        have ef4 := HX8.out.2.2.2.2.2
        go_simp
        refine hK.out _ _ (KS1.out _ U0.heap.size (.int .i64 M1) (.int .i64 N1) (.slice aA L1.length cA) (.int .i64 0) (.int .i64 0) (by omega) hS) (fun hS' => ?_)
        clear hK K hS ec0 ef0 ec1 ef1 ec2 ef2 ec3 ef3 ec4 ef4
        have hS := hS'
        clear hS'
        try (try simp only [Act.put, List.setIfInBounds_toArray, List.set_cons_zero, List.set_cons_succ])
        have HX8 : Hid (BoxQ U0.heap.size M1 N1 (.slice aA L1.length cA) 0 0 (set5 V3 U0.heap.size (.int .i64 M1) (.int .i64 N1) (.slice aA L1.length cA) (.int .i64 0) (.int .i64 0))) := Lib.hid (BoxQ.put5 HX8.out)
        have HX9 : Hid (BoxQ y2.heap.size 0 0 (.slice none 0 0) 0 0 (set5 V3 U0.heap.size (.int .i64 M1) (.int .i64 N1) (.slice aA L1.length cA) (.int .i64 0) (.int .i64 0))) := Lib.hid (BoxQ.far5 HX9.out (show U0.heap.size ≠ y2.heap.size by omega))
        have RA0 : Hid (PatIn _ _ (set5 V3 U0.heap.size (.int .i64 M1) (.int .i64 N1) (.slice aA L1.length cA) (.int .i64 0) (.int .i64 0)) _ _) := Lib.hid (row5 RA0.out (by omega) (by first | omega | (simp [World.setCell] <;> omega)))
        have RB0 : Hid (PatIn _ _ (set5 V3 U0.heap.size (.int .i64 M1) (.int .i64 N1) (.slice aA L1.length cA) (.int .i64 0) (.int .i64 0)) _ _) := Lib.hid (row5 RB0.out (by omega) (by first | omega | (simp [World.setCell] <;> omega)))
        refine reg_call 11 rfl (by kernel_rfl) (by rfl) (fun K hK => ?_)
        have ec0 := HX9.out.1.1
        have ec1 := HX9.out.1.2.1
        have ec2 := HX9.out.1.2.2.1
        have ec3 := HX9.out.1.2.2.2.1
        have ec4 := HX9.out.1.2.2.2.2
        have ef0 := HX9.out.2.1
        have ef1 := HX9.out.2.2.1
        have ef2 := HX9.out.2.2.2.1
        have ef3 := HX9.out.2.2.2.2.1
        have ef4 := HX9.out.2.2.2.2.2
        go_simp
        refine hK.out _ _ (KS1.out _ y2.heap.size (.int .i64 M2) (.int .i64 N2) (.slice aB L2.length cB) (.int .i64 X2) (.int .i64 Y2) (by omega) hS) (fun hS' => ?_)
        clear hK K hS ec0 ef0 ec1 ef1 ec2 ef2 ec3 ef3 ec4 ef4
        have hS := hS'
        clear hS'
        try (try simp only [Act.put, List.setIfInBounds_toArray, List.set_cons_zero, List.set_cons_succ])
        have HX9 : Hid (BoxQ y2.heap.size M2 N2 (.slice aB L2.length cB) X2 Y2 (set5 (set5 V3 U0.heap.size (.int .i64 M1) (.int .i64 N1) (.slice aA L1.length cA) (.int .i64 0) (.int .i64 0)) y2.heap.size (.int .i64 M2) (.int .i64 N2) (.slice aB L2.length cB) (.int .i64 X2) (.int .i64 Y2))) := Lib.hid (BoxQ.put5 HX9.out)
        have HX8 : Hid (BoxQ U0.heap.size M1 N1 (.slice aA L1.length cA) 0 0 (set5 (set5 V3 U0.heap.size (.int .i64 M1) (.int .i64 N1) (.slice aA L1.length cA) (.int .i64 0) (.int .i64 0)) y2.heap.size (.int .i64 M2) (.int .i64 N2) (.slice aB L2.length cB) (.int .i64 X2) (.int .i64 Y2))) := Lib.hid (BoxQ.far5 HX8.out (show y2.heap.size ≠ U0.heap.size by omega))
        have RA0 : Hid (PatIn _ _ (set5 (set5 V3 U0.heap.size (.int .i64 M1) (.int .i64 N1) (.slice aA L1.length cA) (.int .i64 0) (.int .i64 0)) y2.heap.size (.int .i64 M2) (.int .i64 N2) (.slice aB L2.length cB) (.int .i64 X2) (.int .i64 Y2)) _ _) := Lib.hid (row5 RA0.out (by omega) (by first | omega | (simp [World.setCell] <;> omega)))
        have RB0 : Hid (PatIn _ _ (set5 (set5 V3 U0.heap.size (.int .i64 M1) (.int .i64 N1) (.slice aA L1.length cA) (.int .i64 0) (.int .i64 0)) y2.heap.size (.int .i64 M2) (.int .i64 N2) (.slice aB L2.length cB) (.int .i64 X2) (.int .i64 Y2)) _ _) := Lib.hid (row5 RB0.out (by omega) (by first | omega | (simp [World.setCell] <;> omega)))
        refine wpAnyH_done (by kernel_rfl) ?_ _
        have HBW := Lib.hid hS.2.2.2.2.2
        clear hS
        go_wp2_with fail
        go_meet
        exact ⟨_, _, _, _, k, _, rfl, rfl, HX8, HX9, Lib.hid (RA0.out.wide (by omega) (Nat.le_refl _)), Lib.hid (RB0.out.wide (by omega) (Nat.le_refl _)), by simp [World.setCell] <;> omega, by simp [World.setCell] <;> omega, HBW⟩
      · go_simp
        refine hK.out _ _ (KP1.out _ _ (bel0 _ _) hS) (fun hS' => ?_)
        clear hK K hS
        have hS := hS'
        clear hS'
        try (try simp only [Act.put, List.setIfInBounds_toArray, List.set_cons_zero, List.set_cons_succ])
        have hbe : Below V1.heap.size V1 (V1.alloc (.cells #[.int .i64 0, .int .i64 0, .slice none 0 0, .int .i64 0, .int .i64 0] 62)) := bel0 _ _
        have HX9 := Lib.hid (BoxQ.new V1 0 0 (.slice none 0 0) 0 0 62)
        have hzV2 : (V1.alloc (.cells #[.int .i64 0, .int .i64 0, .slice none 0 0, .int .i64 0, .int .i64 0] 62)).heap.size ≤ V1.heap.size + 1 ∧ V1.heap.size + 1 ≤ (V1.alloc (.cells #[.int .i64 0, .int .i64 0, .slice none 0 0, .int .i64 0, .int .i64 0] 62)).heap.size := by simp
        have HX8 := Lib.hid (HX8.out.below hbe (by omega))
        obtain ⟨V2, hV⟩ : ∃ V, V = V1.alloc (.cells #[.int .i64 0, .int .i64 0, .slice none 0 0, .int .i64 0, .int .i64 0] 62) := ⟨_, rfl⟩
        rw [← hV] at hS HX8 HX9 hzV2 ⊢
        clear hV hbe
        refine reg_call 4 rfl (by kernel_rfl) (by rfl) (fun K hK => ?_)
        go_simp
        go_at_call 70
        refine (args_eqL (CS.out _ hS) (by with_reducible rfl)).mono ?_
        rintro e y3 ⟨vA, vB, k, rfl, RA, RB, hk1, hk2, hb⟩
        have RA0 := Lib.hid RA
        have RB0 := Lib.hid RB
        obtain ⟨aA, cA, rfl⟩ := RA.form
        obtain ⟨aB, cB, rfl⟩ := RB.form
        clear RA RB
        have hzy3 := hb.size
        have HX8 := Lib.hid (HX8.out.below hb (by omega))
        have HX9 := Lib.hid (HX9.out.below hb (by omega))
        refine hK.out _ _ (KP1.out _ _ hb hS) (fun hS' => ?_)
        clear hK K hS
        have hS := hS'
        clear hS'
        try (try simp only [Act.put, List.setIfInBounds_toArray, List.set_cons_zero, List.set_cons_succ])
        clear hb
        refine reg_take 5 (v := ?_) rfl (by kernel_rfl) (by kernel_rfl) (by kernel_rfl) (fun _ _ _ h => h) (by rfl) (by intro w hSw; (try dsimp only at hSw); go_simp; first | done | with_reducible rfl) hS ?_
        (try simp only [Act.put, List.setIfInBounds_toArray, List.set_cons_zero, List.set_cons_succ])
        refine reg_take 6 (v := ?_) rfl (by kernel_rfl) (by kernel_rfl) (by kernel_rfl) (fun _ _ _ h => h) (by rfl) (by intro w hSw; (try dsimp only at hSw); go_simp; first | done | with_reducible rfl) hS ?_
        (try simp only [Act.put, List.setIfInBounds_toArray, List.set_cons_zero, List.set_cons_succ])
        refine reg_take 7 (v := ?_) rfl (by kernel_rfl) (by kernel_rfl) (by kernel_rfl) (fun _ _ _ h => h) (by rfl) (by intro w hSw; (try dsimp only at hSw); go_simp; first | done | with_reducible rfl) hS ?_
        (try simp only [Act.put, List.setIfInBounds_toArray, List.set_cons_zero, List.set_cons_succ])
        clear KP1
        refine reg_call 10 rfl (by kernel_rfl) (by rfl) (fun K hK => ?_)
        have ec0 := HX8.out.1.1
        have ec1 := HX8.out.1.2.1
        have ec2 := HX8.out.1.2.2.1
        have ec3 := HX8.out.1.2.2.2.1
        have ec4 := HX8.out.1.2.2.2.2
        have ef0 := HX8.out.2.1
        have ef1 := HX8.out.2.2.1
        have ef2 := HX8.out.2.2.2.1
        have ef3 := HX8.out.2.2.2.2.1
        have ef4 := HX8.out.2.2.2.2.2
        go_simp
        refine hK.out _ _ (KS1.out _ U0.heap.size (.int .i64 M1) (.int .i64 N1) (.slice aA L1.length cA) (.int .i64 0) (.int .i64 0) (by omega) hS) (fun hS' => ?_)
        clear hK K hS ec0 ef0 ec1 ef1 ec2 ef2 ec3 ef3 ec4 ef4
        have hS := hS'
        clear hS'
        try (try simp only [Act.put, List.setIfInBounds_toArray, List.set_cons_zero, List.set_cons_succ])
        have HX8 : Hid (BoxQ U0.heap.size M1 N1 (.slice aA L1.length cA) 0 0 (set5 y3 U0.heap.size (.int .i64 M1) (.int .i64 N1) (.slice aA L1.length cA) (.int .i64 0) (.int .i64 0))) := Lib.hid (BoxQ.put5 HX8.out)
        have HX9 : Hid (BoxQ V1.heap.size 0 0 (.slice none 0 0) 0 0 (set5 y3 U0.heap.size (.int .i64 M1) (.int .i64 N1) (.slice aA L1.length cA) (.int .i64 0) (.int .i64 0))) := Lib.hid (BoxQ.far5 HX9.out (show U0.heap.size ≠ V1.heap.size by omega))
        have RA0 : Hid (PatIn _ _ (set5 y3 U0.heap.size (.int .i64 M1) (.int .i64 N1) (.slice aA L1.length cA) (.int .i64 0) (.int .i64 0)) _ _) := Lib.hid (row5 RA0.out (by omega) (by first | omega | (simp [World.setCell] <;> omega)))
        have RB0 : Hid (PatIn _ _ (set5 y3 U0.heap.size (.int .i64 M1) (.int .i64 N1) (.slice aA L1.length cA) (.int .i64 0) (.int .i64 0)) _ _) := Lib.hid (row5 RB0.out (by omega) (by first | omega | (simp [World.setCell] <;> omega)))
        refine reg_call 11 rfl (by kernel_rfl) (by rfl) (fun K hK => ?_)
        have ec0 := HX9.out.1.1
        have ec1 := HX9.out.1.2.1
        have ec2 := HX9.out.1.2.2.1
        have ec3 := HX9.out.1.2.2.2.1
        have ec4 := HX9.out.1.2.2.2.2
        have ef0 := HX9.out.2.1
        have ef1 := HX9.out.2.2.1
        have ef2 := HX9.out.2.2.2.1
        have ef3 := HX9.out.2.2.2.2.1
        have ef4 := HX9.out.2.2.2.2.2
        go_simp
        refine hK.out _ _ (KS1.out _ V1.heap.size (.int .i64 M2) (.int .i64 N2) (.slice aB L2.length cB) (.int .i64 X2) (.int .i64 Y2) (by omega) hS) (fun hS' => ?_)
        clear hK K hS ec0 ef0 ec1 ef1 ec2 ef2 ec3 ef3 ec4 ef4
        have hS := hS'
        clear hS'
        try (try simp only [Act.put, List.setIfInBounds_toArray, List.set_cons_zero, List.set_cons_succ])
        have HX9 : Hid (BoxQ V1.heap.size M2 N2 (.slice aB L2.length cB) X2 Y2 (set5 (set5 y3 U0.heap.size (.int .i64 M1) (.int .i64 N1) (.slice aA L1.length cA) (.int .i64 0) (.int .i64 0)) V1.heap.size (.int .i64 M2) (.int .i64 N2) (.slice aB L2.length cB) (.int .i64 X2) (.int .i64 Y2))) := Lib.hid (BoxQ.put5 HX9.out)
        have HX8 : Hid (BoxQ U0.heap.size M1 N1 (.slice aA L1.length cA) 0 0 (set5 (set5 y3 U0.heap.size (.int .i64 M1) (.int .i64 N1) (.slice aA L1.length cA) (.int .i64 0) (.int .i64 0)) V1.heap.size (.int .i64 M2) (.int .i64 N2) (.slice aB L2.length cB) (.int .i64 X2) (.int .i64 Y2))) := Lib.hid (BoxQ.far5 HX8.out (show V1.heap.size ≠ U0.heap.size by omega))
        have RA0 : Hid (PatIn _ _ (set5 (set5 y3 U0.heap.size (.int .i64 M1) (.int .i64 N1) (.slice aA L1.length cA) (.int .i64 0) (.int .i64 0)) V1.heap.size (.int .i64 M2) (.int .i64 N2) (.slice aB L2.length cB) (.int .i64 X2) (.int .i64 Y2)) _ _) := Lib.hid (row5 RA0.out (by omega) (by first | omega | (simp [World.setCell] <;> omega)))
        have RB0 : Hid (PatIn _ _ (set5 (set5 y3 U0.heap.size (.int .i64 M1) (.int .i64 N1) (.slice aA L1.length cA) (.int .i64 0) (.int .i64 0)) V1.heap.size (.int .i64 M2) (.int .i64 N2) (.slice aB L2.length cB) (.int .i64 X2) (.int .i64 Y2)) _ _) := Lib.hid (row5 RB0.out (by omega) (by first | omega | (simp [World.setCell] <;> omega)))
        refine wpAnyH_done (by kernel_rfl) ?_ _
        have HBW := Lib.hid hS.2.2.2.2.2
        clear hS
        go_wp2_with fail
        go_meet
        exact ⟨_, _, _, _, k, _, rfl, rfl, HX8, HX9, Lib.hid (RA0.out.wide (by omega) (Nat.le_refl _)), Lib.hid (RB0.out.wide (by omega) (Nat.le_refl _)), by simp [World.setCell] <;> omega, by simp [World.setCell] <;> omega, HBW⟩
    · go_simp
      refine hK.out _ _ (KP1.out _ _ (bel0 _ _) hS) (fun hS' => ?_)
      clear hK K hS
      have hS := hS'
      clear hS'
      try (try simp only [Act.put, List.setIfInBounds_toArray, List.set_cons_zero, List.set_cons_succ])
      have hbe : Below U0.heap.size U0 (U0.alloc (.cells #[.int .i64 0, .int .i64 0, .slice none 0 0, .int .i64 0, .int .i64 0] 62)) := bel0 _ _
      have HX9 := Lib.hid (BoxQ.new U0 0 0 (.slice none 0 0) 0 0 62)
      have hzV1 : (U0.alloc (.cells #[.int .i64 0, .int .i64 0, .slice none 0 0, .int .i64 0, .int .i64 0] 62)).heap.size ≤ U0.heap.size + 1 ∧ U0.heap.size + 1 ≤ (U0.alloc (.cells #[.int .i64 0, .int .i64 0, .slice none 0 0, .int .i64 0, .int .i64 0] 62)).heap.size := by simp
      obtain ⟨V1, hV⟩ : ∃ V, V = U0.alloc (.cells #[.int .i64 0, .int .i64 0, .slice none 0 0, .int .i64 0, .int .i64 0] 62) := ⟨_, rfl⟩
      rw [← hV] at hS HX9 hzV1 ⊢
      clear hV hbe
      refine reg_two 4 8 rfl rfl (by kernel_rfl) (by rfl) (by rfl) (fun K hK => ?_) (fun K hK => ?_)
      · go_simp
        go_at_call 70
        refine (args_eqL (CS.out _ hS) (by with_reducible rfl)).mono ?_
        rintro e y2 ⟨vA, vB, k, rfl, RA, RB, hk1, hk2, hb⟩
        have RA0 := Lib.hid RA
        have RB0 := Lib.hid RB
        obtain ⟨aA, cA, rfl⟩ := RA.form
        obtain ⟨aB, cB, rfl⟩ := RB.form
        clear RA RB
        have hzy2 := hb.size
        have HX9 := Lib.hid (HX9.out.below hb (by omega))
        refine hK.out _ _ (KP1.out _ _ hb hS) (fun hS' => ?_)
        clear hK K hS
        have hS := hS'
        clear hS'
        try (try simp only [Act.put, List.setIfInBounds_toArray, List.set_cons_zero, List.set_cons_succ])
        clear hb
        refine reg_take 5 (v := ?_) rfl (by kernel_rfl) (by kernel_rfl) (by kernel_rfl) (fun _ _ _ h => h) (by rfl) (by intro w hSw; (try dsimp only at hSw); go_simp; first | done | with_reducible rfl) hS ?_
        (try simp only [Act.put, List.setIfInBounds_toArray, List.set_cons_zero, List.set_cons_succ])
        refine reg_take 6 (v := ?_) rfl (by kernel_rfl) (by kernel_rfl) (by kernel_rfl) (fun _ _ _ h => h) (by rfl) (by intro w hSw; (try dsimp only at hSw); go_simp; first | done | with_reducible rfl) hS ?_
        (try simp only [Act.put, List.setIfInBounds_toArray, List.set_cons_zero, List.set_cons_succ])
        refine reg_take 7 (v := ?_) rfl (by kernel_rfl) (by kernel_rfl) (by kernel_rfl) (fun _ _ _ h => h) (by rfl) (by intro w hSw; (try dsimp only at hSw); go_simp; first | done | with_reducible rfl) hS ?_
        (try simp only [Act.put, List.setIfInBounds_toArray, List.set_cons_zero, List.set_cons_succ])
        refine reg_call 8 rfl (by kernel_rfl) (by rfl) (fun K hK => ?_)
        go_simp
        refine hK.out _ _ (KP1.out _ _ (bel0 _ _) hS) (fun hS' => ?_)
        clear hK K hS
        have hS := hS'
        clear hS'
        try (try simp only [Act.put, List.setIfInBounds_toArray, List.set_cons_zero, List.set_cons_succ])
        have hbe : Below y2.heap.size y2 (y2.alloc (.cells #[.int .i64 0, .int .i64 0, .slice none 0 0, .int .i64 0, .int .i64 0] 62)) := bel0 _ _
        have HX8 := Lib.hid (BoxQ.new y2 0 0 (.slice none 0 0) 0 0 62)
        have hzV3 : (y2.alloc (.cells #[.int .i64 0, .int .i64 0, .slice none 0 0, .int .i64 0, .int .i64 0] 62)).heap.size ≤ y2.heap.size + 1 ∧ y2.heap.size + 1 ≤ (y2.alloc (.cells #[.int .i64 0, .int .i64 0, .slice none 0 0, .int .i64 0, .int .i64 0] 62)).heap.size := by simp
        have HX9 := Lib.hid (HX9.out.below hbe (by omega))
        have RA0 := Lib.hid (RA0.out.below (hbe.mono (by omega)))
        have RB0 := Lib.hid (RB0.out.below (hbe.mono (by omega)))
        obtain ⟨V3, hV⟩ : ∃ V, V = y2.alloc (.cells #[.int .i64 0, .int .i64 0, .slice none 0 0, .int .i64 0, .int .i64 0] 62) := ⟨_, rfl⟩
        rw [← hV] at hS HX9 HX8 hzV3 RA0 RB0 ⊢
        clear hV hbe
        clear KP1
        refine reg_call 10 rfl (by kernel_rfl) (by rfl) (fun K hK => ?_)
        have ec0 := HX8.out.1.1
        have ec1 := HX8.out.1.2.1
        have ec2 := HX8.out.1.2.2.1
        have ec3 := HX8.out.1.2.2.2.1
        have ec4 := HX8.out.1.2.2.2.2
        have ef0 := HX8.out.2.1
        have ef1 := HX8.out.2.2.1
        have ef2 := HX8.out.2.2.2.1
        have ef3 := HX8.out.2.2.2.2.1
        have ef4 := HX8.out.2.2.2.2.2
        go_simp
        refine hK.out _ _ (KS1.out _ y2.heap.size (.int .i64 M1) (.int .i64 N1) (.slice aA L1.length cA) (.int .i64 0) (.int .i64 0) (by omega) hS) (fun hS' => ?_)
        clear hK K hS ec0 ef0 ec1 ef1 ec2 ef2 ec3 ef3 ec4 ef4
        have hS := hS'
        clear hS'
        try (try simp only [Act.put, List.setIfInBounds_toArray, List.set_cons_zero, List.set_cons_succ])
        have HX8 : Hid (BoxQ y2.heap.size M1 N1 (.slice aA L1.length cA) 0 0 (set5 V3 y2.heap.size (.int .i64 M1) (.int .i64 N1) (.slice aA L1.length cA) (.int .i64 0) (.int .i64 0))) := Lib.hid (BoxQ.put5 HX8.out)
        have HX9 : Hid (BoxQ U0.heap.size 0 0 (.slice none 0 0) 0 0 (set5 V3 y2.heap.size (.int .i64 M1) (.int .i64 N1) (.slice aA L1.length cA) (.int .i64 0) (.int .i64 0))) := Lib.hid (BoxQ.far5 HX9.out (show y2.heap.size ≠ U0.heap.size by omega))
        have RA0 : Hid (PatIn _ _ (set5 V3 y2.heap.size (.int .i64 M1) (.int .i64 N1) (.slice aA L1.length cA) (.int .i64 0) (.int .i64 0)) _ _) := Lib.hid (row5 RA0.out (by omega) (by first | omega | (simp [World.setCell] <;> omega)))
        have RB0 : Hid (PatIn _ _ (set5 V3 y2.heap.size (.int .i64 M1) (.int .i64 N1) (.slice aA L1.length cA) (.int .i64 0) (.int .i64 0)) _ _) := Lib.hid (row5 RB0.out (by omega) (by first | omega | (simp [World.setCell] <;> omega)))
        refine reg_call 11 rfl (by kernel_rfl) (by rfl) (fun K hK => ?_)
        have ec0 := HX9.out.1.1
        have ec1 := HX9.out.1.2.1
        have ec2 := HX9.out.1.2.2.1
        have ec3 := HX9.out.1.2.2.2.1
        have ec4 := HX9.out.1.2.2.2.2
        have ef0 := HX9.out.2.1
        have ef1 := HX9.out.2.2.1
        have ef2 := HX9.out.2.2.2.1
        have ef3 := HX9.out.2.2.2.2.1
        have ef4 := HX9.out.2.2.2.2.2
        go_simp
        refine hK.out _ _ (KS1.out _ U0.heap.size (.int .i64 M2) (.int .i64 N2) (.slice aB L2.length cB) (.int .i64 X2) (.int .i64 Y2) (by omega) hS) (fun hS' => ?_)
        clear hK K hS ec0 ef0 ec1 ef1 ec2 ef2 ec3 ef3 ec4 ef4
        have hS := hS'
        clear hS'
        try (try simp only [Act.put, List.setIfInBounds_toArray, List.set_cons_zero, List.set_cons_succ])
        have HX9 : Hid (BoxQ U0.heap.size M2 N2 (.slice aB L2.length cB) X2 Y2 (set5 (set5 V3 y2.heap.size (.int .i64 M1) (.int .i64 N1) (.slice aA L1.length cA) (.int .i64 0) (.int .i64 0)) U0.heap.size (.int .i64 M2) (.int .i64 N2) (.slice aB L2.length cB) (.int .i64 X2) (.int .i64 Y2))) := Lib.hid (BoxQ.put5 HX9.out)
        have HX8 : Hid (BoxQ y2.heap.size M1 N1 (.slice aA L1.length cA) 0 0 (set5 (set5 V3 y2.heap.size (.int .i64 M1) (.int .i64 N1) (.slice aA L1.length cA) (.int .i64 0) (.int .i64 0)) U0.heap.size (.int .i64 M2) (.int .i64 N2) (.slice aB L2.length cB) (.int .i64 X2) (.int .i64 Y2))) := Lib.hid (BoxQ.far5 HX8.out (show U0.heap.size ≠ y2.heap.size by omega))
        have RA0 : Hid (PatIn _ _ (set5 (set5 V3 y2.heap.size (.int .i64 M1) (.int .i64 N1) (.slice aA L1.length cA) (.int .i64 0) (.int .i64 0)) U0.heap.size (.int .i64 M2) (.int .i64 N2) (.slice aB L2.length cB) (.int .i64 X2) (.int .i64 Y2)) _ _) := Lib.hid (row5 RA0.out (by omega) (by first | omega | (simp [World.setCell] <;> omega)))
        have RB0 : Hid (PatIn _ _ (set5 (set5 V3 y2.heap.size (.int .i64 M1) (.int .i64 N1) (.slice aA L1.length cA) (.int .i64 0) (.int .i64 0)) U0.heap.size (.int .i64 M2) (.int .i64 N2) (.slice aB L2.length cB) (.int .i64 X2) (.int .i64 Y2)) _ _) := Lib.hid (row5 RB0.out (by omega) (by first | omega | (simp [World.setCell] <;> omega)))
        refine wpAnyH_done (by kernel_rfl) ?_ _
        have HBW := Lib.hid hS.2.2.2.2.2
        clear hS
        go_wp2_with fail
        go_meet
        exact ⟨_, _, _, _, k, _, rfl, rfl, HX8, HX9, Lib.hid (RA0.out.wide (by omega) (Nat.le_refl _)), Lib.hid (RB0.out.wide (by omega) (Nat.le_refl _)), by simp [World.setCell] <;> omega, by simp [World.setCell] <;> omega, HBW⟩
      · go_simp
        refine hK.out _ _ (KP1.out _ _ (bel0 _ _) hS) (fun hS' => ?_)
        clear hK K hS
        have hS := hS'
        clear hS'
        try (try simp only [Act.put, List.setIfInBounds_toArray, List.set_cons_zero, List.set_cons_succ])
        have hbe : Below V1.heap.size V1 (V1.alloc (.cells #[.int .i64 0, .int .i64 0, .slice none 0 0, .int .i64 0, .int .i64 0] 62)) := bel0 _ _
        have HX8 := Lib.hid (BoxQ.new V1 0 0 (.slice none 0 0) 0 0 62)
        have hzV2 : (V1.alloc (.cells #[.int .i64 0, .int .i64 0, .slice none 0 0, .int .i64 0, .int .i64 0] 62)).heap.size ≤ V1.heap.size + 1 ∧ V1.heap.size + 1 ≤ (V1.alloc (.cells #[.int .i64 0, .int .i64 0, .slice none 0 0, .int .i64 0, .int .i64 0] 62)).heap.size := by simp
        have HX9 := Lib.hid (HX9.out.below hbe (by omega))
        obtain ⟨V2, hV⟩ : ∃ V, V = V1.alloc (.cells #[.int .i64 0, .int .i64 0, .slice none 0 0, .int .i64 0, .int .i64 0] 62) := ⟨_, rfl⟩
        rw [← hV] at hS HX9 HX8 hzV2 ⊢
        clear hV hbe
        refine reg_call 4 rfl (by kernel_rfl) (by rfl) (fun K hK => ?_)
        go_simp
        go_at_call 70
        refine (args_eqL (CS.out _ hS) (by with_reducible rfl)).mono ?_
        rintro e y3 ⟨vA, vB, k, rfl, RA, RB, hk1, hk2, hb⟩
        have RA0 := Lib.hid RA
        have RB0 := Lib.hid RB
        obtain ⟨aA, cA, rfl⟩ := RA.form
        obtain ⟨aB, cB, rfl⟩ := RB.form
        clear RA RB
        have hzy3 := hb.size
        have HX9 := Lib.hid (HX9.out.below hb (by omega))
        have HX8 := Lib.hid (HX8.out.below hb (by omega))
        refine hK.out _ _ (KP1.out _ _ hb hS) (fun hS' => ?_)
        clear hK K hS
        have hS := hS'
        clear hS'
        try (try simp only [Act.put, List.setIfInBounds_toArray, List.set_cons_zero, List.set_cons_succ])
        clear hb
        refine reg_take 5 (v := ?_) rfl (by kernel_rfl) (by kernel_rfl) (by kernel_rfl) (fun _ _ _ h => h) (by rfl) (by intro w hSw; (try dsimp only at hSw); go_simp; first | done | with_reducible rfl) hS ?_
        (try simp only [Act.put, List.setIfInBounds_toArray, List.set_cons_zero, List.set_cons_succ])
        refine reg_take 6 (v := ?_) rfl (by kernel_rfl) (by kernel_rfl) (by kernel_rfl) (fun _ _ _ h => h) (by rfl) (by intro w hSw; (try dsimp only at hSw); go_simp; first | done | with_reducible rfl) hS ?_
        (try simp only [Act.put, List.setIfInBounds_toArray, List.set_cons_zero, List.set_cons_succ])
        refine reg_take 7 (v := ?_) rfl (by kernel_rfl) (by kernel_rfl) (by kernel_rfl) (fun _ _ _ h => h) (by rfl) (by intro w hSw; (try dsimp only at hSw); go_simp; first | done | with_reducible rfl) hS ?_
        (try simp only [Act.put, List.setIfInBounds_toArray, List.set_cons_zero, List.set_cons_succ])
        clear KP1
        refine reg_call 10 rfl (by kernel_rfl) (by rfl) (fun K hK => ?_)
        have ec0 := HX8.out.1.1
        have ec1 := HX8.out.1.2.1
        have ec2 := HX8.out.1.2.2.1
        have ec3 := HX8.out.1.2.2.2.1
        have ec4 := HX8.out.1.2.2.2.2
        have ef0 := HX8.out.2.1
        have ef1 := HX8.out.2.2.1
        have ef2 := HX8.out.2.2.2.1
        have ef3 := HX8.out.2.2.2.2.1
        have ef4 := HX8.out.2.2.2.2.2
        go_simp
        refine hK.out _ _ (KS1.out _ V1.heap.size (.int .i64 M1) (.int .i64 N1) (.slice aA L1.length cA) (.int .i64 0) (.int .i64 0) (by omega) hS) (fun hS' => ?_)
        clear hK K hS ec0 ef0 ec1 ef1 ec2 ef2 ec3 ef3 ec4 ef4
        have hS := hS'
        clear hS'
        try (try simp only [Act.put, List.setIfInBounds_toArray, List.set_cons_zero, List.set_cons_succ])
        have HX8 : Hid (BoxQ V1.heap.size M1 N1 (.slice aA L1.length cA) 0 0 (set5 y3 V1.heap.size (.int .i64 M1) (.int .i64 N1) (.slice aA L1.length cA) (.int .i64 0) (.int .i64 0))) := Lib.hid (BoxQ.put5 HX8.out)
        have HX9 : Hid (BoxQ U0.heap.size 0 0 (.slice none 0 0) 0 0 (set5 y3 V1.heap.size (.int .i64 M1) (.int .i64 N1) (.slice aA L1.length cA) (.int .i64 0) (.int .i64 0))) := Lib.hid (BoxQ.far5 HX9.out (show V1.heap.size ≠ U0.heap.size by omega))
        have RA0 : Hid (PatIn _ _ (set5 y3 V1.heap.size (.int .i64 M1) (.int .i64 N1) (.slice aA L1.length cA) (.int .i64 0) (.int .i64 0)) _ _) := Lib.hid (row5 RA0.out (by omega) (by first | omega | (simp [World.setCell] <;> omega)))
        have RB0 : Hid (PatIn _ _ (set5 y3 V1.heap.size (.int .i64 M1) (.int .i64 N1) (.slice aA L1.length cA) (.int .i64 0) (.int .i64 0)) _ _) := Lib.hid (row5 RB0.out (by omega) (by first | omega | (simp [World.setCell] <;> omega)))
        refine reg_call 11 rfl (by kernel_rfl) (by rfl) (fun K hK => ?_)
        have ec0 := HX9.out.1.1
        have ec1 := HX9.out.1.2.1
        have ec2 := HX9.out.1.2.2.1
        have ec3 := HX9.out.1.2.2.2.1
        have ec4 := HX9.out.1.2.2.2.2
        have ef0 := HX9.out.2.1
        have ef1 := HX9.out.2.2.1
        have ef2 := HX9.out.2.2.2.1
        have ef3 := HX9.out.2.2.2.2.1
        have ef4 := HX9.out.2.2.2.2.2
        go_simp
        refine hK.out _ _ (KS1.out _ U0.heap.size (.int .i64 M2) (.int .i64 N2) (.slice aB L2.length cB) (.int .i64 X2) (.int .i64 Y2) (by omega) hS) (fun hS' => ?_)
        clear hK K hS ec0 ef0 ec1 ef1 ec2 ef2 ec3 ef3 ec4 ef4
        have hS := hS'
        clear hS'
        try (try simp only [Act.put, List.setIfInBounds_toArray, List.set_cons_zero, List.set_cons_succ])
        have HX9 : Hid (BoxQ U0.heap.size M2 N2 (.slice aB L2.length cB) X2 Y2 (set5 (set5 y3 V1.heap.size (.int .i64 M1) (.int .i64 N1) (.slice aA L1.length cA) (.int .i64 0) (.int .i64 0)) U0.heap.size (.int .i64 M2) (.int .i64 N2) (.slice aB L2.length cB) (.int .i64 X2) (.int .i64 Y2))) := Lib.hid (BoxQ.put5 HX9.out)
        have HX8 : Hid (BoxQ V1.heap.size M1 N1 (.slice aA L1.length cA) 0 0 (set5 (set5 y3 V1.heap.size (.int .i64 M1) (.int .i64 N1) (.slice aA L1.length cA) (.int .i64 0) (.int .i64 0)) U0.heap.size (.int .i64 M2) (.int .i64 N2) (.slice aB L2.length cB) (.int .i64 X2) (.int .i64 Y2))) := Lib.hid (BoxQ.far5 HX8.out (show U0.heap.size ≠ V1.heap.size by omega))
        have RA0 : Hid (PatIn _ _ (set5 (set5 y3 V1.heap.size (.int .i64 M1) (.int .i64 N1) (.slice aA L1.length cA) (.int .i64 0) (.int .i64 0)) U0.heap.size (.int .i64 M2) (.int .i64 N2) (.slice aB L2.length cB) (.int .i64 X2) (.int .i64 Y2)) _ _) := Lib.hid (row5 RA0.out (by omega) (by first | omega | (simp [World.setCell] <;> omega)))
        have RB0 : Hid (PatIn _ _ (set5 (set5 y3 V1.heap.size (.int .i64 M1) (.int .i64 N1) (.slice aA L1.length cA) (.int .i64 0) (.int .i64 0)) U0.heap.size (.int .i64 M2) (.int .i64 N2) (.slice aB L2.length cB) (.int .i64 X2) (.int .i64 Y2)) _ _) := Lib.hid (row5 RB0.out (by omega) (by first | omega | (simp [World.setCell] <;> omega)))
        refine wpAnyH_done (by kernel_rfl) ?_ _
        have HBW := Lib.hid hS.2.2.2.2.2
        clear hS
        go_wp2_with fail
        go_meet
        exact ⟨_, _, _, _, k, _, rfl, rfl, HX8, HX9, Lib.hid (RA0.out.wide (by omega) (Nat.le_refl _)), Lib.hid (RB0.out.wide (by omega) (Nat.le_refl _)), by simp [World.setCell] <;> omega, by simp [World.setCell] <;> omega, HBW⟩
  case rest =>
    obtain ⟨pA, pB, vA, vB, k, kk, rfl, rfl, HA, HB, RA, RB, hk, hkk, HBW⟩ := hcut
    have hsx := HBW.out.size
    have BRx := Lib.hid (BR.out.below HBW.out (by omega))
    obtain ⟨⟨a0, a1, a2, _, _⟩, _⟩ := HA.out
    clear HA BR b0 b1 b2 e0 e1 S0 CS CC KP1 KS1
    go_wp2_with fail
    refine (HIH.out G.heap.size k vA _ RA.out hk (by omega)).mono ?_
    rintro e y ⟨v', rfl, RY, hby⟩
    obtain ⟨aY, cY, rfl⟩ := RY.form
    have hsy := hby.size
    have BRy := Lib.hid (BRx.out.below hby (by have := BRx.out.lt; omega))
    have HBY : Hid (Below w.heap.size w y) := Lib.hid (bel_c (HB1.out.trans (HBW.out.mono (by omega))) (by omega) hby)
    have HBb := Lib.hid ((HB.out.below hby (by exact HB.out.lt)).below (bel0 y (.cells #[.int .i64 0, .int .i64 0, .slice aY 0 cY] 26)) (by have := HB.out.lt; omega))
    have RBb := Lib.hid ((RB.out.below (hby.mono hkk)).below ((bel0 y (.cells #[.int .i64 0, .int .i64 0, .slice aY 0 cY] 26)).mono (by omega)))
    have BRz := Lib.hid (BRy.out.below (bel0 y (.cells #[.int .i64 0, .int .i64 0, .slice aY 0 cY] 26)) (by have := BRx.out.lt; omega))
    have HBZ := Lib.hid (bel_n HBY.out (by omega) (.cells #[.int .i64 0, .int .i64 0, .slice aY 0 cY] 26))
    obtain ⟨⟨c0, c1, c2, _, _⟩, _⟩ := HBb.out
    clear RY hby RA a0 a1 a2 BRx HBW HB1 HB RB BRy HBY
    go_wp2_with fail
    refine (HIH2.out G.heap.size kk vB _ RBb.out (by simp; omega) (by simp; omega)).mono ?_
    rintro e z ⟨v2, rfl, RZ, hbz⟩
    obtain ⟨aZ, cZ, rfl⟩ := RZ.form
    have RZ0 := Lib.hid RZ
    have BRw := Lib.hid (BRz.out.below hbz BRz.out.lt)
    have HBY2 : Hid (Below w.heap.size w z) := Lib.hid (bel_c HBZ.out (by omega) hbz)
    have hsz := hbz.size
    simp at hsz
    obtain ⟨d0, d1, d2, z0, z1, z2⟩ := BRw.out
    clear RZ hbz HBb RBb BRz HBZ c0 c1 c2
    go_wp2_with fail
    refine bodyPost_ret (v := .tuple #[.agg #[.int .i64 M, .int .i64 N, .slice aZ X.length cZ], .bool ok]) (by simp [results, Try.results57, go_sem, d0, d1, d2]) rfl ⟨_, rfl, ?_, ?_⟩
    · refine PatIn.wide (lo := G.heap.size) (hi := z.heap.size) (PatIn.set_far (PatIn.set_far (PatIn.set_far RZ0.out ?_ _) ?_ _) ?_ _) ?_ ?_
      all_goals first | omega | (simp [World.setCell] <;> omega)
    · refine Below.setCell (Below.setCell (Below.setCell HBY2.out ?_ _) ?_ _) ?_ _
      all_goals first | omega | (simp <;> omega)


set_option maxHeartbeats 3200000 in
set_option maxRecDepth 20000 in
theorem Knot_one (lo hi : Nat) (m n : Int) (v : Value) (xs : List P5) (w : World) (r : PatIn lo hi w v xs) (_hhi : hi ≤ w.heap.size) (hl1 : xs.length = 1) :
    Calls Try.prog 57 #[.agg #[.int .i64 m, .int .i64 n, v]] w (KnotV 0 0 [] false lo w) := by
  obtain ⟨b, cap, rfl⟩ := r.form
  have hl2 : ((xs.length : Nat) : Int) = 1 := by omega
  clear r
  go_enter Try.func57, Try.ntmps57
  go_wp2_with fail
  refine bodyPost_ret (v := .tuple #[.agg #[.int .i64 0, .int .i64 0, .slice none 0 0], .bool false]) (by simp [results, Try.results57, go_sem]) rfl ⟨_, rfl, ⟨by simp, .inl ⟨rfl, _, _, rfl⟩⟩, ?_⟩
  exact bel_n (bel0 w _) (Nat.le_refl _) _
set_option maxHeartbeats 3200000 in
set_option maxRecDepth 20000 in
theorem Knot_here (lo hi : Nat) (m n : Int) (v : Value) (xs : List P5) (w : World) (r : PatIn lo hi w v xs) (hhi : hi ≤ w.heap.size) (_hlo : lo ≤ w.heap.size) (lay : LayOk m n xs) (hl1 : xs.length ≠ 1) (hcs : cutsL m n xs = []) :
    Calls Try.prog 57 #[.agg #[.int .i64 m, .int .i64 n, v]] w (KnotV m n xs true lo w) := by
  obtain ⟨b, cap, rfl⟩ := r.form
  have R := Lib.hid r
  have hd : ((xs.length : Int) == 1) = false := by simp; omega
  have CC : Hid (∀ u : World, Below w.heap.size w u → Calls Try.prog 60 #[.agg #[.int .i64 m, .int .i64 n, .slice b xs.length cap]] u (FreshCut [] u)) := Lib.hid (fun u hb => by rw [← hcs]; exact Cuts_any lo hi m n _ xs u (r.below (hb.mono hhi)) (Nat.le_trans hhi hb.size) lay)
  have HB2 : Hid (Below w.heap.size w ((w.alloc (.cells #[.int .i64 m, .int .i64 n, .slice b xs.length cap] 26)).alloc (.cells #[.int .i64 0, .int .i64 0, .slice none 0 0] 26))) := Lib.hid (bel_n (bel0 w _) (Nat.le_refl _) _)
  clear r lay hcs
  go_enter Try.func57, Try.ntmps57
  go_wp2_with fail
  refine (CC.out _ HB2.out).mono ?_
  rintro e w1 ⟨vc, rfl, RC, hb1⟩
  obtain ⟨ac, cc, rfl⟩ := RC.form
  have b0 := kept (p := ⟨w.heap.size, 0, none⟩) (x := .int .i64 m) hb1 (by go_simp)
  have b1 := kept (p := ⟨w.heap.size, 1, none⟩) (x := .int .i64 n) hb1 (by go_simp)
  have b2 := kept (p := ⟨w.heap.size, 2, none⟩) (x := .slice b xs.length cap) hb1 (by go_simp)
  have BR : BoxL (w.heap.size + 1) (.int .i64 0) (.int .i64 0) (.slice none 0 0) w1 := by
    have := BoxL.new (w.alloc (.cells #[.int .i64 m, .int .i64 n, .slice b xs.length cap] 26)) (.int .i64 0) (.int .i64 0) (.slice none 0 0) 26
    rw [show (w.alloc (.cells #[.int .i64 m, .int .i64 n, .slice b xs.length cap] 26)).heap.size = w.heap.size + 1 by simp] at this
    exact this.below hb1 (by simp)
  obtain ⟨d0, d1, d2, z0, z1, z2⟩ := BR
  have HB1 := Lib.hid (bel_c HB2.out (Nat.le_refl _) hb1)
  have R1 := Lib.hid (R.out.below (HB1.out.mono hhi))
  have hs1 := hb1.size
  simp at hs1
  clear hb1 RC
  go_wp2_with fail
  refine bodyPost_ret (v := .tuple #[.agg #[.int .i64 m, .int .i64 n, .slice b xs.length cap], .bool true]) (by simp [results, Try.results57, go_sem, d0, d1, d2]) rfl ⟨_, rfl, ?_, ?_⟩
  · obtain ⟨hl, h | ⟨g, c, hv, hcp, hg, hlt, hc⟩⟩ := R1.out
    · exact ⟨hl, .inl h⟩
    · refine ⟨hl, .inr ⟨g, c, hv, hcp, hg, by simp [World.setCell]; omega, fun i hi => ⟨?_, ?_⟩⟩⟩
      · exact (((hc i hi).1.set_far (by simp; omega) _).set_far (by simp; omega) _).set_far (by simp; omega) _
      · exact (((hc i hi).2.set_far _ _).set_far _ _).set_far _ _
  · refine Below.setCell (Below.setCell (Below.setCell HB1.out ?_ _) ?_ _) ?_ _ <;> (simp <;> omega)
theorem Knot_any {m n : Int} {xs : List P5} {q : Option (Int × Int × List P5)} (h : KnotIs m n xs q) : ∀ (lo hi : Nat) (v : Value) (w : World), PatIn lo hi w v xs → hi ≤ w.heap.size → lo ≤ w.heap.size →
    Calls Try.prog 57 #[.agg #[.int .i64 m, .int .i64 n, v]] w (KnotV (kM q) (kN q) (kX q) q.isSome lo w) := by
  induction h with
  | one h hl => intro lo hi v w r hhi hlo; exact Knot_one lo hi _ _ v _ w r hhi hl
  | knot h hl hc => intro lo hi v w r hhi hlo; exact Knot_here lo hi _ _ v _ w r hhi hlo h hl hc
  | left h hl hc h1 ih => intro lo hi v w r hhi hlo; exact Knot_left lo hi _ _ v _ _ _ _ _ _ w r hhi hlo h hl hc ih
  | right h hl hc h1 h2 ih1 ih2 => intro lo hi v w r hhi hlo; exact Knot_right lo hi _ _ v _ _ _ _ _ _ _ w r hhi hlo h hl hc ih1 ih2

end Go.Proofs.Ytboahceibeeifaa
