/- The walk of FnJoins. -/
import Derived.Test.YtboahceibeeifaaM5
import Derived.Test.YtboahceibeeifaaM1
import Derived.Test.YtboahceibeeifaaM3
import Derived.Test.YtboahceibeeifaaM2
import Derived.Test.YtboahceibeeifaaM4
import Derived.Deep.RegionHeld3
import Derived.Deep.DeepCutAuto

set_option linter.unusedSimpArgs false
set_option linter.unusedVariables false
namespace Go.Proofs.Ytboahceibeeifaa
open Go.ChangeShapes Go.WideShapes Go.ChangeAt Go.RowKit

/-- Five places of a patch. -/
def Fiv (p : Nat) (x y z c d : Value) (u : World) : Prop := u.cell? ⟨p, 0, none⟩ = some x ∧ u.cell? ⟨p, 1, none⟩ = some y ∧ u.cell? ⟨p, 2, none⟩ = some z ∧ u.cell? ⟨p, 3, none⟩ = some c ∧ u.cell? ⟨p, 4, none⟩ = some d
theorem Fiv.keep {p : Nat} {x y z c d : Value} {u v : World} (h : Fiv p x y z c d u) (hb : Below u.heap.size u v) : Fiv p x y z c d v := ⟨kept hb h.1, kept hb h.2.1, kept hb h.2.2.1, kept hb h.2.2.2.1, kept hb h.2.2.2.2⟩
theorem Fiv.new (w : World) (x y z c d : Value) (T : TypeId) : Fiv w.heap.size x y z c d (w.alloc (.cells #[x, y, z, c, d] T)) := ⟨by simp, by simp, by simp, by simp, by simp⟩
theorem same_ends {x : Nat} {s : Int} (h : s = 0 ↔ x = 1) : (((x : Int) == 1) == (s == 0)) = true := by
  by_cases e : x = 1
  · have := h.2 e
    subst e this; rfl
  · have h0 : s ≠ 0 := fun k => e (h.1 k)
    have h1 : (x : Int) ≠ 1 := by omega
    rw [beq_eq_false_iff_ne.2 h0, beq_eq_false_iff_ne.2 h1]; rfl
theorem JnIn.flip {lo hi g n cap p : Nat} {w : World} {xs : List J3} (h : JnIn lo hi w (.slice (some ⟨g, 0, none⟩) n cap) xs) (hp : p + 1 = xs.length) :
    JnIn lo hi (w.setCell ⟨g, p * 3, none⟩ (.bool (!(xs.getD p J3.zero).up))) (.slice (some ⟨g, 0, none⟩) n cap) (flipL xs) := by
  have e : flipL xs = xs.set p ⟨!(xs.getD p J3.zero).up, (xs.getD p J3.zero).a, (xs.getD p J3.zero).b⟩ := by unfold flipL; rw [show xs.length - 1 = p by omega]
  rw [e]
  obtain ⟨hl, ⟨h, _⟩ | ⟨g', cap', hv, hcp, hg, hlt, hc⟩⟩ := h
  · subst h; simp at hp
  · simp only [Value.slice.injEq, Option.some.injEq, Addr.mk.injEq, and_true] at hv
    obtain ⟨rfl, rfl, rfl⟩ := hv
    refine ⟨by simpa using hl, .inr ⟨g, cap, by simp, by simpa using hcp, hg, hlt, fun i hi => ?_⟩⟩
    rw [List.length_set] at hi
    obtain ⟨⟨h0, h1, h2⟩, f0, f1, f2⟩ := hc i hi
    refine ⟨?_, (World.frozen?_setCell _ _ _ _).trans f0, (World.frozen?_setCell _ _ _ _).trans f1, (World.frozen?_setCell _ _ _ _).trans f2⟩
    by_cases e : i = p
    · subst e
      refine ⟨?_, (World.cell?_setCell_other _ _ _ _ (ad_ne (by omega))).trans ?_, (World.cell?_setCell_other _ _ _ _ (ad_ne (by omega))).trans ?_⟩
      · rw [World.cell?_setCell_same _ _ _ h0]; simp [List.getD, hi]
      · rw [h1]; simp [List.getD, hi]
      · rw [h2]; simp [List.getD, hi]
    · refine ⟨(World.cell?_setCell_other _ _ _ _ (ad_ne (by omega))).trans ?_, (World.cell?_setCell_other _ _ _ _ (ad_ne (by omega))).trans ?_, (World.cell?_setCell_other _ _ _ _ (ad_ne (by omega))).trans ?_⟩
      · rw [h0]; simp [List.getD, List.getElem?_set, Ne.symm e]
      · rw [h1]; simp [List.getD, List.getElem?_set, Ne.symm e]
      · rw [h2]; simp [List.getD, List.getElem?_set, Ne.symm e]
theorem JnIn.none (lo hi : Nat) (w : World) : JnIn lo hi w (.slice none 0 0) [] := ⟨by simp, .inl ⟨rfl, _, _, rfl⟩⟩
set_option maxHeartbeats 12000000 in
set_option maxRecDepth 20000 in
theorem JoinsLaw_go (a : Option Addr) (len cap : Nat) (w : World) (hs : Src w w.heap.size a len) :
    Calls Try.prog 3 #[.slice a len cap] w fun e w' => e = .returned (.bool true) ∧ Below w.heap.size w w' := by
  have HS := Lib.hid hs
  obtain ⟨hm, hsrc⟩ := hs
  have hl : len ≤ 9223372036854775807 := by unfold maxLen at hm; omega
  clear hm hsrc
  by_cases hb0 : len ≤ 1048576
  · go_enter Try.func3, Try.ntmps3
    go_wp2_with fail
    refine (Big_no a len cap w hb0).mono ?_
    rintro e w' ⟨rfl, rfl⟩
    go_wp2_with fail
    refine (DrawLayout_any a len cap w HS.out hb0).mono ?_
    rintro e w1 ⟨m, n, v, xs, hok, rfl, Rl, B⟩
    obtain ⟨hx0, hx1⟩ := hok.2.2.1
    obtain ⟨hm0, hm1⟩ := hok.1
    obtain ⟨hn0, hn1⟩ := hok.2.1
    obtain ⟨av, cv, rfl⟩ := Rl.form
    have HWF := Lib.hid (lay_wf hok)
    have HLB := Lib.hid (lay_yes hok).symm
    have zw1 : w.heap.size ≤ w1.heap.size := B.size
    clear hok HS
    obtain ⟨can, hcan⟩ : ∃ can, can = sewB m n xs := ⟨_, rfl⟩
    obtain ⟨js, hjs⟩ : ∃ js, js = joinsL m n xs := ⟨_, rfl⟩
    have JO : Hid (∀ (lo hi : Nat) (v : Value) (u : World), PatIn lo hi u v xs → hi ≤ u.heap.size → Calls Try.prog 11 #[.agg #[.int .i64 m, .int .i64 n, v]] u (JoinsV js can u)) := Lib.hid (fun lo hi v u r h => by rw [hcan, hjs]; exact ImplJoinsOf_any 0 hi m n v xs HWF.out u (r.wide (Nat.zero_le _) (Nat.le_refl _)) h (Nat.zero_le _))
    have CAN2 : Hid (∀ (lo hi : Nat) (v : Value) (u : World), PatIn lo hi u v xs → hi ≤ u.heap.size → Calls Try.prog 12 #[.agg #[.int .i64 m, .int .i64 n, v]] u fun e w' => e = .returned (.bool can) ∧ Below u.heap.size u w') := Lib.hid (fun lo hi v u r h => by rw [hcan]; exact SpecCanSew_any lo hi m n v xs u r h)
    have JN : Hid (can = false → js = []) := Lib.hid (fun h => by rw [hjs]; exact joins_no (by rw [← hcan]; exact h))
    have JL : Hid (can = true → js.length + 1 = xs.length) := Lib.hid (fun h => by rw [hjs]; exact joins_len (by rw [← hcan]; exact h))
    have ARE : Hid (∀ (lo hi : Nat) (v : Value) (lo2 hi2 : Nat) (v2 : Value) (ks : List J3) (u : World), PatIn lo hi u v xs → hi ≤ u.heap.size → JnIn lo2 hi2 u v2 ks → hi2 ≤ u.heap.size → Calls Try.prog 13 #[.agg #[.int .i64 m, .int .i64 n, v], v2] u fun e w' => e = .returned (.bool (areJ m n xs ks)) ∧ Below u.heap.size u w') := Lib.hid (fun lo hi v lo2 hi2 v2 ks u r h r2 h2 => ImplAreJoins_any lo hi m n v xs lo2 hi2 v2 ks HWF.out u r h r2 h2)
    have A0 : Hid (can = false → areJ m n xs [] = false) := Lib.hid (fun h => are_nil (by rw [← hcan]; exact h))
    have A1 : Hid (can = true → areJ m n xs js = true) := Lib.hid (fun h => by rw [hjs]; exact (joins_whole (by rw [← hcan]; exact h)).1)
    have A2 : Hid (can = true → xs.length ≠ 1 → areJ m n xs (flipL js) = false ∧ areJ m n xs (js.drop 1) = false) := Lib.hid (fun h h1 => by rw [hjs]; exact ⟨joins_flip (by rw [← hcan]; exact h) h1, joins_drop (by rw [← hcan]; exact h) h1⟩)
    have BOX : Hid (∀ (k : Int) (lo hi : Nat) (v : Value) (lo2 hi2 : Nat) (v2 : Value) (u : World), PatIn lo hi u v xs → hi ≤ u.heap.size → JnIn lo2 hi2 u v2 js → hi2 ≤ u.heap.size → Calls Try.prog 14 #[.agg #[.int .i64 m, .int .i64 n, v], v2, .int .i64 k] u fun e w' => e = .returned (.tuple #[.agg #[.int .i64 (boxP m n xs js k).x, .int .i64 (boxP m n xs js k).y, .int .i64 (boxP m n xs js k).w, .int .i64 (boxP m n xs js k).h, .int .i64 (boxP m n xs js k).c], .bool (boxB m n xs js k)]) ∧ Below u.heap.size u w') := Lib.hid (fun k lo hi v lo2 hi2 v2 u r h r2 h2 => ImplUnitBox_any lo hi m n v xs lo2 hi2 v2 js k HWF.out u r h r2 h2)
    have BX1 : Hid (can = true → ∀ k : Int, k = (xs.length : Int) + js.length - 1 → ∃ z, boxB m n xs js k = true ∧ boxP m n xs js k = ⟨0, 0, m, n, z⟩) := Lib.hid (fun h k hk => by
      obtain ⟨_, h2, ⟨p0, p1, p2, p3⟩, _⟩ := joins_whole (by rw [← hcan]; exact h)
      rw [← hjs, ← hk] at h2 p0 p1 p2 p3
      exact ⟨(boxP m n xs js k).c, h2, by generalize boxP m n xs js k = p at *; obtain ⟨q0, q1, q2, q3, q4⟩ := p; simp only at p0 p1 p2 p3; subst p0 p1 p2 p3; rfl⟩)
    have BX2 : Hid (can = true → ∀ k : Int, k = (xs.length : Int) + js.length → boxB m n xs js k = false) := Lib.hid (fun h k hk => by rw [hk, hjs]; exact (joins_whole (by rw [← hcan]; exact h)).2.2.2)
    obtain ⟨sm, hsm⟩ : ∃ sm, sm = lonJ m n xs js := ⟨_, rfl⟩
    have LON : Hid (∀ (lo hi : Nat) (v : Value) (lo2 hi2 : Nat) (v2 : Value) (u : World), PatIn lo hi u v xs → hi ≤ u.heap.size → JnIn lo2 hi2 u v2 js → hi2 ≤ u.heap.size → Calls Try.prog 16 #[.agg #[.int .i64 m, .int .i64 n, v], v2] u fun e w' => e = .returned (.int .i64 sm) ∧ Below u.heap.size u w') := Lib.hid (fun lo hi v lo2 hi2 v2 u r h r2 h2 => by rw [hsm]; exact ImplLongest_any lo hi m n v xs lo2 hi2 v2 js HWF.out u r h r2 h2)
    have LN : Hid (can = true → 0 ≤ sm ∧ sm ≤ max m n ∧ (sm = 0 ↔ xs.length = 1)) := Lib.hid (fun h => by rw [hsm, hjs]; exact joins_longest (by rw [← hcan]; exact h))
    obtain ⟨d, hd⟩ : ∃ d, d = depJ js xs.length := ⟨_, rfl⟩
    have DEP : Hid (∀ (lo2 hi2 : Nat) (v2 : Value) (u : World), JnIn lo2 hi2 u v2 js → hi2 ≤ u.heap.size → Calls Try.prog 15 #[v2, .int .i64 xs.length] u fun e w' => e = .returned (.int .i64 d) ∧ Below u.heap.size u w') := Lib.hid (fun lo2 hi2 v2 u r2 h2 => by rw [hd]; exact ImplDepthOf_any lo2 hi2 v2 js xs.length (WalkArith.wf_i64 (by omega)) u r2 h2)
    have DP : Hid (can = true → ∃ k : Nat, d = k ∧ k + 1 ≤ xs.length ∧ xs.length ≤ 2 ^ k) := Lib.hid (fun h => by rw [hd, hjs]; exact joins_depth (by rw [← hcan]; exact h))
    clear hcan hjs hsm hd
    have NB := bel0 w1 (.cells #[.int .i64 m, .int .i64 n, .slice av xs.length cv] 26)
    have Rl := Rl.below (NB.mono (by omega))
    have B := bel_n B (Nat.le_refl _) (.cells #[.int .i64 m, .int .i64 n, .slice av xs.length cv] 26)
    have Xl := Tri.new w1 (.int .i64 m) (.int .i64 n) (.slice av xs.length cv) 26
    have zw2 : w1.heap.size + 1 ≤ (w1.alloc (.cells #[.int .i64 m, .int .i64 n, .slice av xs.length cv] 26)).heap.size := by simp
    obtain ⟨w2, hV⟩ : ∃ V, V = w1.alloc (.cells #[.int .i64 m, .int .i64 n, .slice av xs.length cv] 26) := ⟨_, rfl⟩
    rw [← hV] at B zw2 Xl Rl
    go_wp2_with fail
    rw [← hV]
    clear hV NB
    obtain ⟨cl0, cl1, cl2⟩ := id Xl
    go_wp2_with fail
    clear cl0 cl1 cl2
    refine (JO.out _ _ _ _ Rl (by omega)).mono ?_
    rintro e w3 ⟨vj, rfl, R, hb⟩
    have hjl : js.length ≤ 1048576 := R.1
    obtain ⟨aj, cj, rfl⟩ := R.form
    have Xl := Xl.keep hb
    have Rl := Rl.below (hb.mono (by omega))
    have B := bel_c B (Nat.le_refl _) hb
    have zw3 : w2.heap.size ≤ w3.heap.size := hb.size
    clear hb
    have Rj := R
    clear R
    obtain ⟨cl0, cl1, cl2⟩ := id Xl
    go_wp2_with fail
    clear cl0 cl1 cl2
    refine (CAN2.out _ _ _ _ Rl (by omega)).mono ?_
    rintro e w4 ⟨rfl, hb⟩
    have Xl := Xl.keep hb
    have Rl := Rl.below (hb.mono (by omega))
    have Rj := Rj.below (hb.mono (by omega))
    have B := bel_c B (Nat.le_refl _) hb
    have zw4 : w3.heap.size ≤ w4.heap.size := hb.size
    clear hb
    cases can
    · as_aux_lemma =>
      have hj0 := JN.out rfl
      subst hj0
      have AR : Hid (∀ (lo hi : Nat) (v : Value) (u : World), PatIn lo hi u v xs → hi ≤ u.heap.size → Calls Try.prog 13 #[.agg #[.int .i64 m, .int .i64 n, v], .slice none 0 0] u fun e w' => e = .returned (.bool false) ∧ Below u.heap.size u w') := Lib.hid (fun lo hi v u r h => by rw [← A0.out rfl]; exact ARE.out lo hi v 0 0 _ [] u r h (JnIn.none 0 0 u) (Nat.zero_le _))
      obtain ⟨cl0, cl1, cl2⟩ := id Xl
      go_wp2_with fail
      clear cl0 cl1 cl2
      refine (AR.out _ _ _ _ Rl (by omega)).mono ?_
      rintro e w5 ⟨rfl, hb⟩
      have Xl := Xl.keep hb
      have Rl := Rl.below (hb.mono (by omega))
      have Rj := Rj.below (hb.mono (by omega))
      have B := bel_c B (Nat.le_refl _) hb
      have zw5 : w4.heap.size ≤ w5.heap.size := hb.size
      clear hb
      go_wp2_with fail
      go_ret
      exact ⟨ret_bool (by simp), B⟩
    · as_aux_lemma =>
      have hj1 := JL.out rfl
      obtain ⟨k, rfl, hk1, hk2⟩ := DP.out rfl
      obtain ⟨hs0, hs1, hs2⟩ := LN.out rfl
      have hz3 := BX2.out rfl ((xs.length : Int) + js.length) rfl
      obtain ⟨⟨bx, by', bw, bh, bc⟩, hz4⟩ : ∃ p, boxP m n xs js ((xs.length : Int) + js.length) = p := ⟨_, rfl⟩
      have hs3 := Lib.hid hs2
      have A1t : Hid (∀ (lo hi : Nat) (v : Value) (lo2 hi2 : Nat) (v2 : Value) (u : World), PatIn lo hi u v xs → hi ≤ u.heap.size → JnIn lo2 hi2 u v2 js → hi2 ≤ u.heap.size → Calls Try.prog 13 #[.agg #[.int .i64 m, .int .i64 n, v], v2] u fun e w' => e = .returned (.bool true) ∧ Below u.heap.size u w') := Lib.hid (fun lo hi v lo2 hi2 v2 u r h r2 h2 => by rw [← A1.out rfl]; exact ARE.out lo hi v lo2 hi2 v2 js u r h r2 h2)
      have A2f : Hid (∀ (lo hi : Nat) (v : Value) (lo2 hi2 : Nat) (v2 : Value) (ks : List J3) (u : World), xs.length ≠ 1 → ks = flipL js ∨ ks = js.drop 1 → PatIn lo hi u v xs → hi ≤ u.heap.size → JnIn lo2 hi2 u v2 ks → hi2 ≤ u.heap.size → Calls Try.prog 13 #[.agg #[.int .i64 m, .int .i64 n, v], v2] u fun e w' => e = .returned (.bool false) ∧ Below u.heap.size u w') := Lib.hid (fun lo hi v lo2 hi2 v2 ks u h1 hk r h r2 h2 => by have e : areJ m n xs ks = false := (by rcases hk with rfl | rfl <;> first | exact (A2.out rfl h1).1 | exact (A2.out rfl h1).2); rw [← e]; exact ARE.out lo hi v lo2 hi2 v2 ks u r h r2 h2)
      have B2 : Hid (∀ (lo hi : Nat) (v : Value) (lo2 hi2 : Nat) (v2 : Value) (u : World), PatIn lo hi u v xs → hi ≤ u.heap.size → JnIn lo2 hi2 u v2 js → hi2 ≤ u.heap.size → Calls Try.prog 14 #[.agg #[.int .i64 m, .int .i64 n, v], v2, .int .i64 ((xs.length : Int) + js.length)] u fun e w' => e = .returned (.tuple #[.agg #[.int .i64 bx, .int .i64 by', .int .i64 bw, .int .i64 bh, .int .i64 bc], .bool false]) ∧ Below u.heap.size u w') := Lib.hid (fun lo hi v lo2 hi2 v2 u r h r2 h2 => by have := BOX.out ((xs.length : Int) + js.length) lo hi v lo2 hi2 v2 u r h r2 h2; rw [hz3, hz4] at this; exact this)
      clear hs2 JN A0 DP LN JL JO CAN2 A1 A2 ARE BX2 hz3 hz4
      obtain ⟨z, hz1, hz2⟩ := BX1.out rfl ((xs.length : Int) + js.length - 1) rfl
      have hwx : IntKind.i64.wrap ((xs.length : Int) + (js.length : Int) - 1) = (xs.length : Int) + js.length - 1 := by simp [IntKind.wrap, IntKind.bits, IntKind.signed]; omega
      have hwy : IntKind.i64.wrap ((xs.length : Int) + (js.length : Int)) = (xs.length : Int) + js.length := by simp [IntKind.wrap, IntKind.bits, IntKind.signed]; omega
      have B1 : Hid (∀ (lo hi : Nat) (v : Value) (lo2 hi2 : Nat) (v2 : Value) (u : World), PatIn lo hi u v xs → hi ≤ u.heap.size → JnIn lo2 hi2 u v2 js → hi2 ≤ u.heap.size → Calls Try.prog 14 #[.agg #[.int .i64 m, .int .i64 n, v], v2, .int .i64 ((xs.length : Int) + js.length - 1)] u fun e w' => e = .returned (.tuple #[.agg #[.int .i64 0, .int .i64 0, .int .i64 m, .int .i64 n, .int .i64 z], .bool true]) ∧ Below u.heap.size u w') := Lib.hid (fun lo hi v lo2 hi2 v2 u r h r2 h2 => by have := BOX.out ((xs.length : Int) + js.length - 1) lo hi v lo2 hi2 v2 u r h r2 h2; rw [hz1, hz2] at this; exact this)
      clear hz1 hz2 BX1 BOX
      obtain ⟨cl0, cl1, cl2⟩ := id Xl
      go_wp2_with fail
      clear cl0 cl1 cl2
      refine (B1.out _ _ _ _ _ _ _ Rl (by omega) Rj (by omega)).mono ?_
      rintro e w5 ⟨rfl, hb⟩
      have Xl := Xl.keep hb
      have Rl := Rl.below (hb.mono (by omega))
      have Rj := Rj.below (hb.mono (by omega))
      have B := bel_c B (Nat.le_refl _) hb
      have zw5 : w4.heap.size ≤ w5.heap.size := hb.size
      clear hb
      have NB := bel0 w5 (.cells #[.int .i64 0, .int .i64 0, .int .i64 m, .int .i64 n, .int .i64 z] 34)
      have Xl := Xl.keep NB
      have Rl := Rl.below (NB.mono (by omega))
      have Rj := Rj.below (NB.mono (by omega))
      have B := bel_n B (Nat.le_refl _) (.cells #[.int .i64 0, .int .i64 0, .int .i64 m, .int .i64 n, .int .i64 z] 34)
      have Xb := Fiv.new w5 (.int .i64 0) (.int .i64 0) (.int .i64 m) (.int .i64 n) (.int .i64 z) 34
      have zw6 : w5.heap.size + 1 ≤ (w5.alloc (.cells #[.int .i64 0, .int .i64 0, .int .i64 m, .int .i64 n, .int .i64 z] 34)).heap.size := by simp
      obtain ⟨w6, hV⟩ : ∃ V, V = w5.alloc (.cells #[.int .i64 0, .int .i64 0, .int .i64 m, .int .i64 n, .int .i64 z] 34) := ⟨_, rfl⟩
      rw [← hV] at B zw6 Xl Xb Rl Rj
      go_wp2_with fail
      rw [← hV]
      clear hV NB
      obtain ⟨cl0, cl1, cl2⟩ := id Xl
      obtain ⟨cb0, cb1, cb2, cb3, cb4⟩ := id Xb
      go_wp2_with fail
      clear cl0 cl1 cl2 cb0 cb1 cb2 cb3 cb4
      refine (DEP.out _ _ _ _ Rj (by omega)).mono ?_
      rintro e w7 ⟨rfl, hb⟩
      have Xl := Xl.keep hb
      have Xb := Xb.keep hb
      have Rl := Rl.below (hb.mono (by omega))
      have Rj := Rj.below (hb.mono (by omega))
      have B := bel_c B (Nat.le_refl _) hb
      have zw7 : w6.heap.size ≤ w7.heap.size := hb.size
      clear hb
      obtain ⟨cl0, cl1, cl2⟩ := id Xl
      obtain ⟨cb0, cb1, cb2, cb3, cb4⟩ := id Xb
      go_wp2_with fail
      clear cl0 cl1 cl2 cb0 cb1 cb2 cb3 cb4
      refine (LON.out _ _ _ _ _ _ _ Rl (by omega) Rj (by omega)).mono ?_
      rintro e w8 ⟨rfl, hb⟩
      have Xl := Xl.keep hb
      have Xb := Xb.keep hb
      have Rl := Rl.below (hb.mono (by omega))
      have Rj := Rj.below (hb.mono (by omega))
      have B := bel_c B (Nat.le_refl _) hb
      have zw8 : w7.heap.size ≤ w8.heap.size := hb.size
      clear hb
      have e1 : ((js.length : Int) != (xs.length : Int) - 1) = false := by rw [show (xs.length : Int) - 1 = js.length by omega]; exact bne_self_eq_false _
      have e2 : ¬ (xs.length : Int) - 1 < (k : Int) := by omega
      have e3 : ¬ (k : Int) < 0 := by omega
      have hk11 : k ≤ 11 := by omega
      obtain ⟨Z, hZ⟩ : ∃ Z : Int, Z = 2 ^ k := ⟨_, rfl⟩
      have hZ0 : (xs.length : Int) ≤ Z := by rw [hZ]; exact_mod_cast hk2
      have hZ1 : Z ≤ 2048 := by rw [hZ]; have : 2 ^ k ≤ 2 ^ 11 := Nat.pow_le_pow_right (by decide) hk11; exact_mod_cast this
      have hZw : IntKind.i64.wrap (2 ^ k) = Z := by rw [← hZ]; simp [IntKind.wrap, IntKind.bits, IntKind.signed]; omega
      have e4 : ¬ Z < (xs.length : Int) := by omega
      have e5 : ¬ sm < 0 := by omega
      have e6 : ¬ max m n < sm := by omega
      obtain ⟨M, hM⟩ : ∃ M : Int, M = max m n := ⟨_, rfl⟩
      have e6i : ¬ M < sm := by omega
      have hM1 : (if m < n then n else m) = M := by omega
      have hM2 : (if n < m then m else n) = M := by omega
      have hM3 : (if n ≤ m then m else n) = M := by omega
      have hM4 : (if m ≤ n then n else m) = M := by omega
      clear hM
      have HZ := Lib.hid hZ
      have HK2 := Lib.hid hk2
      clear hZ hk2
      obtain ⟨cl0, cl1, cl2⟩ := id Xl
      obtain ⟨cb0, cb1, cb2, cb3, cb4⟩ := id Xb
      go_upto_region 13 with fail
      simp only [List.append_eq, List.cons_append, List.nil_append]
      go_wp2_with fail
      clear cl0 cl1 cl2 cb0 cb1 cb2 cb3 cb4
      refine (args_eqL (A1t.out _ _ _ _ _ _ _ Rl (by omega) Rj (by omega)) (by with_reducible rfl)).mono ?_
      rintro e w9 ⟨rfl, hb⟩
      have Xl := Xl.keep hb
      have Xb := Xb.keep hb
      have Rl := Rl.below (hb.mono (by omega))
      have Rj := Rj.below (hb.mono (by omega))
      have B := bel_c B (Nat.le_refl _) hb
      have zw9 : w8.heap.size ≤ w9.heap.size := hb.size
      clear hb
      obtain ⟨cl0, cl1, cl2⟩ := id Xl
      obtain ⟨cb0, cb1, cb2, cb3, cb4⟩ := id Xb
      go_wp2_with fail
      clear cl0 cl1 cl2 cb0 cb1 cb2 cb3 cb4 e1 e2 e3 e4 e5 e6 e6i hM1 hM2 hM3 hM4 HZ HK2 hZ0 hZ1 hZw hk1 hk11
      refine (args_eqL (B2.out _ _ _ _ _ _ _ Rl (by omega) Rj (by omega)) (by with_reducible rfl)).mono ?_
      rintro e w10 ⟨rfl, hb⟩
      have Xl := Xl.keep hb
      have Xb := Xb.keep hb
      have Rl := Rl.below (hb.mono (by omega))
      have Rj := Rj.below (hb.mono (by omega))
      have B := bel_c B (Nat.le_refl _) hb
      have zw10 : w9.heap.size ≤ w10.heap.size := hb.size
      clear hb
      have hlx : Hid ((1 : Int) < (xs.length : Int) ↔ xs.length ≠ 1) := Lib.hid (by omega)
      by_cases h1 : (1 : Int) < (xs.length : Int)
      · as_aux_lemma =>
        have NB := bel0 w10 (.cells #[.int .i64 bx, .int .i64 by', .int .i64 bw, .int .i64 bh, .int .i64 bc] 34)
        have Xl := Xl.keep NB
        have Xb := Xb.keep NB
        have Rl := Rl.below (NB.mono (by omega))
        have Rj := Rj.below (NB.mono (by omega))
        have B := bel_n B (Nat.le_refl _) (.cells #[.int .i64 bx, .int .i64 by', .int .i64 bw, .int .i64 bh, .int .i64 bc] 34)
        have Xg := Fiv.new w10 (.int .i64 bx) (.int .i64 by') (.int .i64 bw) (.int .i64 bh) (.int .i64 bc) 34
        have zw11 : w10.heap.size + 1 ≤ (w10.alloc (.cells #[.int .i64 bx, .int .i64 by', .int .i64 bw, .int .i64 bh, .int .i64 bc] 34)).heap.size := by simp
        obtain ⟨w11, hV⟩ : ∃ V, V = w10.alloc (.cells #[.int .i64 bx, .int .i64 by', .int .i64 bw, .int .i64 bh, .int .i64 bc] 34) := ⟨_, rfl⟩
        rw [← hV] at B zw11 Xl Xb Xg Rl Rj
        go_upto_region 17 with fail
        rw [← hV]
        clear hV NB
        obtain ⟨ij, hij, jz0, jz1, jz2⟩ := info_parts3 info_Jn
        have HO1 : Hid ((w11.alloc (.cells #[] 40)).ownsRow w11.heap.size 40 3 (.slice (some ⟨w11.heap.size, 0, none⟩) 0 0) 0 []) := Lib.hid (by
          have := World.ownsRow_lit (base := w11.heap.size) (e := 40) (size := 3) w11 #[] 0 (Nat.le_refl _) (by decide) rfl
          simpa using this)
        have BZ1 := bel0 w11 (.cells #[] 40)
        have HR1 : Hid (RowOf (w11.alloc (.cells #[] 40)) (.slice aj js.length cj) js.length (placesJn js)) := Lib.hid (Rj.rowOf (BZ1.mono (by omega)))
        have hp1 := placesJn_length js
        have ho1 := oneJn js
        have HZB := Lib.hid BZ1
        clear BZ1
        go_upto_region 18 with (at_builtin; refine wpList_append_row rfl _ _ 28 rfl w11.heap.size 40 ij _ 3 24 Try.underlying28 hij jz0 jz1 jz2 rfl (by decide) _ _ _ rfl HO1.out _ js.length (placesJn js) rfl hp1 HR1.out ho1 (by unfold maxLen; omega) (by omega) (by simp) (w11.heap.size + 1) (by simp) ?_; intro v1 W1 own1 grow1 at1; have HB2 := Lib.hid ((HZB.out).trans ((Below.refl w11.heap.size _).grown grow1 (by simp) (ogL HO1.out))); have HO2 : Hid (OwnJ w11.heap.size W1 v1 js) := Lib.hid (by have := OwnJ.both (js := []) (ks := js) own1; simpa using this); obtain ⟨a1, c1, hv1⟩ := (HO2.out.row (by omega)).form; subst hv1; clear own1 grow1 at1)
        have hb := HB2.out
        have hb := HB2.out
        have sz1 : w11.heap.size ≤ W1.heap.size := hb.size
        have RJ := HO2.out.row (by omega)
        obtain ⟨p, hp⟩ : ∃ p, p + 1 = js.length := ⟨js.length - 1, by omega⟩
        obtain ⟨g, rfl, hg0, hg1, ⟨e0, e1, e2⟩, f0, _, _⟩ := RJ.at (Below.refl _ _) (i := p) (by omega)
        have RF := RJ.flip hp
        obtain ⟨up, hup⟩ : ∃ up, up = (js.getD p J3.zero).up := ⟨_, rfl⟩
        rw [← hup] at e0 RF
        have hb2 : Below w11.heap.size w11 (W1.setCell ⟨g, p * 3, none⟩ (.bool (!up))) := Below.setCell hb (p := ⟨g, p * 3, none⟩) hg0 _
        obtain ⟨V, hV⟩ : ∃ V, V = W1.setCell ⟨g, p * 3, none⟩ (.bool (!up)) := ⟨_, rfl⟩
        have hsV : V.heap.size = W1.heap.size := by rw [hV]; simp [World.setCell]
        rw [← hV] at hb2 RF
        have hjp : (js.length : Int) = (p : Int) + 1 := by omega
        have hwp : IntKind.i64.wrap ((p : Int) + 1 - 1) = (p : Int) := by simp [IntKind.wrap, IntKind.bits, IntKind.signed]; omega
        have HP := Lib.hid hp
        clear hb hup e1 e2 hp HO2 HO1 HR1 HZB HB2 hp1 ho1 hij jz0 jz1 jz2 RJ
        go_upto_region 19 with fail
        rw [← hV]
        clear hV e0 f0 hjp hwp
        have hb := hb2
        clear hb2
        have Xl := Xl.keep hb
        have Xb := Xb.keep hb
        have Xg := Xg.keep hb
        have Rl := Rl.below (hb.mono (by omega))
        have Rj := Rj.below (hb.mono (by omega))
        have B := bel_c B (Nat.le_refl _) hb
        have zV : w11.heap.size ≤ V.heap.size := hb.size
        clear hb
        have hp := HP.out
        have hfl : (flipL js).length = js.length := by unfold flipL; simp
        have KP : ∀ u v : World, Below u.heap.size u v → (u.cell? ⟨w1.heap.size, 0, none⟩ = some (.int .i64 m) ∧ u.cell? ⟨w1.heap.size, 1, none⟩ = some (.int .i64 n) ∧ u.cell? ⟨w1.heap.size, 2, none⟩ = some (.slice av xs.length cv) ∧ Below V.heap.size V u) → (v.cell? ⟨w1.heap.size, 0, none⟩ = some (.int .i64 m) ∧ v.cell? ⟨w1.heap.size, 1, none⟩ = some (.int .i64 n) ∧ v.cell? ⟨w1.heap.size, 2, none⟩ = some (.slice av xs.length cv) ∧ Below V.heap.size V v) := fun u v hb h => ⟨kept hb h.1, kept hb h.2.1, kept hb h.2.2.1, bel_c h.2.2.2 (Nat.le_refl _) hb⟩
        have D0 : Below V.heap.size V V.drew := ⟨rfl, rfl, rfl, Nat.le_refl _, fun _ _ => rfl⟩
        have S0 : V.drew.cell? ⟨w1.heap.size, 0, none⟩ = some (.int .i64 m) ∧ V.drew.cell? ⟨w1.heap.size, 1, none⟩ = some (.int .i64 n) ∧ V.drew.cell? ⟨w1.heap.size, 2, none⟩ = some (.slice av xs.length cv) ∧ Below V.heap.size V V.drew := ⟨kept D0 Xl.1, kept D0 Xl.2.1, kept D0 Xl.2.2, D0⟩
        have CX : Hid (∀ u : World, (u.cell? ⟨w1.heap.size, 0, none⟩ = some (.int .i64 m) ∧ u.cell? ⟨w1.heap.size, 1, none⟩ = some (.int .i64 n) ∧ u.cell? ⟨w1.heap.size, 2, none⟩ = some (.slice av xs.length cv) ∧ Below V.heap.size V u) → Calls Try.prog 13 #[.agg #[.int .i64 m, .int .i64 n, .slice av xs.length cv], .slice (some ⟨g, 0, none⟩) js.length c1] u fun e w' => e = .returned (.bool false) ∧ Below u.heap.size u w') := Lib.hid (fun u h => A2f.out _ _ _ _ _ _ _ u (hlx.out.1 h1) (.inl rfl) (Rl.below (h.2.2.2.mono (by omega))) (by have := h.2.2.2.size; omega) (RF.below (h.2.2.2.mono (by omega))) (by have := h.2.2.2.size; omega))
        have CD : Hid (∀ (b2 : Option Addr) (c2 : Nat) (u : World), (u.cell? ⟨w1.heap.size, 0, none⟩ = some (.int .i64 m) ∧ u.cell? ⟨w1.heap.size, 1, none⟩ = some (.int .i64 n) ∧ u.cell? ⟨w1.heap.size, 2, none⟩ = some (.slice av xs.length cv) ∧ Below V.heap.size V u) → Calls Try.prog 13 #[.agg #[.int .i64 m, .int .i64 n, .slice av xs.length cv], .slice b2 (js.length - 1) c2] u fun e w' => e = .returned (.bool false) ∧ Below u.heap.size u w') := Lib.hid (fun b2 c2 u h => ImplAreJoins_short _ _ m n _ xs b2 (js.length - 1) c2 HWF.out u (Rl.below (h.2.2.2.mono (by omega))) (by have := h.2.2.2.size; omega) HLB.out (beq_eq_false_iff_ne.2 (by omega)) (by omega))
        obtain ⟨gj, rfl, _⟩ := Rj.at (Below.refl _ _) (i := 0) (by omega)
        have hcap := Rj.cap
        have h1j : (1 : Int) ≤ (js.length : Int) := by omega
        by_cases hc1 : cj = 1
        · as_aux_lemma =>
          subst hc1
          rw [show js.length - 1 = 0 by omega] at CD
          go_cut [162] (fun q wx => q = .bool false ∧ Hid (Below V.heap.size V wx))
          case first =>
            obtain ⟨cl0, cl1, cl2⟩ := id Xl
            (try simp only [List.append_eq, List.cons_append, List.nil_append])
            have hS := S0
            refine reg_begin (fun w' => w'.cell? ⟨w1.heap.size, 0, none⟩ = some (.int .i64 m) ∧ w'.cell? ⟨w1.heap.size, 1, none⟩ = some (.int .i64 n) ∧ w'.cell? ⟨w1.heap.size, 2, none⟩ = some (.slice av xs.length cv) ∧ Below V.heap.size V w') (by kernel_rfl) hS ?_
            refine reg_take 0 (v := ?_) rfl (by kernel_rfl) (by kernel_rfl) (by kernel_rfl) (fun _ _ _ h => h) (by rfl) (by intro w hSw; (try dsimp only at hSw); go_simp; first | done | with_reducible rfl) hS ?_
            (try simp only [Act.put, List.setIfInBounds_toArray, List.set_cons_zero, List.set_cons_succ])
            refine reg_take 1 (v := ?_) rfl (by kernel_rfl) (by kernel_rfl) (by kernel_rfl) (fun _ _ _ h => h) (by rfl) (by intro w hSw; (try dsimp only at hSw); go_simp; first | done | with_reducible rfl) hS ?_
            (try simp only [Act.put, List.setIfInBounds_toArray, List.set_cons_zero, List.set_cons_succ])
            refine reg_call 2 rfl (by kernel_rfl) (by rfl) (fun K hK => ?_)
            go_simp
            go_at_call 13
            refine (args_eqL (CX.out _ hS) (by with_reducible rfl)).mono ?_
            rintro e u1 ⟨rfl, hb⟩
            refine hK.out _ _ (KP _ _ hb hS) (fun hS' => ?_)
            clear hK K hS
            have hS := hS'
            clear hS' hb
            try (try simp only [Act.put, List.setIfInBounds_toArray, List.set_cons_zero, List.set_cons_succ])
            refine reg_take 3 (v := ?_) rfl (by kernel_rfl) (by kernel_rfl) (by kernel_rfl) (fun _ _ _ h => h) (by rfl) (by intro w hSw; (try dsimp only at hSw); go_simp; first | done | with_reducible rfl) hS ?_
            (try simp only [Act.put, List.setIfInBounds_toArray, List.set_cons_zero, List.set_cons_succ])
            refine reg_take 4 (v := ?_) rfl (by kernel_rfl) (by kernel_rfl) (by kernel_rfl) (fun _ _ _ h => h) (by rfl) (by intro w hSw; (try dsimp only at hSw); go_simp; first | done | with_reducible rfl) hS ?_
            (try simp only [Act.put, List.setIfInBounds_toArray, List.set_cons_zero, List.set_cons_succ])
            refine reg_take 5 (v := ?_) rfl (by kernel_rfl) (by kernel_rfl) (by kernel_rfl) (fun _ _ _ h => h) (by rfl) (by intro w hSw; (try dsimp only at hSw); go_simp; first | done | with_reducible rfl) hS ?_
            (try simp only [Act.put, List.setIfInBounds_toArray, List.set_cons_zero, List.set_cons_succ])
            refine reg_take 6 (v := ?_) rfl (by kernel_rfl) (by kernel_rfl) (by kernel_rfl) (fun _ _ _ h => h) (by rfl) (by intro w hSw; (try dsimp only at hSw); go_simp; first | done | with_reducible rfl) hS ?_
            (try simp only [Act.put, List.setIfInBounds_toArray, List.set_cons_zero, List.set_cons_succ])
            refine reg_call 7 rfl (by kernel_rfl) (by rfl) (fun K hK => ?_)
            go_simp
            go_at_call 13
            refine (args_eqL (CD.out _ _ _ hS) (by with_reducible rfl)).mono ?_
            rintro e u2 ⟨rfl, hb⟩
            refine hK.out _ _ (KP _ _ hb hS) (fun hS' => ?_)
            clear hK K hS
            have hS := hS'
            clear hS' hb
            try (try simp only [Act.put, List.setIfInBounds_toArray, List.set_cons_zero, List.set_cons_succ])
            refine reg_take 8 (v := ?_) rfl (by kernel_rfl) (by kernel_rfl) (by kernel_rfl) (fun _ _ _ h => h) (by rfl) (by intro w hSw; (try dsimp only at hSw); go_simp; first | done | with_reducible rfl) hS ?_
            (try simp only [Act.put, List.setIfInBounds_toArray, List.set_cons_zero, List.set_cons_succ])
            refine wpAnyH_done (by kernel_rfl) ?_ _
            have BE := Lib.hid hS.2.2.2
            clear hS
            go_wp2_with fail
            go_meet
            exact ⟨rfl, BE⟩
          case rest =>
            obtain ⟨rfl, HBW⟩ := hcut
            generalize wc = w12 at *
            have B := bel_c B (Nat.le_refl _) HBW.out
            go_wp2_with fail
            have hs4 := hs3.out
            go_ret
            exact ⟨ret_bool (same_ends hs4), B⟩
        · as_aux_lemma =>
          go_cut [162] (fun q wx => q = .bool false ∧ Hid (Below V.heap.size V wx))
          case first =>
            obtain ⟨cl0, cl1, cl2⟩ := id Xl
            (try simp only [List.append_eq, List.cons_append, List.nil_append])
            have hS := S0
            refine reg_begin (fun w' => w'.cell? ⟨w1.heap.size, 0, none⟩ = some (.int .i64 m) ∧ w'.cell? ⟨w1.heap.size, 1, none⟩ = some (.int .i64 n) ∧ w'.cell? ⟨w1.heap.size, 2, none⟩ = some (.slice av xs.length cv) ∧ Below V.heap.size V w') (by kernel_rfl) hS ?_
            refine reg_take 0 (v := ?_) rfl (by kernel_rfl) (by kernel_rfl) (by kernel_rfl) (fun _ _ _ h => h) (by rfl) (by intro w hSw; (try dsimp only at hSw); go_simp; first | done | with_reducible rfl) hS ?_
            (try simp only [Act.put, List.setIfInBounds_toArray, List.set_cons_zero, List.set_cons_succ])
            refine reg_take 1 (v := ?_) rfl (by kernel_rfl) (by kernel_rfl) (by kernel_rfl) (fun _ _ _ h => h) (by rfl) (by intro w hSw; (try dsimp only at hSw); go_simp; first | done | with_reducible rfl) hS ?_
            (try simp only [Act.put, List.setIfInBounds_toArray, List.set_cons_zero, List.set_cons_succ])
            refine reg_call 2 rfl (by kernel_rfl) (by rfl) (fun K hK => ?_)
            go_simp
            go_at_call 13
            refine (args_eqL (CX.out _ hS) (by with_reducible rfl)).mono ?_
            rintro e u1 ⟨rfl, hb⟩
            refine hK.out _ _ (KP _ _ hb hS) (fun hS' => ?_)
            clear hK K hS
            have hS := hS'
            clear hS' hb
            try (try simp only [Act.put, List.setIfInBounds_toArray, List.set_cons_zero, List.set_cons_succ])
            refine reg_take 3 (v := ?_) rfl (by kernel_rfl) (by kernel_rfl) (by kernel_rfl) (fun _ _ _ h => h) (by rfl) (by intro w hSw; (try dsimp only at hSw); go_simp; first | done | with_reducible rfl) hS ?_
            (try simp only [Act.put, List.setIfInBounds_toArray, List.set_cons_zero, List.set_cons_succ])
            refine reg_take 4 (v := ?_) rfl (by kernel_rfl) (by kernel_rfl) (by kernel_rfl) (fun _ _ _ h => h) (by rfl) (by intro w hSw; (try dsimp only at hSw); go_simp; first | done | with_reducible rfl) hS ?_
            (try simp only [Act.put, List.setIfInBounds_toArray, List.set_cons_zero, List.set_cons_succ])
            refine reg_take 5 (v := ?_) rfl (by kernel_rfl) (by kernel_rfl) (by kernel_rfl) (fun _ _ _ h => h) (by rfl) (by intro w hSw; (try dsimp only at hSw); go_simp; first | done | with_reducible rfl) hS ?_
            (try simp only [Act.put, List.setIfInBounds_toArray, List.set_cons_zero, List.set_cons_succ])
            refine reg_take 6 (v := ?_) rfl (by kernel_rfl) (by kernel_rfl) (by kernel_rfl) (fun _ _ _ h => h) (by rfl) (by intro w hSw; (try dsimp only at hSw); go_simp; first | done | with_reducible rfl) hS ?_
            (try simp only [Act.put, List.setIfInBounds_toArray, List.set_cons_zero, List.set_cons_succ])
            refine reg_call 7 rfl (by kernel_rfl) (by rfl) (fun K hK => ?_)
            go_simp
            go_at_call 13
            refine (args_eqL (CD.out _ _ _ hS) (by with_reducible rfl)).mono ?_
            rintro e u2 ⟨rfl, hb⟩
            refine hK.out _ _ (KP _ _ hb hS) (fun hS' => ?_)
            clear hK K hS
            have hS := hS'
            clear hS' hb
            try (try simp only [Act.put, List.setIfInBounds_toArray, List.set_cons_zero, List.set_cons_succ])
            refine reg_take 8 (v := ?_) rfl (by kernel_rfl) (by kernel_rfl) (by kernel_rfl) (fun _ _ _ h => h) (by rfl) (by intro w hSw; (try dsimp only at hSw); go_simp; first | done | with_reducible rfl) hS ?_
            (try simp only [Act.put, List.setIfInBounds_toArray, List.set_cons_zero, List.set_cons_succ])
            refine wpAnyH_done (by kernel_rfl) ?_ _
            have BE := Lib.hid hS.2.2.2
            clear hS
            go_wp2_with fail
            go_meet
            exact ⟨rfl, BE⟩
          case rest =>
            obtain ⟨rfl, HBW⟩ := hcut
            generalize wc = w13 at *
            have B := bel_c B (Nat.le_refl _) HBW.out
            go_wp2_with fail
            have hs4 := hs3.out
            go_ret
            exact ⟨ret_bool (same_ends hs4), B⟩
      · as_aux_lemma =>
        have NB := bel0 w10 (.cells #[.int .i64 bx, .int .i64 by', .int .i64 bw, .int .i64 bh, .int .i64 bc] 34)
        have Xl := Xl.keep NB
        have Xb := Xb.keep NB
        have Rl := Rl.below (NB.mono (by omega))
        have Rj := Rj.below (NB.mono (by omega))
        have B := bel_n B (Nat.le_refl _) (.cells #[.int .i64 bx, .int .i64 by', .int .i64 bw, .int .i64 bh, .int .i64 bc] 34)
        have Xg := Fiv.new w10 (.int .i64 bx) (.int .i64 by') (.int .i64 bw) (.int .i64 bh) (.int .i64 bc) 34
        have zw11 : w10.heap.size + 1 ≤ (w10.alloc (.cells #[.int .i64 bx, .int .i64 by', .int .i64 bw, .int .i64 bh, .int .i64 bc] 34)).heap.size := by simp
        obtain ⟨w11, hV⟩ : ∃ V, V = w10.alloc (.cells #[.int .i64 bx, .int .i64 by', .int .i64 bw, .int .i64 bh, .int .i64 bc] 34) := ⟨_, rfl⟩
        rw [← hV] at B zw11 Xl Xb Xg Rl Rj
        go_wp2_with fail
        rw [← hV]
        clear hV NB
        have hs4 := hs3.out
        go_ret
        exact ⟨ret_bool (same_ends hs4), B⟩
  · go_enter Try.func3, Try.ntmps3
    go_wp2_with fail
    refine (Big_yes a len cap w hl (by omega)).mono ?_
    rintro e w' ⟨rfl, rfl⟩
    go_wp2_with fail
    go_ret
    exact ⟨rfl, Below.refl _ _⟩

end Go.Proofs.Ytboahceibeeifaa
