/- Blocks: the program's WithCell. -/
import Derived.Test.YtoljnokfhgopoaaBlkIc
import Derived.Test.YtoljnokfhgopoaaBlkW
import Derived.Test.YtoljnokfhgopoaaBlkWR
import Derived.Deep.DeepCutAuto
namespace Go.Proofs.Ytoljnokfhgopoaa
open Go.ChangeShapes Go.WideShapes Go.ChangeAt Go.RowKit

theorem ImplOk_yes (s a b : Int) (w : World) (k : OkC s a b) :
    Calls Try.prog 45 #[.agg #[.int .i64 s, .int .i64 a, .int .i64 b]] w fun e w' => e = .returned (.bool true) ∧ Below w.heap.size w w' := by
  refine (ImplOk_any s a b w).mono ?_
  rintro e w' ⟨rfl, rfl⟩
  exact ⟨ret_bool (decide_eq_true k), bel0 _ _⟩
theorem ImplOk_no (s a b : Int) (w : World) (k : ¬ OkC s a b) :
    Calls Try.prog 45 #[.agg #[.int .i64 s, .int .i64 a, .int .i64 b]] w fun e w' => e = .returned (.bool false) ∧ Below w.heap.size w w' := by
  refine (ImplOk_any s a b w).mono ?_
  rintro e w' ⟨rfl, rfl⟩
  exact ⟨ret_bool (decide_eq_false k), bel0 _ _⟩
theorem bel_g {b g : Nat} {w u v : World} (h : Below b w u) (hb : b ≤ g) (k : Below g u v) : Below b w v := h.trans (k.mono hb)

set_option maxHeartbeats 2000000 in
theorem ImplWith_any (lo hi : Nat) (n x y s a b : Int) (v : Value) (xs : List C3) (w : World) (r : CellIn lo hi w v xs) (hhi : hi ≤ w.heap.size) :
    Calls Try.prog 15 #[.agg #[.int .i64 n, v], .int .i64 x, .int .i64 y, .agg #[.int .i64 s, .int .i64 a, .int .i64 b]] w (FreshBB n (withC n xs x y ⟨s, a, b⟩) (withB n xs x y ⟨s, a, b⟩) w) := by
  obtain ⟨i0, hi0, hz0, hz1, hz2⟩ := info_parts3 info_cell
  obtain ⟨ad, cap, rfl⟩ := r.form
  have hl := r.1
  have RC : ∀ W, Below w.heap.size w W → CellIn lo hi W (.slice ad xs.length cap) xs := fun W hb => r.below (hb.mono hhi)
  have HRC := Lib.hid RC
  clear RC
  rcases Nat.eq_zero_or_pos xs.length with h0 | h0
  · have hx : xs = [] := List.length_eq_zero_iff.1 h0
    have hnb : ¬ (BlkOk n xs ∧ InB n x y) := fun h => by have := h.1.2.1; have := h.1.1; rw [h0] at *; have : (1 : Int) ≤ n * n := (sq_wrap (by omega) (by omega)).2.1; omega
    obtain ⟨e1, e2⟩ := with_no (n := n) (xs := xs) (x := x) (y := y) (c := ⟨s, a, b⟩) (fun h => hnb ⟨h.1, h.2.2⟩)
    rw [e1, e2]
    clear e1 e2
    have HNB := Lib.hid hnb
    subst hx
    clear r hl h0 hnb
    cases ad
    all_goals
      go_enter Try.func15, Try.ntmps15
      go_wp2_with fail
      go_region
      go_wp2_with fail
      refine (HasC_no lo hi n x y _ [] _ (HRC.out _ (by repeat (first | exact Below.refl _ _ | refine bel_dr ?_ | refine bel_n ?_ (Nat.le_refl _) _))) (by simp; omega) HNB.out).mono ?_
      rintro e w2 ⟨rfl, hb2⟩
      have d0 := kept (p := ⟨w.heap.size + 1 + 1, 0, none⟩) (x := Value.int .i64 0) hb2 (by go_simp)
      have d1 := kept (p := ⟨w.heap.size + 1 + 1, 1, none⟩) (x := Value.slice none 0 0) hb2 (by go_simp)
      have g0 := keptF (p := ⟨w.heap.size + 1 + 1, 0, none⟩) (x := Value.int .i64 0) hb2 (by go_simp) (by go_simp)
      have g1 := keptF (p := ⟨w.heap.size + 1 + 1, 1, none⟩) (x := Value.slice none 0 0) hb2 (by go_simp) (by go_simp)
      have k0 := kept (p := ⟨w.heap.size + 1 + 1 + 1, 0, none⟩) (x := Value.int .i64 n) hb2 (by go_simp)
      have k1 := kept (p := ⟨w.heap.size + 1 + 1 + 1, 1, none⟩) (x := Value.slice none 0 0) hb2 (by go_simp)
      have hB : Below w.heap.size w w2 := bel_c (by repeat (first | exact Below.refl _ _ | refine bel_dr ?_ | refine bel_n ?_ (Nat.le_refl _) _)) (Nat.le_refl _) hb2
      have HB := Lib.hid hB
      clear hB hb2 HRC
      go_wp2_with fail
      refine bodyPost_ret (v := .tuple #[.agg #[.int .i64 n, .slice none 0 0], .bool false]) (by simp [results, Try.results15, go_sem, d0, d1]) rfl ⟨.slice none 0 0, rfl, ⟨by simp, .inl ⟨rfl, _, _, rfl⟩⟩, ?_⟩
      refine Below.setCell (Below.setCell HB.out ?_ _) ?_ _ <;> (simp <;> omega)
  · obtain ⟨g, rfl, hg, hg1, hn⟩ := r.news h0
    have HR := Lib.hid (fun W (hb : Below w.heap.size w W) => hn W (hb.mono hhi))
    clear r hn
    go_enter Try.func15, Try.ntmps15
    go_upto_region 1 with fail
    have B := bel_n (bel_n (bel0 w (.cells #[.int .i64 n, .slice (some ⟨g, 0, none⟩) xs.length cap] 26)) (Nat.le_refl _) (.cells #[.int .i64 s, .int .i64 a, .int .i64 b] 30)) (Nat.le_refl _) (.cells #[.int .i64 0, .slice none 0 0] 26)
    have c0 : (((w.alloc (.cells #[.int .i64 n, .slice (some ⟨g, 0, none⟩) xs.length cap] 26)).alloc (.cells #[.int .i64 s, .int .i64 a, .int .i64 b] 30)).alloc (.cells #[.int .i64 0, .slice none 0 0] 26)).cell? ⟨w.heap.size, 0, none⟩ = some (Value.int .i64 n) := by go_simp
    have c1 : (((w.alloc (.cells #[.int .i64 n, .slice (some ⟨g, 0, none⟩) xs.length cap] 26)).alloc (.cells #[.int .i64 s, .int .i64 a, .int .i64 b] 30)).alloc (.cells #[.int .i64 0, .slice none 0 0] 26)).cell? ⟨w.heap.size, 1, none⟩ = some (Value.slice (some ⟨g, 0, none⟩) xs.length cap) := by go_simp
    have m0 : (((w.alloc (.cells #[.int .i64 n, .slice (some ⟨g, 0, none⟩) xs.length cap] 26)).alloc (.cells #[.int .i64 s, .int .i64 a, .int .i64 b] 30)).alloc (.cells #[.int .i64 0, .slice none 0 0] 26)).cell? ⟨w.heap.size + 1, 0, none⟩ = some (Value.int .i64 s) := by go_simp
    have m1 : (((w.alloc (.cells #[.int .i64 n, .slice (some ⟨g, 0, none⟩) xs.length cap] 26)).alloc (.cells #[.int .i64 s, .int .i64 a, .int .i64 b] 30)).alloc (.cells #[.int .i64 0, .slice none 0 0] 26)).cell? ⟨w.heap.size + 1, 1, none⟩ = some (Value.int .i64 a) := by go_simp
    have m2 : (((w.alloc (.cells #[.int .i64 n, .slice (some ⟨g, 0, none⟩) xs.length cap] 26)).alloc (.cells #[.int .i64 s, .int .i64 a, .int .i64 b] 30)).alloc (.cells #[.int .i64 0, .slice none 0 0] 26)).cell? ⟨w.heap.size + 1, 2, none⟩ = some (Value.int .i64 b) := by go_simp
    have d0 : (((w.alloc (.cells #[.int .i64 n, .slice (some ⟨g, 0, none⟩) xs.length cap] 26)).alloc (.cells #[.int .i64 s, .int .i64 a, .int .i64 b] 30)).alloc (.cells #[.int .i64 0, .slice none 0 0] 26)).cell? ⟨w.heap.size + 1 + 1, 0, none⟩ = some (Value.int .i64 0) := by go_simp
    have d1 : (((w.alloc (.cells #[.int .i64 n, .slice (some ⟨g, 0, none⟩) xs.length cap] 26)).alloc (.cells #[.int .i64 s, .int .i64 a, .int .i64 b] 30)).alloc (.cells #[.int .i64 0, .slice none 0 0] 26)).cell? ⟨w.heap.size + 1 + 1, 1, none⟩ = some (Value.slice none 0 0) := by go_simp
    have g0 : (((w.alloc (.cells #[.int .i64 n, .slice (some ⟨g, 0, none⟩) xs.length cap] 26)).alloc (.cells #[.int .i64 s, .int .i64 a, .int .i64 b] 30)).alloc (.cells #[.int .i64 0, .slice none 0 0] 26)).frozen? ⟨w.heap.size + 1 + 1, 0, none⟩ = false := by go_simp
    have g1 : (((w.alloc (.cells #[.int .i64 n, .slice (some ⟨g, 0, none⟩) xs.length cap] 26)).alloc (.cells #[.int .i64 s, .int .i64 a, .int .i64 b] 30)).alloc (.cells #[.int .i64 0, .slice none 0 0] 26)).frozen? ⟨w.heap.size + 1 + 1, 1, none⟩ = false := by go_simp
    have zg : w.heap.size + 1 + 1 + 1 = (((w.alloc (.cells #[.int .i64 n, .slice (some ⟨g, 0, none⟩) xs.length cap] 26)).alloc (.cells #[.int .i64 s, .int .i64 a, .int .i64 b] 30)).alloc (.cells #[.int .i64 0, .slice none 0 0] 26)).heap.size := by simp
    generalize (((w.alloc (.cells #[.int .i64 n, .slice (some ⟨g, 0, none⟩) xs.length cap] 26)).alloc (.cells #[.int .i64 s, .int .i64 a, .int .i64 b] 30)).alloc (.cells #[.int .i64 0, .slice none 0 0] 26)) = g7 at *
    have D0 : Below g7.heap.size g7 g7.drew := ⟨rfl, rfl, rfl, Nat.le_refl _, fun _ _ => rfl⟩
    have KP : ∀ u v, Below u.heap.size u v → (u.cell? ⟨w.heap.size, 0, none⟩ = some (.int .i64 n) ∧ u.cell? ⟨w.heap.size, 1, none⟩ = some (.slice (some ⟨g, 0, none⟩) xs.length cap)) → (v.cell? ⟨w.heap.size, 0, none⟩ = some (.int .i64 n) ∧ v.cell? ⟨w.heap.size, 1, none⟩ = some (.slice (some ⟨g, 0, none⟩) xs.length cap)) := fun u v hb h => ⟨kept hb h.1, kept hb h.2⟩
    have KS : ∀ (u : World) (p : Nat) (v0 v1 : Value), w.heap.size < p → (u.cell? ⟨w.heap.size, 0, none⟩ = some (.int .i64 n) ∧ u.cell? ⟨w.heap.size, 1, none⟩ = some (.slice (some ⟨g, 0, none⟩) xs.length cap)) → (((u.setCell ⟨p, 0, none⟩ v0).setCell ⟨p, 1, none⟩ v1).cell? ⟨w.heap.size, 0, none⟩ = some (.int .i64 n) ∧ ((u.setCell ⟨p, 0, none⟩ v0).setCell ⟨p, 1, none⟩ v1).cell? ⟨w.heap.size, 1, none⟩ = some (.slice (some ⟨g, 0, none⟩) xs.length cap)) := by
      intro u p v0 v1 hp h
      have h1 : p ≠ w.heap.size := by omega
      have f : ∀ (q o : Nat), p ≠ q → ((u.setCell ⟨p, 0, none⟩ v0).setCell ⟨p, 1, none⟩ v1).cell? ⟨q, o, none⟩ = u.cell? ⟨q, o, none⟩ := fun q o hq => by
        rw [World.cell?_setCell_other _ _ _ _ (by simp), World.cell?_setCell_other _ _ _ _ (by simp)]
      simpa only [f _ _ h1] using h
    have HO : ∀ (W : World) (q : Nat), W.ownsRow q 30 3 (.slice none 0 0) 0 [] := fun W q => ⟨rfl, .inl ⟨rfl, rfl⟩⟩
    have N1 := Lib.hid (HR.out g7.drew (bel_c B (Nat.le_refl _) D0))
    have N2 := Lib.hid (HR.out (g7.drew.alloc (.cells #[.int .i64 0, .slice none 0 0] 26)) (bel_n (bel_c B (Nat.le_refl _) D0) (Nat.le_refl _) (.cells #[.int .i64 0, .slice none 0 0] 26)))
    clear HR
    go_cut [10] (fun q wx => WR n true xs g7 q (.bool true) wx)
    case first =>
      go_region_held3 (fun w' => w'.cell? ⟨w.heap.size, 0, none⟩ = some (.int .i64 n) ∧ w'.cell? ⟨w.heap.size, 1, none⟩ = some (.slice (some ⟨g, 0, none⟩) xs.length cap)) (first | exact S4 | exact KP _ _ (bel0 _ _) S4 | exact KS _ _ _ _ (by omega) S4 | (refine KP _ _ (by assumption) ?_; assumption) | exact KP _ _ (bel0 _ _) (by assumption) | go_keep)
        ((first
          | (refine step_append_lies _ (by rfl) _ _ _ (by rfl) g7.heap.size 30 i0 _ 3 24 Try.underlying24 hi0 hz0 hz1 hz2 rfl (by omega) _ 0 _ (by rfl) (HO _ _) ⟨g, 0, none⟩ xs.length cap (places xs) (by rfl) (places_length xs) N1.out (places_one xs) h0 (by unfold maxLen; omega) (by omega) (by simp) g7.heap.size (by simp) ?_; intro gg cc w1 hown1 hgrow hat hlt1; have hbw : Below g7.heap.size g7.drew w1 := (Below.refl g7.heap.size _).grown hgrow (by simp) (by intro k hk; cases hk); have R1 := Lib.hid (CellIn.of_owns (xs := xs) (by simpa using hown1) hl); have hbz : Below g7.heap.size g7 w1 := D0.trans hbw; have S4 := KP g7.drew w1 hbw (by assumption); clear hown1 hgrow hat hlt1)
          | (refine step_append_lies _ (by rfl) _ _ _ (by rfl) (g7.heap.size + 1) 30 i0 _ 3 24 Try.underlying24 hi0 hz0 hz1 hz2 rfl (by omega) _ 0 _ (by rfl) (HO _ _) ⟨g, 0, none⟩ xs.length cap (places xs) (by rfl) (places_length xs) N2.out (places_one xs) h0 (by unfold maxLen; omega) (by omega) (by simp) (g7.heap.size + 1) (by simp) ?_; intro gg cc w1 hown1 hgrow hat hlt1; have hbw : Below (g7.heap.size + 1) (g7.drew.alloc (.cells #[.int .i64 0, .slice none 0 0] 26)) w1 := (Below.refl (g7.heap.size + 1) _).grown hgrow (by simp) (by intro k hk; cases hk); have R1 := Lib.hid (CellIn.of_owns (xs := xs) (by simpa using hown1) hl); have hbz : Below g7.heap.size g7 w1 := (bel_n D0 (Nat.le_refl _) (.cells #[.int .i64 0, .slice none 0 0] 26)).trans (hbw.mono (by omega)); have bz3 := Lib.hid (show BoxB g7.heap.size (.int .i64 0) (.slice none 0 0) w1 from (BoxB.new g7.drew (.int .i64 0) (.slice none 0 0) 26).below hbw (Nat.lt_succ_self _)); obtain ⟨k0, k1, k2, k3⟩ := bz3.out; have S4 := KP (g7.drew.alloc (.cells #[.int .i64 0, .slice none 0 0] 26)) w1 (by simpa using hbw) (by assumption); clear hown1 hgrow hat hlt1)))
      all_goals
        go_wp2_with fail
        go_meet
        first
        | exact WR.old R1.out bz3.out hbz (Nat.le_succ _) (Nat.le_refl _) (.inl (Nat.lt_succ_self _))
        | exact WR.new R1.out hbz (Nat.le_refl _)
    case rest =>
      obtain ⟨p4, a4, c4, l4, h4, rfl, -, bx4, R4, ho4, zl4, zp4, zh4, hb⟩ := hcut
      have c0 := kept hb c0
      have c1 := kept hb c1
      have m0 := kept hb m0
      have m1 := kept hb m1
      have m2 := kept hb m2
      have d0 := kept hb d0
      have d1 := kept hb d1
      have g0_ : wc.frozen? ⟨w.heap.size + 1 + 1, 0, none⟩ = false := (hb.frozen (p := ⟨w.heap.size + 1 + 1, 0, none⟩) (by show w.heap.size + 1 + 1 < _; omega)).trans g0
      have g1_ : wc.frozen? ⟨w.heap.size + 1 + 1, 1, none⟩ = false := (hb.frozen (p := ⟨w.heap.size + 1 + 1, 1, none⟩) (by show w.heap.size + 1 + 1 < _; omega)).trans g1
      have B4 := bel_c B (Nat.le_refl _) hb
      have yl4 := bx4.lt
      clear g0 g1 D0 KP KS HO N1 N2 B hb
      obtain ⟨k0, k1, k2, k3⟩ := bx4
      have HRC4 := Lib.hid (HRC.out wc B4)
      have hw4 : w.heap.size ≤ wc.heap.size := B4.size
      clear HRC
      by_cases hh : BlkOk n xs ∧ InB n x y
      · have HH := Lib.hid hh
        by_cases hc : OkC s a b
        · have HC := Lib.hid hc
          have HE := Lib.hid (with_yes (n := n) (xs := xs) (x := x) (y := y) (c := ⟨s, a, b⟩) ⟨hh.1, hc, hh.2⟩)
          obtain ⟨k, hk1, hk2, hk3, hk4⟩ := idx hh.1.1.1 hh.1.1.2 hh.2
          have hkt : (y * n + x).toNat = k := by rw [hk1]; simp
          rw [hkt] at HE
          have hkl : k < xs.length := by have := hh.1.2.1; omega
          clear hk1 hk2 hh hc hkt
          go_wp2_with fail
          refine (HasC_yes lo hi n x y _ xs _ HRC4.out (by omega) HH.out.1 HH.out.2).mono ?_
          rintro e w2 ⟨rfl, hb⟩
          replace c0 := kept hb c0
          replace c1 := kept hb c1
          replace m0 := kept hb m0
          replace m1 := kept hb m1
          replace m2 := kept hb m2
          replace d0 := kept hb d0
          replace d1 := kept hb d1
          replace k0 := kept hb k0
          replace k1 := kept hb k1
          replace g0_ : w2.frozen? ⟨w.heap.size + 1 + 1, 0, none⟩ = false := (hb.frozen (p := ⟨w.heap.size + 1 + 1, 0, none⟩) (by show w.heap.size + 1 + 1 < _; omega)).trans g0_
          replace g1_ : w2.frozen? ⟨w.heap.size + 1 + 1, 1, none⟩ = false := (hb.frozen (p := ⟨w.heap.size + 1 + 1, 1, none⟩) (by show w.heap.size + 1 + 1 < _; omega)).trans g1_
          replace k2 : w2.frozen? ⟨p4, 0, none⟩ = false := (hb.frozen (p := ⟨p4, 0, none⟩) (by show p4 < _; omega)).trans k2
          replace k3 : w2.frozen? ⟨p4, 1, none⟩ = false := (hb.frozen (p := ⟨p4, 1, none⟩) (by show p4 < _; omega)).trans k3
          replace R4 := R4.below (hb.mono (by omega))
          replace B4 := bel_c B4 (Nat.le_refl _) hb
          have zw2 := hb.size
          clear hb
          go_wp2_with fail
          refine (ImplOk_yes _ _ _ _ HC.out).mono ?_
          rintro e w3 ⟨rfl, hb⟩
          replace c0 := kept hb c0
          replace c1 := kept hb c1
          replace m0 := kept hb m0
          replace m1 := kept hb m1
          replace m2 := kept hb m2
          replace d0 := kept hb d0
          replace d1 := kept hb d1
          replace k0 := kept hb k0
          replace k1 := kept hb k1
          replace g0_ : w3.frozen? ⟨w.heap.size + 1 + 1, 0, none⟩ = false := (hb.frozen (p := ⟨w.heap.size + 1 + 1, 0, none⟩) (by show w.heap.size + 1 + 1 < _; omega)).trans g0_
          replace g1_ : w3.frozen? ⟨w.heap.size + 1 + 1, 1, none⟩ = false := (hb.frozen (p := ⟨w.heap.size + 1 + 1, 1, none⟩) (by show w.heap.size + 1 + 1 < _; omega)).trans g1_
          replace k2 : w3.frozen? ⟨p4, 0, none⟩ = false := (hb.frozen (p := ⟨p4, 0, none⟩) (by show p4 < _; omega)).trans k2
          replace k3 : w3.frozen? ⟨p4, 1, none⟩ = false := (hb.frozen (p := ⟨p4, 1, none⟩) (by show p4 < _; omega)).trans k3
          replace R4 := R4.below (hb.mono (by omega))
          replace B4 := bel_c B4 (Nat.le_refl _) hb
          have zw3 := hb.size
          clear hb
          obtain ⟨gg, rfl, hq, hq1, ⟨e0, e1, e2⟩, f0, f1, f2⟩ := R4.at (Below.refl _ _) hkl
          have HN := Lib.hid (R4.set k hkl s a b)
          generalize xs.getD k C3.zero = c at e0 e1 e2
          have ne1 : gg ≠ p4 := by omega
          have ne2 : gg ≠ w.heap.size + 1 + 1 := by omega
          have ne3 : w.heap.size + 1 + 1 ≠ gg := by omega
          have ne4 : p4 ≠ w.heap.size + 1 + 1 := by omega
          have HB := Lib.hid B4
          clear R4 B4
          go_wp2_with fail
          refine bodyPost_ret (v := .tuple #[.agg #[.int .i64 n, .slice (some ⟨gg, 0, none⟩) xs.length c4], .bool true]) (by simp [results, Try.results15, go_sem, d0, d1]) rfl ⟨.slice (some ⟨gg, 0, none⟩) xs.length c4, by rw [HE.out.2], ?_, ?_⟩
          · rw [HE.out.1]
            refine CellIn.wide (lo := l4) (hi := h4) ?_ (by omega) (by simp [World.setCell]; omega)
            refine CellIn.set_far (CellIn.set_far HN.out ?_ _) ?_ _ <;> (simp <;> omega)
          · refine Below.setCell (Below.setCell (Below.setCell (Below.setCell (Below.setCell HB.out ?_ _) ?_ _) ?_ _) ?_ _) ?_ _ <;> (simp <;> omega)
        · have HC := Lib.hid hc
          have HE := Lib.hid (with_no (n := n) (xs := xs) (x := x) (y := y) (c := ⟨s, a, b⟩) (fun h => hc h.2.1))
          clear hh hc
          go_wp2_with fail
          refine (HasC_yes lo hi n x y _ xs _ HRC4.out (by omega) HH.out.1 HH.out.2).mono ?_
          rintro e w2 ⟨rfl, hb⟩
          replace c0 := kept hb c0
          replace c1 := kept hb c1
          replace m0 := kept hb m0
          replace m1 := kept hb m1
          replace m2 := kept hb m2
          replace d0 := kept hb d0
          replace d1 := kept hb d1
          replace k0 := kept hb k0
          replace k1 := kept hb k1
          replace g0_ : w2.frozen? ⟨w.heap.size + 1 + 1, 0, none⟩ = false := (hb.frozen (p := ⟨w.heap.size + 1 + 1, 0, none⟩) (by show w.heap.size + 1 + 1 < _; omega)).trans g0_
          replace g1_ : w2.frozen? ⟨w.heap.size + 1 + 1, 1, none⟩ = false := (hb.frozen (p := ⟨w.heap.size + 1 + 1, 1, none⟩) (by show w.heap.size + 1 + 1 < _; omega)).trans g1_
          replace k2 : w2.frozen? ⟨p4, 0, none⟩ = false := (hb.frozen (p := ⟨p4, 0, none⟩) (by show p4 < _; omega)).trans k2
          replace k3 : w2.frozen? ⟨p4, 1, none⟩ = false := (hb.frozen (p := ⟨p4, 1, none⟩) (by show p4 < _; omega)).trans k3
          replace R4 := R4.below (hb.mono (by omega))
          replace B4 := bel_c B4 (Nat.le_refl _) hb
          have zw2 := hb.size
          clear hb
          go_wp2_with fail
          refine (ImplOk_no _ _ _ _ HC.out).mono ?_
          rintro e w3 ⟨rfl, hb⟩
          replace c0 := kept hb c0
          replace c1 := kept hb c1
          replace m0 := kept hb m0
          replace m1 := kept hb m1
          replace m2 := kept hb m2
          replace d0 := kept hb d0
          replace d1 := kept hb d1
          replace k0 := kept hb k0
          replace k1 := kept hb k1
          replace g0_ : w3.frozen? ⟨w.heap.size + 1 + 1, 0, none⟩ = false := (hb.frozen (p := ⟨w.heap.size + 1 + 1, 0, none⟩) (by show w.heap.size + 1 + 1 < _; omega)).trans g0_
          replace g1_ : w3.frozen? ⟨w.heap.size + 1 + 1, 1, none⟩ = false := (hb.frozen (p := ⟨w.heap.size + 1 + 1, 1, none⟩) (by show w.heap.size + 1 + 1 < _; omega)).trans g1_
          replace k2 : w3.frozen? ⟨p4, 0, none⟩ = false := (hb.frozen (p := ⟨p4, 0, none⟩) (by show p4 < _; omega)).trans k2
          replace k3 : w3.frozen? ⟨p4, 1, none⟩ = false := (hb.frozen (p := ⟨p4, 1, none⟩) (by show p4 < _; omega)).trans k3
          replace R4 := R4.below (hb.mono (by omega))
          replace B4 := bel_c B4 (Nat.le_refl _) hb
          have zw3 := hb.size
          clear hb
          have HI := Lib.hid R4
          have HB := Lib.hid B4
          clear R4 B4
          go_wp2_with fail
          refine bodyPost_ret (v := .tuple #[.agg #[.int .i64 n, .slice a4 xs.length c4], .bool false]) (by simp [results, Try.results15, go_sem, d0, d1]) rfl ⟨.slice a4 xs.length c4, by rw [HE.out.2], ?_, ?_⟩
          · rw [HE.out.1]
            refine CellIn.wide (lo := l4) (hi := h4) ?_ (by omega) (by simp [World.setCell]; omega)
            refine CellIn.set_far (CellIn.set_far HI.out ?_ _) ?_ _ <;> (simp <;> omega)
          · refine Below.setCell (Below.setCell HB.out ?_ _) ?_ _ <;> (simp <;> omega)
      · have HH := Lib.hid hh
        have HE := Lib.hid (with_no (n := n) (xs := xs) (x := x) (y := y) (c := ⟨s, a, b⟩) (fun h => hh ⟨h.1, h.2.2⟩))
        clear hh
        go_wp2_with fail
        refine (HasC_no lo hi n x y _ xs _ HRC4.out (by omega) HH.out).mono ?_
        rintro e w2 ⟨rfl, hb⟩
        replace c0 := kept hb c0
        replace c1 := kept hb c1
        replace m0 := kept hb m0
        replace m1 := kept hb m1
        replace m2 := kept hb m2
        replace d0 := kept hb d0
        replace d1 := kept hb d1
        replace k0 := kept hb k0
        replace k1 := kept hb k1
        replace g0_ : w2.frozen? ⟨w.heap.size + 1 + 1, 0, none⟩ = false := (hb.frozen (p := ⟨w.heap.size + 1 + 1, 0, none⟩) (by show w.heap.size + 1 + 1 < _; omega)).trans g0_
        replace g1_ : w2.frozen? ⟨w.heap.size + 1 + 1, 1, none⟩ = false := (hb.frozen (p := ⟨w.heap.size + 1 + 1, 1, none⟩) (by show w.heap.size + 1 + 1 < _; omega)).trans g1_
        replace k2 : w2.frozen? ⟨p4, 0, none⟩ = false := (hb.frozen (p := ⟨p4, 0, none⟩) (by show p4 < _; omega)).trans k2
        replace k3 : w2.frozen? ⟨p4, 1, none⟩ = false := (hb.frozen (p := ⟨p4, 1, none⟩) (by show p4 < _; omega)).trans k3
        replace R4 := R4.below (hb.mono (by omega))
        replace B4 := bel_c B4 (Nat.le_refl _) hb
        have zw2 := hb.size
        clear hb
        have HI := Lib.hid R4
        have HB := Lib.hid B4
        clear R4 B4
        go_wp2_with fail
        refine bodyPost_ret (v := .tuple #[.agg #[.int .i64 n, .slice a4 xs.length c4], .bool false]) (by simp [results, Try.results15, go_sem, d0, d1]) rfl ⟨.slice a4 xs.length c4, by rw [HE.out.2], ?_, ?_⟩
        · rw [HE.out.1]
          refine CellIn.wide (lo := l4) (hi := h4) ?_ (by omega) (by simp [World.setCell]; omega)
          refine CellIn.set_far (CellIn.set_far HI.out ?_ _) ?_ _ <;> (simp <;> omega)
        · refine Below.setCell (Below.setCell HB.out ?_ _) ?_ _ <;> (simp <;> omega)

end Go.Proofs.Ytoljnokfhgopoaa
