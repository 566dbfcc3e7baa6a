/- Exchanges: the program's ExchangeBlock. Sameness: the views of a block as a group that acts. Pure. -/
import Derived.Test.YtfidnhhlcdbaeaaGreatDoorM14
import Derived.Test.YtfidnhhlcdbaeaaGreatDoorM15
import Derived.Deep.DeepCutAuto
import Derived.Deep.RegionHeld3
import Derived.Test.YtfidnhhlcdbaeaaGreatDoorM07
import Derived.Test.YtfidnhhlcdbaeaaGreatDoorM11

namespace Go.Proofs.YtfidnhhlcdbaeaaGreatDoor
open Go.ChangeShapes Go.WideShapes Go.ChangeAt Go.RowKit

/-- A row is laid in full in the memory. -/
def Lies (w : World) (ad : Option Addr) (xs : List C3) : Prop := xs.length = 0 ∨ ∃ x, ad = some x ∧ ∀ W, Below w.heap.size w W → ∀ (j : Nat) u, (places xs)[j]? = some u → W.cell? (x.add j) = some u
theorem CellIn.lies {lo hi n cap : Nat} {w : World} {ad : Option Addr} {xs : List C3} (r : CellIn lo hi w (.slice ad n cap) xs) (hn : n = xs.length) (hhi : hi ≤ w.heap.size) : Lies w ad xs := by
  subst hn
  rcases Nat.eq_zero_or_pos xs.length with h0 | h0
  · exact .inl h0
  · obtain ⟨g, rfl, _, _, hn⟩ := r.news h0
    exact .inr ⟨_, rfl, fun W hb => hn W (hb.mono hhi)⟩
theorem add_off (g o j : Nat) : (⟨g, o, none⟩ : Addr).add j = ⟨g, o + j, none⟩ := by unfold Addr.add; split <;> simp_all
theorem CellO.lies {lo hi n cap : Nat} {w : World} {ad : Option Addr} {xs : List C3} (r : CellO lo hi w (.slice ad n cap) xs) (hhi : hi ≤ w.heap.size) : Lies w ad xs := by
  obtain ⟨hl, ⟨rfl, _⟩ | ⟨g, k, c, hv, _, hlt, hc⟩⟩ := r
  · exact .inl rfl
  · simp only [Value.slice.injEq] at hv
    refine .inr ⟨_, hv.1, fun W hb j u hu => ?_⟩
    have hj : j < (places xs).length := by
      rcases Nat.lt_or_ge j (places xs).length with h | h
      · exact h
      · rw [List.getElem?_eq_none h] at hu; cases hu
    rw [places_length] at hj
    have hi3 : j / 3 < xs.length := by omega
    obtain ⟨⟨e0, e1, e2⟩, _⟩ := hc (j / 3) hi3
    obtain ⟨p0, p1, p2⟩ := places_at xs (j / 3) hi3
    have hg : g < w.heap.size := by omega
    have key : ∀ i : Nat, W.cell? ⟨g, i, none⟩ = w.cell? ⟨g, i, none⟩ := fun i => hb.cell (p := ⟨g, i, none⟩) hg
    rw [add_off, key]
    have hj3 : j = j / 3 * 3 ∨ j = j / 3 * 3 + 1 ∨ j = j / 3 * 3 + 2 := by omega
    rcases hj3 with h | h | h
    · rw [← h] at p0; rw [p0] at hu; obtain rfl := Option.some.inj hu
      rw [show k * 3 + j = (k + j / 3) * 3 by omega]; exact e0
    · rw [← h] at p1; rw [p1] at hu; obtain rfl := Option.some.inj hu
      rw [show k * 3 + j = (k + j / 3) * 3 + 1 by omega]; exact e1
    · rw [← h] at p2; rw [p2] at hu; obtain rfl := Option.some.inj hu
      rw [show k * 3 + j = (k + j / 3) * 3 + 2 by omega]; exact e2
/-- The first k cells are exchanged. -/
def ExUp (zs : List Int) (k : Nat) (xs ys : List C3) : Prop := ys.length = xs.length ∧ (∀ j, j < k → ys.getD j C3.zero = exC zs (xs.getD j C3.zero)) ∧ ∀ j, k ≤ j → ys.getD j C3.zero = xs.getD j C3.zero
theorem ExUp.start (zs : List Int) (xs : List C3) : ExUp zs 0 xs xs := ⟨rfl, fun j hj => by omega, fun _ _ => rfl⟩
theorem ExUp.step {zs : List Int} {k : Nat} {xs ys : List C3} (h : ExUp zs k xs ys) (hk : k < xs.length) : ExUp zs (k + 1) xs (ys.set k (exC zs (xs.getD k C3.zero))) := by
  obtain ⟨h1, h2, h3⟩ := h
  refine ⟨by rw [List.length_set]; exact h1, fun j hj => ?_, fun j hj => ?_⟩
  · by_cases e : j = k
    · subst e
      simp [List.getD, h1, hk]
    · rw [← h2 j (by omega)]
      simp [List.getD, show ¬ k = j by omega]
  · rw [← h3 j (by omega)]
    simp [List.getD, show ¬ k = j by omega]
theorem ExUp.all {zs : List Int} {xs ys : List C3} (h : ExUp zs xs.length xs ys) : ys = exL zs xs := by
  obtain ⟨h1, h2, _⟩ := h
  apply List.ext_getElem (by rw [h1, exL_length])
  intro i a b
  have := h2 i (by omega)
  have hx : i < xs.length := by omega
  simpa [List.getD, a, hx, exL] using this
set_option maxRecDepth 100000 in
set_option maxHeartbeats 2000000 in
theorem ImplExchangeBlock_no (n : Int) (ad : Option Addr) (cap : Nat) (vl : Value) (xs : List C3) (w : World) (hl : xs.length ≤ 1048576) (hr : Lies w ad xs)
  (hbk : ∀ W, Below w.heap.size w W → Calls Tryz.prog 32 #[.agg #[.int .i64 n, .slice ad xs.length cap]] W fun e w' => e = .returned (.bool false) ∧ Below W.heap.size W w') :
  Calls Tryz.prog 51 #[.agg #[.int .i64 n, .slice ad xs.length cap], vl] w (FreshBB n xs false w) := by
  obtain ⟨i0, hi0, hz0, hz1, hz2⟩ := info_parts3 info_cell
  have HBK := Lib.hid hbk
  clear hbk
  by_cases hx : xs = []
  · subst hx
    clear hr hl
    cases ad
    all_goals
      go_enter Tryz.func51, Tryz.ntmps51
      go_wp2_with fail
      go_region
      go_wp2_with fail
      refine (HBK.out _ (by repeat (first | exact Below.refl _ _ | refine bel_dr ?_ | refine bel_n ?_ (Nat.le_refl _) _))).mono ?_
      rintro e w2 ⟨rfl, hb2⟩
      have d0 := kept (p := ⟨w.heap.size + 1, 0, none⟩) (x := .int .i64 0) hb2 (by go_simp)
      have d1 := kept (p := ⟨w.heap.size + 1, 1, none⟩) (x := .slice none 0 0) hb2 (by go_simp)
      have g0 := keptF (p := ⟨w.heap.size + 1, 0, none⟩) (x := .int .i64 0) hb2 (by go_simp) (by go_simp)
      have g1 := keptF (p := ⟨w.heap.size + 1, 1, none⟩) (x := .slice none 0 0) hb2 (by go_simp) (by go_simp)
      have k0 := kept (p := ⟨w.heap.size + 1 + 1, 0, none⟩) (x := .int .i64 n) hb2 (by go_simp)
      have k1 := kept (p := ⟨w.heap.size + 1 + 1, 1, none⟩) (x := .slice none 0 0) hb2 (by go_simp)
      have hB : Below w.heap.size w w2 := bel_c (by repeat (first | exact Below.refl _ _ | refine bel_dr ?_ | refine bel_n ?_ (Nat.le_refl _) _)) (Nat.le_refl _) hb2
      have HB := Lib.hid hB
      clear hB hb2 HBK
      go_wp2_with fail
      refine bodyPost_ret (v := .tuple #[.agg #[.int .i64 n, .slice none 0 0], .bool false]) (by simp [results, Tryz.results51, go_sem, d0, d1]) rfl ⟨.slice none 0 0, rfl, ⟨by simp, .inl ⟨rfl, _, _, rfl⟩⟩, ?_⟩
      refine Below.setCell (Below.setCell HB.out ?_ _) ?_ _ <;> (simp <;> omega)
  · have h0 : 0 < xs.length := by rcases Nat.eq_zero_or_pos xs.length with h | h; exact absurd (List.length_eq_zero_iff.1 h) hx; exact h
    obtain ⟨x, rfl, hn⟩ : ∃ x, ad = some x ∧ ∀ W, Below w.heap.size w W → ∀ (j : Nat) u, (places xs)[j]? = some u → W.cell? (x.add j) = some u := by rcases hr with h | h; omega; exact h
    have HR := Lib.hid hn
    clear hn hr hx
    go_enter Tryz.func51, Tryz.ntmps51
    go_upto_region 1 with fail
    have B := bel_n (bel0 w (.cells #[.int .i64 n, .slice (some x) xs.length cap] 26)) (Nat.le_refl _) (.cells #[.int .i64 0, .slice none 0 0] 26)
    have c0 : ((w.alloc (.cells #[.int .i64 n, .slice (some x) xs.length cap] 26)).alloc (.cells #[.int .i64 0, .slice none 0 0] 26)).cell? ⟨w.heap.size, 0, none⟩ = some (.int .i64 n) := by go_simp
    have c1 : ((w.alloc (.cells #[.int .i64 n, .slice (some x) xs.length cap] 26)).alloc (.cells #[.int .i64 0, .slice none 0 0] 26)).cell? ⟨w.heap.size, 1, none⟩ = some (.slice (some x) xs.length cap) := by go_simp
    have d0 : ((w.alloc (.cells #[.int .i64 n, .slice (some x) xs.length cap] 26)).alloc (.cells #[.int .i64 0, .slice none 0 0] 26)).cell? ⟨w.heap.size + 1, 0, none⟩ = some (.int .i64 0) := by go_simp
    have d1 : ((w.alloc (.cells #[.int .i64 n, .slice (some x) xs.length cap] 26)).alloc (.cells #[.int .i64 0, .slice none 0 0] 26)).cell? ⟨w.heap.size + 1, 1, none⟩ = some (.slice none 0 0) := by go_simp
    have b0 : ((w.alloc (.cells #[.int .i64 n, .slice (some x) xs.length cap] 26)).alloc (.cells #[.int .i64 0, .slice none 0 0] 26)).frozen? ⟨w.heap.size, 0, none⟩ = false := by go_simp
    have b1 : ((w.alloc (.cells #[.int .i64 n, .slice (some x) xs.length cap] 26)).alloc (.cells #[.int .i64 0, .slice none 0 0] 26)).frozen? ⟨w.heap.size, 1, none⟩ = false := by go_simp
    have g0 : ((w.alloc (.cells #[.int .i64 n, .slice (some x) xs.length cap] 26)).alloc (.cells #[.int .i64 0, .slice none 0 0] 26)).frozen? ⟨w.heap.size + 1, 0, none⟩ = false := by go_simp
    have g1 : ((w.alloc (.cells #[.int .i64 n, .slice (some x) xs.length cap] 26)).alloc (.cells #[.int .i64 0, .slice none 0 0] 26)).frozen? ⟨w.heap.size + 1, 1, none⟩ = false := by go_simp
    have zg : w.heap.size + 1 + 1 = ((w.alloc (.cells #[.int .i64 n, .slice (some x) xs.length cap] 26)).alloc (.cells #[.int .i64 0, .slice none 0 0] 26)).heap.size := by simp
    generalize ((w.alloc (.cells #[.int .i64 n, .slice (some x) xs.length cap] 26)).alloc (.cells #[.int .i64 0, .slice none 0 0] 26)) = g7 at *
    have D0 : Below g7.heap.size g7 g7.drew := ⟨rfl, rfl, rfl, Nat.le_refl _, fun _ _ => rfl⟩
    have KP : ∀ u v, Below u.heap.size u v → (u.cell? ⟨w.heap.size, 0, none⟩ = some (.int .i64 n) ∧ u.cell? ⟨w.heap.size, 1, none⟩ = some (.slice (some x) xs.length cap)) → (v.cell? ⟨w.heap.size, 0, none⟩ = some (.int .i64 n) ∧ v.cell? ⟨w.heap.size, 1, none⟩ = some (.slice (some x) xs.length cap)) := fun u v hb h => ⟨kept hb h.1, kept hb h.2⟩
    have KS : ∀ (u : World) (p : Nat) (v0 v1 : Value), w.heap.size < p → (u.cell? ⟨w.heap.size, 0, none⟩ = some (.int .i64 n) ∧ u.cell? ⟨w.heap.size, 1, none⟩ = some (.slice (some x) xs.length cap)) → (((u.setCell ⟨p, 0, none⟩ v0).setCell ⟨p, 1, none⟩ v1).cell? ⟨w.heap.size, 0, none⟩ = some (.int .i64 n) ∧ ((u.setCell ⟨p, 0, none⟩ v0).setCell ⟨p, 1, none⟩ v1).cell? ⟨w.heap.size, 1, none⟩ = some (.slice (some x) xs.length cap)) := by
      intro u p v0 v1 hp h
      have h1 : p ≠ w.heap.size := by omega
      have f : ∀ (q o : Nat), p ≠ q → ((u.setCell ⟨p, 0, none⟩ v0).setCell ⟨p, 1, none⟩ v1).cell? ⟨q, o, none⟩ = u.cell? ⟨q, o, none⟩ := fun q o hq => by
        rw [World.cell?_setCell_other _ _ _ _ (by simp), World.cell?_setCell_other _ _ _ _ (by simp)]
      simpa only [f _ _ h1] using h
    have HO : ∀ (W : World) (q : Nat), W.ownsRow q 50 3 (.slice none 0 0) 0 [] := fun W q => ⟨rfl, .inl ⟨rfl, rfl⟩⟩
    have N1 := Lib.hid (HR.out g7.drew (bel_c B (Nat.le_refl _) D0))
    have N2 := Lib.hid (HR.out (g7.drew.alloc (.cells #[.int .i64 0, .slice none 0 0] 26)) (bel_n (bel_c B (Nat.le_refl _) D0) (Nat.le_refl _) (.cells #[.int .i64 0, .slice none 0 0] 26)))
    clear HR
    go_cut [6] (fun q wx => WR n true xs g7 q (.bool true) wx)
    case first =>
      go_region_held3 (fun w' => w'.cell? ⟨w.heap.size, 0, none⟩ = some (.int .i64 n) ∧ w'.cell? ⟨w.heap.size, 1, none⟩ = some (.slice (some x) xs.length cap)) (first | exact S4 | exact KP _ _ (bel0 _ _) S4 | exact KS _ _ _ _ (by omega) S4 | (refine KP _ _ (by assumption) ?_; assumption) | exact KP _ _ (bel0 _ _) (by assumption) | go_keep)
        ((first
          | (refine step_append_lies _ (by rfl) _ _ _ (by rfl) g7.heap.size 50 i0 _ 3 24 Tryz.underlying24 hi0 hz0 hz1 hz2 rfl (by omega) _ 0 _ (by rfl) (HO _ _) x xs.length cap (places xs) (by rfl) (places_length xs) N1.out (places_one xs) h0 (by unfold maxLen; omega) (by omega) (by simp) g7.heap.size (by simp) ?_; intro gg cc w1 hown1 hgrow hat hlt1; have hbw : Below g7.heap.size g7.drew w1 := (Below.refl g7.heap.size _).grown hgrow (by simp) (by intro k hk; cases hk); have R1 := Lib.hid (CellIn.of_owns (xs := xs) (by simpa using hown1) hl); have hbz : Below g7.heap.size g7 w1 := D0.trans hbw; have S4 := KP g7.drew w1 hbw (by assumption); clear hown1 hgrow hat hlt1)
          | (refine step_append_lies _ (by rfl) _ _ _ (by rfl) (g7.heap.size + 1) 50 i0 _ 3 24 Tryz.underlying24 hi0 hz0 hz1 hz2 rfl (by omega) _ 0 _ (by rfl) (HO _ _) x xs.length cap (places xs) (by rfl) (places_length xs) N2.out (places_one xs) h0 (by unfold maxLen; omega) (by omega) (by simp) (g7.heap.size + 1) (by simp) ?_; intro gg cc w1 hown1 hgrow hat hlt1; have hbw : Below (g7.heap.size + 1) (g7.drew.alloc (.cells #[.int .i64 0, .slice none 0 0] 26)) w1 := (Below.refl (g7.heap.size + 1) _).grown hgrow (by simp) (by intro k hk; cases hk); have R1 := Lib.hid (CellIn.of_owns (xs := xs) (by simpa using hown1) hl); have hbz : Below g7.heap.size g7 w1 := (bel_n D0 (Nat.le_refl _) (.cells #[.int .i64 0, .slice none 0 0] 26)).trans (hbw.mono (by omega)); have bz3 := Lib.hid (show BoxB g7.heap.size (.int .i64 0) (.slice none 0 0) w1 from (BoxB.new g7.drew (.int .i64 0) (.slice none 0 0) 26).below hbw (Nat.lt_succ_self _)); obtain ⟨k0, k1, k2, k3⟩ := bz3.out; have S4 := KP (g7.drew.alloc (.cells #[.int .i64 0, .slice none 0 0] 26)) w1 (by simpa using hbw) (by assumption); clear hown1 hgrow hat hlt1)))
      all_goals
        go_wp2_with fail
        go_meet
        first
        | exact WR.old R1.out bz3.out hbz (Nat.le_succ _) (Nat.le_refl _) (.inl (Nat.lt_succ_self _))
        | exact WR.new R1.out hbz (Nat.le_refl _)
    case rest =>
      obtain ⟨p4, a4, c4, l4, h4, rfl, -, bx4, R4, ho4, zl4, zp4, zh4, hb⟩ := hcut
      have HP := Lib.hid ((show BoxB (w.heap.size) (.int .i64 n) (.slice (some x) xs.length cap) g7 from ⟨c0, c1, b0, b1⟩).below hb (by omega))
      have HD := Lib.hid ((show BoxB (w.heap.size + 1) (.int .i64 0) (.slice none 0 0) g7 from ⟨d0, d1, g0, g1⟩).below hb (by omega))
      have HX := Lib.hid bx4
      have HR4 := Lib.hid R4
      have HB4 := Lib.hid (bel_c B (Nat.le_refl _) hb)
      have HZ : Hid (w.heap.size + 1 < l4 ∧ w.heap.size + 1 < p4 ∧ h4 ≤ wc.heap.size ∧ (p4 < l4 ∨ h4 ≤ p4) ∧ p4 < wc.heap.size ∧ w.heap.size + 1 < wc.heap.size) := Lib.hid (by have h1 := bx4.lt; have h2 := hb.size; exact ⟨by omega, by omega, zh4, ho4, h1, by omega⟩)
      clear bx4 R4 ho4 zl4 zp4 zh4 hb B c0 c1 d0 d1 b0 b1 g0 g1 zg D0 KP KS HO N1 N2
      obtain ⟨c0, c1, _, _⟩ := HP.out
      go_wp2_with fail
      refine (HBK.out _ HB4.out).mono ?_
      rintro e w2 ⟨rfl, hb2⟩
      clear c0 c1
      have HI := Lib.hid (HR4.out.below (hb2.mono HZ.out.2.2.1))
      have HBB := Lib.hid (bel_c HB4.out (Nat.le_refl _) hb2)
      obtain ⟨d0, d1, g0, g1⟩ := HD.out.below hb2 HZ.out.2.2.2.2.2
      obtain ⟨k0, k1, _, _⟩ := HX.out.below hb2 HZ.out.2.2.2.2.1
      have hsz2 := hb2.size
      clear hb2
      go_wp2_with fail
      refine bodyPost_ret (v := .tuple #[.agg #[.int .i64 n, .slice a4 xs.length c4], .bool false]) (by simp [results, Tryz.results51, go_sem, d0, d1]) rfl ⟨.slice a4 xs.length c4, rfl, ?_, ?_⟩
      · refine CellIn.wide (lo := l4) (hi := h4) ?_ (by have := HZ.out; omega) (by have := HZ.out; simp [World.setCell]; omega)
        refine CellIn.set_far (CellIn.set_far HI.out ?_ _) ?_ _ <;> (have := HZ.out; simp <;> omega)
      · refine Below.setCell (Below.setCell HBB.out ?_ _) ?_ _ <;> (simp <;> omega)
set_option maxRecDepth 100000 in
set_option maxHeartbeats 4000000 in
theorem ImplExchangeBlock_yes (lo hi lo2 hi2 : Nat) (n : Int) (ad : Option Addr) (cap : Nat) (vl : Value) (xs : List C3) (zs : List Int) (w : World) (r : CellIn lo hi w (.slice ad xs.length cap) xs) (hhi : hi ≤ w.heap.size) (rl : IntO lo2 hi2 w vl zs) (hhi2 : hi2 ≤ w.heap.size) (hbk : BlkOk n xs) :
  Calls Tryz.prog 51 #[.agg #[.int .i64 n, .slice ad xs.length cap], vl] w (FreshBB n (exA n xs zs) (exK n xs zs) w) := by
  obtain ⟨i0, hi0, hz0, hz1, hz2⟩ := info_parts3 info_cell
  obtain ⟨al, cl, rfl⟩ := rl.form
  have hl := r.1
  have hll := rl.1
  have h0 : 0 < xs.length := by have h1 := hbk.2.1; have h2 := (sq_wrap hbk.1.1 hbk.1.2).2.1; omega
  obtain ⟨x, rfl, hn⟩ : ∃ x, ad = some x ∧ ∀ W, Below w.heap.size w W → ∀ (j : Nat) u, (places xs)[j]? = some u → W.cell? (x.add j) = some u := by rcases r.lies rfl hhi with h | h; omega; exact h
  have HR := Lib.hid hn
  have HRC := Lib.hid (fun W (hb : Below w.heap.size w W) => r.below (hb.mono hhi))
  have HRL := Lib.hid (fun W (hb : Below w.heap.size w W) => rl.below (hb.mono hhi2))
  have HB := Lib.hid hbk
  clear hn r rl hbk
  go_enter Tryz.func51, Tryz.ntmps51
  go_upto_region 1 with fail
  have B := bel_n (bel0 w (.cells #[.int .i64 n, .slice (some x) xs.length cap] 26)) (Nat.le_refl _) (.cells #[.int .i64 0, .slice none 0 0] 26)
  have c0 : ((w.alloc (.cells #[.int .i64 n, .slice (some x) xs.length cap] 26)).alloc (.cells #[.int .i64 0, .slice none 0 0] 26)).cell? ⟨w.heap.size, 0, none⟩ = some (.int .i64 n) := by go_simp
  have c1 : ((w.alloc (.cells #[.int .i64 n, .slice (some x) xs.length cap] 26)).alloc (.cells #[.int .i64 0, .slice none 0 0] 26)).cell? ⟨w.heap.size, 1, none⟩ = some (.slice (some x) xs.length cap) := by go_simp
  have d0 : ((w.alloc (.cells #[.int .i64 n, .slice (some x) xs.length cap] 26)).alloc (.cells #[.int .i64 0, .slice none 0 0] 26)).cell? ⟨w.heap.size + 1, 0, none⟩ = some (.int .i64 0) := by go_simp
  have d1 : ((w.alloc (.cells #[.int .i64 n, .slice (some x) xs.length cap] 26)).alloc (.cells #[.int .i64 0, .slice none 0 0] 26)).cell? ⟨w.heap.size + 1, 1, none⟩ = some (.slice none 0 0) := by go_simp
  have b0 : ((w.alloc (.cells #[.int .i64 n, .slice (some x) xs.length cap] 26)).alloc (.cells #[.int .i64 0, .slice none 0 0] 26)).frozen? ⟨w.heap.size, 0, none⟩ = false := by go_simp
  have b1 : ((w.alloc (.cells #[.int .i64 n, .slice (some x) xs.length cap] 26)).alloc (.cells #[.int .i64 0, .slice none 0 0] 26)).frozen? ⟨w.heap.size, 1, none⟩ = false := by go_simp
  have g0 : ((w.alloc (.cells #[.int .i64 n, .slice (some x) xs.length cap] 26)).alloc (.cells #[.int .i64 0, .slice none 0 0] 26)).frozen? ⟨w.heap.size + 1, 0, none⟩ = false := by go_simp
  have g1 : ((w.alloc (.cells #[.int .i64 n, .slice (some x) xs.length cap] 26)).alloc (.cells #[.int .i64 0, .slice none 0 0] 26)).frozen? ⟨w.heap.size + 1, 1, none⟩ = false := by go_simp
  have zg : w.heap.size + 1 + 1 = ((w.alloc (.cells #[.int .i64 n, .slice (some x) xs.length cap] 26)).alloc (.cells #[.int .i64 0, .slice none 0 0] 26)).heap.size := by simp
  generalize ((w.alloc (.cells #[.int .i64 n, .slice (some x) xs.length cap] 26)).alloc (.cells #[.int .i64 0, .slice none 0 0] 26)) = g7 at *
  have D0 : Below g7.heap.size g7 g7.drew := ⟨rfl, rfl, rfl, Nat.le_refl _, fun _ _ => rfl⟩
  have KP : ∀ u v, Below u.heap.size u v → (u.cell? ⟨w.heap.size, 0, none⟩ = some (.int .i64 n) ∧ u.cell? ⟨w.heap.size, 1, none⟩ = some (.slice (some x) xs.length cap)) → (v.cell? ⟨w.heap.size, 0, none⟩ = some (.int .i64 n) ∧ v.cell? ⟨w.heap.size, 1, none⟩ = some (.slice (some x) xs.length cap)) := fun u v hb h => ⟨kept hb h.1, kept hb h.2⟩
  have KS : ∀ (u : World) (p : Nat) (v0 v1 : Value), w.heap.size < p → (u.cell? ⟨w.heap.size, 0, none⟩ = some (.int .i64 n) ∧ u.cell? ⟨w.heap.size, 1, none⟩ = some (.slice (some x) xs.length cap)) → (((u.setCell ⟨p, 0, none⟩ v0).setCell ⟨p, 1, none⟩ v1).cell? ⟨w.heap.size, 0, none⟩ = some (.int .i64 n) ∧ ((u.setCell ⟨p, 0, none⟩ v0).setCell ⟨p, 1, none⟩ v1).cell? ⟨w.heap.size, 1, none⟩ = some (.slice (some x) xs.length cap)) := by
    intro u p v0 v1 hp h
    have h1 : p ≠ w.heap.size := by omega
    have f : ∀ (q o : Nat), p ≠ q → ((u.setCell ⟨p, 0, none⟩ v0).setCell ⟨p, 1, none⟩ v1).cell? ⟨q, o, none⟩ = u.cell? ⟨q, o, none⟩ := fun q o hq => by
      rw [World.cell?_setCell_other _ _ _ _ (by simp), World.cell?_setCell_other _ _ _ _ (by simp)]
    simpa only [f _ _ h1] using h
  have HO : ∀ (W : World) (q : Nat), W.ownsRow q 50 3 (.slice none 0 0) 0 [] := fun W q => ⟨rfl, .inl ⟨rfl, rfl⟩⟩
  have N1 := Lib.hid (HR.out g7.drew (bel_c B (Nat.le_refl _) D0))
  have N2 := Lib.hid (HR.out (g7.drew.alloc (.cells #[.int .i64 0, .slice none 0 0] 26)) (bel_n (bel_c B (Nat.le_refl _) D0) (Nat.le_refl _) (.cells #[.int .i64 0, .slice none 0 0] 26)))
  clear HR
  go_cut [6] (fun q wx => WR n true xs g7 q (.bool true) wx)
  case first =>
    go_region_held3 (fun w' => w'.cell? ⟨w.heap.size, 0, none⟩ = some (.int .i64 n) ∧ w'.cell? ⟨w.heap.size, 1, none⟩ = some (.slice (some x) xs.length cap)) (first | exact S4 | exact KP _ _ (bel0 _ _) S4 | exact KS _ _ _ _ (by omega) S4 | (refine KP _ _ (by assumption) ?_; assumption) | exact KP _ _ (bel0 _ _) (by assumption) | go_keep)
      ((first
        | (refine step_append_lies _ (by rfl) _ _ _ (by rfl) g7.heap.size 50 i0 _ 3 24 Tryz.underlying24 hi0 hz0 hz1 hz2 rfl (by omega) _ 0 _ (by rfl) (HO _ _) x xs.length cap (places xs) (by rfl) (places_length xs) N1.out (places_one xs) h0 (by unfold maxLen; omega) (by omega) (by simp) g7.heap.size (by simp) ?_; intro gg cc w1 hown1 hgrow hat hlt1; have hbw : Below g7.heap.size g7.drew w1 := (Below.refl g7.heap.size _).grown hgrow (by simp) (by intro k hk; cases hk); have R1 := Lib.hid (CellIn.of_owns (xs := xs) (by simpa using hown1) hl); have hbz : Below g7.heap.size g7 w1 := D0.trans hbw; have S4 := KP g7.drew w1 hbw (by assumption); clear hown1 hgrow hat hlt1)
        | (refine step_append_lies _ (by rfl) _ _ _ (by rfl) (g7.heap.size + 1) 50 i0 _ 3 24 Tryz.underlying24 hi0 hz0 hz1 hz2 rfl (by omega) _ 0 _ (by rfl) (HO _ _) x xs.length cap (places xs) (by rfl) (places_length xs) N2.out (places_one xs) h0 (by unfold maxLen; omega) (by omega) (by simp) (g7.heap.size + 1) (by simp) ?_; intro gg cc w1 hown1 hgrow hat hlt1; have hbw : Below (g7.heap.size + 1) (g7.drew.alloc (.cells #[.int .i64 0, .slice none 0 0] 26)) w1 := (Below.refl (g7.heap.size + 1) _).grown hgrow (by simp) (by intro k hk; cases hk); have R1 := Lib.hid (CellIn.of_owns (xs := xs) (by simpa using hown1) hl); have hbz : Below g7.heap.size g7 w1 := (bel_n D0 (Nat.le_refl _) (.cells #[.int .i64 0, .slice none 0 0] 26)).trans (hbw.mono (by omega)); have bz3 := Lib.hid (show BoxB g7.heap.size (.int .i64 0) (.slice none 0 0) w1 from (BoxB.new g7.drew (.int .i64 0) (.slice none 0 0) 26).below hbw (Nat.lt_succ_self _)); obtain ⟨k0, k1, k2, k3⟩ := bz3.out; have S4 := KP (g7.drew.alloc (.cells #[.int .i64 0, .slice none 0 0] 26)) w1 (by simpa using hbw) (by assumption); clear hown1 hgrow hat hlt1)))
    all_goals
      go_wp2_with fail
      go_meet
      first
      | exact WR.old R1.out bz3.out hbz (Nat.le_succ _) (Nat.le_refl _) (.inl (Nat.lt_succ_self _))
      | exact WR.new R1.out hbz (Nat.le_refl _)
  case rest =>
    obtain ⟨p4, a4, c4, l4, h4, rfl, -, bx4, R4, ho4, zl4, zp4, zh4, hb⟩ := hcut
    have HP := Lib.hid ((show BoxB (w.heap.size) (.int .i64 n) (.slice (some x) xs.length cap) g7 from ⟨c0, c1, b0, b1⟩).below hb (by omega))
    have HD := Lib.hid ((show BoxB (w.heap.size + 1) (.int .i64 0) (.slice none 0 0) g7 from ⟨d0, d1, g0, g1⟩).below hb (by omega))
    have HX := Lib.hid bx4
    have HR4 := Lib.hid R4
    have HB4 := Lib.hid (bel_c B (Nat.le_refl _) hb)
    have HZ : Hid (w.heap.size + 1 < l4 ∧ w.heap.size + 1 < p4 ∧ h4 ≤ wc.heap.size ∧ (p4 < l4 ∨ h4 ≤ p4) ∧ p4 < wc.heap.size ∧ w.heap.size + 1 < wc.heap.size) := Lib.hid (by have h1 := bx4.lt; have h2 := hb.size; exact ⟨by omega, by omega, zh4, ho4, h1, by omega⟩)
    clear bx4 R4 ho4 zl4 zp4 zh4 hb B c0 c1 d0 d1 b0 b1 g0 g1 zg D0 KP KS HO N1 N2
    obtain ⟨c0, c1, _, _⟩ := HP.out
    go_wp2_with fail
    refine (ImplBlockOk_yes lo hi n _ xs _ (HRC.out _ HB4.out) (Nat.le_trans hhi HB4.out.size) HB.out).mono ?_
    rintro e w2 ⟨rfl, hb2⟩
    have HB2 := Lib.hid (bel_c HB4.out (Nat.le_refl _) hb2)
    clear c0 c1 HP
    by_cases hz : LstOk zs
    · have HL := Lib.hid hz
      have HE := Lib.hid (exA_yes (n := n) ⟨HB.out, hz⟩)
      clear hz
      obtain ⟨gg, rfl, _⟩ := (HR4.out.below (hb2.mono HZ.out.2.2.1)).at (Below.refl _ _) h0
      have HI2 := Lib.hid (HR4.out.below (hb2.mono HZ.out.2.2.1))
      have HD2 := Lib.hid (HD.out.below hb2 HZ.out.2.2.2.2.2)
      have HX2 := Lib.hid (HX.out.below hb2 HZ.out.2.2.2.2.1)
      have hs2 : wc.heap.size ≤ w2.heap.size := hb2.size
      have q1 := HX2.out.2.1
      clear hb2 HR4 HD HX HB4
      go_wp2_with fail
      refine (ImplListOk_eq lo2 hi2 _ zs _ (HRL.out _ HB2.out)).mono ?_
      rw [← lst_yes HL.out]
      rintro e w' ⟨rfl, hw⟩
      have hw' := hw.symm
      subst hw'
      clear hw
      go_wp2_with fail
      clear q1
      go_loopw [27] (fun i wr => ∃ (k : Nat) (ys : List C3), k ≤ xs.length ∧ i = .int .i64 k ∧ Hid (ExUp zs k xs ys) ∧ Hid (CellIn l4 h4 wr (.slice (some ⟨gg, 0, none⟩) xs.length c4) ys) ∧ Hid (BoxB p4 (.int .i64 n) (.slice (some ⟨gg, 0, none⟩) xs.length c4) wr) ∧ Hid (BoxB (w.heap.size + 1) (.int .i64 0) (.slice none 0 0) wr) ∧ Hid (Below w.heap.size w wr) ∧ w2.heap.size ≤ wr.heap.size) (fun i _ => xs.length - (intOf i).toNat)
      case atStart => exact ⟨0, xs, Nat.zero_le _, rfl, Lib.hid (ExUp.start zs xs), HI2, HX2, HD2, HB2, Nat.le_refl _⟩
      case round =>
        clear HI2 HX2 HD2 HB2
        obtain ⟨k, ys, hk, rfl, hup, hin, hx, hd, hbel, hsz⟩ := hrel
        by_cases hlt : k < xs.length
        · have hyl : ys.length = xs.length := hup.out.1
          obtain ⟨g2, hg2, hq, hq1, ⟨e0, e1, e2⟩, f0, f1, f2⟩ := hin.out.at (Below.refl _ _) (i := k) (by omega)
          simp only [Option.some.injEq, Addr.mk.injEq, and_true] at hg2
          subst hg2
          have hok := blk_at HB.out hlt
          have hzz : exZ zs (xs.getD k C3.zero) = exC zs (xs.getD k C3.zero) := exZ_yes hok HL.out
          have hyk : ys.getD k C3.zero = xs.getD k C3.zero := hup.out.2.2 k (Nat.le_refl _)
          rw [hyk] at e0 e1 e2
          have CT : Hid (∀ u : World, Below w.heap.size w u → Calls Tryz.prog 66 #[.agg #[.int .i64 (xs.getD k C3.zero).s, .int .i64 (xs.getD k C3.zero).a, .int .i64 (xs.getD k C3.zero).b], .slice al zs.length cl] u fun e w' => e = .returned (.agg #[.int .i64 (exC zs (xs.getD k C3.zero)).s, .int .i64 (exC zs (xs.getD k C3.zero)).a, .int .i64 (exC zs (xs.getD k C3.zero)).b]) ∧ Below u.heap.size u w') := Lib.hid (fun u h => by have := ImplExchangeCell_any lo2 hi2 (xs.getD k C3.zero).s (xs.getD k C3.zero).a (xs.getD k C3.zero).b _ zs u (HRL.out u h) (Nat.le_trans hhi2 h.size); rw [show exZ zs ⟨(xs.getD k C3.zero).s, (xs.getD k C3.zero).a, (xs.getD k C3.zero).b⟩ = exC zs (xs.getD k C3.zero) from hzz] at this; exact this)
          have HU := Lib.hid (hup.out.step hlt)
          generalize exC zs (xs.getD k C3.zero) = z at CT HU
          generalize xs.getD k C3.zero = c at e0 e1 e2 CT
          obtain ⟨cs, ca, cb⟩ := c
          dsimp only at e0 e1 e2 CT
          have hbb : Below wr.heap.size wr (wr.alloc (.cells #[.int .i64 cs, .int .i64 ca, .int .i64 cb] 50)).drew := bel_draw (bel0 wr (.cells #[.int .i64 cs, .int .i64 ca, .int .i64 cb] 50))
          have hzl := HZ.out
          have hpw : p4 < wr.heap.size := by omega
          have HI1 := Lib.hid (hin.out.below (hbb.mono (by omega)))
          have HX1 := Lib.hid (hx.out.below hbb hpw)
          have HD1 := Lib.hid (hd.out.below hbb (by omega))
          have HB1 := Lib.hid (hbel.out.trans (hbb.mono hbel.out.size))
          have hS0 : Hid ((wr.alloc (.cells #[.int .i64 cs, .int .i64 ca, .int .i64 cb] 50)).drew.cell? ⟨p4, 1, none⟩ = some (.slice (some ⟨gg, 0, none⟩) xs.length c4) ∧ (wr.alloc (.cells #[.int .i64 cs, .int .i64 ca, .int .i64 cb] 50)).drew.cell? ⟨wr.heap.size, 0, none⟩ = some (.int .i64 cs) ∧ (wr.alloc (.cells #[.int .i64 cs, .int .i64 ca, .int .i64 cb] 50)).drew.cell? ⟨wr.heap.size, 1, none⟩ = some (.int .i64 ca) ∧ (wr.alloc (.cells #[.int .i64 cs, .int .i64 ca, .int .i64 cb] 50)).drew.cell? ⟨wr.heap.size, 2, none⟩ = some (.int .i64 cb)) := Lib.hid ⟨HX1.out.2.1, by go_simp, by go_simp, by go_simp⟩
          have KP : Hid (∀ u v, Below (wr.heap.size + 1) u v → (u.cell? ⟨p4, 1, none⟩ = some (.slice (some ⟨gg, 0, none⟩) xs.length c4) ∧ u.cell? ⟨wr.heap.size, 0, none⟩ = some (.int .i64 cs) ∧ u.cell? ⟨wr.heap.size, 1, none⟩ = some (.int .i64 ca) ∧ u.cell? ⟨wr.heap.size, 2, none⟩ = some (.int .i64 cb)) → (v.cell? ⟨p4, 1, none⟩ = some (.slice (some ⟨gg, 0, none⟩) xs.length c4) ∧ v.cell? ⟨wr.heap.size, 0, none⟩ = some (.int .i64 cs) ∧ v.cell? ⟨wr.heap.size, 1, none⟩ = some (.int .i64 ca) ∧ v.cell? ⟨wr.heap.size, 2, none⟩ = some (.int .i64 cb))) := Lib.hid (fun u v hb h => ⟨(hb.cell (p := ⟨p4, 1, none⟩) (by show p4 < _; omega)).trans h.1, (hb.cell (p := ⟨wr.heap.size, 0, none⟩) (Nat.lt_succ_self _)).trans h.2.1, (hb.cell (p := ⟨wr.heap.size, 1, none⟩) (Nat.lt_succ_self _)).trans h.2.2.1, (hb.cell (p := ⟨wr.heap.size, 2, none⟩) (Nat.lt_succ_self _)).trans h.2.2.2⟩)
          have hsw : Hid (wr.heap.size + 1 ≤ (wr.alloc (.cells #[.int .i64 cs, .int .i64 ca, .int .i64 cb] 50)).drew.heap.size) := Lib.hid (by simp)
          have hkl : (k : Int) < (xs.length : Int) := by omega
          have ne1 : gg ≠ p4 := by omega
          have ne2 : gg ≠ wr.heap.size := by omega
          have HZL := Lib.hid hzl
          clear hbb hup hin hx hd hbel hok hzz hyk hzl f0 f1 f2
          go_wp2_with fail
          clear e0 e1 e2
          (try simp only [List.append_eq, List.cons_append, List.nil_append])
          have hS := hS0.out
          clear hS0
          refine reg_begin (fun u => u.cell? ⟨p4, 1, none⟩ = some (.slice (some ⟨gg, 0, none⟩) xs.length c4) ∧ u.cell? ⟨wr.heap.size, 0, none⟩ = some (.int .i64 cs) ∧ u.cell? ⟨wr.heap.size, 1, none⟩ = some (.int .i64 ca) ∧ u.cell? ⟨wr.heap.size, 2, none⟩ = some (.int .i64 cb)) (by kernel_rfl) hS ?_
          refine reg_take 0 (v := ?_) rfl (by kernel_rfl) (by kernel_rfl) (by kernel_rfl) (fun _ _ _ h => h) (by rfl) (by intro w hSw; (try dsimp only at hSw); go_simp; first | done | with_reducible rfl) hS ?_
          (try simp only [Act.put, List.setIfInBounds_toArray, List.set_cons_zero, List.set_cons_succ])
          refine reg_take 1 (v := ?_) rfl (by kernel_rfl) (by kernel_rfl) (by kernel_rfl) (fun _ _ _ h => h) (by rfl) (by intro w hSw; (try dsimp only at hSw); go_simp; first | done | with_reducible rfl) hS ?_
          (try simp only [Act.put, List.setIfInBounds_toArray, List.set_cons_zero, List.set_cons_succ])
          refine reg_take 2 (v := ?_) rfl (by kernel_rfl) (by kernel_rfl) (by kernel_rfl) (fun _ _ _ h => h) (by rfl) (by intro w hSw; (try dsimp only at hSw); go_simp; first | done | with_reducible rfl) hS ?_
          (try simp only [Act.put, List.setIfInBounds_toArray, List.set_cons_zero, List.set_cons_succ])
          refine reg_take 3 (v := ?_) rfl (by kernel_rfl) (by kernel_rfl) (by kernel_rfl) (fun _ _ _ h => h) (by rfl) (by intro w hSw; (try dsimp only at hSw); go_simp; first | done | with_reducible rfl) hS ?_
          (try simp only [Act.put, List.setIfInBounds_toArray, List.set_cons_zero, List.set_cons_succ])
          refine reg_take 4 (v := ?_) rfl (by kernel_rfl) (by kernel_rfl) (by kernel_rfl) (fun _ _ _ h => h) (by rfl) (by intro w hSw; (try dsimp only at hSw); go_simp; first | done | with_reducible rfl) hS ?_
          (try simp only [Act.put, List.setIfInBounds_toArray, List.set_cons_zero, List.set_cons_succ])
          refine reg_call 5 rfl (by kernel_rfl) (by rfl) (fun K hK => ?_)
          go_simp
          go_at_call 66
          refine (CT.out _ HB1.out).mono ?_
          rintro e w3 ⟨rfl, hb3⟩
          have HI3 := Lib.hid (HI1.out.below (hb3.mono (by have := hsw.out; have := HZL.out; omega)))
          have HX3 := Lib.hid (HX1.out.below hb3 (by have := hsw.out; omega))
          have HD3 := Lib.hid (HD1.out.below hb3 (by have := hsw.out; have := HZL.out; omega))
          have HB3 := Lib.hid (HB1.out.trans (hb3.mono HB1.out.size))
          have HS := Lib.hid (KP.out _ _ (hb3.mono hsw.out) hS)
          have hs3 : wr.heap.size + 1 ≤ w3.heap.size := Nat.le_trans hsw.out hb3.size
          clear hb3 HI1 HX1 HD1 HB1
          refine hK.out _ _ HS.out (fun hS' => ?_)
          clear HS hK K
          replace hS := hS'
          clear hS'
          (try simp only [Act.put, List.setIfInBounds_toArray, List.set_cons_zero, List.set_cons_succ])
          refine reg_take 6 (v := ?_) rfl (by kernel_rfl) (by kernel_rfl) (by kernel_rfl) (fun _ _ _ h => h) (by rfl) (by intro w hSw; (try dsimp only at hSw); go_simp; first | done | with_reducible rfl) hS ?_
          (try simp only [Act.put, List.setIfInBounds_toArray, List.set_cons_zero, List.set_cons_succ])
          refine reg_call 7 rfl (by kernel_rfl) (by rfl) (fun K hK => ?_)
          obtain ⟨g3, hg3, _, _, ⟨e0, e1, e2⟩, f0, f1, f2⟩ := HI3.out.at (Below.refl _ _) (i := k) (by omega)
          simp only [Option.some.injEq, Addr.mk.injEq, and_true] at hg3
          subst hg3
          have HN := Lib.hid (HI3.out.set k (by omega) z.s z.a z.b)
          generalize ys.getD k C3.zero = y at e0 e1 e2
          have far : ∀ (q o : Nat), gg ≠ q → (((w3.setCell ⟨gg, k * 3, none⟩ (.int .i64 z.s)).setCell ⟨gg, k * 3 + 1, none⟩ (.int .i64 z.a)).setCell ⟨gg, k * 3 + 2, none⟩ (.int .i64 z.b)).cell? ⟨q, o, none⟩ = w3.cell? ⟨q, o, none⟩ := fun q o hq => by rw [World.cell?_setCell_other _ _ _ _ (by simp), World.cell?_setCell_other _ _ _ _ (by simp), World.cell?_setCell_other _ _ _ _ (by simp)]
          have HS : Hid ((((w3.setCell ⟨gg, k * 3, none⟩ (.int .i64 z.s)).setCell ⟨gg, k * 3 + 1, none⟩ (.int .i64 z.a)).setCell ⟨gg, k * 3 + 2, none⟩ (.int .i64 z.b)).cell? ⟨p4, 1, none⟩ = some (.slice (some ⟨gg, 0, none⟩) xs.length c4) ∧ (((w3.setCell ⟨gg, k * 3, none⟩ (.int .i64 z.s)).setCell ⟨gg, k * 3 + 1, none⟩ (.int .i64 z.a)).setCell ⟨gg, k * 3 + 2, none⟩ (.int .i64 z.b)).cell? ⟨wr.heap.size, 0, none⟩ = some (.int .i64 cs) ∧ (((w3.setCell ⟨gg, k * 3, none⟩ (.int .i64 z.s)).setCell ⟨gg, k * 3 + 1, none⟩ (.int .i64 z.a)).setCell ⟨gg, k * 3 + 2, none⟩ (.int .i64 z.b)).cell? ⟨wr.heap.size, 1, none⟩ = some (.int .i64 ca) ∧ (((w3.setCell ⟨gg, k * 3, none⟩ (.int .i64 z.s)).setCell ⟨gg, k * 3 + 1, none⟩ (.int .i64 z.a)).setCell ⟨gg, k * 3 + 2, none⟩ (.int .i64 z.b)).cell? ⟨wr.heap.size, 2, none⟩ = some (.int .i64 cb)) := Lib.hid ⟨(far _ _ ne1).trans hS.1, (far _ _ ne2).trans hS.2.1, (far _ _ ne2).trans hS.2.2.1, (far _ _ ne2).trans hS.2.2.2⟩
          clear far
          go_simp
          refine hK.out _ _ HS.out (fun hS' => ?_)
          clear HS hS' hK K hS e0 e1 e2 f0 f1 f2
          (try simp only [Act.put, List.setIfInBounds_toArray, List.set_cons_zero, List.set_cons_succ])
          refine wpAnyH_done (by kernel_rfl) ?_ _
          have HX4 : Hid (BoxB p4 (.int .i64 n) (.slice (some ⟨gg, 0, none⟩) xs.length c4) (((w3.setCell ⟨gg, k * 3, none⟩ (.int .i64 z.s)).setCell ⟨gg, k * 3 + 1, none⟩ (.int .i64 z.a)).setCell ⟨gg, k * 3 + 2, none⟩ (.int .i64 z.b))) := Lib.hid (((HX3.out.set_far (q := gg) (o := k * 3) ne1 (.int .i64 z.s)).set_far (q := gg) (o := k * 3 + 1) ne1 (.int .i64 z.a)).set_far (q := gg) (o := k * 3 + 2) ne1 (.int .i64 z.b))
          have ne3 : gg ≠ w.heap.size + 1 := by have := HZL.out; omega
          have HD4 : Hid (BoxB (w.heap.size + 1) (.int .i64 0) (.slice none 0 0) (((w3.setCell ⟨gg, k * 3, none⟩ (.int .i64 z.s)).setCell ⟨gg, k * 3 + 1, none⟩ (.int .i64 z.a)).setCell ⟨gg, k * 3 + 2, none⟩ (.int .i64 z.b))) := Lib.hid (((HD3.out.set_far (q := gg) (o := k * 3) ne3 (.int .i64 z.s)).set_far (q := gg) (o := k * 3 + 1) ne3 (.int .i64 z.a)).set_far (q := gg) (o := k * 3 + 2) ne3 (.int .i64 z.b))
          have hwg : w.heap.size ≤ gg := by have := HZL.out; omega
          have HB4 : Hid (Below w.heap.size w (((w3.setCell ⟨gg, k * 3, none⟩ (.int .i64 z.s)).setCell ⟨gg, k * 3 + 1, none⟩ (.int .i64 z.a)).setCell ⟨gg, k * 3 + 2, none⟩ (.int .i64 z.b))) := Lib.hid (((HB3.out.setCell (p := ⟨gg, k * 3, none⟩) hwg _).setCell (p := ⟨gg, k * 3 + 1, none⟩) hwg _).setCell (p := ⟨gg, k * 3 + 2, none⟩) hwg _)
          go_wp2_with fail
          go_roundw
          case rel => exact ⟨k + 1, _, by omega, by go_num, HU, HN, HX4, HD4, HB4, by simp [World.setCell]; omega⟩
          case measure => simp [intOf] <;> omega
        · obtain rfl : k = xs.length := by omega
          have HYE := Lib.hid hup.out.all
          have hi' := hin.out
          rw [HYE.out] at hi'
          have HI := Lib.hid hi'
          obtain ⟨k0, k1, _, _⟩ := hx.out
          obtain ⟨d0, d1, g0, g1⟩ := hd.out
          have HLN : Hid (xs.length = (exL zs xs).length) := Lib.hid (exL_length zs xs).symm
          clear hi' hin hup hx hd
          go_wp2_with fail
          refine bodyPost_ret (v := .tuple #[.agg #[.int .i64 n, .slice (some ⟨gg, 0, none⟩) xs.length c4], .bool true]) (by simp [results, Tryz.results51, go_sem, d0, d1]) rfl ⟨.slice (some ⟨gg, 0, none⟩) xs.length c4, by rw [HE.out.2], ?_, ?_⟩
          · rw [HE.out.1]
            refine CellIn.wide (lo := l4) (hi := h4) ?_ (by have := HZ.out; omega) (by have := HZ.out; simp [World.setCell]; omega)
            refine CellIn.set_far (CellIn.set_far HI.out ?_ _) ?_ _ <;> (have := HZ.out; simp <;> omega)
          · refine Below.setCell (Below.setCell hbel.out ?_ _) ?_ _ <;> (simp <;> omega)
    · have HL := Lib.hid hz
      have HE := Lib.hid (exA_no (n := n) (xs := xs) (fun h => hz h.2))
      clear hz
      go_wp2_with fail
      refine (ImplListOk_eq lo2 hi2 _ zs _ (HRL.out _ HB2.out)).mono ?_
      rw [← lst_no HL.out]
      rintro e w' ⟨rfl, hw⟩
      have hw' := hw.symm
      subst hw'
      clear hw
      have HI := Lib.hid (HR4.out.below (hb2.mono HZ.out.2.2.1))
      have HBB := Lib.hid (bel_c HB4.out (Nat.le_refl _) hb2)
      obtain ⟨d0, d1, g0, g1⟩ := HD.out.below hb2 HZ.out.2.2.2.2.2
      obtain ⟨k0, k1, _, _⟩ := HX.out.below hb2 HZ.out.2.2.2.2.1
      have hsz2 := hb2.size
      clear hb2
      go_wp2_with fail
      refine bodyPost_ret (v := .tuple #[.agg #[.int .i64 n, .slice a4 xs.length c4], .bool false]) (by simp [results, Tryz.results51, go_sem, d0, d1]) rfl ⟨.slice a4 xs.length c4, by rw [HE.out.2], ?_, ?_⟩
      · rw [HE.out.1]; refine CellIn.wide (lo := l4) (hi := h4) ?_ (by have := HZ.out; omega) (by have := HZ.out; simp [World.setCell]; omega)
        refine CellIn.set_far (CellIn.set_far HI.out ?_ _) ?_ _ <;> (have := HZ.out; simp <;> omega)
      · refine Below.setCell (Below.setCell HBB.out ?_ _) ?_ _ <;> (simp <;> omega)
theorem ImplExchangeBlock_any (lo hi lo2 hi2 : Nat) (n : Int) (v vl : Value) (xs : List C3) (zs : List Int) (w : World) (r : CellIn lo hi w v xs) (hhi : hi ≤ w.heap.size) (rl : IntO lo2 hi2 w vl zs) (hhi2 : hi2 ≤ w.heap.size) :
    Calls Tryz.prog 51 #[.agg #[.int .i64 n, v], vl] w (FreshBB n (exA n xs zs) (exK n xs zs) w) := by
  obtain ⟨a, cap, rfl⟩ := r.form
  by_cases hb : BlkOk n xs
  · exact ImplExchangeBlock_yes lo hi lo2 hi2 n a cap vl xs zs w r hhi rl hhi2 hb
  · obtain ⟨e1, e2⟩ := exA_no (n := n) (zs := zs) (fun h => hb h.1)
    rw [e1, e2]
    exact ImplExchangeBlock_no n a cap vl xs w r.1 (r.lies rfl hhi) (fun W h => ImplBlockOk_no lo hi n _ xs W (r.below (h.mono hhi)) (Nat.le_trans hhi h.size) hb)
theorem ImplExchangeBlock_rowno (lo hi : Nat) (n : Int) (v : Value) (xs : List C3) (w : World) (r : RowX lo hi n w v xs) (hhi : hi ≤ w.heap.size) (lo2 hi2 : Nat) (vl : Value) (zs : List Int) (rl : IntO lo2 hi2 w vl zs) (hhi2 : hi2 ≤ w.heap.size) (hb : ¬ BlkOk n xs) :
    Calls Tryz.prog 51 #[.agg #[.int .i64 n, v], vl] w fun e w' => ∃ n' a' l' c', e = .returned (.tuple #[.agg #[.int .i64 n', .slice a' l' c'], .bool false]) ∧ Below w.heap.size w w' := by
  rcases r with r | ⟨⟨n0, n1, hk⟩, r⟩
  · refine (ImplExchangeBlock_any lo hi lo2 hi2 n v vl xs zs w r hhi rl hhi2).mono ?_
    rw [(exA_no (n := n) (zs := zs) (fun h => hb h.1)).2]
    rintro e w' ⟨v', rfl, hin, hb⟩
    obtain ⟨a', c', rfl⟩ := hin.form
    exact ⟨_, _, _, _, rfl, hb⟩
  · obtain ⟨a, cap, rfl⟩ := r.form
    refine (ImplExchangeBlock_no n a cap vl xs w r.1 (r.lies hhi) (fun W _ => ImplBlockOk_len n a xs.length cap W n0 n1 r.1 (cut_len hk))).mono ?_
    rintro e w' ⟨v', rfl, hin, hb⟩
    obtain ⟨a', c', rfl⟩ := hin.form
    exact ⟨_, _, _, _, rfl, hb⟩

end Go.Proofs.YtfidnhhlcdbaeaaGreatDoor

namespace Go.Proofs.YtfidnhhlcdbaeaaGreatDoor
open Go.ChangeShapes Go.WideShapes Go.ChangeAt Go.RowKit

/-- The view k of a valid block. -/
def seeL (n : Int) (k : Nat) (xs : List C3) : List C3 := turnK n (if 4 ≤ k then mirL n xs else xs) (k % 4)
theorem seeL_is {n : Int} {k : Nat} {xs : List C3} (h : BlkOk n xs) (hk : k ≤ 7) : seeN n k xs = n ∧ seeB n k xs = seeL n k xs := by
  have := see_yes (n := n) (k := k) (xs := xs) ⟨h, by omega, by omega⟩
  refine ⟨this.1, this.2.trans ?_⟩
  unfold seeL
  rw [show ((k : Int) % 4).toNat = k % 4 by omega]
  by_cases h4 : 4 ≤ k
  · rw [if_pos h4, if_pos (by omega)]
  · rw [if_neg h4, if_neg (by omega)]
theorem seeL_ok {n : Int} {k : Nat} {xs : List C3} (h : BlkOk n xs) : BlkOk n (seeL n k xs) := by
  unfold seeL
  split
  · exact turnK_ok (mir_ok h) _
  · exact turnK_ok h _
theorem seeL_length (n : Int) (k : Nat) (xs : List C3) : (seeL n k xs).length = xs.length := by
  unfold seeL
  rw [turnK_length]
  split
  · exact mirL_length _ _
  · rfl
theorem seeL_zero (n : Int) (xs : List C3) : seeL n 0 xs = xs := rfl
theorem turnK_add (n : Int) (xs : List C3) (a : Nat) : ∀ b, turnK n (turnK n xs a) b = turnK n xs (a + b)
  | 0 => rfl
  | b + 1 => by rw [← Nat.add_assoc]; show turnL n _ = turnL n _; rw [turnK_add n xs a b]
theorem turnK_4 {n : Int} {xs : List C3} (h : BlkOk n xs) : turnK n xs 4 = xs := turnL4 h
theorem turnK_mul {n : Int} {xs : List C3} (h : BlkOk n xs) (b : Nat) : ∀ a, turnK n xs (4 * a + b) = turnK n xs b
  | 0 => by simp
  | a + 1 => by
    rw [show 4 * (a + 1) + b = 4 + (4 * a + b) by omega, ← turnK_add, turnK_4 h]
    exact turnK_mul h b a
theorem turnK_mod {n : Int} {xs : List C3} (h : BlkOk n xs) (k : Nat) : turnK n xs k = turnK n xs (k % 4) := by
  rw [← turnK_mul h (k % 4) (k / 4), Nat.div_add_mod]
theorem mir_turn {n : Int} {xs : List C3} (h : BlkOk n xs) : mirL n (turnL n xs) = turnK n (mirL n xs) 3 := by
  have := congrArg (fun y => turnK n y 3) (tmtL h)
  rw [← this]
  exact (turnK_4 (mir_ok (turn_ok h))).symm
theorem mir_turnK {n : Int} {xs : List C3} (h : BlkOk n xs) : ∀ k, mirL n (turnK n xs k) = turnK n (mirL n xs) (3 * k)
  | 0 => rfl
  | k + 1 => by
    show mirL n (turnL n (turnK n xs k)) = _
    rw [mir_turn (turnK_ok h k), mir_turnK h k, turnK_add]
    rfl
/-- The view j of the view i. -/
def mulV (i j : Nat) : Nat := if j < 4 then (i % 4 + j % 4) % 4 + (if i < 4 then 0 else 4) else (3 * (i % 4) + j % 4) % 4 + (if i < 4 then 4 else 0)
theorem see_mul {n : Int} {xs : List C3} (h : BlkOk n xs) (i j : Nat) : seeL n j (seeL n i xs) = seeL n (mulV i j) xs := by
  have hX : BlkOk n (if 4 ≤ i then mirL n xs else xs) := by
    split
    · exact mir_ok h
    · exact h
  have hm : mirL n (if 4 ≤ i then mirL n xs else xs) = if 4 ≤ i then xs else mirL n xs := by
    split
    · exact mirL2 h
    · rfl
  have hi : seeL n i xs = turnK n (if 4 ≤ i then mirL n xs else xs) (i % 4) := rfl
  rw [hi]
  by_cases hj : j < 4
  · have e1 : seeL n j (turnK n (if 4 ≤ i then mirL n xs else xs) (i % 4)) = turnK n (turnK n (if 4 ≤ i then mirL n xs else xs) (i % 4)) (j % 4) := by
      unfold seeL; rw [if_neg (by omega)]
    rw [e1, turnK_add, turnK_mod hX]
    unfold mulV seeL
    rw [if_pos hj]
    by_cases h4 : i < 4
    · rw [if_pos h4, if_neg (by omega), if_neg (by omega), show ((i % 4 + j % 4) % 4 + 0) % 4 = (i % 4 + j % 4) % 4 by omega]
    · rw [if_neg h4, if_pos (by omega), if_pos (by omega), show ((i % 4 + j % 4) % 4 + 4) % 4 = (i % 4 + j % 4) % 4 by omega]
  · have e1 : seeL n j (turnK n (if 4 ≤ i then mirL n xs else xs) (i % 4)) = turnK n (mirL n (turnK n (if 4 ≤ i then mirL n xs else xs) (i % 4))) (j % 4) := by
      unfold seeL; rw [if_pos (by omega)]
    have hm2 : BlkOk n (if 4 ≤ i then xs else mirL n xs) := hm ▸ mir_ok hX
    rw [e1, mir_turnK hX, turnK_add, hm, turnK_mod hm2]
    unfold mulV seeL
    rw [if_neg hj]
    by_cases h4 : i < 4
    · rw [if_pos h4, if_neg (by omega), if_pos (by omega), show ((3 * (i % 4) + j % 4) % 4 + 4) % 4 = (3 * (i % 4) + j % 4) % 4 by omega]
    · rw [if_neg h4, if_pos (by omega), if_neg (by omega), show ((3 * (i % 4) + j % 4) % 4 + 0) % 4 = (3 * (i % 4) + j % 4) % 4 by omega]
def invV (i : Nat) : Nat := if i < 4 then (4 - i) % 4 else i
theorem invV_all : ∀ i : Fin 8, mulV i.val (invV i.val) = 0 ∧ mulV (invV i.val) i.val = 0 ∧ invV i.val < 8 ∧ ∀ k : Fin 8, mulV i.val k.val < 8 ∧ mulV i.val (mulV (invV i.val) k.val) = k.val := by decide
theorem inv_see {n : Int} {xs : List C3} (h : BlkOk n xs) {i : Nat} (hi : i < 8) : seeL n (invV i) (seeL n i xs) = xs := by
  rw [see_mul h, (invV_all ⟨i, hi⟩).1]; rfl
/-- The views of a view are the views. -/
theorem views_of {n : Int} {xs : List C3} (h : BlkOk n xs) {i : Nat} (hi : i < 8) :
    (∀ j, j < 8 → ∃ k, k < 8 ∧ seeL n j (seeL n i xs) = seeL n k xs) ∧ ∀ k, k < 8 → ∃ j, j < 8 ∧ seeL n j (seeL n i xs) = seeL n k xs := by
  refine ⟨fun j hj => ⟨mulV i j, ((invV_all ⟨i, hi⟩).2.2.2 ⟨j, hj⟩).1, see_mul h i j⟩, fun k hk => ⟨mulV (invV i) k, ?_, ?_⟩⟩
  · exact ((invV_all ⟨invV i, (invV_all ⟨i, hi⟩).2.2.1⟩).2.2.2 ⟨k, hk⟩).1
  · rw [see_mul h, ((invV_all ⟨i, hi⟩).2.2.2 ⟨k, hk⟩).2]
/-- Views and exchanges. -/
theorem exC_turn (zs : List Int) {c : C3} (hc : c.Ok) : exC zs (turnC c) = turnC (exC zs c) := by
  rcases cell_cases hc with ⟨a, rfl⟩ | ⟨a, b, rfl⟩ | ⟨a, b, rfl⟩
  · simp [turnC, exC]
  · by_cases e : atL zs a = atL zs b
    · simp [turnC, exC, e]
    · simp [turnC, exC, e, Ne.symm e]
  · by_cases e : atL zs a = atL zs b
    · simp [turnC, exC, e]
    · simp [turnC, exC, e]
theorem exC_mir (zs : List Int) {c : C3} (hc : c.Ok) : exC zs (mirC c) = mirC (exC zs c) := by
  rcases cell_cases hc with ⟨a, rfl⟩ | ⟨a, b, rfl⟩ | ⟨a, b, rfl⟩
  · simp [mirC, exC]
  · by_cases e : atL zs a = atL zs b
    · simp [mirC, exC, e]
    · simp [mirC, exC, e, Ne.symm e]
  · by_cases e : atL zs a = atL zs b
    · simp [mirC, exC, e]
    · simp [mirC, exC, e, Ne.symm e]
theorem exL_at (zs : List Int) (xs : List C3) {i : Nat} (h : i < xs.length) : (exL zs xs).getD i C3.zero = exC zs (xs.getD i C3.zero) := by
  simp [exL, List.getD, h]
theorem exL_turn {n : Int} {xs : List C3} (h : BlkOk n xs) (zs : List Int) : exL zs (turnL n xs) = turnL n (exL zs xs) := by
  obtain ⟨m, rfl, h1, h2, h3⟩ := sz_nat h
  refine ext_at (by simp only [exL_length, turnL_length]) (fun i hi => ?_)
  simp only [exL_length, turnL_length] at hi
  have p1 := (P_lt h2 (h3 ▸ hi)).1
  rw [exL_at _ _ (by rw [turnL_length]; omega), turnL_at _ _ hi, Int.toNat_natCast, turnL_at _ _ (by rw [exL_length]; omega), Int.toNat_natCast, exL_at _ _ (by omega)]
  exact exC_turn zs (blk_at h (by omega))
theorem exL_mir {n : Int} {xs : List C3} (h : BlkOk n xs) (zs : List Int) : exL zs (mirL n xs) = mirL n (exL zs xs) := by
  obtain ⟨m, rfl, h1, h2, h3⟩ := sz_nat h
  refine ext_at (by simp only [exL_length, mirL_length]) (fun i hi => ?_)
  simp only [exL_length, mirL_length] at hi
  have p1 := (P_lt h2 (h3 ▸ hi)).2.1
  rw [exL_at _ _ (by rw [mirL_length]; omega), mirL_at _ _ hi, Int.toNat_natCast, mirL_at _ _ (by rw [exL_length]; omega), Int.toNat_natCast, exL_at _ _ (by omega)]
  exact exC_mir zs (blk_at h (by omega))
theorem exL_turnK {n : Int} {xs : List C3} (h : BlkOk n xs) (zs : List Int) : ∀ k, exL zs (turnK n xs k) = turnK n (exL zs xs) k
  | 0 => rfl
  | k + 1 => by
    show exL zs (turnL n (turnK n xs k)) = turnL n _
    rw [exL_turn (turnK_ok h k), exL_turnK h zs k]
theorem exL_see {n : Int} {xs : List C3} (h : BlkOk n xs) (zs : List Int) (k : Nat) : exL zs (seeL n k xs) = seeL n k (exL zs xs) := by
  unfold seeL
  split
  · rw [exL_turnK (mir_ok h), exL_mir h]
  · exact exL_turnK h zs _
theorem exL_inj {l : List Int} (hl : Exch l) {n : Int} {xs ys : List C3} (hx : BlkOk n xs) (hy : BlkOk n ys) (e : exL l xs = exL l ys) : xs = ys := by
  rw [← und_undoes hl hx, e, und_undoes hl hy]
/-- A block in the colors of its first use. -/
def plainL (xs : List C3) : List C3 := exL (fuL xs) xs
theorem plainL_ok {n : Int} {xs : List C3} (h : BlkOk n xs) : BlkOk n (plainL xs) := exL_ok (fuL_exch h).1 h
theorem plainL_ex {l : List Int} (hl : Exch l) {n : Int} {xs : List C3} (h : BlkOk n xs) : plainL (exL l xs) = plainL xs := first_same hl h
theorem swp_exch {a b : Int} (ha : Col a) (hb : Col b) : Exch (swpL a b) := by
  obtain ⟨h1, h2, _⟩ := swp_ok ha hb
  refine exch_of h1 (fun x y hx hy e => ?_)
  have ex := congrArg (fun l => atL l x) h2
  have ey := congrArg (fun l => atL l y) h2
  simp only [atL_map h1.1 _ hx, atL_map h1.1 _ hy, atL_id hx, atL_id hy] at ex ey
  rw [← ex, e, ey]
end Go.Proofs.YtfidnhhlcdbaeaaGreatDoor
