/- Blocks: a drawn block is valid. -/
import Derived.Test.YtfidnhhlcdbaeaaBlkP
import Derived.Test.YtfidnhhlcdbaeaaBlkX
import Derived.Test.YtfidnhhlcdbaeaaCellV
namespace Go.Proofs.Ytfidnhhlcdbaeaa
open Go.ChangeShapes Go.WideShapes Go.ChangeAt Go.RowKit

theorem CellIn.but {lo hi b : Nat} {w w' : World} {v : Value} {xs : List C3} (h : CellIn lo hi w v xs) (hb : But b w w') (hl : b < lo) (hh : hi ≤ w.heap.size) : CellIn lo hi w' v xs := by
  obtain ⟨hl', h | ⟨g, cap, hv, hg, hlt, hc⟩⟩ := h
  · exact ⟨hl', .inl h⟩
  · refine ⟨hl', .inr ⟨g, cap, hv, hg, hlt, fun i hi => ?_⟩⟩
    have hg1 : g < w.heap.size := by omega
    have hg2 : g ≠ b := by omega
    obtain ⟨⟨e0, e1, e2⟩, f0, f1, f2⟩ := hc i hi
    exact ⟨⟨(hb.cell (p := ⟨g, _, none⟩) hg1 hg2).trans e0, (hb.cell (p := ⟨g, _, none⟩) hg1 hg2).trans e1, (hb.cell (p := ⟨g, _, none⟩) hg1 hg2).trans e2⟩,
      (hb.frozen (p := ⟨g, _, none⟩) hg1 hg2).trans f0, (hb.frozen (p := ⟨g, _, none⟩) hg1 hg2).trans f1, (hb.frozen (p := ⟨g, _, none⟩) hg1 hg2).trans f2⟩

/-- A block's two places: what they hold, and that they may be written. -/
def BoxB (p : Nat) (x y : Value) (u : World) : Prop := u.cell? ⟨p, 0, none⟩ = some x ∧ u.cell? ⟨p, 1, none⟩ = some y ∧ u.frozen? ⟨p, 0, none⟩ = false ∧ u.frozen? ⟨p, 1, none⟩ = false
theorem BoxB.lt {p : Nat} {x y : Value} {u : World} (h : BoxB p x y u) : p < u.heap.size := lt_of_cell h.1
theorem BoxB.but {p b : Nat} {x y : Value} {u w : World} (h : BoxB p x y u) (hb : But b u w) (hp : p ≠ b) : BoxB p x y w := by
  have hl := h.lt
  obtain ⟨h0, h1, h2, h3⟩ := h
  exact ⟨(hb.cell (p := ⟨p, 0, none⟩) hl hp).trans h0, (hb.cell (p := ⟨p, 1, none⟩) hl hp).trans h1, (hb.frozen (p := ⟨p, 0, none⟩) hl hp).trans h2, (hb.frozen (p := ⟨p, 1, none⟩) hl hp).trans h3⟩
theorem BoxB.below {p B : Nat} {x y : Value} {u w : World} (h : BoxB p x y u) (hb : Below B u w) (hp : p < B) : BoxB p x y w := by
  obtain ⟨h0, h1, h2, h3⟩ := h
  exact ⟨(hb.cell (p := ⟨p, 0, none⟩) hp).trans h0, (hb.cell (p := ⟨p, 1, none⟩) hp).trans h1, (hb.frozen (p := ⟨p, 0, none⟩) hp).trans h2, (hb.frozen (p := ⟨p, 1, none⟩) hp).trans h3⟩
theorem BoxB.new (w : World) (x y : Value) (T : TypeId) : BoxB w.heap.size x y (w.alloc (.cells #[x, y] T)) := ⟨by simp, by simp, by simp, by simp⟩

theorem BoxB.store {p : Nat} {x y : Value} {u : World} (h : BoxB p x y u) (z : Value) : BoxB p x z (u.setCell ⟨p, 1, none⟩ z) := by
  obtain ⟨h0, h1, h2, h3⟩ := h
  exact ⟨(World.cell?_setCell_other _ _ _ _ (by simp)).trans h0, World.cell?_setCell_same _ _ _ h1, (World.frozen?_setCell _ _ _ _).trans h2, (World.frozen?_setCell _ _ _ _).trans h3⟩
theorem BoxB.set_far {p q o : Nat} {x y : Value} {u : World} (h : BoxB p x y u) (hq : q ≠ p) (z : Value) : BoxB p x y (u.setCell ⟨q, o, none⟩ z) := by
  obtain ⟨h0, h1, h2, h3⟩ := h
  have hn : ∀ i : Nat, (⟨q, o, none⟩ : Addr) ≠ ⟨p, i, none⟩ := by intro i; simp
  exact ⟨(World.cell?_setCell_other _ _ _ _ (hn _)).trans h0, (World.cell?_setCell_other _ _ _ _ (hn _)).trans h1, (World.frozen?_setCell _ _ _ _).trans h2, (World.frozen?_setCell _ _ _ _).trans h3⟩

/-- A valid block is handed back; the cursor goes on. -/
def DrawnB2 (b : Nat) (a : Option Addr) (len cap : Nat) (w : World) (e : Ending) (w' : World) : Prop :=
  ∃ (n : Int) (v : Value) (xs : List C3), BlkOk n xs ∧ e = .returned (.agg #[.int .i64 n, v]) ∧ CellIn w.heap.size w'.heap.size w' v xs ∧ Cur w' b a len cap ∧ But b w w'

theorem add1 {x : Int} (h : 0 ≤ x ∧ x < 4) : IntKind.i64.wrap (1 + x) = 1 + x := by rw [IntKind.wrap_i64]; omega

theorem plain_ok {n a : Int} (h : PlOk n a) : BlkOk n (plC n a) := by
  rw [(pl_yes h).2.1]
  obtain ⟨hn, ha⟩ := h
  have s := (sq_wrap hn.1 hn.2).2.1
  refine ⟨hn, ?_, ?_⟩
  · rw [List.length_replicate]; omega
  · intro c hc
    have := (List.mem_replicate.1 hc).2
    subst this
    unfold C3.Ok OkC
    simp; omega

set_option maxHeartbeats 1000000 in
theorem BlockDraw_any (b : Nat) (a : Option Addr) (len cap : Nat) (w : World) (hcur : Cur w b a len cap) :
    Calls Try.prog 25 #[.pointer (some ⟨b, 0, none⟩)] w (DrawnB2 b a len cap w) := by
  have HC := Lib.hid hcur
  have hlt := hcur.lt
  clear hcur
  go_enter Try.func25, Try.ntmps25
  go_wp2_with fail
  refine (Below_any b a len cap 6 _ (HC.out.alloc _) (by omega) (by omega)).mono ?_
  rintro e w1 ⟨d, ⟨d0, d1⟩, rfl, hc1, hb1⟩
  have P1 := (BoxB.new w (.int .i64 0) (.slice none 0 0) 26).but hb1 (by omega)
  have U1 : But b w w1 := ((But.refl b w).alloc _).trans hb1
  have z1 : w.heap.size < w1.heap.size := by have := hb1.size; simp at this; omega
  clear hb1
  by_cases h0 : d = 0
  · subst h0
    go_wp2_with fail
    refine (SpecStar_any _).mono ?_
    rintro e w2 ⟨v, rfl, hin, hb2⟩
    obtain ⟨av, cv, rfl⟩ := hin.form
    obtain ⟨p0, p1, f0, f1⟩ := P1.below hb2 z1
    have HI := Lib.hid hin
    have HU := Lib.hid (U1.trans (But.of_below hb2))
    have HCU := Lib.hid (hc1.kept hb2)
    clear hin hb2 hc1 U1 P1
    go_wp2_with fail
    refine bodyPost_ret (v := .agg #[.int .i64 3, .slice av starC.length cv]) (by simp [results, Try.results25, go_sem, p0, p1]) rfl ⟨3, _, starC, star_ok, rfl, ?_, ?_, ?_⟩
    · refine CellIn.wide (lo := w1.heap.size) (hi := w2.heap.size) ?_ (by omega) (by simp [World.setCell])
      refine CellIn.set_far (CellIn.set_far HI.out ?_ _) ?_ _ <;> (simp <;> omega)
    · refine HCU.out.below (B := w.heap.size) ?_ hlt
      refine Below.setCell (Below.setCell (Below.refl _ _) ?_ _) ?_ _ <;> exact Nat.le_refl _
    · exact But.setCell (But.setCell HU.out (.inr (Nat.le_refl _)) _) (.inr (Nat.le_refl _)) _
  by_cases h1 : d = 1
  · subst h1
    go_wp2_with fail
    refine (Below_any b a len cap 4 _ hc1 (by omega) (by omega)).mono ?_
    rintro e w2 ⟨x, hx, rfl, hc2, hb2⟩
    have hxw := add1 hx
    go_wp2_with fail
    refine (Below_any b a len cap 3 _ hc2 (by omega) (by omega)).mono ?_
    rintro e w3 ⟨y, hy, rfl, hc3, hb3⟩
    go_wp2_with fail
    have hpl : PlOk (1 + x) y := ⟨by omega, by omega⟩
    have hq := plain_ok hpl
    have CP := SpecPlain_any (1 + x) y w3
    rw [(pl_yes hpl).1, (pl_yes hpl).2.2] at CP
    generalize plC (1 + x) y = xs at CP hq
    have hqh := Lib.hid hq
    clear hpl hq
    refine CP.mono ?_
    rintro e w4 ⟨v, rfl, hin, hb4⟩
    obtain ⟨av, cv, rfl⟩ := hin.form
    have U3 := (U1.trans hb2).trans hb3
    have z3 : w1.heap.size ≤ w3.heap.size := by have := hb2.size; have := hb3.size; omega
    have P3 := (P1.but hb2 (by omega)).but hb3 (by omega)
    have P5 := (P3.below hb4 (by omega)).below (bel0 w4 (.cells #[.int .i64 (1 + x), .slice av xs.length cv] 26)) (by have := hb4.size; omega)
    have z4 : w3.heap.size ≤ w4.heap.size := hb4.size
    have ne4 : w4.heap.size ≠ w.heap.size := by omega
    have HI := Lib.hid (hin.below (bel0 w4 (.cells #[.int .i64 (1 + x), .slice av xs.length cv] 26)))
    have HU := Lib.hid ((U3.trans (But.of_below hb4)).trans ((But.refl b w4).alloc (.cells #[.int .i64 (1 + x), .slice av xs.length cv] 26)))
    have HCU := Lib.hid ((hc3.kept hb4).alloc (.cells #[.int .i64 (1 + x), .slice av xs.length cv] 26))
    obtain ⟨p0, p1, f0, f1⟩ := P5
    clear hin hb4 hc3 hc2 hb2 hb3 U1 U3 P1 P3 hc1 CP
    go_wp2_with fail
    refine bodyPost_ret (v := .agg #[.int .i64 (1 + x), .slice av xs.length cv]) (by simp [results, Try.results25, go_sem, p0, p1]) rfl ⟨1 + x, _, xs, hqh.out, rfl, ?_, ?_, ?_⟩
    · refine CellIn.wide (lo := w3.heap.size) (hi := w4.heap.size) ?_ (by omega) (by simp [World.setCell])
      refine CellIn.set_far (CellIn.set_far HI.out ?_ _) ?_ _ <;> (simp <;> omega)
    · refine HCU.out.below (B := w.heap.size) ?_ hlt
      refine Below.setCell (Below.setCell (Below.refl _ _) ?_ _) ?_ _ <;> exact Nat.le_refl _
    · exact But.setCell (But.setCell HU.out (.inr (Nat.le_refl _)) _) (.inr (Nat.le_refl _)) _
  · have q0 : (d == 0) = false := by simpa using h0
    have q1 : (d == 1) = false := by simpa using h1
    go_wp2_with fail
    refine (Below_any b a len cap 4 _ hc1 (by omega) (by omega)).mono ?_
    rintro e w2 ⟨x, hx, rfl, hc2, hb2⟩
    have hxw := add1 hx
    obtain ⟨n, hn⟩ : ∃ n, 1 + x = n := ⟨_, rfl⟩
    have n0 : 1 ≤ n := by omega
    have n1 : n ≤ 4 := by omega
    have HX := Lib.hid hn
    obtain ⟨hw, s0, s1⟩ := sq_wrap n0 n1
    obtain ⟨m, hm⟩ : ∃ m : Nat, n * n = m := ⟨(n * n).toNat, by omega⟩
    rw [hm] at s0 s1
    have HM := Lib.hid hm
    clear hm
    have P2 := P1.but hb2 (by omega)
    have U2 := U1.trans hb2
    have z2 : w1.heap.size ≤ w2.heap.size := hb2.size
    clear P1 U1 hb2 hc1
    go_wp2_with fail
    have zw : w.heap.size < w2.heap.size := by omega
    have Q2 := BoxB.new w2 (.int .i64 n) (.slice none 0 0) 26
    have P3 := P2.below (bel0 w2 (.cells #[.int .i64 n, .slice none 0 0] 26)) zw
    have HC3 := hc2.alloc (.cells #[.int .i64 n, .slice none 0 0] 26)
    have U3 := U2.trans ((But.refl b w2).alloc (.cells #[.int .i64 n, .slice none 0 0] 26))
    obtain ⟨i0, hi0, hz0, hz1, hz2⟩ := info_parts3 info_cell
    go_loopw [7] (fun i wr => ∃ (k : Nat) (v : Value) (xs : List C3), k ≤ m ∧ i = .int .i64 k ∧ xs.length = k ∧ Hid (∀ c ∈ xs, c.Ok) ∧ Hid (wr.ownsRow (w2.heap.size + 1) 29 3 v k (places xs)) ∧ Hid (BoxB w2.heap.size (.int .i64 n) v wr) ∧ Hid (BoxB w.heap.size (.int .i64 0) (.slice none 0 0) wr) ∧ Hid (Cur wr b a len cap) ∧ Hid (But b w wr) ∧ w2.heap.size + 1 ≤ wr.heap.size) (fun i _ => m - (intOf i).toNat)
    case atStart => exact ⟨0, .slice none 0 0, [], Nat.zero_le _, rfl, rfl, (fun c hc => by cases hc), ⟨rfl, .inl ⟨rfl, rfl⟩⟩, Q2, P3, HC3, U3, by simp⟩
    case round =>
      obtain ⟨k, v, xs, hk, rfl, hxl, hok, hown, hq, hp, hcu, hbu, hsz⟩ := hrel
      by_cases hlk : k < m
      · have hd : decide ((k : Int) < n * n) = true := by rw [HM.out]; simpa using hlk
        go_wp2_with fail
        refine (CellDraw_any b a len cap _ hcu.out).mono ?_
        rintro e u1 ⟨s, x', y', hv, rfl, hcu1, hbu1⟩
        have zu : wr.heap.size ≤ u1.heap.size := hbu1.size
        have hown1 := owns_but hown.out hbu1 (by omega)
        have hq1 := hq.out.but hbu1 (by omega)
        have hp1 := hp.out.but hbu1 (by omega)
        have hB1 := hbu.out.trans hbu1
        have W2 : Below u1.heap.size u1 ((u1.alloc (.cells #[.int .i64 s, .int .i64 x', .int .i64 y'] 29)).alloc (.cells #[.int .i64 s, .int .i64 x', .int .i64 y'] 29)) := bel_n (bel0 u1 (.cells #[.int .i64 s, .int .i64 x', .int .i64 y'] 29)) (Nat.le_refl _) (.cells #[.int .i64 s, .int .i64 x', .int .i64 y'] 29)
        have KK : ∀ o, (u1.alloc o).cell? ⟨w2.heap.size, 1, none⟩ = some v := fun o => (hq1.below (bel0 u1 o) (by omega)).2.1
        have KK2 : ∀ o o', ((u1.alloc o).alloc o').cell? ⟨w2.heap.size, 1, none⟩ = some v := fun o o' => (hq1.below (bel_n (bel0 u1 o) (Nat.le_refl _) o') (by omega)).2.1
        have HO := Lib.hid (owns_below hown1 W2)
        have HNW := Lib.hid (news_at (u1.alloc (.cells #[.int .i64 s, .int .i64 x', .int .i64 y'] 29)) (u1.heap.size + 1) #[.int .i64 s, .int .i64 x', .int .i64 y'] 29 (by simp))
        have HB1 : Hid (w2.heap.size + 1 ≤ ((u1.alloc (.cells #[.int .i64 s, .int .i64 x', .int .i64 y'] 29)).alloc (.cells #[.int .i64 s, .int .i64 x', .int .i64 y'] 29)).heap.size) := Lib.hid (by simp; omega)
        have HQ := Lib.hid (hq1.below W2 (by omega))
        have HP := Lib.hid (hp1.below W2 (by omega))
        have HCc := Lib.hid (hcu1.kept W2)
        have HBu := Lib.hid (hB1.trans (But.of_below W2))
        have HV := Lib.hid hv
        clear hown hq hp hcu hbu hown1 hq1 hp1 hcu1 hbu1 hB1 W2 hv
        go_wp2_with (at_builtin; refine wpList_append_lies _ rfl _ _ 24 rfl (w2.heap.size + 1) 29 i0 _ 3 24 Try.underlying24 hi0 hz0 hz1 hz2 rfl (by decide) _ _ _ rfl HO.out ⟨u1.heap.size + 1, 0, none⟩ 1 1 [.int .i64 s, .int .i64 x', .int .i64 y'] rfl rfl HNW.out (by simp [Value.oneCell']) (by omega) (by unfold maxLen; omega) (by omega) HB1.out (u1.heap.size + 1 + 1) (by simp) ?_; intro gg cc w5 hown5 hgrow hat hlt5; have hbw := (Below.refl (w2.heap.size + 1) _).grown hgrow HB1.out (own_ge3 HO.out); have HQ5 := Lib.hid (HQ.out.below hbw (Nat.lt_succ_self _)); have k1 := HQ5.out.2.1; have k3 := HQ5.out.2.2.2)
        have HN : Hid ((w5.setCell ⟨w2.heap.size, 1, none⟩ (.slice (some ⟨gg, 0, none⟩) (k + 1) cc)).ownsRow (w2.heap.size + 1) 29 3 (.slice (some ⟨gg, 0, none⟩) (k + 1) cc) (k + 1) (places (xs ++ [⟨s, x', y'⟩]))) := Lib.hid (owns_set (by rw [places_append]; exact hown5) (by simp) _)
        have HQ6 := Lib.hid (HQ5.out.store (.slice (some ⟨gg, 0, none⟩) (k + 1) cc))
        have HP6 := Lib.hid ((HP.out.below hbw (by omega)).set_far (q := w2.heap.size) (o := 1) (by omega) (.slice (some ⟨gg, 0, none⟩) (k + 1) cc))
        have HC6 := Lib.hid ((HCc.out.below hbw (by omega)).below (B := w2.heap.size) (Below.setCell (Below.refl _ _) (p := ⟨w2.heap.size, 1, none⟩) (Nat.le_refl _) (.slice (some ⟨gg, 0, none⟩) (k + 1) cc)) (by omega))
        have HU6 := Lib.hid (But.setCell (HBu.out.thenBelow (hbw.mono (by omega))) (p := ⟨w2.heap.size, 1, none⟩) (.inr (by simp; omega)) (.slice (some ⟨gg, 0, none⟩) (k + 1) cc))
        have HK6 : Hid (∀ c ∈ xs ++ [(⟨s, x', y'⟩ : C3)], c.Ok) := Lib.hid (fun c hc => by
          rcases List.mem_append.1 hc with h | h
          · exact hok.out c h
          · rw [List.mem_singleton.1 h]; exact HV.out)
        have hs6 : w2.heap.size + 1 ≤ w5.heap.size := Nat.le_trans HB1.out hbw.size
        clear hown5 hgrow hat hlt5 hbw k1 k3 HQ5 HQ HP HCc HBu HO HNW
        go_wp2_with fail
        go_roundw
        case rel => exact ⟨k + 1, _, xs ++ [⟨s, x', y'⟩], by omega, by go_num, by simp [hxl], HK6, HN, HQ6, HP6, HC6, HU6, by simp [World.setCell]; exact hs6⟩
        case measure => simp [intOf] <;> omega
      · obtain rfl : k = m := by omega
        have hd : decide ((k : Int) < n * n) = false := by rw [HM.out]; simp
        subst hxl
        have hin := CellIn.of_owns hown.out (by omega)
        obtain ⟨av, cv, rfl⟩ := hin.form
        have HI := Lib.hid hin
        obtain ⟨q0', q1', _, _⟩ := hq.out
        obtain ⟨p0, p1, f0, f1⟩ := hp.out
        have HOK : Hid (BlkOk n xs) := Lib.hid ⟨⟨n0, n1⟩, HM.out.symm, hok.out⟩
        clear hin hown hok
        go_wp2_with fail
        refine bodyPost_ret (v := .agg #[.int .i64 n, .slice av xs.length cv]) (by simp [results, Try.results25, go_sem, p0, p1]) rfl ⟨n, _, xs, HOK.out, rfl, ?_, ?_, ?_⟩
        · refine CellIn.wide (lo := w2.heap.size + 1) (hi := wr.heap.size) ?_ (by omega) (by simp [World.setCell])
          refine CellIn.set_far (CellIn.set_far HI.out ?_ _) ?_ _ <;> (simp <;> omega)
        · refine hcu.out.below (B := w.heap.size) ?_ hlt
          refine Below.setCell (Below.setCell (Below.refl _ _) ?_ _) ?_ _ <;> exact Nat.le_refl _
        · exact But.setCell (But.setCell hbu.out (.inr (Nat.le_refl _)) _) (.inr (Nat.le_refl _)) _

end Go.Proofs.Ytfidnhhlcdbaeaa
