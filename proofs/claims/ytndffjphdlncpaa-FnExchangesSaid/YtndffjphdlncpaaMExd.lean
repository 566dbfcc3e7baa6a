/- Exchanges: the model's ListOk, once more. Exchanges: a drawn list: what it is. Exchanges: a drawn cell, valid or not. -/
import Derived.Test.YtndffjphdlncpaaMExf
import Derived.Test.YtndffjphdlncpaaMExs
import Derived.Test.YtndffjphdlncpaaMBld

namespace Go.Proofs.Ytndffjphdlncpaa
open Go.ChangeShapes Go.WideShapes Go.ChangeAt Go.RowKit

theorem SpecListOk_b (lo hi : Nat) (v : Value) (zs : List Int) (w : World) (r : IntO lo hi w v zs) (_ : hi ≤ w.heap.size) : Calls Try.prog 28 #[v] w fun e w' => e = .returned (.bool (lstB zs)) ∧ Below w.heap.size w w' :=
  (SpecListOk_any lo hi v zs w r).mono fun e w' ⟨he, hw⟩ => ⟨he, by rw [hw]; exact Below.refl _ _⟩

end Go.Proofs.Ytndffjphdlncpaa

namespace Go.Proofs.Ytndffjphdlncpaa
open Go.ChangeShapes Go.WideShapes Go.ChangeAt Go.RowKit

theorem IntIn.but {lo hi b : Nat} {w w' : World} {v : Value} {zs : List Int} (h : IntIn lo hi w v zs) (hb : But b w w') (hl : b < lo) (hh : hi ≤ w.heap.size) : IntIn lo hi w' v zs := by
  obtain ⟨hl', h | ⟨g, cap, hv, hg, hlt, hc⟩⟩ := h
  · exact ⟨hl', .inl h⟩
  · refine ⟨hl', .inr ⟨g, cap, hv, hg, hlt, fun i hi => ?_⟩⟩
    have hg1 : g < w.heap.size := by omega
    have hg2 : g ≠ b := by omega
    exact ⟨(hb.cell (p := ⟨g, _, none⟩) hg1 hg2).trans (hc i hi).1, (hb.frozen (p := ⟨g, _, none⟩) hg1 hg2).trans (hc i hi).2⟩
theorem IntO.but {lo hi b : Nat} {w w' : World} {v : Value} {zs : List Int} (h : IntO lo hi w v zs) (hb : But b w w') (hl : b < lo) (hh : hi ≤ w.heap.size) : IntO lo hi w' v zs := by
  obtain ⟨hl', h | ⟨g, o, cap, hv, hg, hlt, hc⟩⟩ := h
  · exact ⟨hl', .inl h⟩
  · refine ⟨hl', .inr ⟨g, o, cap, hv, hg, hlt, fun i hi => ?_⟩⟩
    have hg1 : g < w.heap.size := by omega
    have hg2 : g ≠ b := by omega
    exact ⟨(hb.cell (p := ⟨g, _, none⟩) hg1 hg2).trans (hc i hi).1, (hb.frozen (p := ⟨g, _, none⟩) hg1 hg2).trans (hc i hi).2⟩
theorem lit4 (W : World) (x0 x1 x2 x3 : Int) (T : TypeId) : IntIn W.heap.size (W.heap.size + 1) (W.alloc (.cells #[.int .i64 x0, .int .i64 x1, .int .i64 x2, .int .i64 x3] T)) (.slice (some ⟨W.heap.size, 0, none⟩) 4 4) [x0, x1, x2, x3] :=
  ⟨by simp, .inr ⟨W.heap.size, 4, rfl, Nat.le_refl _, Nat.lt_succ_self _, fun i hi => by
    have : i = 0 ∨ i = 1 ∨ i = 2 ∨ i = 3 := by simp at hi; omega
    rcases this with rfl | rfl | rfl | rfl <;> exact ⟨by simp, by simp⟩⟩⟩
set_option maxHeartbeats 1000000 in
/-- One of a row's ints. -/
theorem PickInt_any (lo hi b : Nat) (a : Option Addr) (len cap : Nat) (q : Option Addr) (n cp : Nat) (zs : List Int) (w : World) (hcur : Cur w b a len cap) (r : IntIn lo hi w (.slice q n cp) zs) (hn : n = zs.length) (h0 : 0 < n) (hb : b < lo) (hh : hi ≤ w.heap.size) :
    Calls Try.prog 67 #[.pointer (some ⟨b, 0, none⟩), .slice q n cp] w (Drawn (fun x => ∃ i, i < zs.length ∧ x = zs.getD i 0) b a len cap w) := by
  subst hn
  have hl := r.1
  go_enter Try.func67, Try.ntmps67
  go_wp2_with (go_at_call 66; refine (Below_any b a len cap zs.length _ hcur (by omega) (by omega)).mono ?_; rintro e w1 ⟨x, ⟨x0, x1⟩, rfl, hc1, hb1⟩; obtain ⟨i, rfl⟩ : ∃ j : Nat, x = j := ⟨x.toNat, by omega⟩; (have hi : i < zs.length := by omega); obtain ⟨g, rfl, hg1, hg2, e0, f0⟩ := (r.but hb1 hb hh).at (Below.refl _ _) hi; obtain ⟨z, hz⟩ : ∃ z, z = zs.getD i 0 := ⟨_, rfl⟩; rw [← hz] at e0; (have HZ := Lib.hid hz); clear hz)
  go_ret
  exact ⟨z, ⟨i, hi, HZ.out⟩, rfl, hc1, hb1⟩
/-- A list as drawn: near a list of colors. -/
def NearL (zs : List Int) : Prop := 5 ≤ zs.length ∧ zs.length ≤ 6 ∧ ∀ i, i < zs.length → -1 ≤ zs.getD i 0 ∧ zs.getD i 0 ≤ 6
theorem near_id : NearL idL := ⟨by decide, by decide, by decide⟩
theorem NearL.set {zs : List Int} (h : NearL zs) (j : Nat) {z : Int} (hz : -1 ≤ z ∧ z ≤ 6) : NearL (zs.set j z) := by
  obtain ⟨h5, h6, hc⟩ := h
  refine ⟨by simpa using h5, by simpa using h6, fun i hi => ?_⟩
  rw [List.length_set] at hi
  by_cases e : j = i
  · subst e
    simp [List.getD, hi]; exact hz
  · have := hc i hi
    simpa [List.getD, List.getElem?_set, e] using this
theorem NearL.cut {zs : List Int} (h : NearL zs) (h6 : zs.length = 6) : NearL (zs.drop 1) := by
  obtain ⟨_, _, hc⟩ := h
  refine ⟨by simp; omega, by simp; omega, fun i hi => ?_⟩
  rw [List.length_drop] at hi
  have := hc (1 + i) (by omega)
  simpa [List.getD, List.getElem?_drop, Nat.add_comm 1 i] using this
theorem IntIn.cut {lo hi g n cap : Nat} {w : World} {zs : List Int} (h : IntIn lo hi w (.slice (some ⟨g, 0, none⟩) n cap) zs) (m c : Nat) (h1 : 1 ≤ zs.length) (hm : m = zs.length - 1) : IntO lo hi w (.slice (some ⟨g, 1, none⟩) m c) (zs.drop 1) := by
  obtain ⟨hl, ⟨h, _⟩ | ⟨g', cap', hv, hg, hlt, hc⟩⟩ := h
  · subst h; simp at h1
  · simp only [Value.slice.injEq, Option.some.injEq, Addr.mk.injEq, and_true] at hv
    obtain ⟨rfl, rfl, rfl⟩ := hv
    refine ⟨by simp; omega, .inr ⟨g, 1, c, by simp [hm], hg, hlt, fun i hi => ?_⟩⟩
    rw [List.length_drop] at hi
    have := hc (1 + i) (by omega)
    simpa [List.getD, List.getElem?_drop, Nat.add_comm 1 i] using this
theorem pick4 {x : Int} (h : ∃ i, i < ([-1, 0, 5, 6] : List Int).length ∧ x = ([-1, 0, 5, 6] : List Int).getD i 0) : -1 ≤ x ∧ x ≤ 6 := by
  obtain ⟨i, hi, rfl⟩ := h
  have : i = 0 ∨ i = 1 ∨ i = 2 ∨ i = 3 := by simp at hi; omega
  rcases this with rfl | rfl | rfl | rfl <;> decide
/-- A list is handed back, in a block of its own; the cursor goes on. -/
def DrawnL (b : Nat) (a : Option Addr) (len cap : Nat) (w : World) (e : Ending) (w' : World) : Prop :=
  ∃ (v : Value) (zs : List Int), NearL zs ∧ e = .returned v ∧ IntO w.heap.size w'.heap.size w' v zs ∧ Cur w' b a len cap ∧ But b w w'
set_option maxHeartbeats 4000000 in
theorem ListDraw_any (b : Nat) (a : Option Addr) (len cap : Nat) (w : World) (hcur : Cur w b a len cap) :
    Calls Try.prog 45 #[.pointer (some ⟨b, 0, none⟩)] w (DrawnL b a len cap w) := by
  have HC := Lib.hid hcur
  have hlt := hcur.lt
  clear hcur
  go_enter Try.func45, Try.ntmps45
  go_wp2_with fail
  refine (SpecSame6_cap _).mono ?_
  rintro e w1 ⟨g, cp, rfl, hcp, R1, hb1⟩
  obtain ⟨_, hg, hg1, hg2, _, _⟩ := R1.at (Below.refl _ _) (i := 0) (by decide)
  simp only [Option.some.injEq, Addr.mk.injEq, and_true] at hg
  subst hg
  have hl6 : idL.length = 6 := rfl
  have HR1 := Lib.hid R1
  have HC1 := Lib.hid (HC.out.kept hb1)
  have HB1 := Lib.hid (But.of_below (b := b) hb1)
  clear R1 hb1
  go_wp2_with fail
  refine (Below_any b a len cap 6 _ HC1.out (by omega) (by omega)).mono ?_
  rintro e w2 ⟨x, ⟨x0, x1⟩, rfl, hc2, hb2⟩
  have HR2 := Lib.hid (HR1.out.but hb2 hlt (Nat.le_refl _))
  have HC2 := Lib.hid hc2
  have HB2 := Lib.hid (HB1.out.trans hb2)
  have hs2 : w1.heap.size ≤ w2.heap.size := hb2.size
  clear hc2 hb2 HR1 HC1 HB1
  go_wp2_with fail
  go_loopw [4] (fun i wr => ∃ (k : Nat) (zs : List Int), i = .int .i64 k ∧ k < 6 ∧ NearL zs ∧ zs.length = 6 ∧ Hid (IntIn w.heap.size w1.heap.size wr (.slice (some ⟨g, 0, none⟩) 6 cp) zs) ∧ Hid (Cur wr b a len cap) ∧ Hid (But b w wr) ∧ w1.heap.size ≤ wr.heap.size) (fun i _ => (intOf i).toNat)
  case atStart => exact ⟨x.toNat, idL, by rw [show ((x.toNat : Nat) : Int) = x by omega], by omega, near_id, rfl, HR2, HC2, HB2, hs2⟩
  case round =>
    obtain ⟨k, zs, rfl, hk, hnear, hz6, HR, HCr, HBr, hsr⟩ := hrel
    clear HR2 HC2 HB2 hs2
    by_cases hlt0 : 0 < k
    · go_wp2_with fail
      refine (Below_any b a len cap 6 _ HCr.out (by omega) (by omega)).mono ?_
      rintro e w3 ⟨y, ⟨y0, y1⟩, rfl, hc3, hb3⟩
      obtain ⟨i, rfl⟩ : ∃ j : Nat, y = j := ⟨y.toNat, by omega⟩
      have HR3 := Lib.hid (HR.out.but hb3 hlt hsr)
      have HC3 := Lib.hid hc3
      have HB3 := Lib.hid (HBr.out.trans hb3)
      have hs3 : w1.heap.size ≤ w3.heap.size := Nat.le_trans hsr hb3.size
      clear hc3 hb3 HR HCr HBr
      go_wp2_with fail
      refine (Below_any b a len cap 6 _ HC3.out (by omega) (by omega)).mono ?_
      rintro e w4 ⟨y, ⟨z0, z1⟩, rfl, hc4, hb4⟩
      obtain ⟨j, rfl⟩ : ∃ j : Nat, y = j := ⟨y.toNat, by omega⟩
      have R4 := HR3.out.but hb4 hlt hs3
      have HC4 := Lib.hid hc4
      have HB4 := Lib.hid (HB3.out.trans hb4)
      have hs4 : w1.heap.size ≤ w4.heap.size := Nat.le_trans hs3 hb4.size
      clear hc4 hb4 HR3 HC3 HB3
      obtain ⟨_, hg, _, _, e0, f0⟩ := R4.at (Below.refl _ _) (i := i) (by omega)
      simp only [Option.some.injEq, Addr.mk.injEq, and_true] at hg
      subst hg
      obtain ⟨_, hg, _, _, e1, f1⟩ := R4.at (Below.refl _ _) (i := j) (by omega)
      simp only [Option.some.injEq, Addr.mk.injEq, and_true] at hg
      subst hg
      have n0 := hnear.2.2 i (by omega)
      have n1 := hnear.2.2 j (by omega)
      obtain ⟨u0, hu0⟩ : ∃ z, z = zs.getD i 0 := ⟨_, rfl⟩
      obtain ⟨u1, hu1⟩ : ∃ z, z = zs.getD j 0 := ⟨_, rfl⟩
      rw [← hu0] at e0 n0
      rw [← hu1] at e1 n1
      clear hu0 hu1
      have R5 := R4.set i (by omega) u1
      obtain ⟨_, hg, _, _, e2, f2⟩ := R5.at (Below.refl _ _) (i := j) (by simp; omega)
      simp only [Option.some.injEq, Addr.mk.injEq, and_true] at hg
      subst hg
      generalize (zs.set i u1).getD j 0 = u2 at e2
      clear R5
      have HR := Lib.hid ((R4.set i (by omega) u1).set j (by simp; omega) u0)
      have HN := Lib.hid ((hnear.set i n1).set j n0)
      have HL : Hid (((zs.set i u1).set j u0).length = 6) := Lib.hid (by simp; exact hz6)
      have HB := Lib.hid (But.setCell (But.setCell HB4.out (p := ⟨g, i, none⟩) (.inr hg1) (.int .i64 u1)) (p := ⟨g, j, none⟩) (.inr hg1) (.int .i64 u0))
      have HCC := Lib.hid (HC4.out.below (Below.setCell (Below.setCell (Below.refl w.heap.size _) (p := ⟨g, i, none⟩) hg1 (.int .i64 u1)) (p := ⟨g, j, none⟩) hg1 (.int .i64 u0)) hlt)
      have hil : (i : Int) < 6 := by omega
      have hjl : (j : Int) < 6 := by omega
      clear R4 hnear
      go_wp2_with fail
      go_roundw
      case rel => exact ⟨k - 1, (zs.set i u1).set j u0, by go_num, by omega, HN.out, HL.out, HR, HCC, HB, by simpa [World.setCell] using hs4⟩
      case measure => simp [intOf] <;> omega
    · obtain rfl : k = 0 := by omega
      go_wp2_with fail
      refine (Below_any b a len cap 10 _ HCr.out (by omega) (by omega)).mono ?_
      rintro e w3 ⟨y, ⟨y0, y1⟩, rfl, hc3, hb3⟩
      have HR3 := Lib.hid (HR.out.but hb3 hlt hsr)
      have HC3 := Lib.hid hc3
      have HB3 := Lib.hid (HBr.out.trans hb3)
      have hs3 : w1.heap.size ≤ w3.heap.size := Nat.le_trans hsr hb3.size
      clear hc3 hb3 HR HCr HBr
      by_cases h0 : y = 0
      · subst h0
        go_wp2_with fail
        refine (Below_any b a len cap 6 _ HC3.out (by omega) (by omega)).mono ?_
        rintro e w4 ⟨y, ⟨z0, z1⟩, rfl, hc4, hb4⟩
        obtain ⟨j, rfl⟩ : ∃ j : Nat, y = j := ⟨y.toNat, by omega⟩
        have HR4 := Lib.hid (HR3.out.but hb4 hlt hs3)
        have HC4 := Lib.hid hc4
        have HB4 := Lib.hid (HB3.out.trans hb4)
        have hs4 : w1.heap.size ≤ w4.heap.size := Nat.le_trans hs3 hb4.size
        have hb4' : b < w4.heap.size := by omega
        clear hc4 hb4 HR3 HC3 HB3
        have HP := Lib.hid (PickInt_any w4.heap.size (w4.heap.size + 1) b a len cap (some ⟨w4.heap.size, 0, none⟩) 4 4 [-1, 0, 5, 6] _ (HC4.out.alloc _) (lit4 w4 (-1) 0 5 6 3) rfl (by omega) hb4' (by simp))
        go_wp2_with (go_at_call 67; refine HP.out.mono ?_; rintro e w5 ⟨z, hz, rfl, hc5, hb5⟩; (have HR5 := Lib.hid ((HR4.out.below ((Below.refl _ _).alloc hs4 _)).but hb5 hlt (by simp; omega))); obtain ⟨_, hg, _, _, e5, f5⟩ := HR5.out.at (Below.refl _ _) (i := j) (by omega); simp only [Option.some.injEq, Addr.mk.injEq, and_true] at hg; subst hg; generalize zs.getD j 0 = u5 at e5; (have HZ := Lib.hid (pick4 hz)); clear hz; (have HC5 := Lib.hid hc5); (have HB5 := Lib.hid ((HB4.out.alloc _).trans hb5)); (have hs5 : w1.heap.size ≤ w5.heap.size := by have := hb5.size; simp at this; omega); clear hc5 hb5)
        go_ret
        have HRR := HR5.out.set j (by omega) z
        refine ⟨_, zs.set j z, hnear.set j HZ.out, rfl, HRR.o.wide (Nat.le_refl _) (by simpa [World.setCell] using hs5), ?_, ?_⟩
        · exact HC5.out.below (Below.setCell (Below.refl w.heap.size _) (p := ⟨g, j, none⟩) hg1 (.int .i64 z)) hlt
        · exact But.setCell HB5.out (p := ⟨g, j, none⟩) (.inr hg1) (.int .i64 z)
      · by_cases h1 : y = 1
        · subst h1
          have hcp1 : ¬ cp = 1 := by omega
          go_wp2_with fail
          go_ret
          exact ⟨_, zs.drop 1, hnear.cut hz6, rfl, (HR3.out.cut 5 (cp - 1) (by omega) (by omega)).wide (Nat.le_refl _) hs3, HC3.out, HB3.out⟩
        · go_wp2_with fail
          go_ret
          exact ⟨_, zs, hnear, rfl, HR3.out.o.wide (Nat.le_refl _) hs3, HC3.out, HB3.out⟩

end Go.Proofs.Ytndffjphdlncpaa

namespace Go.Proofs.Ytndffjphdlncpaa
open Go.ChangeShapes Go.WideShapes Go.ChangeAt Go.RowKit

/-- A cell's three places: what they hold, and that they may be written. -/
def BoxC (p : Nat) (x y z : Value) (u : World) : Prop :=
  (u.cell? ⟨p, 0, none⟩ = some x ∧ u.cell? ⟨p, 1, none⟩ = some y ∧ u.cell? ⟨p, 2, none⟩ = some z) ∧ u.frozen? ⟨p, 0, none⟩ = false ∧ u.frozen? ⟨p, 1, none⟩ = false ∧ u.frozen? ⟨p, 2, none⟩ = false
theorem BoxC.lt {p : Nat} {x y z : Value} {u : World} (h : BoxC p x y z u) : p < u.heap.size := lt_of_cell h.1.1
theorem BoxC.but {p b : Nat} {x y z : Value} {u w : World} (h : BoxC p x y z u) (hb : But b u w) (hp : p ≠ b) : BoxC p x y z w := by
  have hl := h.lt
  obtain ⟨⟨h0, h1, h2⟩, f0, f1, f2⟩ := h
  exact ⟨⟨(hb.cell (p := ⟨p, 0, none⟩) hl hp).trans h0, (hb.cell (p := ⟨p, 1, none⟩) hl hp).trans h1, (hb.cell (p := ⟨p, 2, none⟩) hl hp).trans h2⟩,
    (hb.frozen (p := ⟨p, 0, none⟩) hl hp).trans f0, (hb.frozen (p := ⟨p, 1, none⟩) hl hp).trans f1, (hb.frozen (p := ⟨p, 2, none⟩) hl hp).trans f2⟩
theorem BoxC.below {p B : Nat} {x y z : Value} {u w : World} (h : BoxC p x y z u) (hb : Below B u w) (hp : p < B) : BoxC p x y z w := by
  obtain ⟨⟨h0, h1, h2⟩, f0, f1, f2⟩ := h
  exact ⟨⟨(hb.cell (p := ⟨p, 0, none⟩) hp).trans h0, (hb.cell (p := ⟨p, 1, none⟩) hp).trans h1, (hb.cell (p := ⟨p, 2, none⟩) hp).trans h2⟩,
    (hb.frozen (p := ⟨p, 0, none⟩) hp).trans f0, (hb.frozen (p := ⟨p, 1, none⟩) hp).trans f1, (hb.frozen (p := ⟨p, 2, none⟩) hp).trans f2⟩
theorem BoxC.new (w : World) (x y z : Value) (T : TypeId) : BoxC w.heap.size x y z (w.alloc (.cells #[x, y, z] T)) := ⟨⟨by simp, by simp, by simp⟩, by simp, by simp, by simp⟩

/-- A cell is handed back; the cursor goes on. -/
def DrawnC2 (b : Nat) (a : Option Addr) (len cap : Nat) (w : World) (e : Ending) (w' : World) : Prop :=
  ∃ s x y : Int, e = .returned (.agg #[.int .i64 s, .int .i64 x, .int .i64 y]) ∧ Cur w' b a len cap ∧ But b w w'

set_option maxHeartbeats 4000000 in
theorem CellAny_any (b : Nat) (a : Option Addr) (len cap : Nat) (w : World) (hcur : Cur w b a len cap) :
    Calls Try.prog 68 #[.pointer (some ⟨b, 0, none⟩)] w (DrawnC2 b a len cap w) := by
  have HC := Lib.hid hcur
  have hlt := hcur.lt
  clear hcur
  go_enter Try.func68, Try.ntmps68
  go_wp2_with fail
  refine (CellDraw_any b a len cap _ (HC.out.alloc _)).mono ?_
  rintro e w1 ⟨s, x, y, hok, rfl, hc1, hb1⟩
  clear hok
  have P1 := (BoxC.new w (.int .i64 0) (.int .i64 0) (.int .i64 0) 41).but hb1 (by omega)
  have hz1 : w.heap.size < w1.heap.size := by have := hb1.size; simp at this; omega
  have HB1 := Lib.hid ((((But.refl b w).alloc _).trans hb1).alloc (.cells #[.int .i64 s, .int .i64 x, .int .i64 y] 41))
  have HC1 := Lib.hid (hc1.alloc (.cells #[.int .i64 s, .int .i64 x, .int .i64 y] 41))
  have HP1 := Lib.hid (P1.below (bel0 w1 (.cells #[.int .i64 s, .int .i64 x, .int .i64 y] 41)) hz1)
  have HQ1 := Lib.hid (BoxC.new w1 (.int .i64 s) (.int .i64 x) (.int .i64 y) 41)
  clear hb1 hc1 P1
  go_wp2_with fail
  refine (Below_any b a len cap 12 _ HC1.out (by omega) (by omega)).mono ?_
  rintro e w2 ⟨d, ⟨d0, d1⟩, rfl, hc2, hb2⟩
  have hz2 : w1.heap.size < w2.heap.size := by have := hb2.size; simp at this; omega
  have HB2 := Lib.hid (HB1.out.trans hb2)
  have HP2 := Lib.hid (HP1.out.but hb2 (by omega))
  have HQ2 := Lib.hid (HQ1.out.but hb2 (by omega))
  have HC2 := Lib.hid hc2
  clear hb2 hc2 HB1 HP1 HQ1 HC1
  by_cases h0 : d = 0
  · subst h0
    have HP := Lib.hid (PickInt_any w2.heap.size (w2.heap.size + 1) b a len cap (some ⟨w2.heap.size, 0, none⟩) 4 4 [-1, 0, 2, 3] _ (HC2.out.alloc _) (lit4 w2 (-1) 0 2 3 3) rfl (by omega) (by omega) (by simp))
    go_wp2_with (go_at_call 67; refine HP.out.mono ?_; rintro e w3 ⟨z, hz, rfl, hc3, hb3⟩; clear hz; (have hz3 : w1.heap.size < w3.heap.size := by have := hb3.size; simp at this; omega); (have HB3 := Lib.hid ((HB2.out.alloc _).trans hb3)); (have HC3 := Lib.hid hc3); obtain ⟨⟨p0, p1, p2⟩, f0, f1, f2⟩ := (HP2.out.below (bel0 w2 _) (by omega)).but hb3 (by omega); obtain ⟨⟨q0, q1, q2⟩, g0, g1, g2⟩ := (HQ2.out.below (bel0 w2 _) (by omega)).but hb3 (by omega); clear hb3 hc3 HB2 HC2)
    refine bodyPost_ret (v := .agg #[.int .i64 z, .int .i64 x, .int .i64 y]) (by simp [results, Try.results68, go_sem, p0, p1, p2]) rfl ⟨z, x, y, rfl, ?_, ?_⟩
    · refine HC3.out.below (B := w.heap.size) ?_ hlt
      refine Below.setCell (Below.setCell (Below.setCell (Below.setCell (Below.refl _ _) ?_ _) ?_ _) ?_ _) ?_ _ <;> (simp <;> omega)
    · refine But.setCell (But.setCell (But.setCell (But.setCell HB3.out (.inr ?_) _) (.inr ?_) _) (.inr ?_) _) (.inr ?_) _ <;> (simp <;> omega)
  have e0 : (d == 0) = false := by simpa using h0
  by_cases h1 : d = 1
  · subst h1
    have HP := Lib.hid (PickInt_any w2.heap.size (w2.heap.size + 1) b a len cap (some ⟨w2.heap.size, 0, none⟩) 4 4 [-1, 0, 5, 6] _ (HC2.out.alloc _) (lit4 w2 (-1) 0 5 6 3) rfl (by omega) (by omega) (by simp))
    go_wp2_with (go_at_call 67; refine HP.out.mono ?_; rintro e w3 ⟨z, hz, rfl, hc3, hb3⟩; clear hz; (have hz3 : w1.heap.size < w3.heap.size := by have := hb3.size; simp at this; omega); (have HB3 := Lib.hid ((HB2.out.alloc _).trans hb3)); (have HC3 := Lib.hid hc3); obtain ⟨⟨p0, p1, p2⟩, f0, f1, f2⟩ := (HP2.out.below (bel0 w2 _) (by omega)).but hb3 (by omega); obtain ⟨⟨q0, q1, q2⟩, g0, g1, g2⟩ := (HQ2.out.below (bel0 w2 _) (by omega)).but hb3 (by omega); clear hb3 hc3 HB2 HC2)
    refine bodyPost_ret (v := .agg #[.int .i64 s, .int .i64 z, .int .i64 y]) (by simp [results, Try.results68, go_sem, p0, p1, p2]) rfl ⟨s, z, y, rfl, ?_, ?_⟩
    · refine HC3.out.below (B := w.heap.size) ?_ hlt
      refine Below.setCell (Below.setCell (Below.setCell (Below.setCell (Below.refl _ _) ?_ _) ?_ _) ?_ _) ?_ _ <;> (simp <;> omega)
    · refine But.setCell (But.setCell (But.setCell (But.setCell HB3.out (.inr ?_) _) (.inr ?_) _) (.inr ?_) _) (.inr ?_) _ <;> (simp <;> omega)
  have e1 : (d == 1) = false := by simpa using h1
  by_cases h2 : d = 2
  · subst h2
    have HP := Lib.hid (PickInt_any w2.heap.size (w2.heap.size + 1) b a len cap (some ⟨w2.heap.size, 0, none⟩) 4 4 [-1, 0, 5, 6] _ (HC2.out.alloc _) (lit4 w2 (-1) 0 5 6 3) rfl (by omega) (by omega) (by simp))
    go_wp2_with (go_at_call 67; refine HP.out.mono ?_; rintro e w3 ⟨z, hz, rfl, hc3, hb3⟩; clear hz; (have hz3 : w1.heap.size < w3.heap.size := by have := hb3.size; simp at this; omega); (have HB3 := Lib.hid ((HB2.out.alloc _).trans hb3)); (have HC3 := Lib.hid hc3); obtain ⟨⟨p0, p1, p2⟩, f0, f1, f2⟩ := (HP2.out.below (bel0 w2 _) (by omega)).but hb3 (by omega); obtain ⟨⟨q0, q1, q2⟩, g0, g1, g2⟩ := (HQ2.out.below (bel0 w2 _) (by omega)).but hb3 (by omega); clear hb3 hc3 HB2 HC2)
    refine bodyPost_ret (v := .agg #[.int .i64 s, .int .i64 x, .int .i64 z]) (by simp [results, Try.results68, go_sem, p0, p1, p2]) rfl ⟨s, x, z, rfl, ?_, ?_⟩
    · refine HC3.out.below (B := w.heap.size) ?_ hlt
      refine Below.setCell (Below.setCell (Below.setCell (Below.setCell (Below.refl _ _) ?_ _) ?_ _) ?_ _) ?_ _ <;> (simp <;> omega)
    · refine But.setCell (But.setCell (But.setCell (But.setCell HB3.out (.inr ?_) _) (.inr ?_) _) (.inr ?_) _) (.inr ?_) _ <;> (simp <;> omega)
  have e2 : (d == 2) = false := by simpa using h2
  obtain ⟨⟨p0, p1, p2⟩, f0, f1, f2⟩ := HP2.out
  obtain ⟨⟨q0, q1, q2⟩, g0, g1, g2⟩ := HQ2.out
  go_wp2_with fail
  refine bodyPost_ret (v := .agg #[.int .i64 s, .int .i64 x, .int .i64 y]) (by simp [results, Try.results68, go_sem, p0, p1, p2]) rfl ⟨s, x, y, rfl, ?_, ?_⟩
  · refine HC2.out.below (B := w.heap.size) ?_ hlt
    refine Below.setCell (Below.setCell (Below.setCell (Below.refl _ _) ?_ _) ?_ _) ?_ _ <;> exact Nat.le_refl _
  · exact But.setCell (But.setCell (But.setCell HB2.out (.inr (Nat.le_refl _)) _) (.inr (Nat.le_refl _)) _) (.inr (Nat.le_refl _)) _
end Go.Proofs.Ytndffjphdlncpaa
