/- Sameness: the walk of FnSameness. -/
import Derived.Test.YtfidnhhlcdbaeaaGreatDoorM24
import Derived.Test.YtfidnhhlcdbaeaaGreatDoorM18
import Derived.Test.YtfidnhhlcdbaeaaGreatDoorM06
import Derived.Test.YtfidnhhlcdbaeaaGreatDoorM15
import Derived.Test.YtfidnhhlcdbaeaaGreatDoorM11
import Derived.Test.YtfidnhhlcdbaeaaGreatDoorM22
import Derived.Test.YtfidnhhlcdbaeaaGreatDoorM13
import Derived.Test.YtfidnhhlcdbaeaaGreatDoorM08
import Derived.Laws.Cover1
import Derived.Deep.DeepCutAuto
import Derived.Deep.RegionHeld3

namespace Go.Proofs.YtfidnhhlcdbaeaaGreatDoor
open Go.ChangeShapes Go.WideShapes Go.ChangeAt Go.RowKit

theorem SameKs (l1 h1 l2 h2 : Nat) (n : Int) (v1 v2 : Value) (xs : List C3) (u : World) (r1 : Rk l1 h1 v1 xs u) (r2 : Rk l2 h2 v2 xs u) :
    Calls Tryz.prog 13 #[.agg #[.int .i64 n, v1], .agg #[.int .i64 n, v2]] u fun e w' => e = .returned (.bool true) ∧ Below u.heap.size u w' := by
  have := ImplSame_any l1 h1 l2 h2 n n v1 v2 xs xs u r1.1 r2.1 r1.2 r2.2
  rw [sameB_yes] at this
  exact this
theorem LfKs (lo hi : Nat) (n : Int) (v : Value) (xs ys : List C3) (u : World) (r : Rk lo hi v xs u) (hb : BlkOk n xs) (e : lfL n xs = ys) :
    Calls Tryz.prog 8 #[.agg #[.int .i64 n, v]] u (FreshB n ys u) := by
  have := ImplLeastForm_any lo hi n v xs u r.1 r.2
  rw [(turnB_yes hb).1, (sam_yes hb).2.1, e] at this
  exact this
theorem LpKs (lo hi : Nat) (n : Int) (v : Value) (xs ys : List C3) (u : World) (r : Rk lo hi v xs u) (hb : BlkOk n xs) (e : lpL n xs = ys) :
    Calls Tryz.prog 9 #[.agg #[.int .i64 n, v]] u (FreshB n ys u) := by
  have := ImplLeastPattern_any lo hi n v xs u r.1 r.2
  rw [(turnB_yes hb).1, (sam_yes hb).2.2, e] at this
  exact this
theorem TextKs (lo hi : Nat) (n : Int) (v : Value) (xs : List C3) (t : ByteArray) (u : World) (r : Rk lo hi v xs u) (hb : BlkOk n xs) (e : txtB xs = t) :
    Calls Tryz.prog 16 #[.agg #[.int .i64 n, v]] u fun e w' => e = .returned (.string t) ∧ Below u.heap.size u w' := by
  have := ImplTextOf_any lo hi n v xs u r.1 r.2
  rw [(sam_yes hb).1, e] at this
  exact this
theorem FormsKs (lo hi : Nat) (n c : Int) (v : Value) (xs : List C3) (u : World) (r : Rk lo hi v xs u) (e : forms n xs = c) :
    Calls Tryz.prog 12 #[.agg #[.int .i64 n, v]] u fun e w' => e = .returned (.int .i64 c) ∧ Below u.heap.size u w' := by
  have := ImplCountForms_any lo hi n v xs u r.1 r.2
  rw [e] at this
  exact this
theorem AreKs (lo hi lo2 hi2 : Nat) (n m : Int) (v v2 : Value) (xs ys : List C3) (b : Bool) (u : World) (r : Rk lo hi v xs u) (r2 : Rk lo2 hi2 v2 ys u) (e : areF n m xs ys = b) :
    Calls Tryz.prog 14 #[.agg #[.int .i64 n, v], .agg #[.int .i64 m, v2]] u fun e w' => e = .returned (.bool b) ∧ Below u.heap.size u w' := by
  have := ImplAreSame_any lo hi lo2 hi2 n m v v2 xs ys u r.1 r.2 r2.1 r2.2
  rw [e] at this
  exact this
theorem ArePKs (lo hi lo2 hi2 : Nat) (n m : Int) (v v2 : Value) (xs ys : List C3) (b : Bool) (u : World) (r : Rk lo hi v xs u) (r2 : Rk lo2 hi2 v2 ys u) (e : areP n m xs ys = b) :
    Calls Tryz.prog 15 #[.agg #[.int .i64 n, v], .agg #[.int .i64 m, v2]] u fun e w' => e = .returned (.bool b) ∧ Below u.heap.size u w' := by
  have := ImplArePatternsSame_any lo hi lo2 hi2 n m v v2 xs ys u r.1 r.2 r2.1 r2.2
  rw [e] at this
  exact this
theorem ExKs (lo hi lo2 hi2 : Nat) (n : Int) (v vl : Value) (xs ys : List C3) (zs : List Int) (u : World) (r : Rk lo hi v xs u) (rl : Ik lo2 hi2 vl zs u) (hb : BlkOk n xs) (hz : LstOk zs) (e : exL zs xs = ys) :
    Calls Tryz.prog 11 #[.agg #[.int .i64 n, v], vl] u (FreshBB n ys true u) := by
  have := SpecExchangeBlock_any lo hi lo2 hi2 n v vl xs zs u r.1 r.2 rl.1.o rl.2
  rw [(exA_yes ⟨hb, hz⟩).1, (exA_yes ⟨hb, hz⟩).2, e] at this
  exact this
/-- A source that begins one byte later. -/
theorem Src.tail {u : World} {b : Nat} {xb xo len : Nat} (h : Src u b (some ⟨xb, xo, none⟩) len) (h1 : 1 ≤ len) : Src u b (some ⟨xb, xo + 1, none⟩) (len - 1) := by
  obtain ⟨hm, h⟩ := h
  refine ⟨by omega, ?_⟩
  rcases h with h | ⟨yb, yo, e, hlt, hc⟩
  · omega
  · simp only [Option.some.injEq, Addr.mk.injEq, and_true] at e
    obtain ⟨rfl, rfl⟩ := e
    refine .inr ⟨xb, xo + 1, rfl, hlt, fun i hi => ?_⟩
    obtain ⟨x, hx⟩ := hc (i + 1) (by omega)
    exact ⟨x, by rw [show xo + 1 + i = xo + (i + 1) by omega]; exact hx⟩
theorem Src.less {u : World} {b : Nat} {a : Option Addr} {len m : Nat} (h : Src u b a len) (hm : m ≤ len) : Src u b a m := by
  obtain ⟨h0, h⟩ := h
  refine ⟨by omega, ?_⟩
  rcases h with h | ⟨yb, yo, e, hlt, hc⟩
  · exact .inl (by omega)
  · exact .inr ⟨yb, yo, e, hlt, fun i hi => hc i (by omega)⟩
/-- What 'o := DrawBlock(..)' leaves. -/
def OR (w0 : World) (q : Value) (wx : World) : Prop :=
  ∃ (p : Nat) (m : Int) (os : List C3) (a : Option Addr) (c l h : Nat), q = .pointer (some ⟨p, 0, none⟩) ∧ BlkOk m os ∧ Two p (.int .i64 m) (.slice a os.length c) wx ∧ Rk l h (.slice a os.length c) os wx ∧ Below w0.heap.size w0 wx

set_option maxRecDepth 100000 in
set_option maxHeartbeats 40000000 in
theorem SamenessLaw_walk (a : Option Addr) (len cap : Nat) (w : World) (hs : Src w w.heap.size a len) :
    Calls Tryz.prog 3 #[.slice a len cap] w fun e w' => e = .returned (.bool true) ∧ Below w.heap.size w w' := by
  have HS := Lib.hid (fun W (h : Below w.heap.size w W) => (hs.but (But.of_below h)).up2 h.size)
  obtain ⟨hm, hsrc⟩ := hs
  have hl : len ≤ 9223372036854775807 := by unfold maxLen at hm; omega
  have HSL : Hid (len = 0 ∨ ∃ xb xo, a = some ⟨xb, xo, none⟩) := Lib.hid (by
    rcases hsrc with h | ⟨xb, xo, e, _⟩
    · exact .inl h
    · exact .inr ⟨xb, xo, e⟩)
  clear hm hsrc
  by_cases hb0 : len ≤ 1048576
  · go_enter Tryz.func3, Tryz.ntmps3
    go_wp2_with fail
    refine (Big_no a len cap w hb0).mono ?_
    rintro e w' ⟨rfl, rfl⟩
    go_wp2_with fail
    refine (DrawBlock_any a len cap w (HS.out _ (Below.refl _ _)) hb0).mono ?_
    rintro e w1 ⟨n, v, xs, hok, rfl, R0, B⟩
    obtain ⟨av3, cv3, rfl⟩ := R0.form
    have HK := Lib.hid hok
    have K : Kp w [Rk w.heap.size w1.heap.size (.slice av3 xs.length cv3) xs] w1 := (Kp.nil B).cons fun _ hv => Rk.keep ⟨R0, Nat.le_refl _⟩ hv
    clear hok R0 B
    have K := K.two (.int .i64 n) (.slice av3 xs.length cv3) 26
    go_wp2_with fail
    refine (At_any a len cap 0 _ _ (HS.out _ K.1) (by omega) (by omega)).mono ?_
    rintro e uu ⟨k0, k0a, k0b, rfl, huu⟩
    subst uu
    have kc : 0 ≤ k0 % 8 ∧ k0 % 8 < 8 := by omega
    go_wp2_with fail
    generalize k0 % 8 = k at *
    have KC := Lib.hid kc
    clear kc k0a k0b
    obtain ⟨kn, hkn⟩ : ∃ kn : Nat, k = (kn : Int) := ⟨k.toNat, by have := KC.out; omega⟩
    subst hkn
    have kn8 : kn < 8 := by have := KC.out; omega
    obtain ⟨ds, hds⟩ : ∃ ds, seeL n kn xs = ds := ⟨_, rfl⟩
    have hdo : BlkOk n ds := hds ▸ seeL_ok HK.out
    obtain ⟨fs, hfs⟩ : ∃ fs, lfL n xs = fs := ⟨_, rfl⟩
    have hfo : BlkOk n fs := hfs ▸ lf_ok HK.out
    obtain ⟨ps, hps⟩ : ∃ ps, lpL n xs = ps := ⟨_, rfl⟩
    have hfd : lfL n ds = fs := by rw [← hds, lf_view HK.out kn8, hfs]
    have hbd : areF n n xs ds = true := hds ▸ (areF_view HK.out kn8).1
    have hdb : areF n n ds xs = true := hds ▸ (areF_view HK.out kn8).2
    have hbf : areF n n xs fs = true := hfs ▸ areF_lf HK.out
    have hle : (Op.bytesLess (txtB fs).toList (txtB xs).toList || (txtB fs).toList == (txtB xs).toList) = true := hfs ▸ txt_least (n := n) xs
    have HDS := Lib.hid hds
    have HDO := Lib.hid hdo
    have HFS := Lib.hid hfs
    have HFO := Lib.hid hfo
    have HPS := Lib.hid hps
    have HFD := Lib.hid hfd
    have HBD := Lib.hid hbd
    have HDB := Lib.hid hdb
    have HBF := Lib.hid hbf
    have HLE := Lib.hid hle
    clear hds hdo hfs hfo hps hfd hbd hdb hbf hle
    obtain ⟨c_P30, c_P31⟩ := (K.get 0 rfl)
    go_wp2_with fail
    clear c_P30 c_P31
    refine (SpecSeeY _ _ n kn (kn : Int) _ xs ds _ (K.get 1 rfl).1 (K.get 1 rfl).2 HK.out rfl (by omega) HDS.out).mono ?_
    rintro e w2 ⟨v5, rfl, R, hb⟩
    obtain ⟨av5, cv5, rfl⟩ := R.form
    have K := K.row hb R
    clear hb R
    have K := K.two (.int .i64 n) (.slice av5 ds.length cv5) 26
    obtain ⟨c_P30, c_P31⟩ := (K.get 2 rfl)
    go_wp2_with fail
    clear c_P30 c_P31
    refine (LfKs _ _ n _ xs fs _ (K.get 3 rfl) HK.out HFS.out).mono ?_
    rintro e w3 ⟨v6, rfl, R, hb⟩
    obtain ⟨av6, cv6, rfl⟩ := R.form
    have K := K.row hb R
    clear hb R
    have K := K.two (.int .i64 n) (.slice av6 fs.length cv6) 26
    obtain ⟨c_P30, c_P31⟩ := (K.get 4 rfl)
    go_wp2_with fail
    clear c_P30 c_P31
    refine (LpKs _ _ n _ xs ps _ (K.get 5 rfl) HK.out HPS.out).mono ?_
    rintro e w4 ⟨v7, rfl, R, hb⟩
    obtain ⟨av7, cv7, rfl⟩ := R.form
    have K := K.row hb R
    clear hb R
    have K := K.two (.int .i64 n) (.slice av7 ps.length cv7) 26
    go_wp2_with fail
    refine (At_any a len cap 1 _ _ (HS.out _ K.1) (by omega) (by omega)).mono ?_
    rintro e uu ⟨i0, i0a, i0b, rfl, huu⟩
    subst uu
    have ic : 0 ≤ i0 % 6 ∧ i0 % 6 < 6 := by omega
    go_wp2_with fail
    generalize i0 % 6 = i at *
    have IC := Lib.hid ic
    clear ic i0a i0b
    go_wp2_with fail
    refine (At_any a len cap 2 _ _ (HS.out _ K.1) (by omega) (by omega)).mono ?_
    rintro e uu ⟨j0, j0a, j0b, rfl, huu⟩
    subst uu
    have jc : 0 ≤ j0 % 6 ∧ j0 % 6 < 6 := by omega
    go_wp2_with fail
    generalize j0 % 6 = j at *
    have JC := Lib.hid jc
    clear jc j0a j0b
    have hci : Col i := ⟨IC.out.1, by have := IC.out.2; omega⟩
    have hcj : Col j := ⟨JC.out.1, by have := JC.out.2; omega⟩
    obtain ⟨ss, hss⟩ : ∃ ss, swpL i j = ss := ⟨_, rfl⟩
    have HSE : Hid (Exch ss) := Lib.hid (hss ▸ swp_exch hci hcj)
    have HSA : Hid (swapAns i j = ss) := Lib.hid ((swap_yes ⟨hci, hcj⟩).trans hss)
    obtain ⟨es, hes⟩ : ∃ es, exL ss ds = es := ⟨_, rfl⟩
    have HEO : Hid (BlkOk n es) := Lib.hid (hes ▸ exL_ok HSE.out.1 HDO.out)
    have HES := Lib.hid hes
    have HPE : Hid (lpL n es = ps) := Lib.hid (by rw [← hes, lp_ex HSE.out HDO.out, ← HDS.out, lp_view HK.out kn8, HPS.out])
    have HBE : Hid (areP n n xs es = true) := Lib.hid (by rw [← hes, ← HDS.out]; exact areP_view HSE.out HK.out kn8)
    obtain ⟨c, hc⟩ : ∃ c : Int, ((cntE (eqV n xs) 8 : Nat) : Int) = c := ⟨_, rfl⟩
    have HC1 : Hid (forms n xs = c) := Lib.hid (by rw [forms_yes HK.out, hc])
    have HC2 : Hid (forms n es = c) := Lib.hid (by rw [forms_yes HEO.out, ← hes, forms_ex HSE.out HDO.out, ← HDS.out, forms_view HK.out kn8, hc])
    have HC4 : Hid (c = 1 ∨ c = 2 ∨ c = 4 ∨ c = 8) := Lib.hid (by rw [← hc]; rcases forms_four HK.out with h | h | h | h <;> rw [h] <;> simp)
    clear hci hcj hss hes hc
    have CSW := Lib.hid (fun u : World => SpecSwapList_any i j u)
    rw [HSA.out] at CSW
    refine (CSW.out _).mono ?_
    rintro e w5 ⟨v8, rfl, R, hb⟩
    obtain ⟨av8, cv8, rfl⟩ := R.form
    have K := K.ints hb R
    clear hb R
    obtain ⟨c_P50, c_P51⟩ := (K.get 5 rfl)
    go_wp2_with fail
    clear c_P50 c_P51
    refine (ExKs _ _ _ _ n _ _ ds es ss _ (K.get 6 rfl) (K.get 0 rfl) HDO.out HSE.out.1 HES.out).mono ?_
    rintro e w6 ⟨v9, rfl, R, hb⟩
    obtain ⟨av9, cv9, rfl⟩ := R.form
    have K := K.row hb R
    clear hb R
    have K := K.two (.int .i64 n) (.slice av9 es.length cv9) 26
    obtain ⟨c_P30, c_P31⟩ := (K.get 9 rfl)
    go_wp2_with fail
    clear c_P30 c_P31
    refine (FormsKs _ _ n c _ xs _ (K.get 10 rfl) HC1.out).mono ?_
    rintro e w7 ⟨rfl, hb⟩
    have K := K.keep hb
    clear hb
    have hcc := HC4.out
    have c1 : ¬ c < 1 := by omega
    have c2 : ¬ c = 0 := by omega
    have c2b : (c == 0) = false := by simp; omega
    have c3 : (8 : Int).tmod c = 0 := by rcases hcc with rfl | rfl | rfl | rfl <;> rfl
    have c4 : (8 : Int) % c = 0 := by rcases hcc with rfl | rfl | rfl | rfl <;> rfl
    clear hcc
    go_upto_region 11 with fail
    have CLF := Lib.hid (fun (u : World) (h : u.cell? ⟨w3.heap.size, 0, none⟩ = some (.int .i64 n) ∧ u.cell? ⟨w3.heap.size, 1, none⟩ = some (.slice av6 fs.length cv6) ∧ u.cell? ⟨w2.heap.size, 0, none⟩ = some (.int .i64 n) ∧ u.cell? ⟨w2.heap.size, 1, none⟩ = some (.slice av5 ds.length cv5) ∧ u.cell? ⟨w1.heap.size, 0, none⟩ = some (.int .i64 n) ∧ u.cell? ⟨w1.heap.size, 1, none⟩ = some (.slice av3 xs.length cv3) ∧ u.cell? ⟨w4.heap.size, 0, none⟩ = some (.int .i64 n) ∧ u.cell? ⟨w4.heap.size, 1, none⟩ = some (.slice av7 ps.length cv7) ∧ u.cell? ⟨w6.heap.size, 0, none⟩ = some (.int .i64 n) ∧ u.cell? ⟨w6.heap.size, 1, none⟩ = some (.slice av9 es.length cv9) ∧ Kp w [Two w6.heap.size (.int .i64 n) (.slice av9 es.length cv9), Rk w5.heap.size w6.heap.size (.slice av9 es.length cv9) es, Ik (w4.alloc (.cells #[.int .i64 n, .slice av7 ps.length cv7] 26)).heap.size w5.heap.size (.slice av8 ss.length cv8) ss, Two w4.heap.size (.int .i64 n) (.slice av7 ps.length cv7), Rk (w3.alloc (.cells #[.int .i64 n, .slice av6 fs.length cv6] 26)).heap.size w4.heap.size (.slice av7 ps.length cv7) ps, Two w3.heap.size (.int .i64 n) (.slice av6 fs.length cv6), Rk (w2.alloc (.cells #[.int .i64 n, .slice av5 ds.length cv5] 26)).heap.size w3.heap.size (.slice av6 fs.length cv6) fs, Two w2.heap.size (.int .i64 n) (.slice av5 ds.length cv5), Rk (w1.alloc (.cells #[.int .i64 n, .slice av3 xs.length cv3] 26)).heap.size w2.heap.size (.slice av5 ds.length cv5) ds, Two w1.heap.size (.int .i64 n) (.slice av3 xs.length cv3), Rk w.heap.size w1.heap.size (.slice av3 xs.length cv3) xs] u) => LfKs _ _ n _ ds fs u (h.2.2.2.2.2.2.2.2.2.2.get 8 rfl) HDO.out HFD.out)
    have CLP := Lib.hid (fun (u : World) (h : u.cell? ⟨w3.heap.size, 0, none⟩ = some (.int .i64 n) ∧ u.cell? ⟨w3.heap.size, 1, none⟩ = some (.slice av6 fs.length cv6) ∧ u.cell? ⟨w2.heap.size, 0, none⟩ = some (.int .i64 n) ∧ u.cell? ⟨w2.heap.size, 1, none⟩ = some (.slice av5 ds.length cv5) ∧ u.cell? ⟨w1.heap.size, 0, none⟩ = some (.int .i64 n) ∧ u.cell? ⟨w1.heap.size, 1, none⟩ = some (.slice av3 xs.length cv3) ∧ u.cell? ⟨w4.heap.size, 0, none⟩ = some (.int .i64 n) ∧ u.cell? ⟨w4.heap.size, 1, none⟩ = some (.slice av7 ps.length cv7) ∧ u.cell? ⟨w6.heap.size, 0, none⟩ = some (.int .i64 n) ∧ u.cell? ⟨w6.heap.size, 1, none⟩ = some (.slice av9 es.length cv9) ∧ Kp w [Two w6.heap.size (.int .i64 n) (.slice av9 es.length cv9), Rk w5.heap.size w6.heap.size (.slice av9 es.length cv9) es, Ik (w4.alloc (.cells #[.int .i64 n, .slice av7 ps.length cv7] 26)).heap.size w5.heap.size (.slice av8 ss.length cv8) ss, Two w4.heap.size (.int .i64 n) (.slice av7 ps.length cv7), Rk (w3.alloc (.cells #[.int .i64 n, .slice av6 fs.length cv6] 26)).heap.size w4.heap.size (.slice av7 ps.length cv7) ps, Two w3.heap.size (.int .i64 n) (.slice av6 fs.length cv6), Rk (w2.alloc (.cells #[.int .i64 n, .slice av5 ds.length cv5] 26)).heap.size w3.heap.size (.slice av6 fs.length cv6) fs, Two w2.heap.size (.int .i64 n) (.slice av5 ds.length cv5), Rk (w1.alloc (.cells #[.int .i64 n, .slice av3 xs.length cv3] 26)).heap.size w2.heap.size (.slice av5 ds.length cv5) ds, Two w1.heap.size (.int .i64 n) (.slice av3 xs.length cv3), Rk w.heap.size w1.heap.size (.slice av3 xs.length cv3) xs] u) => LpKs _ _ n _ es ps u (h.2.2.2.2.2.2.2.2.2.2.get 1 rfl) HEO.out HPE.out)
    have KP : ∀ u v, Below u.heap.size u v → (u.cell? ⟨w3.heap.size, 0, none⟩ = some (.int .i64 n) ∧ u.cell? ⟨w3.heap.size, 1, none⟩ = some (.slice av6 fs.length cv6) ∧ u.cell? ⟨w2.heap.size, 0, none⟩ = some (.int .i64 n) ∧ u.cell? ⟨w2.heap.size, 1, none⟩ = some (.slice av5 ds.length cv5) ∧ u.cell? ⟨w1.heap.size, 0, none⟩ = some (.int .i64 n) ∧ u.cell? ⟨w1.heap.size, 1, none⟩ = some (.slice av3 xs.length cv3) ∧ u.cell? ⟨w4.heap.size, 0, none⟩ = some (.int .i64 n) ∧ u.cell? ⟨w4.heap.size, 1, none⟩ = some (.slice av7 ps.length cv7) ∧ u.cell? ⟨w6.heap.size, 0, none⟩ = some (.int .i64 n) ∧ u.cell? ⟨w6.heap.size, 1, none⟩ = some (.slice av9 es.length cv9) ∧ Kp w [Two w6.heap.size (.int .i64 n) (.slice av9 es.length cv9), Rk w5.heap.size w6.heap.size (.slice av9 es.length cv9) es, Ik (w4.alloc (.cells #[.int .i64 n, .slice av7 ps.length cv7] 26)).heap.size w5.heap.size (.slice av8 ss.length cv8) ss, Two w4.heap.size (.int .i64 n) (.slice av7 ps.length cv7), Rk (w3.alloc (.cells #[.int .i64 n, .slice av6 fs.length cv6] 26)).heap.size w4.heap.size (.slice av7 ps.length cv7) ps, Two w3.heap.size (.int .i64 n) (.slice av6 fs.length cv6), Rk (w2.alloc (.cells #[.int .i64 n, .slice av5 ds.length cv5] 26)).heap.size w3.heap.size (.slice av6 fs.length cv6) fs, Two w2.heap.size (.int .i64 n) (.slice av5 ds.length cv5), Rk (w1.alloc (.cells #[.int .i64 n, .slice av3 xs.length cv3] 26)).heap.size w2.heap.size (.slice av5 ds.length cv5) ds, Two w1.heap.size (.int .i64 n) (.slice av3 xs.length cv3), Rk w.heap.size w1.heap.size (.slice av3 xs.length cv3) xs] u) → (v.cell? ⟨w3.heap.size, 0, none⟩ = some (.int .i64 n) ∧ v.cell? ⟨w3.heap.size, 1, none⟩ = some (.slice av6 fs.length cv6) ∧ v.cell? ⟨w2.heap.size, 0, none⟩ = some (.int .i64 n) ∧ v.cell? ⟨w2.heap.size, 1, none⟩ = some (.slice av5 ds.length cv5) ∧ v.cell? ⟨w1.heap.size, 0, none⟩ = some (.int .i64 n) ∧ v.cell? ⟨w1.heap.size, 1, none⟩ = some (.slice av3 xs.length cv3) ∧ v.cell? ⟨w4.heap.size, 0, none⟩ = some (.int .i64 n) ∧ v.cell? ⟨w4.heap.size, 1, none⟩ = some (.slice av7 ps.length cv7) ∧ v.cell? ⟨w6.heap.size, 0, none⟩ = some (.int .i64 n) ∧ v.cell? ⟨w6.heap.size, 1, none⟩ = some (.slice av9 es.length cv9) ∧ Kp w [Two w6.heap.size (.int .i64 n) (.slice av9 es.length cv9), Rk w5.heap.size w6.heap.size (.slice av9 es.length cv9) es, Ik (w4.alloc (.cells #[.int .i64 n, .slice av7 ps.length cv7] 26)).heap.size w5.heap.size (.slice av8 ss.length cv8) ss, Two w4.heap.size (.int .i64 n) (.slice av7 ps.length cv7), Rk (w3.alloc (.cells #[.int .i64 n, .slice av6 fs.length cv6] 26)).heap.size w4.heap.size (.slice av7 ps.length cv7) ps, Two w3.heap.size (.int .i64 n) (.slice av6 fs.length cv6), Rk (w2.alloc (.cells #[.int .i64 n, .slice av5 ds.length cv5] 26)).heap.size w3.heap.size (.slice av6 fs.length cv6) fs, Two w2.heap.size (.int .i64 n) (.slice av5 ds.length cv5), Rk (w1.alloc (.cells #[.int .i64 n, .slice av3 xs.length cv3] 26)).heap.size w2.heap.size (.slice av5 ds.length cv5) ds, Two w1.heap.size (.int .i64 n) (.slice av3 xs.length cv3), Rk w.heap.size w1.heap.size (.slice av3 xs.length cv3) xs] v) := fun u v hb h => ⟨kept hb h.1, kept hb h.2.1, kept hb h.2.2.1, kept hb h.2.2.2.1, kept hb h.2.2.2.2.1, kept hb h.2.2.2.2.2.1, kept hb h.2.2.2.2.2.2.1, kept hb h.2.2.2.2.2.2.2.1, kept hb h.2.2.2.2.2.2.2.2.1, kept hb h.2.2.2.2.2.2.2.2.2.1, h.2.2.2.2.2.2.2.2.2.2.keep hb⟩
    have KG : Hid (∀ u, (u.cell? ⟨w3.heap.size, 0, none⟩ = some (.int .i64 n) ∧ u.cell? ⟨w3.heap.size, 1, none⟩ = some (.slice av6 fs.length cv6) ∧ u.cell? ⟨w2.heap.size, 0, none⟩ = some (.int .i64 n) ∧ u.cell? ⟨w2.heap.size, 1, none⟩ = some (.slice av5 ds.length cv5) ∧ u.cell? ⟨w1.heap.size, 0, none⟩ = some (.int .i64 n) ∧ u.cell? ⟨w1.heap.size, 1, none⟩ = some (.slice av3 xs.length cv3) ∧ u.cell? ⟨w4.heap.size, 0, none⟩ = some (.int .i64 n) ∧ u.cell? ⟨w4.heap.size, 1, none⟩ = some (.slice av7 ps.length cv7) ∧ u.cell? ⟨w6.heap.size, 0, none⟩ = some (.int .i64 n) ∧ u.cell? ⟨w6.heap.size, 1, none⟩ = some (.slice av9 es.length cv9) ∧ Kp w [Two w6.heap.size (.int .i64 n) (.slice av9 es.length cv9), Rk w5.heap.size w6.heap.size (.slice av9 es.length cv9) es, Ik (w4.alloc (.cells #[.int .i64 n, .slice av7 ps.length cv7] 26)).heap.size w5.heap.size (.slice av8 ss.length cv8) ss, Two w4.heap.size (.int .i64 n) (.slice av7 ps.length cv7), Rk (w3.alloc (.cells #[.int .i64 n, .slice av6 fs.length cv6] 26)).heap.size w4.heap.size (.slice av7 ps.length cv7) ps, Two w3.heap.size (.int .i64 n) (.slice av6 fs.length cv6), Rk (w2.alloc (.cells #[.int .i64 n, .slice av5 ds.length cv5] 26)).heap.size w3.heap.size (.slice av6 fs.length cv6) fs, Two w2.heap.size (.int .i64 n) (.slice av5 ds.length cv5), Rk (w1.alloc (.cells #[.int .i64 n, .slice av3 xs.length cv3] 26)).heap.size w2.heap.size (.slice av5 ds.length cv5) ds, Two w1.heap.size (.int .i64 n) (.slice av3 xs.length cv3), Rk w.heap.size w1.heap.size (.slice av3 xs.length cv3) xs] u) → Kp w [Two w6.heap.size (.int .i64 n) (.slice av9 es.length cv9), Rk w5.heap.size w6.heap.size (.slice av9 es.length cv9) es, Ik (w4.alloc (.cells #[.int .i64 n, .slice av7 ps.length cv7] 26)).heap.size w5.heap.size (.slice av8 ss.length cv8) ss, Two w4.heap.size (.int .i64 n) (.slice av7 ps.length cv7), Rk (w3.alloc (.cells #[.int .i64 n, .slice av6 fs.length cv6] 26)).heap.size w4.heap.size (.slice av7 ps.length cv7) ps, Two w3.heap.size (.int .i64 n) (.slice av6 fs.length cv6), Rk (w2.alloc (.cells #[.int .i64 n, .slice av5 ds.length cv5] 26)).heap.size w3.heap.size (.slice av6 fs.length cv6) fs, Two w2.heap.size (.int .i64 n) (.slice av5 ds.length cv5), Rk (w1.alloc (.cells #[.int .i64 n, .slice av3 xs.length cv3] 26)).heap.size w2.heap.size (.slice av5 ds.length cv5) ds, Two w1.heap.size (.int .i64 n) (.slice av3 xs.length cv3), Rk w.heap.size w1.heap.size (.slice av3 xs.length cv3) xs] u) := Lib.hid (fun u h => h.2.2.2.2.2.2.2.2.2.2)
    obtain ⟨c_P60, c_P61⟩ := (K.get 5 rfl)
    obtain ⟨c_P50, c_P51⟩ := (K.get 7 rfl)
    obtain ⟨c_P30, c_P31⟩ := (K.get 9 rfl)
    obtain ⟨c_P70, c_P71⟩ := (K.get 3 rfl)
    obtain ⟨c_P90, c_P91⟩ := (K.get 0 rfl)
    have CA1 := Lib.hid (fun (u : World) (h : u.cell? ⟨w3.heap.size, 0, none⟩ = some (.int .i64 n) ∧ u.cell? ⟨w3.heap.size, 1, none⟩ = some (.slice av6 fs.length cv6) ∧ u.cell? ⟨w2.heap.size, 0, none⟩ = some (.int .i64 n) ∧ u.cell? ⟨w2.heap.size, 1, none⟩ = some (.slice av5 ds.length cv5) ∧ u.cell? ⟨w1.heap.size, 0, none⟩ = some (.int .i64 n) ∧ u.cell? ⟨w1.heap.size, 1, none⟩ = some (.slice av3 xs.length cv3) ∧ u.cell? ⟨w4.heap.size, 0, none⟩ = some (.int .i64 n) ∧ u.cell? ⟨w4.heap.size, 1, none⟩ = some (.slice av7 ps.length cv7) ∧ u.cell? ⟨w6.heap.size, 0, none⟩ = some (.int .i64 n) ∧ u.cell? ⟨w6.heap.size, 1, none⟩ = some (.slice av9 es.length cv9) ∧ Kp w [Two w6.heap.size (.int .i64 n) (.slice av9 es.length cv9), Rk w5.heap.size w6.heap.size (.slice av9 es.length cv9) es, Ik (w4.alloc (.cells #[.int .i64 n, .slice av7 ps.length cv7] 26)).heap.size w5.heap.size (.slice av8 ss.length cv8) ss, Two w4.heap.size (.int .i64 n) (.slice av7 ps.length cv7), Rk (w3.alloc (.cells #[.int .i64 n, .slice av6 fs.length cv6] 26)).heap.size w4.heap.size (.slice av7 ps.length cv7) ps, Two w3.heap.size (.int .i64 n) (.slice av6 fs.length cv6), Rk (w2.alloc (.cells #[.int .i64 n, .slice av5 ds.length cv5] 26)).heap.size w3.heap.size (.slice av6 fs.length cv6) fs, Two w2.heap.size (.int .i64 n) (.slice av5 ds.length cv5), Rk (w1.alloc (.cells #[.int .i64 n, .slice av3 xs.length cv3] 26)).heap.size w2.heap.size (.slice av5 ds.length cv5) ds, Two w1.heap.size (.int .i64 n) (.slice av3 xs.length cv3), Rk w.heap.size w1.heap.size (.slice av3 xs.length cv3) xs] u) => AreKs _ _ _ _ n n _ _ xs ds true u (h.2.2.2.2.2.2.2.2.2.2.get 10 rfl) (h.2.2.2.2.2.2.2.2.2.2.get 8 rfl) HBD.out)
    have CA2 := Lib.hid (fun (u : World) (h : u.cell? ⟨w3.heap.size, 0, none⟩ = some (.int .i64 n) ∧ u.cell? ⟨w3.heap.size, 1, none⟩ = some (.slice av6 fs.length cv6) ∧ u.cell? ⟨w2.heap.size, 0, none⟩ = some (.int .i64 n) ∧ u.cell? ⟨w2.heap.size, 1, none⟩ = some (.slice av5 ds.length cv5) ∧ u.cell? ⟨w1.heap.size, 0, none⟩ = some (.int .i64 n) ∧ u.cell? ⟨w1.heap.size, 1, none⟩ = some (.slice av3 xs.length cv3) ∧ u.cell? ⟨w4.heap.size, 0, none⟩ = some (.int .i64 n) ∧ u.cell? ⟨w4.heap.size, 1, none⟩ = some (.slice av7 ps.length cv7) ∧ u.cell? ⟨w6.heap.size, 0, none⟩ = some (.int .i64 n) ∧ u.cell? ⟨w6.heap.size, 1, none⟩ = some (.slice av9 es.length cv9) ∧ Kp w [Two w6.heap.size (.int .i64 n) (.slice av9 es.length cv9), Rk w5.heap.size w6.heap.size (.slice av9 es.length cv9) es, Ik (w4.alloc (.cells #[.int .i64 n, .slice av7 ps.length cv7] 26)).heap.size w5.heap.size (.slice av8 ss.length cv8) ss, Two w4.heap.size (.int .i64 n) (.slice av7 ps.length cv7), Rk (w3.alloc (.cells #[.int .i64 n, .slice av6 fs.length cv6] 26)).heap.size w4.heap.size (.slice av7 ps.length cv7) ps, Two w3.heap.size (.int .i64 n) (.slice av6 fs.length cv6), Rk (w2.alloc (.cells #[.int .i64 n, .slice av5 ds.length cv5] 26)).heap.size w3.heap.size (.slice av6 fs.length cv6) fs, Two w2.heap.size (.int .i64 n) (.slice av5 ds.length cv5), Rk (w1.alloc (.cells #[.int .i64 n, .slice av3 xs.length cv3] 26)).heap.size w2.heap.size (.slice av5 ds.length cv5) ds, Two w1.heap.size (.int .i64 n) (.slice av3 xs.length cv3), Rk w.heap.size w1.heap.size (.slice av3 xs.length cv3) xs] u) => AreKs _ _ _ _ n n _ _ ds xs true u (h.2.2.2.2.2.2.2.2.2.2.get 8 rfl) (h.2.2.2.2.2.2.2.2.2.2.get 10 rfl) HDB.out)
    have CP1 := Lib.hid (fun (u : World) (h : u.cell? ⟨w3.heap.size, 0, none⟩ = some (.int .i64 n) ∧ u.cell? ⟨w3.heap.size, 1, none⟩ = some (.slice av6 fs.length cv6) ∧ u.cell? ⟨w2.heap.size, 0, none⟩ = some (.int .i64 n) ∧ u.cell? ⟨w2.heap.size, 1, none⟩ = some (.slice av5 ds.length cv5) ∧ u.cell? ⟨w1.heap.size, 0, none⟩ = some (.int .i64 n) ∧ u.cell? ⟨w1.heap.size, 1, none⟩ = some (.slice av3 xs.length cv3) ∧ u.cell? ⟨w4.heap.size, 0, none⟩ = some (.int .i64 n) ∧ u.cell? ⟨w4.heap.size, 1, none⟩ = some (.slice av7 ps.length cv7) ∧ u.cell? ⟨w6.heap.size, 0, none⟩ = some (.int .i64 n) ∧ u.cell? ⟨w6.heap.size, 1, none⟩ = some (.slice av9 es.length cv9) ∧ Kp w [Two w6.heap.size (.int .i64 n) (.slice av9 es.length cv9), Rk w5.heap.size w6.heap.size (.slice av9 es.length cv9) es, Ik (w4.alloc (.cells #[.int .i64 n, .slice av7 ps.length cv7] 26)).heap.size w5.heap.size (.slice av8 ss.length cv8) ss, Two w4.heap.size (.int .i64 n) (.slice av7 ps.length cv7), Rk (w3.alloc (.cells #[.int .i64 n, .slice av6 fs.length cv6] 26)).heap.size w4.heap.size (.slice av7 ps.length cv7) ps, Two w3.heap.size (.int .i64 n) (.slice av6 fs.length cv6), Rk (w2.alloc (.cells #[.int .i64 n, .slice av5 ds.length cv5] 26)).heap.size w3.heap.size (.slice av6 fs.length cv6) fs, Two w2.heap.size (.int .i64 n) (.slice av5 ds.length cv5), Rk (w1.alloc (.cells #[.int .i64 n, .slice av3 xs.length cv3] 26)).heap.size w2.heap.size (.slice av5 ds.length cv5) ds, Two w1.heap.size (.int .i64 n) (.slice av3 xs.length cv3), Rk w.heap.size w1.heap.size (.slice av3 xs.length cv3) xs] u) => ArePKs _ _ _ _ n n _ _ xs es true u (h.2.2.2.2.2.2.2.2.2.2.get 10 rfl) (h.2.2.2.2.2.2.2.2.2.2.get 1 rfl) HBE.out)
    have CF1 := Lib.hid (fun (u : World) (h : u.cell? ⟨w3.heap.size, 0, none⟩ = some (.int .i64 n) ∧ u.cell? ⟨w3.heap.size, 1, none⟩ = some (.slice av6 fs.length cv6) ∧ u.cell? ⟨w2.heap.size, 0, none⟩ = some (.int .i64 n) ∧ u.cell? ⟨w2.heap.size, 1, none⟩ = some (.slice av5 ds.length cv5) ∧ u.cell? ⟨w1.heap.size, 0, none⟩ = some (.int .i64 n) ∧ u.cell? ⟨w1.heap.size, 1, none⟩ = some (.slice av3 xs.length cv3) ∧ u.cell? ⟨w4.heap.size, 0, none⟩ = some (.int .i64 n) ∧ u.cell? ⟨w4.heap.size, 1, none⟩ = some (.slice av7 ps.length cv7) ∧ u.cell? ⟨w6.heap.size, 0, none⟩ = some (.int .i64 n) ∧ u.cell? ⟨w6.heap.size, 1, none⟩ = some (.slice av9 es.length cv9) ∧ Kp w [Two w6.heap.size (.int .i64 n) (.slice av9 es.length cv9), Rk w5.heap.size w6.heap.size (.slice av9 es.length cv9) es, Ik (w4.alloc (.cells #[.int .i64 n, .slice av7 ps.length cv7] 26)).heap.size w5.heap.size (.slice av8 ss.length cv8) ss, Two w4.heap.size (.int .i64 n) (.slice av7 ps.length cv7), Rk (w3.alloc (.cells #[.int .i64 n, .slice av6 fs.length cv6] 26)).heap.size w4.heap.size (.slice av7 ps.length cv7) ps, Two w3.heap.size (.int .i64 n) (.slice av6 fs.length cv6), Rk (w2.alloc (.cells #[.int .i64 n, .slice av5 ds.length cv5] 26)).heap.size w3.heap.size (.slice av6 fs.length cv6) fs, Two w2.heap.size (.int .i64 n) (.slice av5 ds.length cv5), Rk (w1.alloc (.cells #[.int .i64 n, .slice av3 xs.length cv3] 26)).heap.size w2.heap.size (.slice av5 ds.length cv5) ds, Two w1.heap.size (.int .i64 n) (.slice av3 xs.length cv3), Rk w.heap.size w1.heap.size (.slice av3 xs.length cv3) xs] u) => FormsKs _ _ n c _ es u (h.2.2.2.2.2.2.2.2.2.2.get 1 rfl) HC2.out)
    have hS : w7.drew.cell? ⟨w3.heap.size, 0, none⟩ = some (.int .i64 n) ∧ w7.drew.cell? ⟨w3.heap.size, 1, none⟩ = some (.slice av6 fs.length cv6) ∧ w7.drew.cell? ⟨w2.heap.size, 0, none⟩ = some (.int .i64 n) ∧ w7.drew.cell? ⟨w2.heap.size, 1, none⟩ = some (.slice av5 ds.length cv5) ∧ w7.drew.cell? ⟨w1.heap.size, 0, none⟩ = some (.int .i64 n) ∧ w7.drew.cell? ⟨w1.heap.size, 1, none⟩ = some (.slice av3 xs.length cv3) ∧ w7.drew.cell? ⟨w4.heap.size, 0, none⟩ = some (.int .i64 n) ∧ w7.drew.cell? ⟨w4.heap.size, 1, none⟩ = some (.slice av7 ps.length cv7) ∧ w7.drew.cell? ⟨w6.heap.size, 0, none⟩ = some (.int .i64 n) ∧ w7.drew.cell? ⟨w6.heap.size, 1, none⟩ = some (.slice av9 es.length cv9) ∧ Kp w [Two w6.heap.size (.int .i64 n) (.slice av9 es.length cv9), Rk w5.heap.size w6.heap.size (.slice av9 es.length cv9) es, Ik (w4.alloc (.cells #[.int .i64 n, .slice av7 ps.length cv7] 26)).heap.size w5.heap.size (.slice av8 ss.length cv8) ss, Two w4.heap.size (.int .i64 n) (.slice av7 ps.length cv7), Rk (w3.alloc (.cells #[.int .i64 n, .slice av6 fs.length cv6] 26)).heap.size w4.heap.size (.slice av7 ps.length cv7) ps, Two w3.heap.size (.int .i64 n) (.slice av6 fs.length cv6), Rk (w2.alloc (.cells #[.int .i64 n, .slice av5 ds.length cv5] 26)).heap.size w3.heap.size (.slice av6 fs.length cv6) fs, Two w2.heap.size (.int .i64 n) (.slice av5 ds.length cv5), Rk (w1.alloc (.cells #[.int .i64 n, .slice av3 xs.length cv3] 26)).heap.size w2.heap.size (.slice av5 ds.length cv5) ds, Two w1.heap.size (.int .i64 n) (.slice av3 xs.length cv3), Rk w.heap.size w1.heap.size (.slice av3 xs.length cv3) xs] w7.drew := ⟨c_P60, c_P61, c_P50, c_P51, c_P30, c_P31, c_P70, c_P71, c_P90, c_P91, K.drew⟩
    clear K c_P60 c_P61 c_P50 c_P51 c_P30 c_P31 c_P70 c_P71 c_P90 c_P91
    try simp only [List.append_eq, List.cons_append, List.nil_append]
    refine reg_begin (fun w' => w'.cell? ⟨w3.heap.size, 0, none⟩ = some (.int .i64 n) ∧ w'.cell? ⟨w3.heap.size, 1, none⟩ = some (.slice av6 fs.length cv6) ∧ w'.cell? ⟨w2.heap.size, 0, none⟩ = some (.int .i64 n) ∧ w'.cell? ⟨w2.heap.size, 1, none⟩ = some (.slice av5 ds.length cv5) ∧ w'.cell? ⟨w1.heap.size, 0, none⟩ = some (.int .i64 n) ∧ w'.cell? ⟨w1.heap.size, 1, none⟩ = some (.slice av3 xs.length cv3) ∧ w'.cell? ⟨w4.heap.size, 0, none⟩ = some (.int .i64 n) ∧ w'.cell? ⟨w4.heap.size, 1, none⟩ = some (.slice av7 ps.length cv7) ∧ w'.cell? ⟨w6.heap.size, 0, none⟩ = some (.int .i64 n) ∧ w'.cell? ⟨w6.heap.size, 1, none⟩ = some (.slice av9 es.length cv9) ∧ Kp w [Two w6.heap.size (.int .i64 n) (.slice av9 es.length cv9), Rk w5.heap.size w6.heap.size (.slice av9 es.length cv9) es, Ik (w4.alloc (.cells #[.int .i64 n, .slice av7 ps.length cv7] 26)).heap.size w5.heap.size (.slice av8 ss.length cv8) ss, Two w4.heap.size (.int .i64 n) (.slice av7 ps.length cv7), Rk (w3.alloc (.cells #[.int .i64 n, .slice av6 fs.length cv6] 26)).heap.size w4.heap.size (.slice av7 ps.length cv7) ps, Two w3.heap.size (.int .i64 n) (.slice av6 fs.length cv6), Rk (w2.alloc (.cells #[.int .i64 n, .slice av5 ds.length cv5] 26)).heap.size w3.heap.size (.slice av6 fs.length cv6) fs, Two w2.heap.size (.int .i64 n) (.slice av5 ds.length cv5), Rk (w1.alloc (.cells #[.int .i64 n, .slice av3 xs.length cv3] 26)).heap.size w2.heap.size (.slice av5 ds.length cv5) ds, Two w1.heap.size (.int .i64 n) (.slice av3 xs.length cv3), Rk w.heap.size w1.heap.size (.slice av3 xs.length cv3) xs] w') (by kernel_rfl) hS ?_
    refine reg_take 0 (v := ?_) rfl (by kernel_rfl) (by kernel_rfl) (by kernel_rfl) (fun _ _ _ h => h) (by rfl) (by intro w hSw; (try dsimp only at hSw); go_simp; first | done | with_reducible rfl) hS ?_
    simp only [Act.put, List.setIfInBounds_toArray, List.set_cons_zero, List.set_cons_succ]
    refine reg_take 1 (v := ?_) rfl (by kernel_rfl) (by kernel_rfl) (by kernel_rfl) (fun _ _ _ h => h) (by rfl) (by intro w hSw; (try dsimp only at hSw); go_simp; first | done | with_reducible rfl) hS ?_
    simp only [Act.put, List.setIfInBounds_toArray, List.set_cons_zero, List.set_cons_succ]
    refine reg_call 2 rfl (by kernel_rfl) (by rfl) (fun K hK => ?_)
    go_simp
    go_at_call 8
    refine (args_eq (CLF.out _ hS) (by with_reducible rfl)).mono ?_
    rintro e yF ⟨vF, rfl, RF, hb⟩
    obtain ⟨aF, cF, rfl⟩ := RF.form
    have HRF := Lib.hid RF
    clear RF
    refine hK.out _ _ (KP _ _ hb hS) (fun hS' => ?_)
    clear hK K hS
    have hS := hS'
    clear hS' hb
    try simp only [Act.put, List.setIfInBounds_toArray, List.set_cons_zero, List.set_cons_succ]
    refine reg_call 3 rfl (by kernel_rfl) (by rfl) (fun K hK => ?_)
    go_simp
    go_at_call 13
    refine (args_eq (SameKs _ _ _ _ n _ _ fs yF ((KG.out yF hS).get 6 rfl) ⟨HRF.out, Nat.le_refl _⟩) (by with_reducible rfl)).mono ?_
    rintro e y ⟨rfl, hb⟩
    refine hK.out _ _ (KP _ _ hb hS) (fun hS' => ?_)
    clear hK K hS
    have hS := hS'
    clear hS' hb
    try simp only [Act.put, List.setIfInBounds_toArray, List.set_cons_zero, List.set_cons_succ]
    refine reg_take 4 (v := ?_) rfl (by kernel_rfl) (by kernel_rfl) (by kernel_rfl) (fun _ _ _ h => h) (by rfl) (by intro w hSw; (try dsimp only at hSw); go_simp; first | done | with_reducible rfl) hS ?_
    simp only [Act.put, List.setIfInBounds_toArray, List.set_cons_zero, List.set_cons_succ]
    refine reg_take 5 (v := ?_) rfl (by kernel_rfl) (by kernel_rfl) (by kernel_rfl) (fun _ _ _ h => h) (by rfl) (by intro w hSw; (try dsimp only at hSw); go_simp; first | done | with_reducible rfl) hS ?_
    simp only [Act.put, List.setIfInBounds_toArray, List.set_cons_zero, List.set_cons_succ]
    refine reg_take 6 (v := ?_) rfl (by kernel_rfl) (by kernel_rfl) (by kernel_rfl) (fun _ _ _ h => h) (by rfl) (by intro w hSw; (try dsimp only at hSw); go_simp; first | done | with_reducible rfl) hS ?_
    simp only [Act.put, List.setIfInBounds_toArray, List.set_cons_zero, List.set_cons_succ]
    refine reg_take 7 (v := ?_) rfl (by kernel_rfl) (by kernel_rfl) (by kernel_rfl) (fun _ _ _ h => h) (by rfl) (by intro w hSw; (try dsimp only at hSw); go_simp; first | done | with_reducible rfl) hS ?_
    simp only [Act.put, List.setIfInBounds_toArray, List.set_cons_zero, List.set_cons_succ]
    refine reg_call 8 rfl (by kernel_rfl) (by rfl) (fun K hK => ?_)
    go_simp
    go_at_call 14
    refine (args_eq (CA1.out _ hS) (by with_reducible rfl)).mono ?_
    rintro e y ⟨rfl, hb⟩
    refine hK.out _ _ (KP _ _ hb hS) (fun hS' => ?_)
    clear hK K hS
    have hS := hS'
    clear hS' hb
    try simp only [Act.put, List.setIfInBounds_toArray, List.set_cons_zero, List.set_cons_succ]
    refine reg_take 9 (v := ?_) rfl (by kernel_rfl) (by kernel_rfl) (by kernel_rfl) (fun _ _ _ h => h) (by rfl) (by intro w hSw; (try dsimp only at hSw); go_simp; first | done | with_reducible rfl) hS ?_
    simp only [Act.put, List.setIfInBounds_toArray, List.set_cons_zero, List.set_cons_succ]
    refine reg_take 10 (v := ?_) rfl (by kernel_rfl) (by kernel_rfl) (by kernel_rfl) (fun _ _ _ h => h) (by rfl) (by intro w hSw; (try dsimp only at hSw); go_simp; first | done | with_reducible rfl) hS ?_
    simp only [Act.put, List.setIfInBounds_toArray, List.set_cons_zero, List.set_cons_succ]
    refine reg_take 11 (v := ?_) rfl (by kernel_rfl) (by kernel_rfl) (by kernel_rfl) (fun _ _ _ h => h) (by rfl) (by intro w hSw; (try dsimp only at hSw); go_simp; first | done | with_reducible rfl) hS ?_
    simp only [Act.put, List.setIfInBounds_toArray, List.set_cons_zero, List.set_cons_succ]
    refine reg_take 12 (v := ?_) rfl (by kernel_rfl) (by kernel_rfl) (by kernel_rfl) (fun _ _ _ h => h) (by rfl) (by intro w hSw; (try dsimp only at hSw); go_simp; first | done | with_reducible rfl) hS ?_
    simp only [Act.put, List.setIfInBounds_toArray, List.set_cons_zero, List.set_cons_succ]
    refine reg_take 13 (v := ?_) rfl (by kernel_rfl) (by kernel_rfl) (by kernel_rfl) (fun _ _ _ h => h) (by rfl) (by intro w hSw; (try dsimp only at hSw); go_simp; first | done | with_reducible rfl) hS ?_
    simp only [Act.put, List.setIfInBounds_toArray, List.set_cons_zero, List.set_cons_succ]
    refine reg_call 14 rfl (by kernel_rfl) (by rfl) (fun K hK => ?_)
    go_simp
    go_at_call 14
    refine (args_eq (CA2.out _ hS) (by with_reducible rfl)).mono ?_
    rintro e y ⟨rfl, hb⟩
    refine hK.out _ _ (KP _ _ hb hS) (fun hS' => ?_)
    clear hK K hS
    have hS := hS'
    clear hS' hb
    try simp only [Act.put, List.setIfInBounds_toArray, List.set_cons_zero, List.set_cons_succ]
    refine reg_take 15 (v := ?_) rfl (by kernel_rfl) (by kernel_rfl) (by kernel_rfl) (fun _ _ _ h => h) (by rfl) (by intro w hSw; (try dsimp only at hSw); go_simp; first | done | with_reducible rfl) hS ?_
    simp only [Act.put, List.setIfInBounds_toArray, List.set_cons_zero, List.set_cons_succ]
    refine reg_take 16 (v := ?_) rfl (by kernel_rfl) (by kernel_rfl) (by kernel_rfl) (fun _ _ _ h => h) (by rfl) (by intro w hSw; (try dsimp only at hSw); go_simp; first | done | with_reducible rfl) hS ?_
    simp only [Act.put, List.setIfInBounds_toArray, List.set_cons_zero, List.set_cons_succ]
    refine reg_take 17 (v := ?_) rfl (by kernel_rfl) (by kernel_rfl) (by kernel_rfl) (fun _ _ _ h => h) (by rfl) (by intro w hSw; (try dsimp only at hSw); go_simp; first | done | with_reducible rfl) hS ?_
    simp only [Act.put, List.setIfInBounds_toArray, List.set_cons_zero, List.set_cons_succ]
    refine reg_take 18 (v := ?_) rfl (by kernel_rfl) (by kernel_rfl) (by kernel_rfl) (fun _ _ _ h => h) (by rfl) (by intro w hSw; (try dsimp only at hSw); go_simp; first | done | with_reducible rfl) hS ?_
    simp only [Act.put, List.setIfInBounds_toArray, List.set_cons_zero, List.set_cons_succ]
    refine reg_take 19 (v := ?_) rfl (by kernel_rfl) (by kernel_rfl) (by kernel_rfl) (fun _ _ _ h => h) (by rfl) (by intro w hSw; (try dsimp only at hSw); go_simp; first | done | with_reducible rfl) hS ?_
    simp only [Act.put, List.setIfInBounds_toArray, List.set_cons_zero, List.set_cons_succ]
    refine reg_call 20 rfl (by kernel_rfl) (by rfl) (fun K hK => ?_)
    go_simp
    go_at_call 9
    refine (args_eq (CLP.out _ hS) (by with_reducible rfl)).mono ?_
    rintro e yP ⟨vP, rfl, RP, hb⟩
    obtain ⟨aP, cP, rfl⟩ := RP.form
    have HRP := Lib.hid RP
    clear RP
    refine hK.out _ _ (KP _ _ hb hS) (fun hS' => ?_)
    clear hK K hS
    have hS := hS'
    clear hS' hb
    try simp only [Act.put, List.setIfInBounds_toArray, List.set_cons_zero, List.set_cons_succ]
    refine reg_call 21 rfl (by kernel_rfl) (by rfl) (fun K hK => ?_)
    go_simp
    go_at_call 13
    refine (args_eq (SameKs _ _ _ _ n _ _ ps yP ((KG.out yP hS).get 4 rfl) ⟨HRP.out, Nat.le_refl _⟩) (by with_reducible rfl)).mono ?_
    rintro e y ⟨rfl, hb⟩
    refine hK.out _ _ (KP _ _ hb hS) (fun hS' => ?_)
    clear hK K hS
    have hS := hS'
    clear hS' hb
    try simp only [Act.put, List.setIfInBounds_toArray, List.set_cons_zero, List.set_cons_succ]
    refine reg_take 22 (v := ?_) rfl (by kernel_rfl) (by kernel_rfl) (by kernel_rfl) (fun _ _ _ h => h) (by rfl) (by intro w hSw; (try dsimp only at hSw); go_simp; first | done | with_reducible rfl) hS ?_
    simp only [Act.put, List.setIfInBounds_toArray, List.set_cons_zero, List.set_cons_succ]
    refine reg_take 23 (v := ?_) rfl (by kernel_rfl) (by kernel_rfl) (by kernel_rfl) (fun _ _ _ h => h) (by rfl) (by intro w hSw; (try dsimp only at hSw); go_simp; first | done | with_reducible rfl) hS ?_
    simp only [Act.put, List.setIfInBounds_toArray, List.set_cons_zero, List.set_cons_succ]
    refine reg_take 24 (v := ?_) rfl (by kernel_rfl) (by kernel_rfl) (by kernel_rfl) (fun _ _ _ h => h) (by rfl) (by intro w hSw; (try dsimp only at hSw); go_simp; first | done | with_reducible rfl) hS ?_
    simp only [Act.put, List.setIfInBounds_toArray, List.set_cons_zero, List.set_cons_succ]
    refine reg_take 25 (v := ?_) rfl (by kernel_rfl) (by kernel_rfl) (by kernel_rfl) (fun _ _ _ h => h) (by rfl) (by intro w hSw; (try dsimp only at hSw); go_simp; first | done | with_reducible rfl) hS ?_
    simp only [Act.put, List.setIfInBounds_toArray, List.set_cons_zero, List.set_cons_succ]
    refine reg_take 26 (v := ?_) rfl (by kernel_rfl) (by kernel_rfl) (by kernel_rfl) (fun _ _ _ h => h) (by rfl) (by intro w hSw; (try dsimp only at hSw); go_simp; first | done | with_reducible rfl) hS ?_
    simp only [Act.put, List.setIfInBounds_toArray, List.set_cons_zero, List.set_cons_succ]
    refine reg_call 27 rfl (by kernel_rfl) (by rfl) (fun K hK => ?_)
    go_simp
    go_at_call 15
    refine (args_eq (CP1.out _ hS) (by with_reducible rfl)).mono ?_
    rintro e y ⟨rfl, hb⟩
    refine hK.out _ _ (KP _ _ hb hS) (fun hS' => ?_)
    clear hK K hS
    have hS := hS'
    clear hS' hb
    try simp only [Act.put, List.setIfInBounds_toArray, List.set_cons_zero, List.set_cons_succ]
    refine reg_take 28 (v := ?_) rfl (by kernel_rfl) (by kernel_rfl) (by kernel_rfl) (fun _ _ _ h => h) (by rfl) (by intro w hSw; (try dsimp only at hSw); go_simp; first | done | with_reducible rfl) hS ?_
    simp only [Act.put, List.setIfInBounds_toArray, List.set_cons_zero, List.set_cons_succ]
    refine reg_take 29 (v := ?_) rfl (by kernel_rfl) (by kernel_rfl) (by kernel_rfl) (fun _ _ _ h => h) (by rfl) (by intro w hSw; (try dsimp only at hSw); go_simp; first | done | with_reducible rfl) hS ?_
    simp only [Act.put, List.setIfInBounds_toArray, List.set_cons_zero, List.set_cons_succ]
    refine reg_take 30 (v := ?_) rfl (by kernel_rfl) (by kernel_rfl) (by kernel_rfl) (fun _ _ _ h => h) (by rfl) (by intro w hSw; (try dsimp only at hSw); go_simp; first | done | with_reducible rfl) hS ?_
    simp only [Act.put, List.setIfInBounds_toArray, List.set_cons_zero, List.set_cons_succ]
    refine reg_take 31 (v := ?_) rfl (by kernel_rfl) (by kernel_rfl) (by kernel_rfl) (fun _ _ _ h => h) (by rfl) (by intro w hSw; (try dsimp only at hSw); go_simp; first | done | with_reducible rfl) hS ?_
    simp only [Act.put, List.setIfInBounds_toArray, List.set_cons_zero, List.set_cons_succ]
    refine reg_take 32 (v := .bool false) rfl (by kernel_rfl) (by kernel_rfl) (by kernel_rfl) (fun _ _ _ h => h) (by rfl) (by intro w hSw; (try dsimp only at hSw); go_simp; first | done | with_reducible rfl) hS ?_
    simp only [Act.put, List.setIfInBounds_toArray, List.set_cons_zero, List.set_cons_succ]
    refine reg_take 33 (v := ?_) rfl (by kernel_rfl) (by kernel_rfl) (by kernel_rfl) (fun _ _ _ h => h) (by rfl) (by intro w hSw; (try dsimp only at hSw); go_simp; first | done | with_reducible rfl) hS ?_
    simp only [Act.put, List.setIfInBounds_toArray, List.set_cons_zero, List.set_cons_succ]
    refine reg_take 34 (v := ?_) rfl (by kernel_rfl) (by kernel_rfl) (by kernel_rfl) (fun _ _ _ h => h) (by rfl) (by intro w hSw; (try dsimp only at hSw); go_simp; first | done | with_reducible rfl) hS ?_
    simp only [Act.put, List.setIfInBounds_toArray, List.set_cons_zero, List.set_cons_succ]
    refine reg_take 35 (v := ?_) rfl (by kernel_rfl) (by kernel_rfl) (by kernel_rfl) (fun _ _ _ h => h) (by rfl) (by intro w hSw; (try dsimp only at hSw); go_simp; first | done | with_reducible rfl) hS ?_
    simp only [Act.put, List.setIfInBounds_toArray, List.set_cons_zero, List.set_cons_succ]
    refine reg_take 36 (v := .int .i64 0) rfl (by kernel_rfl) (by kernel_rfl) (by kernel_rfl) (fun _ _ _ h => h) (by rfl) (by intro w hSw; (try dsimp only at hSw); go_simp; first | done | with_reducible rfl) hS ?_
    simp only [Act.put, List.setIfInBounds_toArray, List.set_cons_zero, List.set_cons_succ]
    refine reg_take 37 (v := .bool false) rfl (by kernel_rfl) (by kernel_rfl) (by kernel_rfl) (fun _ _ _ h => h) (by rfl) (by intro w hSw; (try dsimp only at hSw); go_simp; first | done | with_reducible rfl) hS ?_
    simp only [Act.put, List.setIfInBounds_toArray, List.set_cons_zero, List.set_cons_succ]
    refine reg_take 38 (v := ?_) rfl (by kernel_rfl) (by kernel_rfl) (by kernel_rfl) (fun _ _ _ h => h) (by rfl) (by intro w hSw; (try dsimp only at hSw); go_simp; first | done | with_reducible rfl) hS ?_
    simp only [Act.put, List.setIfInBounds_toArray, List.set_cons_zero, List.set_cons_succ]
    refine reg_take 39 (v := ?_) rfl (by kernel_rfl) (by kernel_rfl) (by kernel_rfl) (fun _ _ _ h => h) (by rfl) (by intro w hSw; (try dsimp only at hSw); go_simp; first | done | with_reducible rfl) hS ?_
    simp only [Act.put, List.setIfInBounds_toArray, List.set_cons_zero, List.set_cons_succ]
    refine reg_take 40 (v := ?_) rfl (by kernel_rfl) (by kernel_rfl) (by kernel_rfl) (fun _ _ _ h => h) (by rfl) (by intro w hSw; (try dsimp only at hSw); go_simp; first | done | with_reducible rfl) hS ?_
    simp only [Act.put, List.setIfInBounds_toArray, List.set_cons_zero, List.set_cons_succ]
    refine reg_take 41 (v := ?_) rfl (by kernel_rfl) (by kernel_rfl) (by kernel_rfl) (fun _ _ _ h => h) (by rfl) (by intro w hSw; (try dsimp only at hSw); go_simp; first | done | with_reducible rfl) hS ?_
    simp only [Act.put, List.setIfInBounds_toArray, List.set_cons_zero, List.set_cons_succ]
    refine reg_call 42 rfl (by kernel_rfl) (by rfl) (fun K hK => ?_)
    go_simp
    go_at_call 12
    refine (args_eq (CF1.out _ hS) (by with_reducible rfl)).mono ?_
    rintro e y ⟨rfl, hb⟩
    refine hK.out _ _ (KP _ _ hb hS) (fun hS' => ?_)
    clear hK K hS
    have hS := hS'
    clear hS' hb
    try simp only [Act.put, List.setIfInBounds_toArray, List.set_cons_zero, List.set_cons_succ]
    refine reg_take 43 (v := .bool false) rfl (by kernel_rfl) (by kernel_rfl) (by kernel_rfl) (fun _ _ _ h => h) (by rfl) (by intro w hSw; (try dsimp only at hSw); go_simp; first | done | with_reducible rfl) hS ?_
    simp only [Act.put, List.setIfInBounds_toArray, List.set_cons_zero, List.set_cons_succ]
    refine reg_take 44 (v := ?_) rfl (by kernel_rfl) (by kernel_rfl) (by kernel_rfl) (fun _ _ _ h => h) (by rfl) (by intro w hSw; (try dsimp only at hSw); go_simp; first | done | with_reducible rfl) hS ?_
    simp only [Act.put, List.setIfInBounds_toArray, List.set_cons_zero, List.set_cons_succ]
    refine wpAnyH_done (by kernel_rfl) ?_ _
    have K := KG.out _ hS
    clear hS KP KG CA1 CA2 CP1 CF1
    clear CLF CLP
    go_upto_region 13 with fail
    go_cut [12] (fun q wx => OR y q wx)
    case first =>
      have HSG := Lib.hid (HS.out _ K.1)
      rcases HSL.out with h0 | ⟨xb, xo, ha⟩
      · subst h0
        have hmn : min (1 : Int) 0 = 0 := by decide
        have hmn2 : min (1 : Int) ((0 : Nat) : Int) = 0 := by decide
        rcases a with _ | ⟨xb, xo, sp⟩
        ·
          go_wp2_with fail
          refine (DrawBlock_any _ _ _ _ (⟨by unfold maxLen; omega, .inl rfl⟩) (by omega)).mono ?_
          rintro e wd ⟨m, v, os, hoo, rfl, R0, hbd⟩
          obtain ⟨ao, co, rfl⟩ := R0.form
          have hor : OR y (.pointer (some ⟨wd.heap.size, 0, none⟩)) (wd.alloc (.cells #[.int .i64 m, .slice ao os.length co] 26)) := ⟨_, m, os, ao, co, _, _, rfl, hoo, Two.new wd _ _ _, Rk.keep ⟨R0, Nat.le_refl _⟩ (bel0 _ _), bel_n hbd (Nat.le_refl _) _⟩
          clear K R0 hbd
          go_wp2_with fail
          go_meet
          exact hor
        ·
          go_wp2_with fail
          refine (DrawBlock_any _ _ _ _ (⟨by unfold maxLen; omega, .inl rfl⟩) (by omega)).mono ?_
          rintro e wd ⟨m, v, os, hoo, rfl, R0, hbd⟩
          obtain ⟨ao, co, rfl⟩ := R0.form
          have hor : OR y (.pointer (some ⟨wd.heap.size, 0, none⟩)) (wd.alloc (.cells #[.int .i64 m, .slice ao os.length co] 26)) := ⟨_, m, os, ao, co, _, _, rfl, hoo, Two.new wd _ _ _, Rk.keep ⟨R0, Nat.le_refl _⟩ (bel0 _ _), bel_n hbd (Nat.le_refl _) _⟩
          clear K R0 hbd
          go_wp2_with fail
          go_meet
          exact hor
      · subst ha
        by_cases hl0 : len = 0
        ·
          subst hl0
          have hmn : min (1 : Int) 0 = 0 := by decide
          have hmn2 : min (1 : Int) ((0 : Nat) : Int) = 0 := by decide
          go_wp2_with fail
          refine (DrawBlock_any _ _ _ _ (⟨by unfold maxLen; omega, .inl rfl⟩) (by omega)).mono ?_
          rintro e wd ⟨m, v, os, hoo, rfl, R0, hbd⟩
          obtain ⟨ao, co, rfl⟩ := R0.form
          have hor : OR y (.pointer (some ⟨wd.heap.size, 0, none⟩)) (wd.alloc (.cells #[.int .i64 m, .slice ao os.length co] 26)) := ⟨_, m, os, ao, co, _, _, rfl, hoo, Two.new wd _ _ _, Rk.keep ⟨R0, Nat.le_refl _⟩ (bel0 _ _), bel_n hbd (Nat.le_refl _) _⟩
          clear K R0 hbd
          go_wp2_with fail
          go_meet
          exact hor
        · by_cases hcap : cap = 1
          ·
            subst hcap
            have hl1 : 1 ≤ len := by omega
            have hl1z : (1 : Int) ≤ (len : Int) := by omega
            have hmn : min (1 : Int) (len : Int) = 1 := by omega
            have HT := Lib.hid (HSG.out.less (m := len - 1) (by omega))
            go_wp2_with fail
            refine (DrawBlock_any _ _ _ _ (HT.out) (by omega)).mono ?_
            rintro e wd ⟨m, v, os, hoo, rfl, R0, hbd⟩
            obtain ⟨ao, co, rfl⟩ := R0.form
            have hor : OR y (.pointer (some ⟨wd.heap.size, 0, none⟩)) (wd.alloc (.cells #[.int .i64 m, .slice ao os.length co] 26)) := ⟨_, m, os, ao, co, _, _, rfl, hoo, Two.new wd _ _ _, Rk.keep ⟨R0, Nat.le_refl _⟩ (bel0 _ _), bel_n hbd (Nat.le_refl _) _⟩
            clear K R0 hbd
            go_wp2_with fail
            go_meet
            exact hor
          ·
            have hl1 : 1 ≤ len := by omega
            have hl1z : (1 : Int) ≤ (len : Int) := by omega
            have hmn : min (1 : Int) (len : Int) = 1 := by omega
            have HT := Lib.hid (HSG.out.tail hl1)
            go_wp2_with fail
            refine (DrawBlock_any _ _ _ _ (HT.out) (by omega)).mono ?_
            rintro e wd ⟨m, v, os, hoo, rfl, R0, hbd⟩
            obtain ⟨ao, co, rfl⟩ := R0.form
            have hor : OR y (.pointer (some ⟨wd.heap.size, 0, none⟩)) (wd.alloc (.cells #[.int .i64 m, .slice ao os.length co] 26)) := ⟨_, m, os, ao, co, _, _, rfl, hoo, Two.new wd _ _ _, Rk.keep ⟨R0, Nat.le_refl _⟩ (bel0 _ _), bel_n hbd (Nat.le_refl _) _⟩
            clear K R0 hbd
            go_wp2_with fail
            go_meet
            exact hor
    case rest =>
      obtain ⟨po, m, os, ao, co, lo, ho, rfl, hoo, hT, hR, hbb⟩ := hcut
      have K := K.keep hbb
      have K := K.cons (fun _ hv => Two.keep hT hv)
      have K := K.cons (fun _ hv => Rk.keep hR hv)
      have HOO := Lib.hid hoo
      clear hoo hT hR hbb
      obtain ⟨cb, hcb⟩ : ∃ cb, areF n m xs os = cb := ⟨_, rfl⟩
      have HB1 := Lib.hid hcb
      have HB2 : Hid (areF m n os xs = cb) := Lib.hid (by rw [areF_symm]; exact hcb)
      have HBP : Hid (cb = true → areP n m xs os = true) := Lib.hid (fun h => areF_P HK.out HOO.out (hcb.trans h))
      obtain ⟨tf, htf⟩ : ∃ tf, txtB fs = tf := ⟨_, rfl⟩
      obtain ⟨tx, htx⟩ : ∃ tx, txtB xs = tx := ⟨_, rfl⟩
      have hle := HLE.out
      rw [htf, htx] at hle
      have HTF := Lib.hid htf
      have HTX := Lib.hid htx
      have hsz := htx ▸ txt_size HK.out
      have hxl := (blk_len HK.out).2
      have hmul : IntKind.i64.wrap (2 * (xs.length : Int)) = 2 * (xs.length : Int) := by rw [IntKind.wrap_i64]; omega
      have hge : 2 * (xs.length : Int) ≤ (tx.size : Int) := by omega
      clear hcb htf htx
      go_upto_region 14 with fail
      cases cb with
      | true =>
        have HBT : Hid (areP n m xs os = true) := Lib.hid (HBP.out rfl)
        have KP : ∀ u v, Below u.heap.size u v → (u.cell? ⟨w3.heap.size, 0, none⟩ = some (.int .i64 n) ∧ u.cell? ⟨w3.heap.size, 1, none⟩ = some (.slice av6 fs.length cv6) ∧ u.cell? ⟨w1.heap.size, 0, none⟩ = some (.int .i64 n) ∧ u.cell? ⟨w1.heap.size, 1, none⟩ = some (.slice av3 xs.length cv3) ∧ u.cell? ⟨po, 0, none⟩ = some (.int .i64 m) ∧ u.cell? ⟨po, 1, none⟩ = some (.slice ao os.length co) ∧ Kp w [Rk lo ho (.slice ao os.length co) os, Two po (.int .i64 m) (.slice ao os.length co), Two w6.heap.size (.int .i64 n) (.slice av9 es.length cv9), Rk w5.heap.size w6.heap.size (.slice av9 es.length cv9) es, Ik (w4.alloc (.cells #[.int .i64 n, .slice av7 ps.length cv7] 26)).heap.size w5.heap.size (.slice av8 ss.length cv8) ss, Two w4.heap.size (.int .i64 n) (.slice av7 ps.length cv7), Rk (w3.alloc (.cells #[.int .i64 n, .slice av6 fs.length cv6] 26)).heap.size w4.heap.size (.slice av7 ps.length cv7) ps, Two w3.heap.size (.int .i64 n) (.slice av6 fs.length cv6), Rk (w2.alloc (.cells #[.int .i64 n, .slice av5 ds.length cv5] 26)).heap.size w3.heap.size (.slice av6 fs.length cv6) fs, Two w2.heap.size (.int .i64 n) (.slice av5 ds.length cv5), Rk (w1.alloc (.cells #[.int .i64 n, .slice av3 xs.length cv3] 26)).heap.size w2.heap.size (.slice av5 ds.length cv5) ds, Two w1.heap.size (.int .i64 n) (.slice av3 xs.length cv3), Rk w.heap.size w1.heap.size (.slice av3 xs.length cv3) xs] u) → (v.cell? ⟨w3.heap.size, 0, none⟩ = some (.int .i64 n) ∧ v.cell? ⟨w3.heap.size, 1, none⟩ = some (.slice av6 fs.length cv6) ∧ v.cell? ⟨w1.heap.size, 0, none⟩ = some (.int .i64 n) ∧ v.cell? ⟨w1.heap.size, 1, none⟩ = some (.slice av3 xs.length cv3) ∧ v.cell? ⟨po, 0, none⟩ = some (.int .i64 m) ∧ v.cell? ⟨po, 1, none⟩ = some (.slice ao os.length co) ∧ Kp w [Rk lo ho (.slice ao os.length co) os, Two po (.int .i64 m) (.slice ao os.length co), Two w6.heap.size (.int .i64 n) (.slice av9 es.length cv9), Rk w5.heap.size w6.heap.size (.slice av9 es.length cv9) es, Ik (w4.alloc (.cells #[.int .i64 n, .slice av7 ps.length cv7] 26)).heap.size w5.heap.size (.slice av8 ss.length cv8) ss, Two w4.heap.size (.int .i64 n) (.slice av7 ps.length cv7), Rk (w3.alloc (.cells #[.int .i64 n, .slice av6 fs.length cv6] 26)).heap.size w4.heap.size (.slice av7 ps.length cv7) ps, Two w3.heap.size (.int .i64 n) (.slice av6 fs.length cv6), Rk (w2.alloc (.cells #[.int .i64 n, .slice av5 ds.length cv5] 26)).heap.size w3.heap.size (.slice av6 fs.length cv6) fs, Two w2.heap.size (.int .i64 n) (.slice av5 ds.length cv5), Rk (w1.alloc (.cells #[.int .i64 n, .slice av3 xs.length cv3] 26)).heap.size w2.heap.size (.slice av5 ds.length cv5) ds, Two w1.heap.size (.int .i64 n) (.slice av3 xs.length cv3), Rk w.heap.size w1.heap.size (.slice av3 xs.length cv3) xs] v) := fun u v hb h => ⟨kept hb h.1, kept hb h.2.1, kept hb h.2.2.1, kept hb h.2.2.2.1, kept hb h.2.2.2.2.1, kept hb h.2.2.2.2.2.1, h.2.2.2.2.2.2.keep hb⟩
        have KG : Hid (∀ u, (u.cell? ⟨w3.heap.size, 0, none⟩ = some (.int .i64 n) ∧ u.cell? ⟨w3.heap.size, 1, none⟩ = some (.slice av6 fs.length cv6) ∧ u.cell? ⟨w1.heap.size, 0, none⟩ = some (.int .i64 n) ∧ u.cell? ⟨w1.heap.size, 1, none⟩ = some (.slice av3 xs.length cv3) ∧ u.cell? ⟨po, 0, none⟩ = some (.int .i64 m) ∧ u.cell? ⟨po, 1, none⟩ = some (.slice ao os.length co) ∧ Kp w [Rk lo ho (.slice ao os.length co) os, Two po (.int .i64 m) (.slice ao os.length co), Two w6.heap.size (.int .i64 n) (.slice av9 es.length cv9), Rk w5.heap.size w6.heap.size (.slice av9 es.length cv9) es, Ik (w4.alloc (.cells #[.int .i64 n, .slice av7 ps.length cv7] 26)).heap.size w5.heap.size (.slice av8 ss.length cv8) ss, Two w4.heap.size (.int .i64 n) (.slice av7 ps.length cv7), Rk (w3.alloc (.cells #[.int .i64 n, .slice av6 fs.length cv6] 26)).heap.size w4.heap.size (.slice av7 ps.length cv7) ps, Two w3.heap.size (.int .i64 n) (.slice av6 fs.length cv6), Rk (w2.alloc (.cells #[.int .i64 n, .slice av5 ds.length cv5] 26)).heap.size w3.heap.size (.slice av6 fs.length cv6) fs, Two w2.heap.size (.int .i64 n) (.slice av5 ds.length cv5), Rk (w1.alloc (.cells #[.int .i64 n, .slice av3 xs.length cv3] 26)).heap.size w2.heap.size (.slice av5 ds.length cv5) ds, Two w1.heap.size (.int .i64 n) (.slice av3 xs.length cv3), Rk w.heap.size w1.heap.size (.slice av3 xs.length cv3) xs] u) → Kp w [Rk lo ho (.slice ao os.length co) os, Two po (.int .i64 m) (.slice ao os.length co), Two w6.heap.size (.int .i64 n) (.slice av9 es.length cv9), Rk w5.heap.size w6.heap.size (.slice av9 es.length cv9) es, Ik (w4.alloc (.cells #[.int .i64 n, .slice av7 ps.length cv7] 26)).heap.size w5.heap.size (.slice av8 ss.length cv8) ss, Two w4.heap.size (.int .i64 n) (.slice av7 ps.length cv7), Rk (w3.alloc (.cells #[.int .i64 n, .slice av6 fs.length cv6] 26)).heap.size w4.heap.size (.slice av7 ps.length cv7) ps, Two w3.heap.size (.int .i64 n) (.slice av6 fs.length cv6), Rk (w2.alloc (.cells #[.int .i64 n, .slice av5 ds.length cv5] 26)).heap.size w3.heap.size (.slice av6 fs.length cv6) fs, Two w2.heap.size (.int .i64 n) (.slice av5 ds.length cv5), Rk (w1.alloc (.cells #[.int .i64 n, .slice av3 xs.length cv3] 26)).heap.size w2.heap.size (.slice av5 ds.length cv5) ds, Two w1.heap.size (.int .i64 n) (.slice av3 xs.length cv3), Rk w.heap.size w1.heap.size (.slice av3 xs.length cv3) xs] u) := Lib.hid (fun u h => h.2.2.2.2.2.2)
        obtain ⟨c_P60, c_P61⟩ := (K.get 7 rfl)
        obtain ⟨c_P30, c_P31⟩ := (K.get 11 rfl)
        obtain ⟨c_PO0, c_PO1⟩ := (K.get 1 rfl)
        have C0 := Lib.hid (fun (u : World) (h : u.cell? ⟨w3.heap.size, 0, none⟩ = some (.int .i64 n) ∧ u.cell? ⟨w3.heap.size, 1, none⟩ = some (.slice av6 fs.length cv6) ∧ u.cell? ⟨w1.heap.size, 0, none⟩ = some (.int .i64 n) ∧ u.cell? ⟨w1.heap.size, 1, none⟩ = some (.slice av3 xs.length cv3) ∧ u.cell? ⟨po, 0, none⟩ = some (.int .i64 m) ∧ u.cell? ⟨po, 1, none⟩ = some (.slice ao os.length co) ∧ Kp w [Rk lo ho (.slice ao os.length co) os, Two po (.int .i64 m) (.slice ao os.length co), Two w6.heap.size (.int .i64 n) (.slice av9 es.length cv9), Rk w5.heap.size w6.heap.size (.slice av9 es.length cv9) es, Ik (w4.alloc (.cells #[.int .i64 n, .slice av7 ps.length cv7] 26)).heap.size w5.heap.size (.slice av8 ss.length cv8) ss, Two w4.heap.size (.int .i64 n) (.slice av7 ps.length cv7), Rk (w3.alloc (.cells #[.int .i64 n, .slice av6 fs.length cv6] 26)).heap.size w4.heap.size (.slice av7 ps.length cv7) ps, Two w3.heap.size (.int .i64 n) (.slice av6 fs.length cv6), Rk (w2.alloc (.cells #[.int .i64 n, .slice av5 ds.length cv5] 26)).heap.size w3.heap.size (.slice av6 fs.length cv6) fs, Two w2.heap.size (.int .i64 n) (.slice av5 ds.length cv5), Rk (w1.alloc (.cells #[.int .i64 n, .slice av3 xs.length cv3] 26)).heap.size w2.heap.size (.slice av5 ds.length cv5) ds, Two w1.heap.size (.int .i64 n) (.slice av3 xs.length cv3), Rk w.heap.size w1.heap.size (.slice av3 xs.length cv3) xs] u) => TextKs _ _ n _ fs tf u (h.2.2.2.2.2.2.get 8 rfl) HFO.out HTF.out)
        have C1 := Lib.hid (fun (u : World) (h : u.cell? ⟨w3.heap.size, 0, none⟩ = some (.int .i64 n) ∧ u.cell? ⟨w3.heap.size, 1, none⟩ = some (.slice av6 fs.length cv6) ∧ u.cell? ⟨w1.heap.size, 0, none⟩ = some (.int .i64 n) ∧ u.cell? ⟨w1.heap.size, 1, none⟩ = some (.slice av3 xs.length cv3) ∧ u.cell? ⟨po, 0, none⟩ = some (.int .i64 m) ∧ u.cell? ⟨po, 1, none⟩ = some (.slice ao os.length co) ∧ Kp w [Rk lo ho (.slice ao os.length co) os, Two po (.int .i64 m) (.slice ao os.length co), Two w6.heap.size (.int .i64 n) (.slice av9 es.length cv9), Rk w5.heap.size w6.heap.size (.slice av9 es.length cv9) es, Ik (w4.alloc (.cells #[.int .i64 n, .slice av7 ps.length cv7] 26)).heap.size w5.heap.size (.slice av8 ss.length cv8) ss, Two w4.heap.size (.int .i64 n) (.slice av7 ps.length cv7), Rk (w3.alloc (.cells #[.int .i64 n, .slice av6 fs.length cv6] 26)).heap.size w4.heap.size (.slice av7 ps.length cv7) ps, Two w3.heap.size (.int .i64 n) (.slice av6 fs.length cv6), Rk (w2.alloc (.cells #[.int .i64 n, .slice av5 ds.length cv5] 26)).heap.size w3.heap.size (.slice av6 fs.length cv6) fs, Two w2.heap.size (.int .i64 n) (.slice av5 ds.length cv5), Rk (w1.alloc (.cells #[.int .i64 n, .slice av3 xs.length cv3] 26)).heap.size w2.heap.size (.slice av5 ds.length cv5) ds, Two w1.heap.size (.int .i64 n) (.slice av3 xs.length cv3), Rk w.heap.size w1.heap.size (.slice av3 xs.length cv3) xs] u) => TextKs _ _ n _ xs tx u (h.2.2.2.2.2.2.get 12 rfl) HK.out HTX.out)
        have C2 := Lib.hid (fun (u : World) (h : u.cell? ⟨w3.heap.size, 0, none⟩ = some (.int .i64 n) ∧ u.cell? ⟨w3.heap.size, 1, none⟩ = some (.slice av6 fs.length cv6) ∧ u.cell? ⟨w1.heap.size, 0, none⟩ = some (.int .i64 n) ∧ u.cell? ⟨w1.heap.size, 1, none⟩ = some (.slice av3 xs.length cv3) ∧ u.cell? ⟨po, 0, none⟩ = some (.int .i64 m) ∧ u.cell? ⟨po, 1, none⟩ = some (.slice ao os.length co) ∧ Kp w [Rk lo ho (.slice ao os.length co) os, Two po (.int .i64 m) (.slice ao os.length co), Two w6.heap.size (.int .i64 n) (.slice av9 es.length cv9), Rk w5.heap.size w6.heap.size (.slice av9 es.length cv9) es, Ik (w4.alloc (.cells #[.int .i64 n, .slice av7 ps.length cv7] 26)).heap.size w5.heap.size (.slice av8 ss.length cv8) ss, Two w4.heap.size (.int .i64 n) (.slice av7 ps.length cv7), Rk (w3.alloc (.cells #[.int .i64 n, .slice av6 fs.length cv6] 26)).heap.size w4.heap.size (.slice av7 ps.length cv7) ps, Two w3.heap.size (.int .i64 n) (.slice av6 fs.length cv6), Rk (w2.alloc (.cells #[.int .i64 n, .slice av5 ds.length cv5] 26)).heap.size w3.heap.size (.slice av6 fs.length cv6) fs, Two w2.heap.size (.int .i64 n) (.slice av5 ds.length cv5), Rk (w1.alloc (.cells #[.int .i64 n, .slice av3 xs.length cv3] 26)).heap.size w2.heap.size (.slice av5 ds.length cv5) ds, Two w1.heap.size (.int .i64 n) (.slice av3 xs.length cv3), Rk w.heap.size w1.heap.size (.slice av3 xs.length cv3) xs] u) => AreKs _ _ _ _ n n _ _ xs fs true u (h.2.2.2.2.2.2.get 12 rfl) (h.2.2.2.2.2.2.get 8 rfl) HBF.out)
        have C3 := Lib.hid (fun (u : World) (h : u.cell? ⟨w3.heap.size, 0, none⟩ = some (.int .i64 n) ∧ u.cell? ⟨w3.heap.size, 1, none⟩ = some (.slice av6 fs.length cv6) ∧ u.cell? ⟨w1.heap.size, 0, none⟩ = some (.int .i64 n) ∧ u.cell? ⟨w1.heap.size, 1, none⟩ = some (.slice av3 xs.length cv3) ∧ u.cell? ⟨po, 0, none⟩ = some (.int .i64 m) ∧ u.cell? ⟨po, 1, none⟩ = some (.slice ao os.length co) ∧ Kp w [Rk lo ho (.slice ao os.length co) os, Two po (.int .i64 m) (.slice ao os.length co), Two w6.heap.size (.int .i64 n) (.slice av9 es.length cv9), Rk w5.heap.size w6.heap.size (.slice av9 es.length cv9) es, Ik (w4.alloc (.cells #[.int .i64 n, .slice av7 ps.length cv7] 26)).heap.size w5.heap.size (.slice av8 ss.length cv8) ss, Two w4.heap.size (.int .i64 n) (.slice av7 ps.length cv7), Rk (w3.alloc (.cells #[.int .i64 n, .slice av6 fs.length cv6] 26)).heap.size w4.heap.size (.slice av7 ps.length cv7) ps, Two w3.heap.size (.int .i64 n) (.slice av6 fs.length cv6), Rk (w2.alloc (.cells #[.int .i64 n, .slice av5 ds.length cv5] 26)).heap.size w3.heap.size (.slice av6 fs.length cv6) fs, Two w2.heap.size (.int .i64 n) (.slice av5 ds.length cv5), Rk (w1.alloc (.cells #[.int .i64 n, .slice av3 xs.length cv3] 26)).heap.size w2.heap.size (.slice av5 ds.length cv5) ds, Two w1.heap.size (.int .i64 n) (.slice av3 xs.length cv3), Rk w.heap.size w1.heap.size (.slice av3 xs.length cv3) xs] u) => AreKs _ _ _ _ n m _ _ xs os true u (h.2.2.2.2.2.2.get 12 rfl) (h.2.2.2.2.2.2.get 0 rfl) HB1.out)
        have C4 := Lib.hid (fun (u : World) (h : u.cell? ⟨w3.heap.size, 0, none⟩ = some (.int .i64 n) ∧ u.cell? ⟨w3.heap.size, 1, none⟩ = some (.slice av6 fs.length cv6) ∧ u.cell? ⟨w1.heap.size, 0, none⟩ = some (.int .i64 n) ∧ u.cell? ⟨w1.heap.size, 1, none⟩ = some (.slice av3 xs.length cv3) ∧ u.cell? ⟨po, 0, none⟩ = some (.int .i64 m) ∧ u.cell? ⟨po, 1, none⟩ = some (.slice ao os.length co) ∧ Kp w [Rk lo ho (.slice ao os.length co) os, Two po (.int .i64 m) (.slice ao os.length co), Two w6.heap.size (.int .i64 n) (.slice av9 es.length cv9), Rk w5.heap.size w6.heap.size (.slice av9 es.length cv9) es, Ik (w4.alloc (.cells #[.int .i64 n, .slice av7 ps.length cv7] 26)).heap.size w5.heap.size (.slice av8 ss.length cv8) ss, Two w4.heap.size (.int .i64 n) (.slice av7 ps.length cv7), Rk (w3.alloc (.cells #[.int .i64 n, .slice av6 fs.length cv6] 26)).heap.size w4.heap.size (.slice av7 ps.length cv7) ps, Two w3.heap.size (.int .i64 n) (.slice av6 fs.length cv6), Rk (w2.alloc (.cells #[.int .i64 n, .slice av5 ds.length cv5] 26)).heap.size w3.heap.size (.slice av6 fs.length cv6) fs, Two w2.heap.size (.int .i64 n) (.slice av5 ds.length cv5), Rk (w1.alloc (.cells #[.int .i64 n, .slice av3 xs.length cv3] 26)).heap.size w2.heap.size (.slice av5 ds.length cv5) ds, Two w1.heap.size (.int .i64 n) (.slice av3 xs.length cv3), Rk w.heap.size w1.heap.size (.slice av3 xs.length cv3) xs] u) => AreKs _ _ _ _ m n _ _ os xs true u (h.2.2.2.2.2.2.get 0 rfl) (h.2.2.2.2.2.2.get 12 rfl) HB2.out)
        have C5 := Lib.hid (fun (u : World) (h : u.cell? ⟨w3.heap.size, 0, none⟩ = some (.int .i64 n) ∧ u.cell? ⟨w3.heap.size, 1, none⟩ = some (.slice av6 fs.length cv6) ∧ u.cell? ⟨w1.heap.size, 0, none⟩ = some (.int .i64 n) ∧ u.cell? ⟨w1.heap.size, 1, none⟩ = some (.slice av3 xs.length cv3) ∧ u.cell? ⟨po, 0, none⟩ = some (.int .i64 m) ∧ u.cell? ⟨po, 1, none⟩ = some (.slice ao os.length co) ∧ Kp w [Rk lo ho (.slice ao os.length co) os, Two po (.int .i64 m) (.slice ao os.length co), Two w6.heap.size (.int .i64 n) (.slice av9 es.length cv9), Rk w5.heap.size w6.heap.size (.slice av9 es.length cv9) es, Ik (w4.alloc (.cells #[.int .i64 n, .slice av7 ps.length cv7] 26)).heap.size w5.heap.size (.slice av8 ss.length cv8) ss, Two w4.heap.size (.int .i64 n) (.slice av7 ps.length cv7), Rk (w3.alloc (.cells #[.int .i64 n, .slice av6 fs.length cv6] 26)).heap.size w4.heap.size (.slice av7 ps.length cv7) ps, Two w3.heap.size (.int .i64 n) (.slice av6 fs.length cv6), Rk (w2.alloc (.cells #[.int .i64 n, .slice av5 ds.length cv5] 26)).heap.size w3.heap.size (.slice av6 fs.length cv6) fs, Two w2.heap.size (.int .i64 n) (.slice av5 ds.length cv5), Rk (w1.alloc (.cells #[.int .i64 n, .slice av3 xs.length cv3] 26)).heap.size w2.heap.size (.slice av5 ds.length cv5) ds, Two w1.heap.size (.int .i64 n) (.slice av3 xs.length cv3), Rk w.heap.size w1.heap.size (.slice av3 xs.length cv3) xs] u) => ArePKs _ _ _ _ n m _ _ xs os true u (h.2.2.2.2.2.2.get 12 rfl) (h.2.2.2.2.2.2.get 0 rfl) HBT.out)
        have S0 : wc.drew.cell? ⟨w3.heap.size, 0, none⟩ = some (.int .i64 n) ∧ wc.drew.cell? ⟨w3.heap.size, 1, none⟩ = some (.slice av6 fs.length cv6) ∧ wc.drew.cell? ⟨w1.heap.size, 0, none⟩ = some (.int .i64 n) ∧ wc.drew.cell? ⟨w1.heap.size, 1, none⟩ = some (.slice av3 xs.length cv3) ∧ wc.drew.cell? ⟨po, 0, none⟩ = some (.int .i64 m) ∧ wc.drew.cell? ⟨po, 1, none⟩ = some (.slice ao os.length co) ∧ Kp w [Rk lo ho (.slice ao os.length co) os, Two po (.int .i64 m) (.slice ao os.length co), Two w6.heap.size (.int .i64 n) (.slice av9 es.length cv9), Rk w5.heap.size w6.heap.size (.slice av9 es.length cv9) es, Ik (w4.alloc (.cells #[.int .i64 n, .slice av7 ps.length cv7] 26)).heap.size w5.heap.size (.slice av8 ss.length cv8) ss, Two w4.heap.size (.int .i64 n) (.slice av7 ps.length cv7), Rk (w3.alloc (.cells #[.int .i64 n, .slice av6 fs.length cv6] 26)).heap.size w4.heap.size (.slice av7 ps.length cv7) ps, Two w3.heap.size (.int .i64 n) (.slice av6 fs.length cv6), Rk (w2.alloc (.cells #[.int .i64 n, .slice av5 ds.length cv5] 26)).heap.size w3.heap.size (.slice av6 fs.length cv6) fs, Two w2.heap.size (.int .i64 n) (.slice av5 ds.length cv5), Rk (w1.alloc (.cells #[.int .i64 n, .slice av3 xs.length cv3] 26)).heap.size w2.heap.size (.slice av5 ds.length cv5) ds, Two w1.heap.size (.int .i64 n) (.slice av3 xs.length cv3), Rk w.heap.size w1.heap.size (.slice av3 xs.length cv3) xs] wc.drew := ⟨c_P60, c_P61, c_P30, c_P31, c_PO0, c_PO1, K.drew⟩
        clear K c_P60 c_P61 c_P30 c_P31 c_PO0 c_PO1
        go_region_held3 (fun w' => w'.cell? ⟨w3.heap.size, 0, none⟩ = some (.int .i64 n) ∧ w'.cell? ⟨w3.heap.size, 1, none⟩ = some (.slice av6 fs.length cv6) ∧ w'.cell? ⟨w1.heap.size, 0, none⟩ = some (.int .i64 n) ∧ w'.cell? ⟨w1.heap.size, 1, none⟩ = some (.slice av3 xs.length cv3) ∧ w'.cell? ⟨po, 0, none⟩ = some (.int .i64 m) ∧ w'.cell? ⟨po, 1, none⟩ = some (.slice ao os.length co) ∧ Kp w [Rk lo ho (.slice ao os.length co) os, Two po (.int .i64 m) (.slice ao os.length co), Two w6.heap.size (.int .i64 n) (.slice av9 es.length cv9), Rk w5.heap.size w6.heap.size (.slice av9 es.length cv9) es, Ik (w4.alloc (.cells #[.int .i64 n, .slice av7 ps.length cv7] 26)).heap.size w5.heap.size (.slice av8 ss.length cv8) ss, Two w4.heap.size (.int .i64 n) (.slice av7 ps.length cv7), Rk (w3.alloc (.cells #[.int .i64 n, .slice av6 fs.length cv6] 26)).heap.size w4.heap.size (.slice av7 ps.length cv7) ps, Two w3.heap.size (.int .i64 n) (.slice av6 fs.length cv6), Rk (w2.alloc (.cells #[.int .i64 n, .slice av5 ds.length cv5] 26)).heap.size w3.heap.size (.slice av6 fs.length cv6) fs, Two w2.heap.size (.int .i64 n) (.slice av5 ds.length cv5), Rk (w1.alloc (.cells #[.int .i64 n, .slice av3 xs.length cv3] 26)).heap.size w2.heap.size (.slice av5 ds.length cv5) ds, Two w1.heap.size (.int .i64 n) (.slice av3 xs.length cv3), Rk w.heap.size w1.heap.size (.slice av3 xs.length cv3) xs] w') (first | assumption | (refine KP _ _ (by assumption) ?_; assumption))
          ((first
            | (go_at_call 16; refine (args_eq (C0.out _ (by assumption)) (by with_reducible rfl)).mono ?_; rintro e w8 ⟨rfl, hb⟩)
            | (go_at_call 16; refine (args_eq (C1.out _ (by assumption)) (by with_reducible rfl)).mono ?_; rintro e w9 ⟨rfl, hb⟩)
            | (go_at_call 14; refine (args_eq (C2.out _ (by assumption)) (by with_reducible rfl)).mono ?_; rintro e w10 ⟨rfl, hb⟩)
            | (go_at_call 14; refine (args_eq (C3.out _ (by assumption)) (by with_reducible rfl)).mono ?_; rintro e w11 ⟨rfl, hb⟩)
            | (go_at_call 14; refine (args_eq (C4.out _ (by assumption)) (by with_reducible rfl)).mono ?_; rintro e w12 ⟨rfl, hb⟩)
            | (go_at_call 15; refine (args_eq (C5.out _ (by assumption)) (by with_reducible rfl)).mono ?_; rintro e w13 ⟨rfl, hb⟩)))
        all_goals
          have HY := (KG.out _ (by assumption)).1
          go_wp2_with fail
          go_ret
          exact ⟨rfl, HY⟩
      | false =>
        have KP : ∀ u v, Below u.heap.size u v → (u.cell? ⟨w3.heap.size, 0, none⟩ = some (.int .i64 n) ∧ u.cell? ⟨w3.heap.size, 1, none⟩ = some (.slice av6 fs.length cv6) ∧ u.cell? ⟨w1.heap.size, 0, none⟩ = some (.int .i64 n) ∧ u.cell? ⟨w1.heap.size, 1, none⟩ = some (.slice av3 xs.length cv3) ∧ u.cell? ⟨po, 0, none⟩ = some (.int .i64 m) ∧ u.cell? ⟨po, 1, none⟩ = some (.slice ao os.length co) ∧ Kp w [Rk lo ho (.slice ao os.length co) os, Two po (.int .i64 m) (.slice ao os.length co), Two w6.heap.size (.int .i64 n) (.slice av9 es.length cv9), Rk w5.heap.size w6.heap.size (.slice av9 es.length cv9) es, Ik (w4.alloc (.cells #[.int .i64 n, .slice av7 ps.length cv7] 26)).heap.size w5.heap.size (.slice av8 ss.length cv8) ss, Two w4.heap.size (.int .i64 n) (.slice av7 ps.length cv7), Rk (w3.alloc (.cells #[.int .i64 n, .slice av6 fs.length cv6] 26)).heap.size w4.heap.size (.slice av7 ps.length cv7) ps, Two w3.heap.size (.int .i64 n) (.slice av6 fs.length cv6), Rk (w2.alloc (.cells #[.int .i64 n, .slice av5 ds.length cv5] 26)).heap.size w3.heap.size (.slice av6 fs.length cv6) fs, Two w2.heap.size (.int .i64 n) (.slice av5 ds.length cv5), Rk (w1.alloc (.cells #[.int .i64 n, .slice av3 xs.length cv3] 26)).heap.size w2.heap.size (.slice av5 ds.length cv5) ds, Two w1.heap.size (.int .i64 n) (.slice av3 xs.length cv3), Rk w.heap.size w1.heap.size (.slice av3 xs.length cv3) xs] u) → (v.cell? ⟨w3.heap.size, 0, none⟩ = some (.int .i64 n) ∧ v.cell? ⟨w3.heap.size, 1, none⟩ = some (.slice av6 fs.length cv6) ∧ v.cell? ⟨w1.heap.size, 0, none⟩ = some (.int .i64 n) ∧ v.cell? ⟨w1.heap.size, 1, none⟩ = some (.slice av3 xs.length cv3) ∧ v.cell? ⟨po, 0, none⟩ = some (.int .i64 m) ∧ v.cell? ⟨po, 1, none⟩ = some (.slice ao os.length co) ∧ Kp w [Rk lo ho (.slice ao os.length co) os, Two po (.int .i64 m) (.slice ao os.length co), Two w6.heap.size (.int .i64 n) (.slice av9 es.length cv9), Rk w5.heap.size w6.heap.size (.slice av9 es.length cv9) es, Ik (w4.alloc (.cells #[.int .i64 n, .slice av7 ps.length cv7] 26)).heap.size w5.heap.size (.slice av8 ss.length cv8) ss, Two w4.heap.size (.int .i64 n) (.slice av7 ps.length cv7), Rk (w3.alloc (.cells #[.int .i64 n, .slice av6 fs.length cv6] 26)).heap.size w4.heap.size (.slice av7 ps.length cv7) ps, Two w3.heap.size (.int .i64 n) (.slice av6 fs.length cv6), Rk (w2.alloc (.cells #[.int .i64 n, .slice av5 ds.length cv5] 26)).heap.size w3.heap.size (.slice av6 fs.length cv6) fs, Two w2.heap.size (.int .i64 n) (.slice av5 ds.length cv5), Rk (w1.alloc (.cells #[.int .i64 n, .slice av3 xs.length cv3] 26)).heap.size w2.heap.size (.slice av5 ds.length cv5) ds, Two w1.heap.size (.int .i64 n) (.slice av3 xs.length cv3), Rk w.heap.size w1.heap.size (.slice av3 xs.length cv3) xs] v) := fun u v hb h => ⟨kept hb h.1, kept hb h.2.1, kept hb h.2.2.1, kept hb h.2.2.2.1, kept hb h.2.2.2.2.1, kept hb h.2.2.2.2.2.1, h.2.2.2.2.2.2.keep hb⟩
        have KG : Hid (∀ u, (u.cell? ⟨w3.heap.size, 0, none⟩ = some (.int .i64 n) ∧ u.cell? ⟨w3.heap.size, 1, none⟩ = some (.slice av6 fs.length cv6) ∧ u.cell? ⟨w1.heap.size, 0, none⟩ = some (.int .i64 n) ∧ u.cell? ⟨w1.heap.size, 1, none⟩ = some (.slice av3 xs.length cv3) ∧ u.cell? ⟨po, 0, none⟩ = some (.int .i64 m) ∧ u.cell? ⟨po, 1, none⟩ = some (.slice ao os.length co) ∧ Kp w [Rk lo ho (.slice ao os.length co) os, Two po (.int .i64 m) (.slice ao os.length co), Two w6.heap.size (.int .i64 n) (.slice av9 es.length cv9), Rk w5.heap.size w6.heap.size (.slice av9 es.length cv9) es, Ik (w4.alloc (.cells #[.int .i64 n, .slice av7 ps.length cv7] 26)).heap.size w5.heap.size (.slice av8 ss.length cv8) ss, Two w4.heap.size (.int .i64 n) (.slice av7 ps.length cv7), Rk (w3.alloc (.cells #[.int .i64 n, .slice av6 fs.length cv6] 26)).heap.size w4.heap.size (.slice av7 ps.length cv7) ps, Two w3.heap.size (.int .i64 n) (.slice av6 fs.length cv6), Rk (w2.alloc (.cells #[.int .i64 n, .slice av5 ds.length cv5] 26)).heap.size w3.heap.size (.slice av6 fs.length cv6) fs, Two w2.heap.size (.int .i64 n) (.slice av5 ds.length cv5), Rk (w1.alloc (.cells #[.int .i64 n, .slice av3 xs.length cv3] 26)).heap.size w2.heap.size (.slice av5 ds.length cv5) ds, Two w1.heap.size (.int .i64 n) (.slice av3 xs.length cv3), Rk w.heap.size w1.heap.size (.slice av3 xs.length cv3) xs] u) → Kp w [Rk lo ho (.slice ao os.length co) os, Two po (.int .i64 m) (.slice ao os.length co), Two w6.heap.size (.int .i64 n) (.slice av9 es.length cv9), Rk w5.heap.size w6.heap.size (.slice av9 es.length cv9) es, Ik (w4.alloc (.cells #[.int .i64 n, .slice av7 ps.length cv7] 26)).heap.size w5.heap.size (.slice av8 ss.length cv8) ss, Two w4.heap.size (.int .i64 n) (.slice av7 ps.length cv7), Rk (w3.alloc (.cells #[.int .i64 n, .slice av6 fs.length cv6] 26)).heap.size w4.heap.size (.slice av7 ps.length cv7) ps, Two w3.heap.size (.int .i64 n) (.slice av6 fs.length cv6), Rk (w2.alloc (.cells #[.int .i64 n, .slice av5 ds.length cv5] 26)).heap.size w3.heap.size (.slice av6 fs.length cv6) fs, Two w2.heap.size (.int .i64 n) (.slice av5 ds.length cv5), Rk (w1.alloc (.cells #[.int .i64 n, .slice av3 xs.length cv3] 26)).heap.size w2.heap.size (.slice av5 ds.length cv5) ds, Two w1.heap.size (.int .i64 n) (.slice av3 xs.length cv3), Rk w.heap.size w1.heap.size (.slice av3 xs.length cv3) xs] u) := Lib.hid (fun u h => h.2.2.2.2.2.2)
        obtain ⟨c_P60, c_P61⟩ := (K.get 7 rfl)
        obtain ⟨c_P30, c_P31⟩ := (K.get 11 rfl)
        obtain ⟨c_PO0, c_PO1⟩ := (K.get 1 rfl)
        have CT1 := Lib.hid (fun (u : World) (h : u.cell? ⟨w3.heap.size, 0, none⟩ = some (.int .i64 n) ∧ u.cell? ⟨w3.heap.size, 1, none⟩ = some (.slice av6 fs.length cv6) ∧ u.cell? ⟨w1.heap.size, 0, none⟩ = some (.int .i64 n) ∧ u.cell? ⟨w1.heap.size, 1, none⟩ = some (.slice av3 xs.length cv3) ∧ u.cell? ⟨po, 0, none⟩ = some (.int .i64 m) ∧ u.cell? ⟨po, 1, none⟩ = some (.slice ao os.length co) ∧ Kp w [Rk lo ho (.slice ao os.length co) os, Two po (.int .i64 m) (.slice ao os.length co), Two w6.heap.size (.int .i64 n) (.slice av9 es.length cv9), Rk w5.heap.size w6.heap.size (.slice av9 es.length cv9) es, Ik (w4.alloc (.cells #[.int .i64 n, .slice av7 ps.length cv7] 26)).heap.size w5.heap.size (.slice av8 ss.length cv8) ss, Two w4.heap.size (.int .i64 n) (.slice av7 ps.length cv7), Rk (w3.alloc (.cells #[.int .i64 n, .slice av6 fs.length cv6] 26)).heap.size w4.heap.size (.slice av7 ps.length cv7) ps, Two w3.heap.size (.int .i64 n) (.slice av6 fs.length cv6), Rk (w2.alloc (.cells #[.int .i64 n, .slice av5 ds.length cv5] 26)).heap.size w3.heap.size (.slice av6 fs.length cv6) fs, Two w2.heap.size (.int .i64 n) (.slice av5 ds.length cv5), Rk (w1.alloc (.cells #[.int .i64 n, .slice av3 xs.length cv3] 26)).heap.size w2.heap.size (.slice av5 ds.length cv5) ds, Two w1.heap.size (.int .i64 n) (.slice av3 xs.length cv3), Rk w.heap.size w1.heap.size (.slice av3 xs.length cv3) xs] u) => TextKs _ _ n _ fs tf u (h.2.2.2.2.2.2.get 8 rfl) HFO.out HTF.out)
        have CT2 := Lib.hid (fun (u : World) (h : u.cell? ⟨w3.heap.size, 0, none⟩ = some (.int .i64 n) ∧ u.cell? ⟨w3.heap.size, 1, none⟩ = some (.slice av6 fs.length cv6) ∧ u.cell? ⟨w1.heap.size, 0, none⟩ = some (.int .i64 n) ∧ u.cell? ⟨w1.heap.size, 1, none⟩ = some (.slice av3 xs.length cv3) ∧ u.cell? ⟨po, 0, none⟩ = some (.int .i64 m) ∧ u.cell? ⟨po, 1, none⟩ = some (.slice ao os.length co) ∧ Kp w [Rk lo ho (.slice ao os.length co) os, Two po (.int .i64 m) (.slice ao os.length co), Two w6.heap.size (.int .i64 n) (.slice av9 es.length cv9), Rk w5.heap.size w6.heap.size (.slice av9 es.length cv9) es, Ik (w4.alloc (.cells #[.int .i64 n, .slice av7 ps.length cv7] 26)).heap.size w5.heap.size (.slice av8 ss.length cv8) ss, Two w4.heap.size (.int .i64 n) (.slice av7 ps.length cv7), Rk (w3.alloc (.cells #[.int .i64 n, .slice av6 fs.length cv6] 26)).heap.size w4.heap.size (.slice av7 ps.length cv7) ps, Two w3.heap.size (.int .i64 n) (.slice av6 fs.length cv6), Rk (w2.alloc (.cells #[.int .i64 n, .slice av5 ds.length cv5] 26)).heap.size w3.heap.size (.slice av6 fs.length cv6) fs, Two w2.heap.size (.int .i64 n) (.slice av5 ds.length cv5), Rk (w1.alloc (.cells #[.int .i64 n, .slice av3 xs.length cv3] 26)).heap.size w2.heap.size (.slice av5 ds.length cv5) ds, Two w1.heap.size (.int .i64 n) (.slice av3 xs.length cv3), Rk w.heap.size w1.heap.size (.slice av3 xs.length cv3) xs] u) => TextKs _ _ n _ xs tx u (h.2.2.2.2.2.2.get 12 rfl) HK.out HTX.out)
        have CA1 := Lib.hid (fun (u : World) (h : u.cell? ⟨w3.heap.size, 0, none⟩ = some (.int .i64 n) ∧ u.cell? ⟨w3.heap.size, 1, none⟩ = some (.slice av6 fs.length cv6) ∧ u.cell? ⟨w1.heap.size, 0, none⟩ = some (.int .i64 n) ∧ u.cell? ⟨w1.heap.size, 1, none⟩ = some (.slice av3 xs.length cv3) ∧ u.cell? ⟨po, 0, none⟩ = some (.int .i64 m) ∧ u.cell? ⟨po, 1, none⟩ = some (.slice ao os.length co) ∧ Kp w [Rk lo ho (.slice ao os.length co) os, Two po (.int .i64 m) (.slice ao os.length co), Two w6.heap.size (.int .i64 n) (.slice av9 es.length cv9), Rk w5.heap.size w6.heap.size (.slice av9 es.length cv9) es, Ik (w4.alloc (.cells #[.int .i64 n, .slice av7 ps.length cv7] 26)).heap.size w5.heap.size (.slice av8 ss.length cv8) ss, Two w4.heap.size (.int .i64 n) (.slice av7 ps.length cv7), Rk (w3.alloc (.cells #[.int .i64 n, .slice av6 fs.length cv6] 26)).heap.size w4.heap.size (.slice av7 ps.length cv7) ps, Two w3.heap.size (.int .i64 n) (.slice av6 fs.length cv6), Rk (w2.alloc (.cells #[.int .i64 n, .slice av5 ds.length cv5] 26)).heap.size w3.heap.size (.slice av6 fs.length cv6) fs, Two w2.heap.size (.int .i64 n) (.slice av5 ds.length cv5), Rk (w1.alloc (.cells #[.int .i64 n, .slice av3 xs.length cv3] 26)).heap.size w2.heap.size (.slice av5 ds.length cv5) ds, Two w1.heap.size (.int .i64 n) (.slice av3 xs.length cv3), Rk w.heap.size w1.heap.size (.slice av3 xs.length cv3) xs] u) => AreKs _ _ _ _ n n _ _ xs fs true u (h.2.2.2.2.2.2.get 12 rfl) (h.2.2.2.2.2.2.get 8 rfl) HBF.out)
        have CA2 := Lib.hid (fun (u : World) (h : u.cell? ⟨w3.heap.size, 0, none⟩ = some (.int .i64 n) ∧ u.cell? ⟨w3.heap.size, 1, none⟩ = some (.slice av6 fs.length cv6) ∧ u.cell? ⟨w1.heap.size, 0, none⟩ = some (.int .i64 n) ∧ u.cell? ⟨w1.heap.size, 1, none⟩ = some (.slice av3 xs.length cv3) ∧ u.cell? ⟨po, 0, none⟩ = some (.int .i64 m) ∧ u.cell? ⟨po, 1, none⟩ = some (.slice ao os.length co) ∧ Kp w [Rk lo ho (.slice ao os.length co) os, Two po (.int .i64 m) (.slice ao os.length co), Two w6.heap.size (.int .i64 n) (.slice av9 es.length cv9), Rk w5.heap.size w6.heap.size (.slice av9 es.length cv9) es, Ik (w4.alloc (.cells #[.int .i64 n, .slice av7 ps.length cv7] 26)).heap.size w5.heap.size (.slice av8 ss.length cv8) ss, Two w4.heap.size (.int .i64 n) (.slice av7 ps.length cv7), Rk (w3.alloc (.cells #[.int .i64 n, .slice av6 fs.length cv6] 26)).heap.size w4.heap.size (.slice av7 ps.length cv7) ps, Two w3.heap.size (.int .i64 n) (.slice av6 fs.length cv6), Rk (w2.alloc (.cells #[.int .i64 n, .slice av5 ds.length cv5] 26)).heap.size w3.heap.size (.slice av6 fs.length cv6) fs, Two w2.heap.size (.int .i64 n) (.slice av5 ds.length cv5), Rk (w1.alloc (.cells #[.int .i64 n, .slice av3 xs.length cv3] 26)).heap.size w2.heap.size (.slice av5 ds.length cv5) ds, Two w1.heap.size (.int .i64 n) (.slice av3 xs.length cv3), Rk w.heap.size w1.heap.size (.slice av3 xs.length cv3) xs] u) => AreKs _ _ _ _ n m _ _ xs os false u (h.2.2.2.2.2.2.get 12 rfl) (h.2.2.2.2.2.2.get 0 rfl) HB1.out)
        have CA3 := Lib.hid (fun (u : World) (h : u.cell? ⟨w3.heap.size, 0, none⟩ = some (.int .i64 n) ∧ u.cell? ⟨w3.heap.size, 1, none⟩ = some (.slice av6 fs.length cv6) ∧ u.cell? ⟨w1.heap.size, 0, none⟩ = some (.int .i64 n) ∧ u.cell? ⟨w1.heap.size, 1, none⟩ = some (.slice av3 xs.length cv3) ∧ u.cell? ⟨po, 0, none⟩ = some (.int .i64 m) ∧ u.cell? ⟨po, 1, none⟩ = some (.slice ao os.length co) ∧ Kp w [Rk lo ho (.slice ao os.length co) os, Two po (.int .i64 m) (.slice ao os.length co), Two w6.heap.size (.int .i64 n) (.slice av9 es.length cv9), Rk w5.heap.size w6.heap.size (.slice av9 es.length cv9) es, Ik (w4.alloc (.cells #[.int .i64 n, .slice av7 ps.length cv7] 26)).heap.size w5.heap.size (.slice av8 ss.length cv8) ss, Two w4.heap.size (.int .i64 n) (.slice av7 ps.length cv7), Rk (w3.alloc (.cells #[.int .i64 n, .slice av6 fs.length cv6] 26)).heap.size w4.heap.size (.slice av7 ps.length cv7) ps, Two w3.heap.size (.int .i64 n) (.slice av6 fs.length cv6), Rk (w2.alloc (.cells #[.int .i64 n, .slice av5 ds.length cv5] 26)).heap.size w3.heap.size (.slice av6 fs.length cv6) fs, Two w2.heap.size (.int .i64 n) (.slice av5 ds.length cv5), Rk (w1.alloc (.cells #[.int .i64 n, .slice av3 xs.length cv3] 26)).heap.size w2.heap.size (.slice av5 ds.length cv5) ds, Two w1.heap.size (.int .i64 n) (.slice av3 xs.length cv3), Rk w.heap.size w1.heap.size (.slice av3 xs.length cv3) xs] u) => AreKs _ _ _ _ m n _ _ os xs false u (h.2.2.2.2.2.2.get 0 rfl) (h.2.2.2.2.2.2.get 12 rfl) HB2.out)
        have hS : wc.drew.cell? ⟨w3.heap.size, 0, none⟩ = some (.int .i64 n) ∧ wc.drew.cell? ⟨w3.heap.size, 1, none⟩ = some (.slice av6 fs.length cv6) ∧ wc.drew.cell? ⟨w1.heap.size, 0, none⟩ = some (.int .i64 n) ∧ wc.drew.cell? ⟨w1.heap.size, 1, none⟩ = some (.slice av3 xs.length cv3) ∧ wc.drew.cell? ⟨po, 0, none⟩ = some (.int .i64 m) ∧ wc.drew.cell? ⟨po, 1, none⟩ = some (.slice ao os.length co) ∧ Kp w [Rk lo ho (.slice ao os.length co) os, Two po (.int .i64 m) (.slice ao os.length co), Two w6.heap.size (.int .i64 n) (.slice av9 es.length cv9), Rk w5.heap.size w6.heap.size (.slice av9 es.length cv9) es, Ik (w4.alloc (.cells #[.int .i64 n, .slice av7 ps.length cv7] 26)).heap.size w5.heap.size (.slice av8 ss.length cv8) ss, Two w4.heap.size (.int .i64 n) (.slice av7 ps.length cv7), Rk (w3.alloc (.cells #[.int .i64 n, .slice av6 fs.length cv6] 26)).heap.size w4.heap.size (.slice av7 ps.length cv7) ps, Two w3.heap.size (.int .i64 n) (.slice av6 fs.length cv6), Rk (w2.alloc (.cells #[.int .i64 n, .slice av5 ds.length cv5] 26)).heap.size w3.heap.size (.slice av6 fs.length cv6) fs, Two w2.heap.size (.int .i64 n) (.slice av5 ds.length cv5), Rk (w1.alloc (.cells #[.int .i64 n, .slice av3 xs.length cv3] 26)).heap.size w2.heap.size (.slice av5 ds.length cv5) ds, Two w1.heap.size (.int .i64 n) (.slice av3 xs.length cv3), Rk w.heap.size w1.heap.size (.slice av3 xs.length cv3) xs] wc.drew := ⟨c_P60, c_P61, c_P30, c_P31, c_PO0, c_PO1, K.drew⟩
        clear K c_P60 c_P61 c_P30 c_P31 c_PO0 c_PO1
        try simp only [List.append_eq, List.cons_append, List.nil_append]
        refine reg_begin (fun w' => w'.cell? ⟨w3.heap.size, 0, none⟩ = some (.int .i64 n) ∧ w'.cell? ⟨w3.heap.size, 1, none⟩ = some (.slice av6 fs.length cv6) ∧ w'.cell? ⟨w1.heap.size, 0, none⟩ = some (.int .i64 n) ∧ w'.cell? ⟨w1.heap.size, 1, none⟩ = some (.slice av3 xs.length cv3) ∧ w'.cell? ⟨po, 0, none⟩ = some (.int .i64 m) ∧ w'.cell? ⟨po, 1, none⟩ = some (.slice ao os.length co) ∧ Kp w [Rk lo ho (.slice ao os.length co) os, Two po (.int .i64 m) (.slice ao os.length co), Two w6.heap.size (.int .i64 n) (.slice av9 es.length cv9), Rk w5.heap.size w6.heap.size (.slice av9 es.length cv9) es, Ik (w4.alloc (.cells #[.int .i64 n, .slice av7 ps.length cv7] 26)).heap.size w5.heap.size (.slice av8 ss.length cv8) ss, Two w4.heap.size (.int .i64 n) (.slice av7 ps.length cv7), Rk (w3.alloc (.cells #[.int .i64 n, .slice av6 fs.length cv6] 26)).heap.size w4.heap.size (.slice av7 ps.length cv7) ps, Two w3.heap.size (.int .i64 n) (.slice av6 fs.length cv6), Rk (w2.alloc (.cells #[.int .i64 n, .slice av5 ds.length cv5] 26)).heap.size w3.heap.size (.slice av6 fs.length cv6) fs, Two w2.heap.size (.int .i64 n) (.slice av5 ds.length cv5), Rk (w1.alloc (.cells #[.int .i64 n, .slice av3 xs.length cv3] 26)).heap.size w2.heap.size (.slice av5 ds.length cv5) ds, Two w1.heap.size (.int .i64 n) (.slice av3 xs.length cv3), Rk w.heap.size w1.heap.size (.slice av3 xs.length cv3) xs] w') (by kernel_rfl) hS ?_
        refine reg_take 0 (v := ?_) rfl (by kernel_rfl) (by kernel_rfl) (by kernel_rfl) (fun _ _ _ h => h) (by rfl) (by intro w hSw; (try dsimp only at hSw); go_simp; first | done | with_reducible rfl) hS ?_
        simp only [Act.put, List.setIfInBounds_toArray, List.set_cons_zero, List.set_cons_succ]
        refine reg_take 2 (v := ?_) rfl (by kernel_rfl) (by kernel_rfl) (by kernel_rfl) (fun _ _ _ h => h) (by rfl) (by intro w hSw; (try dsimp only at hSw); go_simp; first | done | with_reducible rfl) hS ?_
        simp only [Act.put, List.setIfInBounds_toArray, List.set_cons_zero, List.set_cons_succ]
        refine reg_call 1 rfl (by kernel_rfl) (by rfl) (fun K hK => ?_)
        go_simp
        go_at_call 16
        refine (args_eq (CT1.out _ hS) (by with_reducible rfl)).mono ?_
        rintro e y ⟨rfl, hb⟩
        refine hK.out _ _ (KP _ _ hb hS) (fun hS' => ?_)
        clear hK K hS
        have hS := hS'
        clear hS' hb
        try simp only [Act.put, List.setIfInBounds_toArray, List.set_cons_zero, List.set_cons_succ]
        refine reg_call 3 rfl (by kernel_rfl) (by rfl) (fun K hK => ?_)
        go_simp
        go_at_call 16
        refine (args_eq (CT2.out _ hS) (by with_reducible rfl)).mono ?_
        rintro e y ⟨rfl, hb⟩
        refine hK.out _ _ (KP _ _ hb hS) (fun hS' => ?_)
        clear hK K hS
        have hS := hS'
        clear hS' hb
        try simp only [Act.put, List.setIfInBounds_toArray, List.set_cons_zero, List.set_cons_succ]
        refine reg_take 4 (v := .bool true) rfl (by kernel_rfl) (by kernel_rfl) (by kernel_rfl) (fun _ _ _ h => h) (by rfl) (by intro w hSw; (try dsimp only at hSw); go_simp; first | done | with_reducible rfl) hS ?_
        simp only [Act.put, List.setIfInBounds_toArray, List.set_cons_zero, List.set_cons_succ]
        refine reg_take 5 (v := ?_) rfl (by kernel_rfl) (by kernel_rfl) (by kernel_rfl) (fun _ _ _ h => h) (by rfl) (by intro w hSw; (try dsimp only at hSw); go_simp; first | done | with_reducible rfl) hS ?_
        simp only [Act.put, List.setIfInBounds_toArray, List.set_cons_zero, List.set_cons_succ]
        refine reg_take 6 (v := ?_) rfl (by kernel_rfl) (by kernel_rfl) (by kernel_rfl) (fun _ _ _ h => h) (by rfl) (by intro w hSw; (try dsimp only at hSw); go_simp; first | done | with_reducible rfl) hS ?_
        simp only [Act.put, List.setIfInBounds_toArray, List.set_cons_zero, List.set_cons_succ]
        refine reg_take 7 (v := ?_) rfl (by kernel_rfl) (by kernel_rfl) (by kernel_rfl) (fun _ _ _ h => h) (by rfl) (by intro w hSw; (try dsimp only at hSw); go_simp; first | done | with_reducible rfl) hS ?_
        simp only [Act.put, List.setIfInBounds_toArray, List.set_cons_zero, List.set_cons_succ]
        refine reg_call 8 rfl (by kernel_rfl) (by rfl) (fun K hK => ?_)
        go_simp
        go_at_call 14
        refine (args_eq (CA1.out _ hS) (by with_reducible rfl)).mono ?_
        rintro e y ⟨rfl, hb⟩
        refine hK.out _ _ (KP _ _ hb hS) (fun hS' => ?_)
        clear hK K hS
        have hS := hS'
        clear hS' hb
        try simp only [Act.put, List.setIfInBounds_toArray, List.set_cons_zero, List.set_cons_succ]
        refine reg_take 9 (v := ?_) rfl (by kernel_rfl) (by kernel_rfl) (by kernel_rfl) (fun _ _ _ h => h) (by rfl) (by intro w hSw; (try dsimp only at hSw); go_simp; first | done | with_reducible rfl) hS ?_
        simp only [Act.put, List.setIfInBounds_toArray, List.set_cons_zero, List.set_cons_succ]
        refine reg_take 10 (v := ?_) rfl (by kernel_rfl) (by kernel_rfl) (by kernel_rfl) (fun _ _ _ h => h) (by rfl) (by intro w hSw; (try dsimp only at hSw); go_simp; first | done | with_reducible rfl) hS ?_
        simp only [Act.put, List.setIfInBounds_toArray, List.set_cons_zero, List.set_cons_succ]
        refine reg_take 11 (v := ?_) rfl (by kernel_rfl) (by kernel_rfl) (by kernel_rfl) (fun _ _ _ h => h) (by rfl) (by intro w hSw; (try dsimp only at hSw); go_simp; first | done | with_reducible rfl) hS ?_
        simp only [Act.put, List.setIfInBounds_toArray, List.set_cons_zero, List.set_cons_succ]
        refine reg_take 12 (v := ?_) rfl (by kernel_rfl) (by kernel_rfl) (by kernel_rfl) (fun _ _ _ h => h) (by rfl) (by intro w hSw; (try dsimp only at hSw); go_simp; first | done | with_reducible rfl) hS ?_
        simp only [Act.put, List.setIfInBounds_toArray, List.set_cons_zero, List.set_cons_succ]
        refine reg_take 14 (v := ?_) rfl (by kernel_rfl) (by kernel_rfl) (by kernel_rfl) (fun _ _ _ h => h) (by rfl) (by intro w hSw; (try dsimp only at hSw); go_simp; first | done | with_reducible rfl) hS ?_
        simp only [Act.put, List.setIfInBounds_toArray, List.set_cons_zero, List.set_cons_succ]
        refine reg_take 15 (v := ?_) rfl (by kernel_rfl) (by kernel_rfl) (by kernel_rfl) (fun _ _ _ h => h) (by rfl) (by intro w hSw; (try dsimp only at hSw); go_simp; first | done | with_reducible rfl) hS ?_
        simp only [Act.put, List.setIfInBounds_toArray, List.set_cons_zero, List.set_cons_succ]
        refine reg_call 13 rfl (by kernel_rfl) (by rfl) (fun K hK => ?_)
        go_simp
        go_at_call 14
        refine (args_eq (CA2.out _ hS) (by with_reducible rfl)).mono ?_
        rintro e y ⟨rfl, hb⟩
        refine hK.out _ _ (KP _ _ hb hS) (fun hS' => ?_)
        clear hK K hS
        have hS := hS'
        clear hS' hb
        try simp only [Act.put, List.setIfInBounds_toArray, List.set_cons_zero, List.set_cons_succ]
        refine reg_call 16 rfl (by kernel_rfl) (by rfl) (fun K hK => ?_)
        go_simp
        go_at_call 14
        refine (args_eq (CA3.out _ hS) (by with_reducible rfl)).mono ?_
        rintro e y ⟨rfl, hb⟩
        refine hK.out _ _ (KP _ _ hb hS) (fun hS' => ?_)
        clear hK K hS
        have hS := hS'
        clear hS' hb
        try simp only [Act.put, List.setIfInBounds_toArray, List.set_cons_zero, List.set_cons_succ]
        refine reg_take 17 (v := .bool true) rfl (by kernel_rfl) (by kernel_rfl) (by kernel_rfl) (fun _ _ _ h => h) (by rfl) (by intro w hSw; (try dsimp only at hSw); go_simp; first | done | with_reducible rfl) hS ?_
        simp only [Act.put, List.setIfInBounds_toArray, List.set_cons_zero, List.set_cons_succ]
        refine reg_take 18 (v := ?_) rfl (by kernel_rfl) (by kernel_rfl) (by kernel_rfl) (fun _ _ _ h => h) (by rfl) (by intro w hSw; (try dsimp only at hSw); go_simp; first | done | with_reducible rfl) hS ?_
        simp only [Act.put, List.setIfInBounds_toArray, List.set_cons_zero, List.set_cons_succ]
        refine reg_take 19 (v := ?_) rfl (by kernel_rfl) (by kernel_rfl) (by kernel_rfl) (fun _ _ _ h => h) (by rfl) (by intro w hSw; (try dsimp only at hSw); go_simp; first | done | with_reducible rfl) hS ?_
        simp only [Act.put, List.setIfInBounds_toArray, List.set_cons_zero, List.set_cons_succ]
        refine reg_take 20 (v := ?_) rfl (by kernel_rfl) (by kernel_rfl) (by kernel_rfl) (fun _ _ _ h => h) (by rfl) (by intro w hSw; (try dsimp only at hSw); go_simp; first | done | with_reducible rfl) hS ?_
        simp only [Act.put, List.setIfInBounds_toArray, List.set_cons_zero, List.set_cons_succ]
        refine reg_take 21 (v := ?_) rfl (by kernel_rfl) (by kernel_rfl) (by kernel_rfl) (fun _ _ _ h => h) (by rfl) (by intro w hSw; (try dsimp only at hSw); go_simp; first | done | with_reducible rfl) hS ?_
        simp only [Act.put, List.setIfInBounds_toArray, List.set_cons_zero, List.set_cons_succ]
        refine reg_call 22 rfl (by kernel_rfl) (by rfl) (fun K hK => ?_)
        go_simp
        go_at_call 14
        refine (args_eq (CA2.out _ hS) (by with_reducible rfl)).mono ?_
        rintro e y ⟨rfl, hb⟩
        refine hK.out _ _ (KP _ _ hb hS) (fun hS' => ?_)
        clear hK K hS
        have hS := hS'
        clear hS' hb
        try simp only [Act.put, List.setIfInBounds_toArray, List.set_cons_zero, List.set_cons_succ]
        refine reg_take 23 (v := ?_) rfl (by kernel_rfl) (by kernel_rfl) (by kernel_rfl) (fun _ _ _ h => h) (by rfl) (by intro w hSw; (try dsimp only at hSw); go_simp; first | done | with_reducible rfl) hS ?_
        simp only [Act.put, List.setIfInBounds_toArray, List.set_cons_zero, List.set_cons_succ]
        refine reg_take 24 (v := ?_) rfl (by kernel_rfl) (by kernel_rfl) (by kernel_rfl) (fun _ _ _ h => h) (by rfl) (by intro w hSw; (try dsimp only at hSw); go_simp; first | done | with_reducible rfl) hS ?_
        simp only [Act.put, List.setIfInBounds_toArray, List.set_cons_zero, List.set_cons_succ]
        refine reg_skip 25 rfl (by kernel_rfl) (by kernel_rfl) (by kernel_rfl) (fun _ _ _ h => h) (by rfl) hS ?_
        simp only [Act.put, List.setIfInBounds_toArray, List.set_cons_zero, List.set_cons_succ]
        refine reg_skip 26 rfl (by kernel_rfl) (by kernel_rfl) (by kernel_rfl) (fun _ _ _ h => h) (by rfl) hS ?_
        simp only [Act.put, List.setIfInBounds_toArray, List.set_cons_zero, List.set_cons_succ]
        refine reg_skip 27 rfl (by kernel_rfl) (by kernel_rfl) (by kernel_rfl) (fun _ _ _ h => h) (by rfl) hS ?_
        simp only [Act.put, List.setIfInBounds_toArray, List.set_cons_zero, List.set_cons_succ]
        refine reg_take 28 (v := ?_) rfl (by kernel_rfl) (by kernel_rfl) (by kernel_rfl) (fun _ _ _ h => h) (by rfl) (by intro w hSw; (try dsimp only at hSw); go_simp; first | done | with_reducible rfl) hS ?_
        simp only [Act.put, List.setIfInBounds_toArray, List.set_cons_zero, List.set_cons_succ]
        refine reg_take 29 (v := ?_) rfl (by kernel_rfl) (by kernel_rfl) (by kernel_rfl) (fun _ _ _ h => h) (by rfl) (by intro w hSw; (try dsimp only at hSw); go_simp; first | done | with_reducible rfl) hS ?_
        simp only [Act.put, List.setIfInBounds_toArray, List.set_cons_zero, List.set_cons_succ]
        refine reg_take 30 (v := ?_) rfl (by kernel_rfl) (by kernel_rfl) (by kernel_rfl) (fun _ _ _ h => h) (by rfl) (by intro w hSw; (try dsimp only at hSw); go_simp; first | done | with_reducible rfl) hS ?_
        simp only [Act.put, List.setIfInBounds_toArray, List.set_cons_zero, List.set_cons_succ]
        refine reg_take 31 (v := ?_) rfl (by kernel_rfl) (by kernel_rfl) (by kernel_rfl) (fun _ _ _ h => h) (by rfl) (by intro w hSw; (try dsimp only at hSw); go_simp; first | done | with_reducible rfl) hS ?_
        simp only [Act.put, List.setIfInBounds_toArray, List.set_cons_zero, List.set_cons_succ]
        refine reg_take 34 (v := ?_) rfl (by kernel_rfl) (by kernel_rfl) (by kernel_rfl) (fun _ _ _ h => h) (by rfl) (by intro w hSw; (try dsimp only at hSw); go_simp; first | done | with_reducible rfl) hS ?_
        simp only [Act.put, List.setIfInBounds_toArray, List.set_cons_zero, List.set_cons_succ]
        refine reg_take 35 (v := ?_) rfl (by kernel_rfl) (by kernel_rfl) (by kernel_rfl) (fun _ _ _ h => h) (by rfl) (by intro w hSw; (try dsimp only at hSw); go_simp; first | done | with_reducible rfl) hS ?_
        simp only [Act.put, List.setIfInBounds_toArray, List.set_cons_zero, List.set_cons_succ]
        refine reg_take 36 (v := ?_) rfl (by kernel_rfl) (by kernel_rfl) (by kernel_rfl) (fun _ _ _ h => h) (by rfl) (by intro w hSw; (try dsimp only at hSw); go_simp; first | done | with_reducible rfl) hS ?_
        simp only [Act.put, List.setIfInBounds_toArray, List.set_cons_zero, List.set_cons_succ]
        refine reg_take 37 (v := .int .i64 (2 * (xs.length : Int))) rfl (by kernel_rfl) (by kernel_rfl) (by kernel_rfl) (fun _ _ _ h => h) (by rfl) (by intro w hSw; (try dsimp only at hSw); go_simp; first | done | with_reducible rfl) hS ?_
        simp only [Act.put, List.setIfInBounds_toArray, List.set_cons_zero, List.set_cons_succ]
        refine reg_call 32 rfl (by kernel_rfl) (by rfl) (fun K hK => ?_)
        go_simp
        go_at_call 16
        refine (args_eq (CT2.out _ hS) (by with_reducible rfl)).mono ?_
        rintro e y ⟨rfl, hb⟩
        refine hK.out _ _ (KP _ _ hb hS) (fun hS' => ?_)
        clear hK K hS
        have hS := hS'
        clear hS' hb
        try simp only [Act.put, List.setIfInBounds_toArray, List.set_cons_zero, List.set_cons_succ]
        refine reg_take 33 (v := ?_) rfl (by kernel_rfl) (by kernel_rfl) (by kernel_rfl) (fun _ _ _ h => h) (by rfl) (by intro w hSw; (try dsimp only at hSw); go_simp; first | done | with_reducible rfl) hS ?_
        simp only [Act.put, List.setIfInBounds_toArray, List.set_cons_zero, List.set_cons_succ]
        refine reg_take 38 (v := .bool true) rfl (by kernel_rfl) (by kernel_rfl) (by kernel_rfl) (fun _ _ _ h => h) (by rfl) (by intro w hSw; (try dsimp only at hSw); go_simp; first | done | with_reducible rfl) hS ?_
        simp only [Act.put, List.setIfInBounds_toArray, List.set_cons_zero, List.set_cons_succ]
        refine reg_take 39 (v := ?_) rfl (by kernel_rfl) (by kernel_rfl) (by kernel_rfl) (fun _ _ _ h => h) (by rfl) (by intro w hSw; (try dsimp only at hSw); go_simp; first | done | with_reducible rfl) hS ?_
        simp only [Act.put, List.setIfInBounds_toArray, List.set_cons_zero, List.set_cons_succ]
        refine reg_take 40 (v := ?_) rfl (by kernel_rfl) (by kernel_rfl) (by kernel_rfl) (fun _ _ _ h => h) (by rfl) (by intro w hSw; (try dsimp only at hSw); go_simp; first | done | with_reducible rfl) hS ?_
        simp only [Act.put, List.setIfInBounds_toArray, List.set_cons_zero, List.set_cons_succ]
        refine wpAnyH_done (by kernel_rfl) ?_ _
        have HY := (KG.out _ hS).1
        go_wp2_with fail
        go_ret
        exact ⟨rfl, HY⟩
  · have hl' : 1048576 < len := by omega
    go_enter Tryz.func3, Tryz.ntmps3
    go_wp2_with fail
    refine (Big_yes a len cap w hl hl').mono ?_
    rintro e w' ⟨rfl, rfl⟩
    go_wp2_with fail
    go_ret
    exact ⟨rfl, Below.refl _ _⟩

end Go.Proofs.YtfidnhhlcdbaeaaGreatDoor
