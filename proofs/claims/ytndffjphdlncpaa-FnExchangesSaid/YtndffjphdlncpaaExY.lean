/- Exchanges: the walk of FnExchanges. -/
import Derived.Test.YtndffjphdlncpaaExIf
import Derived.Test.YtndffjphdlncpaaMKp
import Derived.Test.YtndffjphdlncpaaMExf
import Derived.Test.YtndffjphdlncpaaMBld
import Derived.Test.YtndffjphdlncpaaMReg
import Derived.Test.YtndffjphdlncpaaMInt
import Derived.Deep.DeepCutAuto
import Derived.Deep.RegionHeld3

namespace Go.Proofs.Ytndffjphdlncpaa
open Go.ChangeShapes Go.WideShapes Go.ChangeAt Go.RowKit

theorem ExBlockK (lo hi lo2 hi2 : Nat) (n : Int) (v vl : Value) (xs ys : List C3) (zs : List Int) (u : World) (r : Rk lo hi v xs u) (rl : IntO lo2 hi2 u vl zs) (h2 : hi2 ≤ u.heap.size) (hb : BlkOk n xs) (hz : LstOk zs) (e : exL zs xs = ys) :
    Calls Try.prog 15 #[.agg #[.int .i64 n, v], vl] u (FreshBB n ys true u) := by
  have := ImplExchangeBlock_any lo hi lo2 hi2 n v vl xs zs u r.1 r.2 rl h2
  rw [(exA_yes ⟨hb, hz⟩).1, (exA_yes ⟨hb, hz⟩).2, e] at this
  exact this
theorem FirstK (lo hi : Nat) (n : Int) (v : Value) (xs : List C3) (fs : List Int) (u : World) (r : Rk lo hi v xs u) (hb : BlkOk n xs) (e : fuL xs = fs) :
    Calls Try.prog 13 #[.agg #[.int .i64 n, v]] u (FreshI fs u) := by
  have := ImplFirstUse_any lo hi n v xs u r.1 r.2
  rw [fu_yes hb, e] at this
  exact this
theorem IsExK (lo hi : Nat) (v : Value) (zs : List Int) (b : Bool) (u : World) (r : IntO lo hi u v zs) (h2 : hi ≤ u.heap.size) (e : exB zs = b) :
    Calls Try.prog 16 #[v] u fun e w' => e = .returned (.bool b) ∧ Below u.heap.size u w' := by
  have := ImplIsExchange_any lo hi v zs u r h2
  rw [e] at this
  exact this
theorem UndoK (lo hi : Nat) (v : Value) (zs us : List Int) (u : World) (r : IntO lo hi u v zs) (h2 : hi ≤ u.heap.size) (e : undoAns zs = us) :
    Calls Try.prog 25 #[v] u (FreshI us u) := by
  have := ImplUndoList_any lo hi v zs u r h2
  rw [e] at this
  exact this

theorem SpecIsExK (lo hi : Nat) (v : Value) (zs : List Int) (b : Bool) (u : World) (r : IntO lo hi u v zs) (h2 : hi ≤ u.heap.size) (e : exB zs = b) :
    Calls Try.prog 24 #[v] u fun e w' => e = .returned (.bool b) ∧ Below u.heap.size u w' := by
  have := SpecIsExchange_any lo hi v zs u r h2
  rw [e] at this
  exact this
theorem ListOkK (lo hi : Nat) (v : Value) (zs : List Int) (b : Bool) (u : World) (r : IntO lo hi u v zs) (h2 : hi ≤ u.heap.size) (e : lstB zs = b) :
    Calls Try.prog 27 #[v] u fun e w' => e = .returned (.bool b) ∧ Below u.heap.size u w' := by
  have := ImplListOk_any lo hi v zs u r h2
  rw [e] at this
  exact this
theorem ExCellK (lo hi : Nat) (q r : C3) (v : Value) (zs : List Int) (u : World) (rl : IntO lo hi u v zs) (h2 : hi ≤ u.heap.size) (e : exZ zs q = r) :
    Calls Try.prog 22 #[.agg #[.int .i64 q.s, .int .i64 q.a, .int .i64 q.b], v] u fun e w' => e = .returned (.agg #[.int .i64 r.s, .int .i64 r.a, .int .i64 r.b]) ∧ Below u.heap.size u w' := by
  have := ImplExchangeCell_any lo hi q.s q.a q.b v zs u rl h2
  rw [show (⟨q.s, q.a, q.b⟩ : C3) = q from rfl, e] at this
  exact this
theorem SpecExCellK (lo hi : Nat) (q r : C3) (v : Value) (zs : List Int) (u : World) (rl : IntO lo hi u v zs) (h2 : hi ≤ u.heap.size) (e : exZ zs q = r) :
    Calls Try.prog 23 #[.agg #[.int .i64 q.s, .int .i64 q.a, .int .i64 q.b], v] u fun e w' => e = .returned (.agg #[.int .i64 r.s, .int .i64 r.a, .int .i64 r.b]) ∧ Below u.heap.size u w' := by
  have := SpecExchangeCell_any lo hi q.s q.a q.b v zs u rl h2
  rw [show (⟨q.s, q.a, q.b⟩ : C3) = q from rfl, e] at this
  exact this
theorem FirstNoK (lo hi : Nat) (n : Int) (v : Value) (xs : List C3) (u : World) (r : Xk lo hi n v xs u) (hb : ¬ BlkOk n xs) :
    Calls Try.prog 13 #[.agg #[.int .i64 n, v]] u (FreshI [] u) := by
  have := ImplFirstUse_row lo hi n v xs u r.1 r.2
  rw [fu_no hb] at this
  exact this
theorem BlockNoK (lo hi : Nat) (n : Int) (v : Value) (xs : List C3) (u : World) (r : Xk lo hi n v xs u) (hb : ¬ BlkOk n xs) :
    Calls Try.prog 14 #[.agg #[.int .i64 n, v]] u fun e w' => e = .returned (.bool false) ∧ Below u.heap.size u w' := by
  have := SpecBlockOk_row lo hi n v xs u r.1 r.2
  rw [← blk_no hb] at this
  exact this

set_option maxRecDepth 100000 in
set_option maxHeartbeats 20000000 in
theorem ExchangesLaw_walk (a : Option Addr) (len cap : Nat) (w : World) (hs : Src w w.heap.size a len) :
    Calls Try.prog 3 #[.slice a len cap] w fun e w' => e = .returned (.bool true) ∧ Below w.heap.size w w' := by
  have HS := Lib.hid (fun W (h : Below w.heap.size w W) => (hs.but (But.of_below h)).up2 h.size)
  obtain ⟨hm, _⟩ := hs
  have hl : len ≤ 9223372036854775807 := by unfold maxLen at hm; omega
  clear hm
  by_cases hb0 : len ≤ 1048576
  · go_enter Try.func3, Try.ntmps3
    go_wp2_with fail
    refine (Big_no a len cap w hb0).mono ?_
    rintro e w' ⟨rfl, rfl⟩
    go_wp2_with fail
    refine (DrawExchange_any a len cap w (HS.out _ (Below.refl _ _)) hb0).mono ?_
    rintro e w1 ⟨n, v, vl, xs, zs, hx16, hz, rfl, RX, RL, B⟩
    obtain ⟨av, cv, rfl⟩ := RX.form
    obtain ⟨al, cl, rfl⟩ := RL.form
    have zl := near_len hz
    have K0 : Kp w [Ok w.heap.size w1.heap.size (.slice al zs.length cl) zs] w1 := (Kp.nil B).cons fun _ hv => Ok.keep ⟨RL, Nat.le_refl _⟩ hv
    by_cases hok : BlkOk n xs
    · have R0 : CellIn w.heap.size w1.heap.size w1 (.slice av xs.length cv) xs := by
        rcases RX with h | ⟨⟨_, _, hc⟩, _⟩
        · exact h
        · exact absurd hok.2.1 (cut_len hc)
      have K : Kp w (Rk w.heap.size w1.heap.size (.slice av xs.length cv) xs :: _) w1 := K0.cons fun _ hv => Rk.keep ⟨R0, Nat.le_refl _⟩ hv
      have HK := Lib.hid hok
      obtain ⟨hx1, _⟩ := blk_len hok
      obtain ⟨g, hg, hgl, hgh, ⟨e0, e1, e2⟩, _⟩ := R0.at (Below.refl _ _) (i := 0) (by omega)
      subst hg
      have hqo : (xs.getD 0 C3.zero).Ok := blk_at hok (by omega)
      generalize xs.getD 0 C3.zero = q at e0 e1 e2 hqo
      have K := K.cons (P := Three g q) fun _ hv => Three.keep ⟨e0, e1, e2⟩ hv
      have HQO := Lib.hid hqo
      clear RX RL B R0 K0 hz e0 e1 e2 hqo
      obtain ⟨fs, hfs⟩ : ∃ fs, fuL xs = fs := ⟨_, rfl⟩
      have hfo : Exch fs := hfs ▸ fuL_exch hok
      obtain ⟨ps, hps⟩ : ∃ ps, exL fs xs = ps := ⟨_, rfl⟩
      have hpo : BlkOk n ps := hps ▸ exL_ok hfo.1 hok
      have hpf : fuL ps = idL := by rw [← hps, ← hfs]; exact first_id hok
      have HFS := Lib.hid hfs
      have HFO := Lib.hid hfo
      have HPS := Lib.hid hps
      have HPO := Lib.hid hpo
      have HPF := Lib.hid hpf
      clear hok hfs hfo hps hpo hpf
      have K := K.two (.int .i64 n) (.slice (some ⟨g, 0, none⟩) xs.length cv) 26
      obtain ⟨c_P30, c_P31⟩ := (K.get 0 rfl)
      go_wp2_with fail
      clear c_P30 c_P31
      refine (FirstK _ _ n _ xs fs _ (K.get 2 rfl) HK.out HFS.out).mono ?_
      rintro e w2 ⟨v5, rfl, R, hb⟩
      obtain ⟨av5, cv5, rfl⟩ := R.form
      have K := K.ints hb R
      clear hb R
      obtain ⟨c_P30, c_P31⟩ := (K.get 1 rfl)
      go_wp2_with fail
      clear c_P30 c_P31
      refine (SpecBlockOk_yes _ _ n _ xs _ (K.get 3 rfl).1 (K.get 3 rfl).2 HK.out).mono ?_
      rintro e w3 ⟨rfl, hb⟩
      have K := K.keep hb
      clear hb
      obtain ⟨c_P30, c_P31⟩ := (K.get 1 rfl)
      go_wp2_with fail
      clear c_P30 c_P31
      refine (ExBlockK _ _ _ _ n _ _ xs ps fs _ (K.get 3 rfl) (K.get 0 rfl).1.o (K.get 0 rfl).2 HK.out HFO.out.1 HPS.out).mono ?_
      rintro e w4 ⟨v8, rfl, R, hb⟩
      obtain ⟨av8, cv8, rfl⟩ := R.form
      have K := K.row hb R
      clear hb R
      have K := K.two (.int .i64 n) (.slice av8 ps.length cv8) 26
      obtain ⟨c_P80, c_P81⟩ := (K.get 0 rfl)
      go_wp2_with fail
      clear c_P80 c_P81
      refine (FirstK _ _ n _ ps idL _ (K.get 1 rfl) HPO.out HPF.out).mono ?_
      rintro e w5 ⟨v10, rfl, R, hb⟩
      obtain ⟨av10, cv10, rfl⟩ := R.form
      have K := K.ints hb R
      clear hb R
      go_wp2_with fail
      refine (IsExK _ _ _ fs true _ (K.get 3 rfl).1.o (K.get 3 rfl).2 (ex_yes HFO.out).symm).mono ?_
      rintro e w6 ⟨rfl, hb⟩
      have K := K.keep hb
      clear hb
      go_wp2_with fail
      have I6 := lit6 w6 0 1 2 3 4 5 3
      have K := K.keep (bel0 w6 (.cells #[.int .i64 0, .int .i64 1, .int .i64 2, .int .i64 3, .int .i64 4, .int .i64 5] 3))
      refine (SameInts_any _ _ _ _ _ _ idL _ (K.get 0 rfl).1 I6 (K.get 0 rfl).2 (by simp)).mono ?_
      rintro e w7 ⟨rfl, hb⟩
      clear I6
      have K := K.keep hb
      clear hb
      go_wp2_with fail
      refine (At_any a len cap 0 _ _ (HS.out _ K.1) (by omega) (by omega)).mono ?_
      rintro e uu ⟨i0, i0a, i0b, rfl, huu⟩
      subst uu
      have ic : Col (i0 % 6) := by unfold Col; omega
      go_wp2_with fail
      generalize i0 % 6 = i at *
      have IC := Lib.hid ic
      clear ic i0a i0b
      go_wp2_with fail
      refine (At_any a len cap 1 _ _ (HS.out _ K.1) (by omega) (by omega)).mono ?_
      rintro e uu ⟨k0, k0a, k0b, rfl, huu⟩
      subst uu
      have kc : Col (k0 % 6) := by unfold Col; omega
      go_wp2_with fail
      generalize k0 % 6 = k at *
      have KC := Lib.hid kc
      clear kc k0a k0b
      obtain ⟨ss, hss⟩ : ∃ ss, swpL i k = ss := ⟨_, rfl⟩
      have HSA : Hid (swapAns i k = ss) := Lib.hid ((swap_yes ⟨IC.out, KC.out⟩).trans hss)
      have hso : LstOk ss := hss ▸ swp_col IC.out KC.out
      obtain ⟨qs, hqs⟩ : ∃ qs, exL ss xs = qs := ⟨_, rfl⟩
      have hqo : BlkOk n qs := hqs ▸ exL_ok hso HK.out
      have hq2 : exL ss qs = xs := by rw [← hqs, ← hss]; exact swp_twice IC.out KC.out HK.out
      obtain ⟨ar, har⟩ : ∃ ar, arL xs k xs.length = ar := ⟨_, rfl⟩
      have har2 : arL qs i qs.length = ar := by rw [← har, ← hqs, ← hss]; exact swp_area IC.out KC.out HK.out
      have HSO := Lib.hid hso
      have HQS := Lib.hid hqs
      have HQO := Lib.hid hqo
      have HQ2 := Lib.hid hq2
      have HAR := Lib.hid har
      have HAR2 := Lib.hid har2
      clear hss hso hqs hqo hq2 har har2
      have CSW := Lib.hid (fun u : World => ImplSwapList_any i k u)
      rw [HSA.out] at CSW
      refine (CSW.out _).mono ?_
      rintro e w8 ⟨v13, rfl, R, hb⟩
      obtain ⟨av13, cv13, rfl⟩ := R.form
      have K := K.ints hb R
      clear hb R
      obtain ⟨c_P30, c_P31⟩ := (K.get 5 rfl)
      go_wp2_with fail
      clear c_P30 c_P31
      refine (ExBlockK _ _ _ _ n _ _ xs qs ss _ (K.get 7 rfl) (K.get 0 rfl).1.o (K.get 0 rfl).2 HK.out HSO.out HQS.out).mono ?_
      rintro e w9 ⟨v14, rfl, R, hb⟩
      obtain ⟨av14, cv14, rfl⟩ := R.form
      have K := K.row hb R
      clear hb R
      have K := K.two (.int .i64 n) (.slice av14 qs.length cv14) 26
      obtain ⟨c_P140, c_P141⟩ := (K.get 0 rfl)
      go_wp2_with fail
      clear c_P140 c_P141
      refine (ExBlockK _ _ _ _ n _ _ qs xs ss _ (K.get 1 rfl) (K.get 2 rfl).1.o (K.get 2 rfl).2 HQO.out HSO.out HQ2.out).mono ?_
      rintro e w10 ⟨v16, rfl, R, hb⟩
      obtain ⟨av16, cv16, rfl⟩ := R.form
      have K := K.row hb R
      clear hb R
      have K := K.two (.int .i64 n) (.slice av16 xs.length cv16) 26
      go_upto_region 17 with fail
      generalize (w10.alloc (.cells #[.int .i64 n, .slice av16 xs.length cv16] 26)) = w11 at K ⊢
      have KP : ∀ u v, Below u.heap.size u v → (u.cell? ⟨w10.heap.size, 0, none⟩ = some (.int .i64 n) ∧ u.cell? ⟨w10.heap.size, 1, none⟩ = some (.slice av16 xs.length cv16) ∧ u.cell? ⟨w1.heap.size, 0, none⟩ = some (.int .i64 n) ∧ u.cell? ⟨w1.heap.size, 1, none⟩ = some (.slice (some ⟨g, 0, none⟩) xs.length cv) ∧ u.cell? ⟨w9.heap.size, 0, none⟩ = some (.int .i64 n) ∧ u.cell? ⟨w9.heap.size, 1, none⟩ = some (.slice av14 qs.length cv14) ∧ Kp w [Two w10.heap.size (.int .i64 n) (.slice av16 xs.length cv16), Rk (w9.alloc (.cells #[.int .i64 n, .slice av14 qs.length cv14] 26)).heap.size w10.heap.size (.slice av16 xs.length cv16) xs, Two w9.heap.size (.int .i64 n) (.slice av14 qs.length cv14), Rk w8.heap.size w9.heap.size (.slice av14 qs.length cv14) qs, Ik w7.heap.size w8.heap.size (.slice av13 ss.length cv13) ss, Ik (w4.alloc (.cells #[.int .i64 n, .slice av8 ps.length cv8] 26)).heap.size w5.heap.size (.slice av10 idL.length cv10) idL, Two w4.heap.size (.int .i64 n) (.slice av8 ps.length cv8), Rk w3.heap.size w4.heap.size (.slice av8 ps.length cv8) ps, Ik (w1.alloc (.cells #[.int .i64 n, .slice (some ⟨g, 0, none⟩) xs.length cv] 26)).heap.size w2.heap.size (.slice av5 fs.length cv5) fs, Two w1.heap.size (.int .i64 n) (.slice (some ⟨g, 0, none⟩) xs.length cv), Three g q, Rk w.heap.size w1.heap.size (.slice (some ⟨g, 0, none⟩) xs.length cv) xs, Ok w.heap.size w1.heap.size (.slice al zs.length cl) zs] u) → (v.cell? ⟨w10.heap.size, 0, none⟩ = some (.int .i64 n) ∧ v.cell? ⟨w10.heap.size, 1, none⟩ = some (.slice av16 xs.length cv16) ∧ v.cell? ⟨w1.heap.size, 0, none⟩ = some (.int .i64 n) ∧ v.cell? ⟨w1.heap.size, 1, none⟩ = some (.slice (some ⟨g, 0, none⟩) xs.length cv) ∧ v.cell? ⟨w9.heap.size, 0, none⟩ = some (.int .i64 n) ∧ v.cell? ⟨w9.heap.size, 1, none⟩ = some (.slice av14 qs.length cv14) ∧ Kp w [Two w10.heap.size (.int .i64 n) (.slice av16 xs.length cv16), Rk (w9.alloc (.cells #[.int .i64 n, .slice av14 qs.length cv14] 26)).heap.size w10.heap.size (.slice av16 xs.length cv16) xs, Two w9.heap.size (.int .i64 n) (.slice av14 qs.length cv14), Rk w8.heap.size w9.heap.size (.slice av14 qs.length cv14) qs, Ik w7.heap.size w8.heap.size (.slice av13 ss.length cv13) ss, Ik (w4.alloc (.cells #[.int .i64 n, .slice av8 ps.length cv8] 26)).heap.size w5.heap.size (.slice av10 idL.length cv10) idL, Two w4.heap.size (.int .i64 n) (.slice av8 ps.length cv8), Rk w3.heap.size w4.heap.size (.slice av8 ps.length cv8) ps, Ik (w1.alloc (.cells #[.int .i64 n, .slice (some ⟨g, 0, none⟩) xs.length cv] 26)).heap.size w2.heap.size (.slice av5 fs.length cv5) fs, Two w1.heap.size (.int .i64 n) (.slice (some ⟨g, 0, none⟩) xs.length cv), Three g q, Rk w.heap.size w1.heap.size (.slice (some ⟨g, 0, none⟩) xs.length cv) xs, Ok w.heap.size w1.heap.size (.slice al zs.length cl) zs] v) := fun u v hb h => ⟨kept hb h.1, kept hb h.2.1, kept hb h.2.2.1, kept hb h.2.2.2.1, kept hb h.2.2.2.2.1, kept hb h.2.2.2.2.2.1, h.2.2.2.2.2.2.keep hb⟩
      have KG : Hid (∀ u, (u.cell? ⟨w10.heap.size, 0, none⟩ = some (.int .i64 n) ∧ u.cell? ⟨w10.heap.size, 1, none⟩ = some (.slice av16 xs.length cv16) ∧ u.cell? ⟨w1.heap.size, 0, none⟩ = some (.int .i64 n) ∧ u.cell? ⟨w1.heap.size, 1, none⟩ = some (.slice (some ⟨g, 0, none⟩) xs.length cv) ∧ u.cell? ⟨w9.heap.size, 0, none⟩ = some (.int .i64 n) ∧ u.cell? ⟨w9.heap.size, 1, none⟩ = some (.slice av14 qs.length cv14) ∧ Kp w [Two w10.heap.size (.int .i64 n) (.slice av16 xs.length cv16), Rk (w9.alloc (.cells #[.int .i64 n, .slice av14 qs.length cv14] 26)).heap.size w10.heap.size (.slice av16 xs.length cv16) xs, Two w9.heap.size (.int .i64 n) (.slice av14 qs.length cv14), Rk w8.heap.size w9.heap.size (.slice av14 qs.length cv14) qs, Ik w7.heap.size w8.heap.size (.slice av13 ss.length cv13) ss, Ik (w4.alloc (.cells #[.int .i64 n, .slice av8 ps.length cv8] 26)).heap.size w5.heap.size (.slice av10 idL.length cv10) idL, Two w4.heap.size (.int .i64 n) (.slice av8 ps.length cv8), Rk w3.heap.size w4.heap.size (.slice av8 ps.length cv8) ps, Ik (w1.alloc (.cells #[.int .i64 n, .slice (some ⟨g, 0, none⟩) xs.length cv] 26)).heap.size w2.heap.size (.slice av5 fs.length cv5) fs, Two w1.heap.size (.int .i64 n) (.slice (some ⟨g, 0, none⟩) xs.length cv), Three g q, Rk w.heap.size w1.heap.size (.slice (some ⟨g, 0, none⟩) xs.length cv) xs, Ok w.heap.size w1.heap.size (.slice al zs.length cl) zs] u) → Kp w [Two w10.heap.size (.int .i64 n) (.slice av16 xs.length cv16), Rk (w9.alloc (.cells #[.int .i64 n, .slice av14 qs.length cv14] 26)).heap.size w10.heap.size (.slice av16 xs.length cv16) xs, Two w9.heap.size (.int .i64 n) (.slice av14 qs.length cv14), Rk w8.heap.size w9.heap.size (.slice av14 qs.length cv14) qs, Ik w7.heap.size w8.heap.size (.slice av13 ss.length cv13) ss, Ik (w4.alloc (.cells #[.int .i64 n, .slice av8 ps.length cv8] 26)).heap.size w5.heap.size (.slice av10 idL.length cv10) idL, Two w4.heap.size (.int .i64 n) (.slice av8 ps.length cv8), Rk w3.heap.size w4.heap.size (.slice av8 ps.length cv8) ps, Ik (w1.alloc (.cells #[.int .i64 n, .slice (some ⟨g, 0, none⟩) xs.length cv] 26)).heap.size w2.heap.size (.slice av5 fs.length cv5) fs, Two w1.heap.size (.int .i64 n) (.slice (some ⟨g, 0, none⟩) xs.length cv), Three g q, Rk w.heap.size w1.heap.size (.slice (some ⟨g, 0, none⟩) xs.length cv) xs, Ok w.heap.size w1.heap.size (.slice al zs.length cl) zs] u) := Lib.hid (fun u h => h.2.2.2.2.2.2)
      obtain ⟨c_P160, c_P161⟩ := (K.get 0 rfl)
      obtain ⟨c_P30, c_P31⟩ := (K.get 9 rfl)
      obtain ⟨c_P140, c_P141⟩ := (K.get 2 rfl)
      have C0 := Lib.hid (fun (u : World) (h : u.cell? ⟨w10.heap.size, 0, none⟩ = some (.int .i64 n) ∧ u.cell? ⟨w10.heap.size, 1, none⟩ = some (.slice av16 xs.length cv16) ∧ u.cell? ⟨w1.heap.size, 0, none⟩ = some (.int .i64 n) ∧ u.cell? ⟨w1.heap.size, 1, none⟩ = some (.slice (some ⟨g, 0, none⟩) xs.length cv) ∧ u.cell? ⟨w9.heap.size, 0, none⟩ = some (.int .i64 n) ∧ u.cell? ⟨w9.heap.size, 1, none⟩ = some (.slice av14 qs.length cv14) ∧ Kp w [Two w10.heap.size (.int .i64 n) (.slice av16 xs.length cv16), Rk (w9.alloc (.cells #[.int .i64 n, .slice av14 qs.length cv14] 26)).heap.size w10.heap.size (.slice av16 xs.length cv16) xs, Two w9.heap.size (.int .i64 n) (.slice av14 qs.length cv14), Rk w8.heap.size w9.heap.size (.slice av14 qs.length cv14) qs, Ik w7.heap.size w8.heap.size (.slice av13 ss.length cv13) ss, Ik (w4.alloc (.cells #[.int .i64 n, .slice av8 ps.length cv8] 26)).heap.size w5.heap.size (.slice av10 idL.length cv10) idL, Two w4.heap.size (.int .i64 n) (.slice av8 ps.length cv8), Rk w3.heap.size w4.heap.size (.slice av8 ps.length cv8) ps, Ik (w1.alloc (.cells #[.int .i64 n, .slice (some ⟨g, 0, none⟩) xs.length cv] 26)).heap.size w2.heap.size (.slice av5 fs.length cv5) fs, Two w1.heap.size (.int .i64 n) (.slice (some ⟨g, 0, none⟩) xs.length cv), Three g q, Rk w.heap.size w1.heap.size (.slice (some ⟨g, 0, none⟩) xs.length cv) xs, Ok w.heap.size w1.heap.size (.slice al zs.length cl) zs] u) => SameK _ _ _ _ n _ _ xs u (h.2.2.2.2.2.2.get 1 rfl) (h.2.2.2.2.2.2.get 11 rfl))
      have C1 := Lib.hid (fun (u : World) (h : u.cell? ⟨w10.heap.size, 0, none⟩ = some (.int .i64 n) ∧ u.cell? ⟨w10.heap.size, 1, none⟩ = some (.slice av16 xs.length cv16) ∧ u.cell? ⟨w1.heap.size, 0, none⟩ = some (.int .i64 n) ∧ u.cell? ⟨w1.heap.size, 1, none⟩ = some (.slice (some ⟨g, 0, none⟩) xs.length cv) ∧ u.cell? ⟨w9.heap.size, 0, none⟩ = some (.int .i64 n) ∧ u.cell? ⟨w9.heap.size, 1, none⟩ = some (.slice av14 qs.length cv14) ∧ Kp w [Two w10.heap.size (.int .i64 n) (.slice av16 xs.length cv16), Rk (w9.alloc (.cells #[.int .i64 n, .slice av14 qs.length cv14] 26)).heap.size w10.heap.size (.slice av16 xs.length cv16) xs, Two w9.heap.size (.int .i64 n) (.slice av14 qs.length cv14), Rk w8.heap.size w9.heap.size (.slice av14 qs.length cv14) qs, Ik w7.heap.size w8.heap.size (.slice av13 ss.length cv13) ss, Ik (w4.alloc (.cells #[.int .i64 n, .slice av8 ps.length cv8] 26)).heap.size w5.heap.size (.slice av10 idL.length cv10) idL, Two w4.heap.size (.int .i64 n) (.slice av8 ps.length cv8), Rk w3.heap.size w4.heap.size (.slice av8 ps.length cv8) ps, Ik (w1.alloc (.cells #[.int .i64 n, .slice (some ⟨g, 0, none⟩) xs.length cv] 26)).heap.size w2.heap.size (.slice av5 fs.length cv5) fs, Two w1.heap.size (.int .i64 n) (.slice (some ⟨g, 0, none⟩) xs.length cv), Three g q, Rk w.heap.size w1.heap.size (.slice (some ⟨g, 0, none⟩) xs.length cv) xs, Ok w.heap.size w1.heap.size (.slice al zs.length cl) zs] u) => AreaK _ _ n i ar _ qs u (h.2.2.2.2.2.2.get 3 rfl) HQO.out HAR2.out)
      have C2 := Lib.hid (fun (u : World) (h : u.cell? ⟨w10.heap.size, 0, none⟩ = some (.int .i64 n) ∧ u.cell? ⟨w10.heap.size, 1, none⟩ = some (.slice av16 xs.length cv16) ∧ u.cell? ⟨w1.heap.size, 0, none⟩ = some (.int .i64 n) ∧ u.cell? ⟨w1.heap.size, 1, none⟩ = some (.slice (some ⟨g, 0, none⟩) xs.length cv) ∧ u.cell? ⟨w9.heap.size, 0, none⟩ = some (.int .i64 n) ∧ u.cell? ⟨w9.heap.size, 1, none⟩ = some (.slice av14 qs.length cv14) ∧ Kp w [Two w10.heap.size (.int .i64 n) (.slice av16 xs.length cv16), Rk (w9.alloc (.cells #[.int .i64 n, .slice av14 qs.length cv14] 26)).heap.size w10.heap.size (.slice av16 xs.length cv16) xs, Two w9.heap.size (.int .i64 n) (.slice av14 qs.length cv14), Rk w8.heap.size w9.heap.size (.slice av14 qs.length cv14) qs, Ik w7.heap.size w8.heap.size (.slice av13 ss.length cv13) ss, Ik (w4.alloc (.cells #[.int .i64 n, .slice av8 ps.length cv8] 26)).heap.size w5.heap.size (.slice av10 idL.length cv10) idL, Two w4.heap.size (.int .i64 n) (.slice av8 ps.length cv8), Rk w3.heap.size w4.heap.size (.slice av8 ps.length cv8) ps, Ik (w1.alloc (.cells #[.int .i64 n, .slice (some ⟨g, 0, none⟩) xs.length cv] 26)).heap.size w2.heap.size (.slice av5 fs.length cv5) fs, Two w1.heap.size (.int .i64 n) (.slice (some ⟨g, 0, none⟩) xs.length cv), Three g q, Rk w.heap.size w1.heap.size (.slice (some ⟨g, 0, none⟩) xs.length cv) xs, Ok w.heap.size w1.heap.size (.slice al zs.length cl) zs] u) => AreaK _ _ n k ar _ xs u (h.2.2.2.2.2.2.get 11 rfl) HK.out HAR.out)
      have S0 : w11.drew.cell? ⟨w10.heap.size, 0, none⟩ = some (.int .i64 n) ∧ w11.drew.cell? ⟨w10.heap.size, 1, none⟩ = some (.slice av16 xs.length cv16) ∧ w11.drew.cell? ⟨w1.heap.size, 0, none⟩ = some (.int .i64 n) ∧ w11.drew.cell? ⟨w1.heap.size, 1, none⟩ = some (.slice (some ⟨g, 0, none⟩) xs.length cv) ∧ w11.drew.cell? ⟨w9.heap.size, 0, none⟩ = some (.int .i64 n) ∧ w11.drew.cell? ⟨w9.heap.size, 1, none⟩ = some (.slice av14 qs.length cv14) ∧ Kp w [Two w10.heap.size (.int .i64 n) (.slice av16 xs.length cv16), Rk (w9.alloc (.cells #[.int .i64 n, .slice av14 qs.length cv14] 26)).heap.size w10.heap.size (.slice av16 xs.length cv16) xs, Two w9.heap.size (.int .i64 n) (.slice av14 qs.length cv14), Rk w8.heap.size w9.heap.size (.slice av14 qs.length cv14) qs, Ik w7.heap.size w8.heap.size (.slice av13 ss.length cv13) ss, Ik (w4.alloc (.cells #[.int .i64 n, .slice av8 ps.length cv8] 26)).heap.size w5.heap.size (.slice av10 idL.length cv10) idL, Two w4.heap.size (.int .i64 n) (.slice av8 ps.length cv8), Rk w3.heap.size w4.heap.size (.slice av8 ps.length cv8) ps, Ik (w1.alloc (.cells #[.int .i64 n, .slice (some ⟨g, 0, none⟩) xs.length cv] 26)).heap.size w2.heap.size (.slice av5 fs.length cv5) fs, Two w1.heap.size (.int .i64 n) (.slice (some ⟨g, 0, none⟩) xs.length cv), Three g q, Rk w.heap.size w1.heap.size (.slice (some ⟨g, 0, none⟩) xs.length cv) xs, Ok w.heap.size w1.heap.size (.slice al zs.length cl) zs] w11.drew := ⟨c_P160, c_P161, c_P30, c_P31, c_P140, c_P141, K.drew⟩
      clear K c_P160 c_P161 c_P30 c_P31 c_P140 c_P141
      go_region_held3 (fun w' => w'.cell? ⟨w10.heap.size, 0, none⟩ = some (.int .i64 n) ∧ w'.cell? ⟨w10.heap.size, 1, none⟩ = some (.slice av16 xs.length cv16) ∧ w'.cell? ⟨w1.heap.size, 0, none⟩ = some (.int .i64 n) ∧ w'.cell? ⟨w1.heap.size, 1, none⟩ = some (.slice (some ⟨g, 0, none⟩) xs.length cv) ∧ w'.cell? ⟨w9.heap.size, 0, none⟩ = some (.int .i64 n) ∧ w'.cell? ⟨w9.heap.size, 1, none⟩ = some (.slice av14 qs.length cv14) ∧ Kp w [Two w10.heap.size (.int .i64 n) (.slice av16 xs.length cv16), Rk (w9.alloc (.cells #[.int .i64 n, .slice av14 qs.length cv14] 26)).heap.size w10.heap.size (.slice av16 xs.length cv16) xs, Two w9.heap.size (.int .i64 n) (.slice av14 qs.length cv14), Rk w8.heap.size w9.heap.size (.slice av14 qs.length cv14) qs, Ik w7.heap.size w8.heap.size (.slice av13 ss.length cv13) ss, Ik (w4.alloc (.cells #[.int .i64 n, .slice av8 ps.length cv8] 26)).heap.size w5.heap.size (.slice av10 idL.length cv10) idL, Two w4.heap.size (.int .i64 n) (.slice av8 ps.length cv8), Rk w3.heap.size w4.heap.size (.slice av8 ps.length cv8) ps, Ik (w1.alloc (.cells #[.int .i64 n, .slice (some ⟨g, 0, none⟩) xs.length cv] 26)).heap.size w2.heap.size (.slice av5 fs.length cv5) fs, Two w1.heap.size (.int .i64 n) (.slice (some ⟨g, 0, none⟩) xs.length cv), Three g q, Rk w.heap.size w1.heap.size (.slice (some ⟨g, 0, none⟩) xs.length cv) xs, Ok w.heap.size w1.heap.size (.slice al zs.length cl) zs] w') (first | assumption | (refine KP _ _ (by assumption) ?_; assumption))
        ((first
          | (go_at_call 20; refine (args_eq (C0.out _ (by assumption)) (by with_reducible rfl)).mono ?_; rintro e w12 ⟨rfl, hb⟩)
          | (go_at_call 21; refine (args_eq (C1.out _ (by assumption)) (by with_reducible rfl)).mono ?_; rintro e w13 ⟨rfl, hb⟩)
          | (go_at_call 21; refine (args_eq (C2.out _ (by assumption)) (by with_reducible rfl)).mono ?_; rintro e w14 ⟨rfl, hb⟩)))
      have K := KG.out w14 (by assumption)
      clear KP KG S0 C0 C1 C2
      obtain ⟨r, hr⟩ : ∃ r, exZ ss q = r := ⟨_, rfl⟩
      have HR := Lib.hid hr
      clear hr
      have ix0 : (0 : Int) < (xs.length : Int) := by omega
      have ix1 : 0 < xs.length := by omega
      go_upto_region 19 with fail
      have KP : ∀ u v, Below u.heap.size u v → (u.cell? ⟨w1.heap.size, 0, none⟩ = some (.int .i64 n) ∧ u.cell? ⟨w1.heap.size, 1, none⟩ = some (.slice (some ⟨g, 0, none⟩) xs.length cv) ∧ u.cell? ⟨g, 0, none⟩ = some (.int .i64 q.s) ∧ u.cell? ⟨g, 1, none⟩ = some (.int .i64 q.a) ∧ u.cell? ⟨g, 2, none⟩ = some (.int .i64 q.b) ∧ Kp w [Two w10.heap.size (.int .i64 n) (.slice av16 xs.length cv16), Rk (w9.alloc (.cells #[.int .i64 n, .slice av14 qs.length cv14] 26)).heap.size w10.heap.size (.slice av16 xs.length cv16) xs, Two w9.heap.size (.int .i64 n) (.slice av14 qs.length cv14), Rk w8.heap.size w9.heap.size (.slice av14 qs.length cv14) qs, Ik w7.heap.size w8.heap.size (.slice av13 ss.length cv13) ss, Ik (w4.alloc (.cells #[.int .i64 n, .slice av8 ps.length cv8] 26)).heap.size w5.heap.size (.slice av10 idL.length cv10) idL, Two w4.heap.size (.int .i64 n) (.slice av8 ps.length cv8), Rk w3.heap.size w4.heap.size (.slice av8 ps.length cv8) ps, Ik (w1.alloc (.cells #[.int .i64 n, .slice (some ⟨g, 0, none⟩) xs.length cv] 26)).heap.size w2.heap.size (.slice av5 fs.length cv5) fs, Two w1.heap.size (.int .i64 n) (.slice (some ⟨g, 0, none⟩) xs.length cv), Three g q, Rk w.heap.size w1.heap.size (.slice (some ⟨g, 0, none⟩) xs.length cv) xs, Ok w.heap.size w1.heap.size (.slice al zs.length cl) zs] u) → (v.cell? ⟨w1.heap.size, 0, none⟩ = some (.int .i64 n) ∧ v.cell? ⟨w1.heap.size, 1, none⟩ = some (.slice (some ⟨g, 0, none⟩) xs.length cv) ∧ v.cell? ⟨g, 0, none⟩ = some (.int .i64 q.s) ∧ v.cell? ⟨g, 1, none⟩ = some (.int .i64 q.a) ∧ v.cell? ⟨g, 2, none⟩ = some (.int .i64 q.b) ∧ Kp w [Two w10.heap.size (.int .i64 n) (.slice av16 xs.length cv16), Rk (w9.alloc (.cells #[.int .i64 n, .slice av14 qs.length cv14] 26)).heap.size w10.heap.size (.slice av16 xs.length cv16) xs, Two w9.heap.size (.int .i64 n) (.slice av14 qs.length cv14), Rk w8.heap.size w9.heap.size (.slice av14 qs.length cv14) qs, Ik w7.heap.size w8.heap.size (.slice av13 ss.length cv13) ss, Ik (w4.alloc (.cells #[.int .i64 n, .slice av8 ps.length cv8] 26)).heap.size w5.heap.size (.slice av10 idL.length cv10) idL, Two w4.heap.size (.int .i64 n) (.slice av8 ps.length cv8), Rk w3.heap.size w4.heap.size (.slice av8 ps.length cv8) ps, Ik (w1.alloc (.cells #[.int .i64 n, .slice (some ⟨g, 0, none⟩) xs.length cv] 26)).heap.size w2.heap.size (.slice av5 fs.length cv5) fs, Two w1.heap.size (.int .i64 n) (.slice (some ⟨g, 0, none⟩) xs.length cv), Three g q, Rk w.heap.size w1.heap.size (.slice (some ⟨g, 0, none⟩) xs.length cv) xs, Ok w.heap.size w1.heap.size (.slice al zs.length cl) zs] v) := fun u v hb h => ⟨kept hb h.1, kept hb h.2.1, kept hb h.2.2.1, kept hb h.2.2.2.1, kept hb h.2.2.2.2.1, h.2.2.2.2.2.keep hb⟩
      have KG : Hid (∀ u, (u.cell? ⟨w1.heap.size, 0, none⟩ = some (.int .i64 n) ∧ u.cell? ⟨w1.heap.size, 1, none⟩ = some (.slice (some ⟨g, 0, none⟩) xs.length cv) ∧ u.cell? ⟨g, 0, none⟩ = some (.int .i64 q.s) ∧ u.cell? ⟨g, 1, none⟩ = some (.int .i64 q.a) ∧ u.cell? ⟨g, 2, none⟩ = some (.int .i64 q.b) ∧ Kp w [Two w10.heap.size (.int .i64 n) (.slice av16 xs.length cv16), Rk (w9.alloc (.cells #[.int .i64 n, .slice av14 qs.length cv14] 26)).heap.size w10.heap.size (.slice av16 xs.length cv16) xs, Two w9.heap.size (.int .i64 n) (.slice av14 qs.length cv14), Rk w8.heap.size w9.heap.size (.slice av14 qs.length cv14) qs, Ik w7.heap.size w8.heap.size (.slice av13 ss.length cv13) ss, Ik (w4.alloc (.cells #[.int .i64 n, .slice av8 ps.length cv8] 26)).heap.size w5.heap.size (.slice av10 idL.length cv10) idL, Two w4.heap.size (.int .i64 n) (.slice av8 ps.length cv8), Rk w3.heap.size w4.heap.size (.slice av8 ps.length cv8) ps, Ik (w1.alloc (.cells #[.int .i64 n, .slice (some ⟨g, 0, none⟩) xs.length cv] 26)).heap.size w2.heap.size (.slice av5 fs.length cv5) fs, Two w1.heap.size (.int .i64 n) (.slice (some ⟨g, 0, none⟩) xs.length cv), Three g q, Rk w.heap.size w1.heap.size (.slice (some ⟨g, 0, none⟩) xs.length cv) xs, Ok w.heap.size w1.heap.size (.slice al zs.length cl) zs] u) → Kp w [Two w10.heap.size (.int .i64 n) (.slice av16 xs.length cv16), Rk (w9.alloc (.cells #[.int .i64 n, .slice av14 qs.length cv14] 26)).heap.size w10.heap.size (.slice av16 xs.length cv16) xs, Two w9.heap.size (.int .i64 n) (.slice av14 qs.length cv14), Rk w8.heap.size w9.heap.size (.slice av14 qs.length cv14) qs, Ik w7.heap.size w8.heap.size (.slice av13 ss.length cv13) ss, Ik (w4.alloc (.cells #[.int .i64 n, .slice av8 ps.length cv8] 26)).heap.size w5.heap.size (.slice av10 idL.length cv10) idL, Two w4.heap.size (.int .i64 n) (.slice av8 ps.length cv8), Rk w3.heap.size w4.heap.size (.slice av8 ps.length cv8) ps, Ik (w1.alloc (.cells #[.int .i64 n, .slice (some ⟨g, 0, none⟩) xs.length cv] 26)).heap.size w2.heap.size (.slice av5 fs.length cv5) fs, Two w1.heap.size (.int .i64 n) (.slice (some ⟨g, 0, none⟩) xs.length cv), Three g q, Rk w.heap.size w1.heap.size (.slice (some ⟨g, 0, none⟩) xs.length cv) xs, Ok w.heap.size w1.heap.size (.slice al zs.length cl) zs] u) := Lib.hid (fun u h => h.2.2.2.2.2)
      obtain ⟨c_P30, c_P31⟩ := (K.get 9 rfl)
      obtain ⟨c_Q0, c_Q1, c_Q2⟩ := (K.get 10 rfl)
      have C0 := Lib.hid (fun (u : World) (h : u.cell? ⟨w1.heap.size, 0, none⟩ = some (.int .i64 n) ∧ u.cell? ⟨w1.heap.size, 1, none⟩ = some (.slice (some ⟨g, 0, none⟩) xs.length cv) ∧ u.cell? ⟨g, 0, none⟩ = some (.int .i64 q.s) ∧ u.cell? ⟨g, 1, none⟩ = some (.int .i64 q.a) ∧ u.cell? ⟨g, 2, none⟩ = some (.int .i64 q.b) ∧ Kp w [Two w10.heap.size (.int .i64 n) (.slice av16 xs.length cv16), Rk (w9.alloc (.cells #[.int .i64 n, .slice av14 qs.length cv14] 26)).heap.size w10.heap.size (.slice av16 xs.length cv16) xs, Two w9.heap.size (.int .i64 n) (.slice av14 qs.length cv14), Rk w8.heap.size w9.heap.size (.slice av14 qs.length cv14) qs, Ik w7.heap.size w8.heap.size (.slice av13 ss.length cv13) ss, Ik (w4.alloc (.cells #[.int .i64 n, .slice av8 ps.length cv8] 26)).heap.size w5.heap.size (.slice av10 idL.length cv10) idL, Two w4.heap.size (.int .i64 n) (.slice av8 ps.length cv8), Rk w3.heap.size w4.heap.size (.slice av8 ps.length cv8) ps, Ik (w1.alloc (.cells #[.int .i64 n, .slice (some ⟨g, 0, none⟩) xs.length cv] 26)).heap.size w2.heap.size (.slice av5 fs.length cv5) fs, Two w1.heap.size (.int .i64 n) (.slice (some ⟨g, 0, none⟩) xs.length cv), Three g q, Rk w.heap.size w1.heap.size (.slice (some ⟨g, 0, none⟩) xs.length cv) xs, Ok w.heap.size w1.heap.size (.slice al zs.length cl) zs] u) => ExCellK _ _ q r _ ss u (h.2.2.2.2.2.get 4 rfl).1.o (h.2.2.2.2.2.get 4 rfl).2 HR.out)
      have C1 := Lib.hid (fun (u : World) (h : u.cell? ⟨w1.heap.size, 0, none⟩ = some (.int .i64 n) ∧ u.cell? ⟨w1.heap.size, 1, none⟩ = some (.slice (some ⟨g, 0, none⟩) xs.length cv) ∧ u.cell? ⟨g, 0, none⟩ = some (.int .i64 q.s) ∧ u.cell? ⟨g, 1, none⟩ = some (.int .i64 q.a) ∧ u.cell? ⟨g, 2, none⟩ = some (.int .i64 q.b) ∧ Kp w [Two w10.heap.size (.int .i64 n) (.slice av16 xs.length cv16), Rk (w9.alloc (.cells #[.int .i64 n, .slice av14 qs.length cv14] 26)).heap.size w10.heap.size (.slice av16 xs.length cv16) xs, Two w9.heap.size (.int .i64 n) (.slice av14 qs.length cv14), Rk w8.heap.size w9.heap.size (.slice av14 qs.length cv14) qs, Ik w7.heap.size w8.heap.size (.slice av13 ss.length cv13) ss, Ik (w4.alloc (.cells #[.int .i64 n, .slice av8 ps.length cv8] 26)).heap.size w5.heap.size (.slice av10 idL.length cv10) idL, Two w4.heap.size (.int .i64 n) (.slice av8 ps.length cv8), Rk w3.heap.size w4.heap.size (.slice av8 ps.length cv8) ps, Ik (w1.alloc (.cells #[.int .i64 n, .slice (some ⟨g, 0, none⟩) xs.length cv] 26)).heap.size w2.heap.size (.slice av5 fs.length cv5) fs, Two w1.heap.size (.int .i64 n) (.slice (some ⟨g, 0, none⟩) xs.length cv), Three g q, Rk w.heap.size w1.heap.size (.slice (some ⟨g, 0, none⟩) xs.length cv) xs, Ok w.heap.size w1.heap.size (.slice al zs.length cl) zs] u) => SpecExCellK _ _ q r _ ss u (h.2.2.2.2.2.get 4 rfl).1.o (h.2.2.2.2.2.get 4 rfl).2 HR.out)
      have S0 : w14.drew.cell? ⟨w1.heap.size, 0, none⟩ = some (.int .i64 n) ∧ w14.drew.cell? ⟨w1.heap.size, 1, none⟩ = some (.slice (some ⟨g, 0, none⟩) xs.length cv) ∧ w14.drew.cell? ⟨g, 0, none⟩ = some (.int .i64 q.s) ∧ w14.drew.cell? ⟨g, 1, none⟩ = some (.int .i64 q.a) ∧ w14.drew.cell? ⟨g, 2, none⟩ = some (.int .i64 q.b) ∧ Kp w [Two w10.heap.size (.int .i64 n) (.slice av16 xs.length cv16), Rk (w9.alloc (.cells #[.int .i64 n, .slice av14 qs.length cv14] 26)).heap.size w10.heap.size (.slice av16 xs.length cv16) xs, Two w9.heap.size (.int .i64 n) (.slice av14 qs.length cv14), Rk w8.heap.size w9.heap.size (.slice av14 qs.length cv14) qs, Ik w7.heap.size w8.heap.size (.slice av13 ss.length cv13) ss, Ik (w4.alloc (.cells #[.int .i64 n, .slice av8 ps.length cv8] 26)).heap.size w5.heap.size (.slice av10 idL.length cv10) idL, Two w4.heap.size (.int .i64 n) (.slice av8 ps.length cv8), Rk w3.heap.size w4.heap.size (.slice av8 ps.length cv8) ps, Ik (w1.alloc (.cells #[.int .i64 n, .slice (some ⟨g, 0, none⟩) xs.length cv] 26)).heap.size w2.heap.size (.slice av5 fs.length cv5) fs, Two w1.heap.size (.int .i64 n) (.slice (some ⟨g, 0, none⟩) xs.length cv), Three g q, Rk w.heap.size w1.heap.size (.slice (some ⟨g, 0, none⟩) xs.length cv) xs, Ok w.heap.size w1.heap.size (.slice al zs.length cl) zs] w14.drew := ⟨c_P30, c_P31, c_Q0, c_Q1, c_Q2, K.drew⟩
      clear K c_P30 c_P31 c_Q0 c_Q1 c_Q2
      go_region_held3 (fun w' => w'.cell? ⟨w1.heap.size, 0, none⟩ = some (.int .i64 n) ∧ w'.cell? ⟨w1.heap.size, 1, none⟩ = some (.slice (some ⟨g, 0, none⟩) xs.length cv) ∧ w'.cell? ⟨g, 0, none⟩ = some (.int .i64 q.s) ∧ w'.cell? ⟨g, 1, none⟩ = some (.int .i64 q.a) ∧ w'.cell? ⟨g, 2, none⟩ = some (.int .i64 q.b) ∧ Kp w [Two w10.heap.size (.int .i64 n) (.slice av16 xs.length cv16), Rk (w9.alloc (.cells #[.int .i64 n, .slice av14 qs.length cv14] 26)).heap.size w10.heap.size (.slice av16 xs.length cv16) xs, Two w9.heap.size (.int .i64 n) (.slice av14 qs.length cv14), Rk w8.heap.size w9.heap.size (.slice av14 qs.length cv14) qs, Ik w7.heap.size w8.heap.size (.slice av13 ss.length cv13) ss, Ik (w4.alloc (.cells #[.int .i64 n, .slice av8 ps.length cv8] 26)).heap.size w5.heap.size (.slice av10 idL.length cv10) idL, Two w4.heap.size (.int .i64 n) (.slice av8 ps.length cv8), Rk w3.heap.size w4.heap.size (.slice av8 ps.length cv8) ps, Ik (w1.alloc (.cells #[.int .i64 n, .slice (some ⟨g, 0, none⟩) xs.length cv] 26)).heap.size w2.heap.size (.slice av5 fs.length cv5) fs, Two w1.heap.size (.int .i64 n) (.slice (some ⟨g, 0, none⟩) xs.length cv), Three g q, Rk w.heap.size w1.heap.size (.slice (some ⟨g, 0, none⟩) xs.length cv) xs, Ok w.heap.size w1.heap.size (.slice al zs.length cl) zs] w') (first | assumption | (refine KP _ _ (by assumption) ?_; assumption))
        ((first
          | (go_at_call 22; refine (args_eq (C0.out _ (by assumption)) (by with_reducible rfl)).mono ?_; rintro e w15 ⟨rfl, hb⟩)
          | (go_at_call 23; refine (args_eq (C1.out _ (by assumption)) (by with_reducible rfl)).mono ?_; rintro e w16 ⟨rfl, hb⟩)))
      have K := KG.out w16 (by assumption)
      clear KP KG S0 C0 C1
      by_cases hex : Exch zs
      · have HEX := Lib.hid hex
        obtain ⟨us, hus⟩ : ∃ us, undL zs = us := ⟨_, rfl⟩
        have huo : LstOk us := hus ▸ und_ok hex
        have hun : Hid (undoAns zs = us) := Lib.hid ((undo_yes hex).trans hus)
        obtain ⟨es, hes⟩ : ∃ es, exL zs xs = es := ⟨_, rfl⟩
        have heo : BlkOk n es := hes ▸ exL_ok hex.1 HK.out
        have heu : exL us es = xs := by rw [← hus, ← hes]; exact und_undoes hex HK.out
        obtain ⟨hs, hhs⟩ : ∃ hs, fuL es = hs := ⟨_, rfl⟩
        have hho : LstOk hs := hhs ▸ (fuL_exch heo).1
        have hhp : exL hs es = ps := by rw [← hhs, ← hes, ← HPS.out, ← HFS.out]; exact first_same hex HK.out
        have HUO := Lib.hid huo
        have HES := Lib.hid hes
        have HEO := Lib.hid heo
        have HEU := Lib.hid heu
        have HHS := Lib.hid hhs
        have HHO := Lib.hid hho
        have HHP := Lib.hid hhp
        clear hex hus huo hes heo heu hhs hho hhp
        go_wp2_with fail
        refine (SpecIsExK _ _ _ zs true _ (K.get 12 rfl).1 (K.get 12 rfl).2 (ex_yes HEX.out).symm).mono ?_
        rintro e w17 ⟨rfl, hb⟩
        have K := K.keep hb
        clear hb
        go_wp2_with fail
        refine (UndoK _ _ _ zs us _ (K.get 12 rfl).1 (K.get 12 rfl).2 hun.out).mono ?_
        rintro e w18 ⟨vu, rfl, R, hb⟩
        obtain ⟨avu, cvu, rfl⟩ := R.form
        have K := K.ints hb R
        clear hb R
        obtain ⟨c_P30, c_P31⟩ := (K.get 10 rfl)
        go_wp2_with fail
        clear c_P30 c_P31
        refine (ExBlockK _ _ _ _ n _ _ xs es zs _ (K.get 12 rfl) (K.get 13 rfl).1 (K.get 13 rfl).2 HK.out HEX.out.1 HES.out).mono ?_
        rintro e w19 ⟨vx, rfl, R, hb⟩
        obtain ⟨avx, cvx, rfl⟩ := R.form
        have K := K.row hb R
        clear hb R
        have K := K.two (.int .i64 n) (.slice avx es.length cvx) 26
        obtain ⟨c_PX0, c_PX1⟩ := (K.get 0 rfl)
        go_wp2_with fail
        clear c_PX0 c_PX1
        refine (ExBlockK _ _ _ _ n _ _ es xs us _ (K.get 1 rfl) (K.get 2 rfl).1.o (K.get 2 rfl).2 HEO.out HUO.out HEU.out).mono ?_
        rintro e w20 ⟨vy, rfl, R, hb⟩
        obtain ⟨avy, cvy, rfl⟩ := R.form
        have K := K.row hb R
        clear hb R
        have K := K.two (.int .i64 n) (.slice avy xs.length cvy) 26
        go_upto_region 25 with fail
        generalize (w20.alloc (.cells #[.int .i64 n, .slice avy xs.length cvy] 26)) = w21 at K ⊢
        obtain ⟨x0, x1⟩ := (K.get 2 rfl)
        have pX : w19.heap.size < w21.heap.size := lt_of_cell x0
        have D0 : Below w21.heap.size w21 w21.drew := ⟨rfl, rfl, rfl, Nat.le_refl _, fun _ _ => rfl⟩
        have KP : ∀ u v, Below u.heap.size u v → (u.cell? ⟨w19.heap.size, 0, none⟩ = some (.int .i64 n) ∧ u.cell? ⟨w19.heap.size, 1, none⟩ = some (.slice avx es.length cvx) ∧ Below w21.heap.size w21 u) → (v.cell? ⟨w19.heap.size, 0, none⟩ = some (.int .i64 n) ∧ v.cell? ⟨w19.heap.size, 1, none⟩ = some (.slice avx es.length cvx) ∧ Below w21.heap.size w21 v) := fun u v hb h => ⟨kept hb h.1, kept hb h.2.1, bel_c h.2.2 (Nat.le_refl _) hb⟩
        have KS : ∀ (u : World) (p : Nat) (v0 v1 : Value), w21.heap.size ≤ p → (u.cell? ⟨w19.heap.size, 0, none⟩ = some (.int .i64 n) ∧ u.cell? ⟨w19.heap.size, 1, none⟩ = some (.slice avx es.length cvx) ∧ Below w21.heap.size w21 u) → (((u.setCell ⟨p, 0, none⟩ v0).setCell ⟨p, 1, none⟩ v1).cell? ⟨w19.heap.size, 0, none⟩ = some (.int .i64 n) ∧ ((u.setCell ⟨p, 0, none⟩ v0).setCell ⟨p, 1, none⟩ v1).cell? ⟨w19.heap.size, 1, none⟩ = some (.slice avx es.length cvx) ∧ Below w21.heap.size w21 ((u.setCell ⟨p, 0, none⟩ v0).setCell ⟨p, 1, none⟩ v1)) := by
          intro u p v0 v1 hp h
          have h1 : p ≠ w19.heap.size := by omega
          have f : ∀ (q o : Nat), p ≠ q → ((u.setCell ⟨p, 0, none⟩ v0).setCell ⟨p, 1, none⟩ v1).cell? ⟨q, o, none⟩ = u.cell? ⟨q, o, none⟩ := fun q o hq => by
            rw [World.cell?_setCell_other _ _ _ _ (by simp), World.cell?_setCell_other _ _ _ _ (by simp)]
          exact ⟨(f _ _ h1).trans h.1, (f _ _ h1).trans h.2.1, (h.2.2.setCell (p := ⟨p, 0, none⟩) hp _).setCell (p := ⟨p, 1, none⟩) hp _⟩
        have HSZ : Hid (∀ u, (u.cell? ⟨w19.heap.size, 0, none⟩ = some (.int .i64 n) ∧ u.cell? ⟨w19.heap.size, 1, none⟩ = some (.slice avx es.length cvx) ∧ Below w21.heap.size w21 u) → w21.heap.size ≤ u.heap.size) := Lib.hid (fun u h => h.2.2.size)
        have HK0 := Lib.hid K
        have CF := Lib.hid (fun (u : World) (h : u.cell? ⟨w19.heap.size, 0, none⟩ = some (.int .i64 n) ∧ u.cell? ⟨w19.heap.size, 1, none⟩ = some (.slice avx es.length cvx) ∧ Below w21.heap.size w21 u) => SpecFirstK _ _ n _ es hs u ((HK0.out.keep h.2.2).get 3 rfl) HEO.out HHS.out)
        have CE := Lib.hid (fun (u : World) (h : u.cell? ⟨w19.heap.size, 0, none⟩ = some (.int .i64 n) ∧ u.cell? ⟨w19.heap.size, 1, none⟩ = some (.slice avx es.length cvx) ∧ Below w21.heap.size w21 u) (lo hi : Nat) (vl : Value) (rl : IntO lo hi u vl hs) (hh : hi ≤ u.heap.size) => ExBlockK _ _ lo hi n _ vl es ps hs u ((HK0.out.keep h.2.2).get 3 rfl) rl hh HEO.out HHO.out HHP.out)
        have S0 : w21.drew.cell? ⟨w19.heap.size, 0, none⟩ = some (.int .i64 n) ∧ w21.drew.cell? ⟨w19.heap.size, 1, none⟩ = some (.slice avx es.length cvx) ∧ Below w21.heap.size w21 w21.drew := ⟨x0, x1, D0⟩
        clear x0 x1 K
        go_cut [23, 24] (fun q t wx => WR n true ps w21 q t wx)
        case first =>
          go_region_held3 (fun w' => w'.cell? ⟨w19.heap.size, 0, none⟩ = some (.int .i64 n) ∧ w'.cell? ⟨w19.heap.size, 1, none⟩ = some (.slice avx es.length cvx) ∧ Below w21.heap.size w21 w') (first | assumption | exact KP _ _ (bel0 _ _) (by assumption) | exact KS _ _ _ _ (by first | omega | (simp; omega)) (by assumption) | (refine KP _ _ (by assumption) ?_; assumption))
            ((first
              | (go_at_call 26; refine (args_eq (CF.out w21.drew S0) (by with_reducible rfl)).mono ?_; rintro e yf ⟨vf, rfl, RF, hbf⟩; obtain ⟨af, cf, rfl⟩ := RF.form; have HRF := Lib.hid (fun v (hv : Below yf.heap.size yf v) => RF.below (hv.mono (Nat.le_refl _))); clear RF; have S4 := KP _ _ hbf S0; have zf := HSZ.out _ S4; clear hbf)
              | (go_at_call 26; refine (args_eq (CF.out (w21.drew.alloc (.cells #[.int .i64 0, .slice none 0 0] 26)) (KP _ _ (bel0 _ _) S0)) (by with_reducible rfl)).mono ?_; rintro e yf ⟨vf, rfl, RF, hbf⟩; obtain ⟨af, cf, rfl⟩ := RF.form; have HRF := Lib.hid (fun v (hv : Below yf.heap.size yf v) => RF.below (hv.mono (Nat.le_refl _))); clear RF; have bz3 := Lib.hid (show BoxB w21.heap.size (.int .i64 0) (.slice none 0 0) yf from (BoxB.new w21.drew (.int .i64 0) (.slice none 0 0) 26).below hbf (by simp)); have S4 := KP _ _ hbf (KP _ _ (bel0 _ _) S0); have zf := HSZ.out _ S4; clear hbf)
              | (go_at_call 15; refine (args_eq (CE.out (yf.alloc (.cells #[.int .i64 0, .slice none 0 0] 26)) (KP _ _ (bel0 _ _) S4) _ _ _ (HRF.out _ (bel0 _ _)).o (bel0 _ _).size) (by with_reducible rfl)).mono ?_; rintro e ye ⟨ve, rfl, RE, hbe⟩; obtain ⟨ae, ce, rfl⟩ := RE.form; have RE := Lib.hid RE; have bz3 := Lib.hid ((BoxB.new yf (.int .i64 0) (.slice none 0 0) 26).below hbe (bel0_lt _ _)); have S5 := KP _ _ hbe (KP _ _ (bel0 _ _) S4); have ze := HSZ.out _ S5; have hpz : yf.heap.size < (yf.alloc (.cells #[.int .i64 0, .slice none 0 0] 26)).heap.size := bel0_lt _ _; obtain ⟨j0, j1, j2, j3⟩ := bz3.out)
              | (go_at_call 15; have bz4 := bz3; refine (args_eq (CE.out yf S4 _ _ _ (HRF.out _ (Below.refl _ _)).o (Nat.le_refl _)) (by with_reducible rfl)).mono ?_; rintro e ye ⟨ve, rfl, RE, hbe⟩; obtain ⟨ae, ce, rfl⟩ := RE.form; have RE := Lib.hid RE; have hpz := bz4.out.lt; have bz3 := Lib.hid (bz4.out.below hbe bz4.out.lt); have S5 := KP _ _ hbe S4; have ze := HSZ.out _ S5; obtain ⟨j0, j1, j2, j3⟩ := bz3.out)
              | (go_at_call 15; refine (args_eq (CE.out yf S4 _ _ _ (HRF.out _ (Below.refl _ _)).o (Nat.le_refl _)) (by with_reducible rfl)).mono ?_; rintro e ye ⟨ve, rfl, RE, hbe⟩; obtain ⟨ae, ce, rfl⟩ := RE.form; have RE := Lib.hid RE; have S5 := KP _ _ hbe S4; have ze := HSZ.out _ S5)))
          all_goals
            have hsz := HSZ.out _ S4
            first
            | (have hez := bz3.out; go_wp2_with fail; go_meet; exact WR.old RE.out bz3.out S5.2.2 (by omega) (by omega) (.inl (by omega)))
            | (go_wp2_with fail; go_meet; exact WR.new RE.out S5.2.2 (by omega))
        case rest =>
          obtain ⟨p2, a2, c2, l2, h2, rfl, rfl, bx2, R2, -, -, -, zh2, hb⟩ := hcut
          have K := HK0.out.keep hb
          have K := K.cons (P := Rk l2 h2 (.slice a2 ps.length c2) ps) fun _ hv => Rk.keep ⟨R2, zh2⟩ hv
          have K := K.cons (P := Two p2 (.int .i64 n) (.slice a2 ps.length c2)) fun _ hv => Two.keep ⟨bx2.1, bx2.2.1⟩ hv
          clear R2 bx2 zh2 hb HK0 CF CE KP KS HSZ S0 D0
          obtain ⟨c_PY0, c_PY1⟩ := (K.get 2 rfl)
          obtain ⟨c_P30, c_P31⟩ := (K.get 16 rfl)
          obtain ⟨c_P20, c_P21⟩ := (K.get 0 rfl)
          obtain ⟨c_P80, c_P81⟩ := (K.get 13 rfl)
          go_wp2_with fail
          clear c_PY0 c_PY1 c_P30 c_P31 c_P20 c_P21 c_P80 c_P81
          refine (SameK _ _ _ _ n _ _ xs _ (K.get 3 rfl) (K.get 18 rfl)).mono ?_
          rintro e w22 ⟨rfl, hb⟩
          have K := K.keep hb
          clear hb
          obtain ⟨c_P20, c_P21⟩ := (K.get 0 rfl)
          obtain ⟨c_P80, c_P81⟩ := (K.get 13 rfl)
          go_wp2_with fail
          clear c_P20 c_P21 c_P80 c_P81
          refine (SameK _ _ _ _ n _ _ ps _ (K.get 1 rfl) (K.get 14 rfl)).mono ?_
          rintro e w23 ⟨rfl, hb⟩
          have K := K.keep hb
          clear hb
          go_wp2_with fail
          refine (ListOkK _ _ _ zs true _ (K.get 19 rfl).1 (K.get 19 rfl).2 (lst_yes HEX.out.1).symm).mono ?_
          rintro e w24 ⟨rfl, hb⟩
          have K := K.keep hb
          clear hb
          go_wp2_with fail
          go_ret
          exact ⟨rfl, K.1⟩
      · have HEX := Lib.hid hex
        go_wp2_with fail
        refine (SpecIsExK _ _ _ zs false _ (K.get 12 rfl).1 (K.get 12 rfl).2 (ex_no HEX.out).symm).mono ?_
        rintro e w25 ⟨rfl, hb⟩
        have K := K.keep hb
        clear hb
        go_wp2_with fail
        refine (UndoK _ _ _ zs [] _ (K.get 12 rfl).1 (K.get 12 rfl).2 (undo_no HEX.out)).mono ?_
        rintro e w26 ⟨vn, rfl, R, hb⟩
        obtain ⟨avn, cvn, rfl⟩ := R.form
        have K := K.ints hb R
        clear hb R
        go_wp2_with fail
        refine (IsExK _ _ _ zs false _ (K.get 13 rfl).1 (K.get 13 rfl).2 (ex_no HEX.out).symm).mono ?_
        rintro e w27 ⟨rfl, hb⟩
        have K := K.keep hb
        clear hb
        go_wp2_with fail
        go_ret
        exact ⟨rfl, K.1⟩
    · have HK := Lib.hid hok
      have K : Kp w (Xk w.heap.size w1.heap.size n (.slice av xs.length cv) xs :: _) w1 := K0.cons fun _ hv => Xk.keep ⟨RX, Nat.le_refl _⟩ hv
      clear RX RL B K0 hz
      have K := K.two (.int .i64 n) (.slice av xs.length cv) 26
      obtain ⟨c_P30, c_P31⟩ := (K.get 0 rfl)
      go_wp2_with fail
      clear c_P30 c_P31
      refine (FirstNoK _ _ n _ xs _ (K.get 1 rfl) HK.out).mono ?_
      rintro e w28 ⟨vn, rfl, R, hb⟩
      obtain ⟨an, cn, rfl⟩ := R.form
      have K := K.ints hb R
      clear hb R
      obtain ⟨c_P30, c_P31⟩ := (K.get 1 rfl)
      go_wp2_with fail
      clear c_P30 c_P31
      refine (BlockNoK _ _ n _ xs _ (K.get 2 rfl) HK.out).mono ?_
      rintro e w29 ⟨rfl, hb⟩
      have K := K.keep hb
      clear hb
      obtain ⟨c_P30, c_P31⟩ := (K.get 1 rfl)
      go_wp2_with fail
      clear c_P30 c_P31
      refine (ImplExchangeBlock_rowno _ _ n _ xs _ (K.get 2 rfl).1 (K.get 2 rfl).2 _ _ _ zs (K.get 3 rfl).1 (K.get 3 rfl).2 HK.out).mono ?_
      rintro e w30 ⟨n', a', l', c', rfl, hb⟩
      have K := K.keep hb
      clear hb
      have K := K.two (.int .i64 n') (.slice a' l' c') 26
      go_wp2_with fail
      have I6 := lit6 (w30.alloc (.cells #[.int .i64 n', .slice a' l' c'] 26)) 1 0 2 3 4 5 3
      have K := K.keep (bel0 (w30.alloc (.cells #[.int .i64 n', .slice a' l' c'] 26)) (.cells #[.int .i64 1, .int .i64 0, .int .i64 2, .int .i64 3, .int .i64 4, .int .i64 5] 3))
      have eI : (w30.alloc (.cells #[.int .i64 n', .slice a' l' c'] 26)).heap.size = w30.heap.size + 1 := by simp
      rw [eI] at I6
      refine (IsExK _ _ _ _ true _ I6.o (by simp) exb_102).mono ?_
      rintro e w31 ⟨rfl, hb⟩
      clear I6
      have K := K.keep hb
      clear hb
      go_wp2_with fail
      go_ret
      exact ⟨rfl, K.1⟩
  · have hl' : 1048576 < len := by omega
    go_enter Try.func3, Try.ntmps3
    go_wp2_with fail
    refine (Big_yes a len cap w hl hl').mono ?_
    rintro e w' ⟨rfl, rfl⟩
    go_wp2_with fail
    go_ret
    exact ⟨rfl, Below.refl _ _⟩

end Go.Proofs.Ytndffjphdlncpaa
