/- Rows of cuts: taken from the law's own type. Joins: the program's isUnit and hasUnits. Joins: DepthOf of the program. -/
import Derived.Test.YtlkiacgpiodkiaaM12
import Derived.Test.YtlkiacgpiodkiaaM02
import Derived.WalkSmall
import Derived.BigQuiet
import Derived.Outline
import Derived.IntWalk
import Derived.OwnWalk
import Derived.Test.YtlkiacgpiodkiaaM09
import Derived.Test.YtlkiacgpiodkiaaM11
import Derived.Test.YtlkiacgpiodkiaaM01
import Derived.Test.YtlkiacgpiodkiaaM10
import Derived.Deep.RegionLaw
import Derived.Deep.RegionHeld3

set_option linter.unusedSimpArgs false
set_option linter.unusedVariables false
namespace Go.Proofs.Ytlkiacgpiodkiaa
open Go.ChangeShapes Go.WideShapes Go.ChangeAt Go.RowKit

theorem info_Cut : (Try.prog.info? 86).map (fun i => (i.zero, i.size, i.bytes)) = some (some (.agg #[.bool false, .int .i64 0]), 2, 16) := by kernel_rfl

/-- A slice of them that came in: its elements are read one by one, wherever they lie. -/
def ArgCut (w : World) (a : Option Addr) (len : Nat) (xs : List C2) : Prop :=
  xs.length = len ∧ len ≤ maxLen ∧ (len = 0 ∨ ∃ xb xo, a = some ⟨xb, xo, none⟩ ∧ xb < w.heap.size ∧ ∀ i, i < len →
    w.cell? ⟨xb, xo + i * 2, none⟩ = some (.bool (xs.getD i C2.zero).up) ∧ w.cell? ⟨xb, xo + i * 2 + 1, none⟩ = some (.int .i64 (xs.getD i C2.zero).a))
theorem ArgCut.below {w w' : World} {a : Option Addr} {len : Nat} {xs : List C2} (h : ArgCut w a len xs) (hb : Below w.heap.size w w') : ArgCut w' a len xs := by
  obtain ⟨h1, h2, h | ⟨xb, xo, ha, hlt, hc⟩⟩ := h
  · exact ⟨h1, h2, .inl h⟩
  · refine ⟨h1, h2, .inr ⟨xb, xo, ha, Nat.lt_of_lt_of_le hlt hb.size, fun i hi => ?_⟩⟩
    obtain ⟨c0, c1⟩ := hc i hi
    exact ⟨(hb.cell (p := ⟨xb, _, none⟩) hlt).trans c0, (hb.cell (p := ⟨xb, _, none⟩) hlt).trans c1⟩

/-- A new row is handed back. -/
def FreshCut (xs : List C2) (w : World) (e : Ending) (w' : World) : Prop := ∃ v, e = .returned v ∧ CutIn w.heap.size w'.heap.size w' v xs ∧ Below w.heap.size w w'

/-- The first k elements are those of the list. -/
def UpCut (k : Nat) (xs ys : List C2) : Prop := ys.length = xs.length ∧ ∀ i, i < k → ys.getD i C2.zero = xs.getD i C2.zero
theorem UpCut.set {k : Nat} {xs ys : List C2} (h : UpCut k xs ys) (hk : k < xs.length) {c : C2} (hc : c = xs.getD k C2.zero) : UpCut (k + 1) xs (ys.set k c) := by
  obtain ⟨h1, h2⟩ := h
  refine ⟨by simpa using h1, fun i hi => ?_⟩
  by_cases e : i = k
  · subst e; simp [List.getD, h1, hk] at hc ⊢; exact hc
  · have := h2 i (by omega)
    simpa [List.getD, List.getElem?_set, e, Ne.symm e] using this
theorem UpCut.all {xs ys : List C2} (h : UpCut xs.length xs ys) : ys = xs := by
  obtain ⟨h1, h2⟩ := h
  apply List.ext_getElem h1
  intro i a b
  have := h2 i b
  simpa [List.getD, a, b] using this

end Go.Proofs.Ytlkiacgpiodkiaa

set_option linter.unusedSimpArgs false
set_option linter.unusedVariables false
namespace Go.Proofs.Ytlkiacgpiodkiaa
open Go.ChangeShapes Go.WideShapes Go.ChangeAt Go.RowKit

theorem IsUnit_any (u : Int) (k : Nat) (w : World) : Calls Try.prog 56 #[.int .i64 u, .int .i64 k] w fun e w' => e = .returned (.bool (decide (InU k u))) ∧ w' = w := by
  unfold InU
  by_cases h0 : 0 ≤ u
  · by_cases h1 : u < (k : Int)
    all_goals
      go_enter Try.func56, Try.ntmps56
      go_wp2_with fail
      go_ret
      exact ⟨ret_bool (by simp [h0, h1]), rfl⟩
  · go_enter Try.func56, Try.ntmps56
    go_wp2_with fail
    go_ret
    exact ⟨ret_bool (decide_eq_false (by omega)).symm, rfl⟩
theorem HasUnits_any (up : Bool) (a b : Int) (k : Nat) (w : World) : Calls Try.prog 52 #[.agg #[.bool up, .int .i64 a, .int .i64 b], .int .i64 k] w fun e w' => e = .returned (.bool (decide (InU k a ∧ InU k b))) ∧ Below w.heap.size w w' := by
  have IA := Lib.hid (fun w => IsUnit_any a k w)
  have IB := Lib.hid (fun w => IsUnit_any b k w)
  by_cases h0 : InU k a
  · rw [show decide (InU k a) = true from decide_eq_true h0] at IA
    have HR : Hid (decide (InU k b) = decide (InU k a ∧ InU k b)) := Lib.hid (by simp [h0])
    rw [← HR.out]
    generalize decide (InU k b) = ok at IB
    clear h0 HR
    go_enter Try.func52, Try.ntmps52
    go_wp2_with fail
    refine (IA.out _).mono ?_
    rintro e w' ⟨rfl, hw⟩
    have hw' := hw.symm
    subst hw'
    clear hw
    go_wp2_with fail
    refine (IB.out _).mono ?_
    rintro e w' ⟨rfl, hw⟩
    have hw' := hw.symm
    subst hw'
    clear hw
    go_wp2_with fail
    go_ret
    exact ⟨rfl, bel0 w _⟩
  · rw [show decide (InU k a) = false from decide_eq_false h0] at IA
    rw [show decide (InU k a ∧ InU k b) = false by simp [h0]]
    clear h0
    go_enter Try.func52, Try.ntmps52
    go_wp2_with fail
    refine (IA.out _).mono ?_
    rintro e w' ⟨rfl, hw⟩
    have hw' := hw.symm
    subst hw'
    clear hw
    go_wp2_with fail
    go_ret
    exact ⟨rfl, bel0 w _⟩

end Go.Proofs.Ytlkiacgpiodkiaa

set_option linter.unusedSimpArgs false
set_option linter.unusedVariables false
namespace Go.Proofs.Ytlkiacgpiodkiaa
open Go.ChangeShapes Go.WideShapes Go.ChangeAt Go.RowKit

theorem info_intJ : (Try.prog.info? 3).map (fun i => (i.zero, i.size, i.bytes)) = some (some (.int .i64 0), 1, 8) := by kernel_rfl
/-- A row of ints that is owned. -/
def OwnD (b : Nat) (w : World) (v : Value) (ds : List Int) : Prop := w.ownsRow b 3 1 v ds.length (ivals ds)
theorem OwnD.row {b : Nat} {w : World} {v : Value} {ds : List Int} (h : OwnD b w v ds) (hl : ds.length ≤ 1048576) : IntIn b w.heap.size w v ds := IntIn.of_owns h hl
theorem OwnD.more {b g n c : Nat} {w : World} {ds : List Int} {x : Int} (h : w.ownsRow b 3 1 (.slice (some ⟨g, 0, none⟩) n c) n (ivals ds ++ [.int .i64 x])) : OwnD b w (.slice (some ⟨g, 0, none⟩) n c) (ds ++ [x]) := by
  have h1 := h.1
  unfold OwnD ivals at *
  simp at h1
  rw [List.map_append, List.length_append]
  simp
  rw [h1]; exact h
theorem OwnD.zero {b n : Nat} {w : World} {v : Value} (h : w.ownsRow b 3 1 v n (madeCells (Value.int .i64 0).cells (n * 1)).toList) : OwnD b w v (List.replicate n 0) := by
  have e : (madeCells (Value.int .i64 0).cells (n * 1)).toList = ivals (List.replicate n 0) := by
    apply List.ext_getElem?
    intro i
    by_cases hi : i < n
    · simp [madeCells, Value.cells, ivals, hi, Nat.mod_one]
    · simp [madeCells, Value.cells, ivals, hi]
  unfold OwnD
  rw [List.length_replicate, ← e]; exact h
theorem DpB.at {k : Nat} {ds : List Int} (h : DpB k ds) (i : Nat) : 0 ≤ dp ds i ∧ dp ds i ≤ k := h i
set_option maxHeartbeats 6400000 in
set_option maxRecDepth 20000 in
theorem ImplDepthOf_any (lo hi : Nat) (v : Value) (js : List J3) (n : Int) (wn : (Lit.int .i64 n).wf = true) (w : World) (r : JnIn lo hi w v js) (hhi : hi ≤ w.heap.size) :
    Calls Try.prog 39 #[v, .int .i64 n] w fun e w' => e = .returned (.int .i64 (depJ js n)) ∧ Below w.heap.size w w' := by
  obtain ⟨i0, hi0, hz0, hz1, hz2⟩ := info_parts3 info_intJ
  obtain ⟨av, cv, rfl⟩ := r.form
  have R := Lib.hid r
  have hl := r.1
  clear r
  by_cases h0 : 1 ≤ n ∧ n ≤ 12
  · obtain ⟨n0, n1⟩ := h0
    by_cases h1 : (js.length : Int) = n - 1
    · have HD : Hid (dpF (List.replicate n.toNat 0) js = depJ js n) := Lib.hid (by unfold depJ; rw [if_pos ⟨⟨n0, n1⟩, h1⟩])
      obtain ⟨N, rfl⟩ : ∃ N : Nat, n = N := ⟨n.toNat, by omega⟩
      have hjl : js.length ≤ 11 := by omega
      have h2 : ((js.length : Int) == (N : Int) - 1) = true := by rw [h1]; exact beq_self_eq_true _
      have h3 : ((js.length : Int) != (N : Int) - 1) = false := by rw [h1]; exact bne_self_eq_false _
      have hJ := Lib.hid h1
      simp only [Int.toNat_natCast] at HD
      have HB := Lib.hid (DpB.start N)
      clear h1 wn
      generalize depJ js N = d at HD
      go_enter Try.func39, Try.ntmps39
      go_wp2_with (at_make; refine wpList_make_full _ rfl _ _ 28 rfl w.heap.size 3 i0 _ 1 Try.underlying28 hi0 hz0 hz1 .i64 .i64 _ _ N rfl rfl rfl rfl (by rw [hz2]; omega) (by unfold maxLen; omega) (Nat.le_refl _) ?_; intro w0 hown0 hgrow0)
      have hw0 := own_none hgrow0
      have HO := Lib.hid (OwnD.zero hown0)
      have HW := Lib.hid hw0
      clear hw0 hown0 hgrow0
      go_loopw [5, 25] (fun q i wr => ∃ (k : Nat) (ds : List Int), k ≤ js.length ∧ i = .int .i64 k ∧ Hid (ds.length = N + k) ∧ Hid (OwnD w.heap.size wr q ds) ∧ Hid (DpB k ds) ∧ Hid (dpF ds (js.drop k) = d) ∧ Hid (Below w.heap.size w wr)) (fun _ i _ => js.length - (intOf i).toNat)
      case atStart => exact ⟨0, _, Nat.zero_le _, rfl, Lib.hid (by simp), HO, HB, HD, HW⟩
      case round =>
        clear HO HB HD HW
        obtain ⟨k, ds, hk, rfl, hdl, ho, hdb, hdf, hbel⟩ := hrel
        have hdl12 : ds.length ≤ 24 := by have := hdl.out; omega
        have hdl0 : 1 ≤ ds.length := by have := hdl.out; omega
        have hin := ho.out.row (by omega)
        obtain ⟨aq, cq, rfl⟩ := hin.form
        by_cases hlt : k < js.length
        · obtain ⟨g, rfl, hg, hg1, ⟨e0, e1, e2⟩, _⟩ := R.out.at (hbel.out.mono hhi) hlt
          have HN := Lib.hid (fun hf => dpF_yes hlt hdf.out hf)
          have HM := Lib.hid (fun hf => dpF_no hlt hdf.out hf)
          obtain ⟨j, hj⟩ : ∃ j, j = jn js k := ⟨_, rfl⟩
          rw [show js.getD k J3.zero = j from hj.symm] at e0 e1 e2
          rw [show jn js k = j from hj.symm] at HN HM
          obtain ⟨up, a, b⟩ := j
          simp only at e0 e1 e2
          clear hj hdf
          have BA := bel0 wr (.cells #[.bool up, .int .i64 a, .int .i64 b] 34)
          have HO1 := Lib.hid (owL ho.out BA)
          have HO1 := Lib.hid (owL ho.out BA)
          have HB1 := Lib.hid (bel_n hbel.out (Nat.le_refl _) (.cells #[.bool up, .int .i64 a, .int .i64 b] 34))
          have hs1 := hbel.out.size
          clear ho hbel BA
          by_cases hok : DpOk ds ⟨up, a, b⟩
          · have HY := Lib.hid (HN.out hok)
            obtain ⟨⟨a0, a1⟩, b0, b1⟩ := hok
            simp only at a0 a1 b0 b1
            obtain ⟨A, rfl⟩ : ∃ A : Nat, a = A := ⟨a.toNat, by omega⟩
            obtain ⟨B, rfl⟩ : ∃ B : Nat, b = B := ⟨b.toNat, by omega⟩
            have a2 : A < ds.length := by omega
            have b2 : B < ds.length := by omega
            obtain ⟨gd, hgd, hgd0, hgd1, r1, _⟩ := hin.at (Below.refl _ _) a2
            obtain ⟨gd', hgd', _, _, r2, _⟩ := hin.at (Below.refl _ _) b2
            obtain rfl : gd = gd' := by rw [hgd] at hgd'; simpa using hgd'
            have hx := hdb.out.at A
            have hy := hdb.out.at B
            have HV : Hid (dpJ ds ⟨up, A, B⟩ = 1 + max (dp ds A) (dp ds B)) := Lib.hid (by simp [dpJ])
            have HB2 := Lib.hid (hdb.out.put ⟨up, A, B⟩)
            rw [HV.out] at HB2 HY
            obtain ⟨x, hxx⟩ : ∃ x, x = dp ds A := ⟨_, rfl⟩
            obtain ⟨y, hyy⟩ : ∃ y, y = dp ds B := ⟨_, rfl⟩
            rw [show ds.getD A 0 = x from hxx.symm] at r1
            rw [show ds.getD B 0 = y from hyy.symm] at r2
            rw [← hxx] at hx HB2 HY
            rw [← hyy] at hy HB2 HY
            clear hxx hyy HV hin HN HM hdb hgd'
            have HU := Lib.hid (fun u => HasUnits_any up A B ds.length u)
            rw [show decide (InU ds.length A ∧ InU ds.length B) = true from decide_eq_true ⟨⟨a0, a1⟩, b0, b1⟩] at HU
            obtain rfl : aq = some ⟨gd, 0, none⟩ := hgd
            go_wp2_with fail
            refine (args_eqL (HU.out _) (by with_reducible rfl)).mono ?_
            rintro e w1 ⟨rfl, hb1⟩
            have c0 := kept (p := ⟨wr.heap.size, 0, none⟩) (x := .bool up) hb1 (by go_simp)
            have c1 := kept (p := ⟨wr.heap.size, 1, none⟩) (x := .int .i64 A) hb1 (by go_simp)
            have c2 := kept (p := ⟨wr.heap.size, 2, none⟩) (x := .int .i64 B) hb1 (by go_simp)
            have s1 := kept hb1 (kept (bel0 wr (.cells #[.bool up, .int .i64 A, .int .i64 B] 34)) r1)
            have s2 := kept hb1 (kept (bel0 wr (.cells #[.bool up, .int .i64 A, .int .i64 B] 34)) r2)
            have HO2 := Lib.hid (owL HO1.out hb1)
            have HB3 := Lib.hid (bel_c HB1.out (Nat.le_refl _) hb1)
            have hs2 := HB3.out.size
            clear hb1 HO1 HB1 r1 r2 e0 e1 e2
            obtain ⟨M, hM⟩ : ∃ M, (if x < y then y else x) = M := ⟨_, rfl⟩
            have hMM : 1 + max x y = 1 + M := by rw [← hM]; split <;> omega
            rw [hMM] at HB2 HY
            have hM0 : 0 ≤ M ∧ M ≤ 12 := by omega
            obtain ⟨hM0, hM1⟩ := hM0
            clear hMM hx hy
            have hwM : IntKind.i64.wrap (1 + M) = 1 + M := by simp [IntKind.wrap, IntKind.bits, IntKind.signed]; omega
            have BX : Below w1.heap.size w1 ((w1.alloc (.cells #[.int .i64 (1 + M)] 3)).drew) := bel_dr9 (bel0 w1 _)
            have HO3 := Lib.hid (owL HO2.out BX)
            have HB4 := Lib.hid (bel_c HB3.out (Nat.le_refl _) BX)
            have HS3 := Lib.hid HB4.out.size
            have HNW : Hid (∀ (j : Nat) u, ([.int .i64 (1 + M)] : List Value)[j]? = some u → ((w1.alloc (.cells #[.int .i64 (1 + M)] 3)).drew).cell? ((⟨w1.heap.size, 0, none⟩ : Addr).add j) = some u) := Lib.hid (fun j u hu => newsL w1 w1.heap.size #[.int .i64 (1 + M)] 3 rfl j u hu)
            clear BX HO2 HB3
            go_wp2_with fail
            go_region_law (first
              | (refine step_append_lies _ (by rfl) _ _ _ (by rfl) w.heap.size 3 i0 _ 1 8 Try.underlying28 hi0 hz0 hz1 hz2 rfl (by omega) _ ds.length _ (by rfl) HO3.out ⟨w1.heap.size, 0, none⟩ 1 1 [.int .i64 (1 + M)] (by rfl) (by rfl) HNW.out (by simp [Value.oneCell']) (by omega) (by unfold maxLen; omega) (by omega) HS3.out (w1.heap.size + 1) (by simp) ?_; intro gg cc w5 hown5 hgrow hat hlt5; have hbw := (Below.refl w.heap.size _).grown hgrow HS3.out (ogL HO3.out)))
            all_goals
              have HN5 : Hid (OwnD w.heap.size w5 (.slice (some ⟨gg, 0, none⟩) (ds.length + 1) cc) (ds ++ [1 + M])) := Lib.hid (OwnD.more hown5)
              have HB5 := Lib.hid (HB4.out.trans hbw)
              have HL5 : Hid ((ds ++ [1 + M]).length = N + (k + 1)) := Lib.hid (by have := hdl.out; simp; omega)
              clear hown5 hgrow hat hlt5 hbw HO3 HNW HS3 HB4
              go_wp2_with fail
              go_roundw
              case rel => exact ⟨k + 1, _, by omega, by go_num, HL5, HN5, HB2, HY, HB5⟩
              case measure => simp [intOf] <;> omega
          · have HY := Lib.hid (HM.out hok)
            clear HN HM hdb hin
            have HU := Lib.hid (fun u => HasUnits_any up a b ds.length u)
            rw [show decide (InU ds.length a ∧ InU ds.length b) = false from decide_eq_false hok] at HU
            clear hok
            go_wp2_with fail
            refine (args_eqL (HU.out _) (by with_reducible rfl)).mono ?_
            rintro e w1 ⟨rfl, hb1⟩
            have HB3 := Lib.hid (bel_c HB1.out (Nat.le_refl _) hb1)
            clear hb1 HO1 HB1
            go_wp2_with fail
            go_ret
            exact ⟨ret_int HY.out, HB3.out⟩
        · obtain rfl : k = js.length := by omega
          have hjj := hJ.out
          have HE := Lib.hid (dpF_all hdf.out)
          have hq : ds.length - 1 < ds.length := by omega
          obtain ⟨gd, hgd, hgd0, hgd1, r1, _⟩ := hin.at (Below.refl _ _) hq
          rw [show ds.getD (ds.length - 1) 0 = d from HE.out] at r1
          obtain rfl : aq = some ⟨gd, 0, none⟩ := hgd
          obtain ⟨L, hL⟩ : ∃ L, L = ds.length := ⟨_, rfl⟩
          rw [← hL] at r1 hdl0 hdl12 ⊢
          have hL1 : ((L - 1 : Nat) : Int) = (L : Int) - 1 := by omega
          have hL2 := Lib.hid hL
          clear hL hin ho hdb hdf hq
          obtain ⟨K, rfl⟩ : ∃ K, L = K + 1 := ⟨L - 1, by omega⟩
          simp only [Nat.add_sub_cancel] at r1
          clear hL1
          clear hjj hdl
          go_wp2_with fail
          go_ret
          exact ⟨rfl, hbel.out⟩
    · have h2 : ((js.length : Int) == n - 1) = false := by simpa using h1
      have h3 : ((js.length : Int) != n - 1) = true := by simpa using h1
      rw [show depJ js n = -1 by unfold depJ; rw [if_neg (fun k => h1 k.2)]]
      clear h1
      go_enter Try.func39, Try.ntmps39
      go_wp2_with fail
      go_ret
      exact ⟨rfl, Below.refl _ _⟩
  · rw [show depJ js n = -1 by unfold depJ; rw [if_neg (fun k => h0 k.1)]]
    by_cases h1 : n < 1
    · go_enter Try.func39, Try.ntmps39
      go_wp2_with fail
      go_ret
      exact ⟨rfl, Below.refl _ _⟩
    · have h2 : 12 < n := by omega
      clear h0
      go_enter Try.func39, Try.ntmps39
      go_wp2_with fail
      go_ret
      exact ⟨rfl, Below.refl _ _⟩

end Go.Proofs.Ytlkiacgpiodkiaa
