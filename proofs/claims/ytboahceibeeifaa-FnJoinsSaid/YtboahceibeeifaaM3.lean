/- Joins: the program's isUnit and hasUnits. Rows of integers: what a slice of ints holds. Joins: DepthOf of the program. Layouts: the model's LayoutOk. Cuts: the model's IsCut. -/
import Derived.Test.YtboahceibeeifaaJnN
import Derived.Test.YtboahceibeeifaaLayIk
import Derived.Test.YtboahceibeeifaaCutT
import Derived.Test.YtboahceibeeifaaRows
import Derived.Test.YtboahceibeeifaaBase
import Derived.WalkKit
import Derived.Lib.Hide
import Derived.Laws.OwnMore
import Derived.Test.YtboahceibeeifaaM7
import Derived.Test.YtboahceibeeifaaLayB
import Derived.Test.YtboahceibeeifaaRegM
import Derived.Deep.RegionLaw
import Derived.Deep.RegionHeld3
import Derived.Test.YtboahceibeeifaaLayF
import Derived.Test.YtboahceibeeifaaBlkZ
import Derived.Test.YtboahceibeeifaaCutP

set_option linter.unusedSimpArgs false
set_option linter.unusedVariables false
namespace Go.Proofs.Ytboahceibeeifaa
open Go.ChangeShapes Go.WideShapes Go.ChangeAt Go.RowKit

theorem IsUnit_any (u : Int) (k : Nat) (w : World) : Calls Try.prog 42 #[.int .i64 u, .int .i64 k] w fun e w' => e = .returned (.bool (decide (InU k u))) ∧ w' = w := by
  unfold InU
  by_cases h0 : 0 ≤ u
  · by_cases h1 : u < (k : Int)
    all_goals
      go_enter Try.func42, Try.ntmps42
      go_wp2_with fail
      go_ret
      exact ⟨ret_bool (by simp [h0, h1]), rfl⟩
  · go_enter Try.func42, Try.ntmps42
    go_wp2_with fail
    go_ret
    exact ⟨ret_bool (decide_eq_false (by omega)).symm, rfl⟩
theorem HasUnits_any (up : Bool) (a b : Int) (k : Nat) (w : World) : Calls Try.prog 43 #[.agg #[.bool up, .int .i64 a, .int .i64 b], .int .i64 k] w fun e w' => e = .returned (.bool (decide (InU k a ∧ InU k b))) ∧ Below w.heap.size w w' := by
  have IA := Lib.hid (fun w => IsUnit_any a k w)
  have IB := Lib.hid (fun w => IsUnit_any b k w)
  by_cases h0 : InU k a
  · rw [show decide (InU k a) = true from decide_eq_true h0] at IA
    have HR : Hid (decide (InU k b) = decide (InU k a ∧ InU k b)) := Lib.hid (by simp [h0])
    rw [← HR.out]
    generalize decide (InU k b) = ok at IB
    clear h0 HR
    go_enter Try.func43, Try.ntmps43
    go_wp2_with fail
    refine (IA.out _).mono ?_
    rintro e w' ⟨rfl, hw⟩
    have hw' := hw.symm
    subst hw'
    clear hw
    go_wp2_with fail
    refine (IB.out _).mono ?_
    rintro e w' ⟨rfl, hw⟩
    have hw' := hw.symm
    subst hw'
    clear hw
    go_wp2_with fail
    go_ret
    exact ⟨rfl, bel0 w _⟩
  · rw [show decide (InU k a) = false from decide_eq_false h0] at IA
    rw [show decide (InU k a ∧ InU k b) = false by simp [h0]]
    clear h0
    go_enter Try.func43, Try.ntmps43
    go_wp2_with fail
    refine (IA.out _).mono ?_
    rintro e w' ⟨rfl, hw⟩
    have hw' := hw.symm
    subst hw'
    clear hw
    go_wp2_with fail
    go_ret
    exact ⟨rfl, bel0 w _⟩

end Go.Proofs.Ytboahceibeeifaa

set_option linter.unusedSimpArgs false
set_option linter.unusedVariables false
namespace Go.Proofs.Ytboahceibeeifaa
open Go.ChangeShapes Go.WideShapes Go.ChangeAt Go.RowKit

/-- A slice of ints in a block from lo on, below hi. -/
def IntIn (lo hi : Nat) (w : World) (v : Value) (zs : List Int) : Prop :=
  zs.length ≤ 1048576 ∧ ((zs = [] ∧ ∃ a c, v = .slice a 0 c) ∨
    ∃ g cap, v = .slice (some ⟨g, 0, none⟩) zs.length cap ∧ lo ≤ g ∧ g < hi ∧ ∀ i, i < zs.length → w.cell? ⟨g, i, none⟩ = some (.int .i64 (zs.getD i 0)) ∧ w.frozen? ⟨g, i, none⟩ = false)
theorem IntIn.below {lo hi : Nat} {w w' : World} {v : Value} {zs : List Int} (h : IntIn lo hi w v zs) (hb : Below hi w w') : IntIn lo hi w' v zs := by
  obtain ⟨hl, h | ⟨g, cap, hv, hg, hlt, hc⟩⟩ := h
  · exact ⟨hl, .inl h⟩
  · exact ⟨hl, .inr ⟨g, cap, hv, hg, hlt, fun i hi => ⟨(hb.cell (p := ⟨g, i, none⟩) hlt).trans (hc i hi).1, (hb.frozen (p := ⟨g, i, none⟩) hlt).trans (hc i hi).2⟩⟩⟩
theorem IntIn.wide {lo hi lo' hi' : Nat} {w : World} {v : Value} {zs : List Int} (h : IntIn lo hi w v zs) (h1 : lo' ≤ lo) (h2 : hi ≤ hi') : IntIn lo' hi' w v zs := by
  obtain ⟨hl, h | ⟨g, cap, hv, hg, hlt, hc⟩⟩ := h
  · exact ⟨hl, .inl h⟩
  · exact ⟨hl, .inr ⟨g, cap, hv, by omega, by omega, hc⟩⟩
theorem IntIn.form {lo hi : Nat} {w : World} {v : Value} {zs : List Int} (h : IntIn lo hi w v zs) : ∃ a cap, v = .slice a zs.length cap := by
  obtain ⟨_, ⟨rfl, a, c, hv⟩ | ⟨g, cap, hv, _⟩⟩ := h
  · exact ⟨a, c, hv⟩
  · exact ⟨_, _, hv⟩
theorem IntIn.at {lo hi : Nat} {w w' : World} {a : Option Addr} {n cap : Nat} {zs : List Int} (h : IntIn lo hi w (.slice a n cap) zs) (hb : Below hi w w') {i : Nat} (hi' : i < zs.length) :
    ∃ g, a = some ⟨g, 0, none⟩ ∧ lo ≤ g ∧ g < hi ∧ w'.cell? ⟨g, i, none⟩ = some (.int .i64 (zs.getD i 0)) ∧ w'.frozen? ⟨g, i, none⟩ = false := by
  obtain ⟨_, ⟨rfl, _⟩ | ⟨g, cap, hv, hg, hlt, hc⟩⟩ := h
  · simp at hi'
  · simp only [Value.slice.injEq] at hv
    exact ⟨g, hv.1, hg, hlt, (hb.cell (p := ⟨g, i, none⟩) hlt).trans (hc i hi').1, (hb.frozen (p := ⟨g, i, none⟩) hlt).trans (hc i hi').2⟩
theorem IntIn.set {lo hi g n cap : Nat} {w : World} {zs : List Int} (h : IntIn lo hi w (.slice (some ⟨g, 0, none⟩) n cap) zs) (j : Nat) (hj : j < zs.length) (z : Int) :
    IntIn lo hi (w.setCell ⟨g, j, none⟩ (.int .i64 z)) (.slice (some ⟨g, 0, none⟩) n cap) (zs.set j z) := by
  obtain ⟨hl, ⟨h, _⟩ | ⟨g', cap', hv, hg, hlt, hc⟩⟩ := h
  · subst h; simp at hj
  · simp only [Value.slice.injEq, Option.some.injEq, Addr.mk.injEq, and_true] at hv
    obtain ⟨rfl, rfl, rfl⟩ := hv
    refine ⟨by simpa using hl, .inr ⟨g, cap, by simp, hg, hlt, fun i hi => ?_⟩⟩
    rw [List.length_set] at hi
    obtain ⟨h1, h2⟩ := hc i hi
    refine ⟨?_, by rw [World.frozen?_setCell]; exact h2⟩
    by_cases e : i = j
    · subst e
      rw [World.cell?_setCell_same _ _ _ h1]
      simp [List.getD, hi]
    · rw [World.cell?_setCell_other _ _ _ _ (by simp <;> omega), h1]
      simp [List.getD, Ne.symm e]
theorem IntIn.set_far {lo hi : Nat} {w : World} {v : Value} {zs : List Int} (h : IntIn lo hi w v zs) {p : Addr} (hp : p.block < lo) (x : Value) : IntIn lo hi (w.setCell p x) v zs := by
  obtain ⟨hl, h | ⟨g, cap, hv, hg, hlt, hc⟩⟩ := h
  · exact ⟨hl, .inl h⟩
  · refine ⟨hl, .inr ⟨g, cap, hv, hg, hlt, fun i hi => ⟨?_, by rw [World.frozen?_setCell]; exact (hc i hi).2⟩⟩⟩
    have hn : p ≠ ⟨g, i, none⟩ := fun e => by rw [e] at hp; simp at hp; omega
    rw [World.cell?_setCell_other _ _ _ _ hn]; exact (hc i hi).1

/-- A list of ints as values. -/
def ivals (zs : List Int) : List Value := zs.map (.int .i64 ·)
theorem lt_of_heapI {w : World} {g : Nat} {o : Obj} (h : w.heap[g]? = some o) : g < w.heap.size := (Array.getElem?_eq_some_iff.1 h).1
theorem IntIn.of_owns {w : World} {base e : Nat} {v : Value} {zs : List Int} (h : w.ownsRow base e 1 v zs.length (ivals zs)) (hl : zs.length ≤ 1048576) : IntIn base w.heap.size w v zs := by
  refine ⟨hl, ?_⟩
  have h0 := h
  obtain ⟨_, ⟨h1, h2⟩ | ⟨g, cap, cur, hv, hg, hh, _⟩⟩ := h
  · exact .inl ⟨List.length_eq_zero_iff.1 h2, none, 0, h1⟩
  · subst hv
    refine .inr ⟨g, cap, rfl, hg, lt_of_heapI hh, fun i hi => ⟨?_, h0.frozenAt i⟩⟩
    rw [h0.cellAt i (by omega)]
    simp [ivals, List.getD, hi]
/-- A new row of ints is handed back. -/
def FreshI (zs : List Int) (w : World) (e : Ending) (w' : World) : Prop := ∃ v, e = .returned v ∧ IntIn w.heap.size w'.heap.size w' v zs ∧ Below w.heap.size w w'

/-- The first k elements are those of the list. -/
def UpToI (k : Nat) (xs ys : List Int) : Prop := ys.length = xs.length ∧ ∀ i, i < k → ys.getD i 0 = xs.getD i 0
theorem UpToI.set {k : Nat} {xs ys : List Int} (h : UpToI k xs ys) (hk : k < xs.length) {c : Int} (hc : c = xs.getD k 0) : UpToI (k + 1) xs (ys.set k c) := by
  obtain ⟨h1, h2⟩ := h
  refine ⟨by simpa using h1, fun i hi => ?_⟩
  by_cases e : i = k
  · subst e; simp [List.getD, h1, hk] at hc ⊢; exact hc
  · have := h2 i (by omega)
    simpa [List.getD, List.getElem?_set, e, Ne.symm e] using this
theorem UpToI.all {xs ys : List Int} (h : UpToI xs.length xs ys) : ys = xs := by
  obtain ⟨h1, h2⟩ := h
  apply List.ext_getElem h1
  intro i a b
  have := h2 i b
  simpa [List.getD, a, b] using this

/-- The marks from k on. -/
def markI (k n : Nat) : List Int := (List.range n).map fun i => ((k + i : Nat) : Int)
theorem markI_length (k n : Nat) : (markI k n).length = n := by simp [markI]
theorem markI_at {k n i : Nat} (h : i < n) : (markI k n).getD i 0 = ((k + i : Nat) : Int) := by simp [markI, List.getD, h]

end Go.Proofs.Ytboahceibeeifaa

set_option linter.unusedSimpArgs false
set_option linter.unusedVariables false
namespace Go.Proofs.Ytboahceibeeifaa
open Go.ChangeShapes Go.WideShapes Go.ChangeAt Go.RowKit

theorem info_intJ : (Try.prog.info? 3).map (fun i => (i.zero, i.size, i.bytes)) = some (some (.int .i64 0), 1, 8) := by kernel_rfl
/-- A row of ints that is owned. -/
def OwnD (b : Nat) (w : World) (v : Value) (ds : List Int) : Prop := w.ownsRow b 3 1 v ds.length (ivals ds)
theorem OwnD.row {b : Nat} {w : World} {v : Value} {ds : List Int} (h : OwnD b w v ds) (hl : ds.length ≤ 1048576) : IntIn b w.heap.size w v ds := IntIn.of_owns h hl
theorem OwnD.more {b g n c : Nat} {w : World} {ds : List Int} {x : Int} (h : w.ownsRow b 3 1 (.slice (some ⟨g, 0, none⟩) n c) n (ivals ds ++ [.int .i64 x])) : OwnD b w (.slice (some ⟨g, 0, none⟩) n c) (ds ++ [x]) := by
  have h1 := h.1
  unfold OwnD ivals at *
  simp at h1
  rw [List.map_append, List.length_append]
  simp
  rw [h1]; exact h
theorem OwnD.zero {b n : Nat} {w : World} {v : Value} (h : w.ownsRow b 3 1 v n (madeCells (Value.int .i64 0).cells (n * 1)).toList) : OwnD b w v (List.replicate n 0) := by
  have e : (madeCells (Value.int .i64 0).cells (n * 1)).toList = ivals (List.replicate n 0) := by
    apply List.ext_getElem?
    intro i
    by_cases hi : i < n
    · simp [madeCells, Value.cells, ivals, hi, Nat.mod_one]
    · simp [madeCells, Value.cells, ivals, hi]
  unfold OwnD
  rw [List.length_replicate, ← e]; exact h
theorem DpB.at {k : Nat} {ds : List Int} (h : DpB k ds) (i : Nat) : 0 ≤ dp ds i ∧ dp ds i ≤ k := h i
set_option maxHeartbeats 6400000 in
set_option maxRecDepth 20000 in
theorem ImplDepthOf_any (lo hi : Nat) (v : Value) (js : List J3) (n : Int) (wn : (Lit.int .i64 n).wf = true) (w : World) (r : JnIn lo hi w v js) (hhi : hi ≤ w.heap.size) :
    Calls Try.prog 15 #[v, .int .i64 n] w fun e w' => e = .returned (.int .i64 (depJ js n)) ∧ Below w.heap.size w w' := by
  obtain ⟨i0, hi0, hz0, hz1, hz2⟩ := info_parts3 info_intJ
  obtain ⟨av, cv, rfl⟩ := r.form
  have R := Lib.hid r
  have hl := r.1
  clear r
  by_cases h0 : 1 ≤ n ∧ n ≤ 12
  · obtain ⟨n0, n1⟩ := h0
    by_cases h1 : (js.length : Int) = n - 1
    · have HD : Hid (dpF (List.replicate n.toNat 0) js = depJ js n) := Lib.hid (by unfold depJ; rw [if_pos ⟨⟨n0, n1⟩, h1⟩])
      obtain ⟨N, rfl⟩ : ∃ N : Nat, n = N := ⟨n.toNat, by omega⟩
      have hjl : js.length ≤ 11 := by omega
      have h2 : ((js.length : Int) == (N : Int) - 1) = true := by rw [h1]; exact beq_self_eq_true _
      have h3 : ((js.length : Int) != (N : Int) - 1) = false := by rw [h1]; exact bne_self_eq_false _
      have hJ := Lib.hid h1
      simp only [Int.toNat_natCast] at HD
      have HB := Lib.hid (DpB.start N)
      clear h1 wn
      generalize depJ js N = d at HD
      go_enter Try.func15, Try.ntmps15
      go_wp2_with (at_make; refine wpList_make_full _ rfl _ _ 77 rfl w.heap.size 3 i0 _ 1 Try.underlying77 hi0 hz0 hz1 .i64 .i64 _ _ N rfl rfl rfl rfl (by rw [hz2]; omega) (by unfold maxLen; omega) (Nat.le_refl _) ?_; intro w0 hown0 hgrow0)
      have hw0 := own_none hgrow0
      have HO := Lib.hid (OwnD.zero hown0)
      have HW := Lib.hid hw0
      clear hw0 hown0 hgrow0
      go_loopw [5, 25] (fun q i wr => ∃ (k : Nat) (ds : List Int), k ≤ js.length ∧ i = .int .i64 k ∧ Hid (ds.length = N + k) ∧ Hid (OwnD w.heap.size wr q ds) ∧ Hid (DpB k ds) ∧ Hid (dpF ds (js.drop k) = d) ∧ Hid (Below w.heap.size w wr)) (fun _ i _ => js.length - (intOf i).toNat)
      case atStart => exact ⟨0, _, Nat.zero_le _, rfl, Lib.hid (by simp), HO, HB, HD, HW⟩
      case round =>
        clear HO HB HD HW
        obtain ⟨k, ds, hk, rfl, hdl, ho, hdb, hdf, hbel⟩ := hrel
        have hdl12 : ds.length ≤ 24 := by have := hdl.out; omega
        have hdl0 : 1 ≤ ds.length := by have := hdl.out; omega
        have hin := ho.out.row (by omega)
        obtain ⟨aq, cq, rfl⟩ := hin.form
        by_cases hlt : k < js.length
        · obtain ⟨g, rfl, hg, hg1, ⟨e0, e1, e2⟩, _⟩ := R.out.at (hbel.out.mono hhi) hlt
          have HN := Lib.hid (fun hf => dpF_yes hlt hdf.out hf)
          have HM := Lib.hid (fun hf => dpF_no hlt hdf.out hf)
          obtain ⟨j, hj⟩ : ∃ j, j = jn js k := ⟨_, rfl⟩
          rw [show js.getD k J3.zero = j from hj.symm] at e0 e1 e2
          rw [show jn js k = j from hj.symm] at HN HM
          obtain ⟨up, a, b⟩ := j
          simp only at e0 e1 e2
          clear hj hdf
          have BA := bel0 wr (.cells #[.bool up, .int .i64 a, .int .i64 b] 40)
          have HO1 := Lib.hid (owL ho.out BA)
          have HO1 := Lib.hid (owL ho.out BA)
          have HB1 := Lib.hid (bel_n hbel.out (Nat.le_refl _) (.cells #[.bool up, .int .i64 a, .int .i64 b] 40))
          have hs1 := hbel.out.size
          clear ho hbel BA
          by_cases hok : DpOk ds ⟨up, a, b⟩
          · have HY := Lib.hid (HN.out hok)
            obtain ⟨⟨a0, a1⟩, b0, b1⟩ := hok
            simp only at a0 a1 b0 b1
            obtain ⟨A, rfl⟩ : ∃ A : Nat, a = A := ⟨a.toNat, by omega⟩
            obtain ⟨B, rfl⟩ : ∃ B : Nat, b = B := ⟨b.toNat, by omega⟩
            have a2 : A < ds.length := by omega
            have b2 : B < ds.length := by omega
            obtain ⟨gd, hgd, hgd0, hgd1, r1, _⟩ := hin.at (Below.refl _ _) a2
            obtain ⟨gd', hgd', _, _, r2, _⟩ := hin.at (Below.refl _ _) b2
            obtain rfl : gd = gd' := by rw [hgd] at hgd'; simpa using hgd'
            have hx := hdb.out.at A
            have hy := hdb.out.at B
            have HV : Hid (dpJ ds ⟨up, A, B⟩ = 1 + max (dp ds A) (dp ds B)) := Lib.hid (by simp [dpJ])
            have HB2 := Lib.hid (hdb.out.put ⟨up, A, B⟩)
            rw [HV.out] at HB2 HY
            obtain ⟨x, hxx⟩ : ∃ x, x = dp ds A := ⟨_, rfl⟩
            obtain ⟨y, hyy⟩ : ∃ y, y = dp ds B := ⟨_, rfl⟩
            rw [show ds.getD A 0 = x from hxx.symm] at r1
            rw [show ds.getD B 0 = y from hyy.symm] at r2
            rw [← hxx] at hx HB2 HY
            rw [← hyy] at hy HB2 HY
            clear hxx hyy HV hin HN HM hdb hgd'
            have HU := Lib.hid (fun u => HasUnits_any up A B ds.length u)
            rw [show decide (InU ds.length A ∧ InU ds.length B) = true from decide_eq_true ⟨⟨a0, a1⟩, b0, b1⟩] at HU
            obtain rfl : aq = some ⟨gd, 0, none⟩ := hgd
            go_wp2_with fail
            refine (args_eqL (HU.out _) (by with_reducible rfl)).mono ?_
            rintro e w1 ⟨rfl, hb1⟩
            have c0 := kept (p := ⟨wr.heap.size, 0, none⟩) (x := .bool up) hb1 (by go_simp)
            have c1 := kept (p := ⟨wr.heap.size, 1, none⟩) (x := .int .i64 A) hb1 (by go_simp)
            have c2 := kept (p := ⟨wr.heap.size, 2, none⟩) (x := .int .i64 B) hb1 (by go_simp)
            have s1 := kept hb1 (kept (bel0 wr (.cells #[.bool up, .int .i64 A, .int .i64 B] 40)) r1)
            have s2 := kept hb1 (kept (bel0 wr (.cells #[.bool up, .int .i64 A, .int .i64 B] 40)) r2)
            have HO2 := Lib.hid (owL HO1.out hb1)
            have HB3 := Lib.hid (bel_c HB1.out (Nat.le_refl _) hb1)
            have hs2 := HB3.out.size
            clear hb1 HO1 HB1 r1 r2 e0 e1 e2
            obtain ⟨M, hM⟩ : ∃ M, (if x < y then y else x) = M := ⟨_, rfl⟩
            have hMM : 1 + max x y = 1 + M := by rw [← hM]; split <;> omega
            rw [hMM] at HB2 HY
            have hM0 : 0 ≤ M ∧ M ≤ 12 := by omega
            obtain ⟨hM0, hM1⟩ := hM0
            clear hMM hx hy
            have hwM : IntKind.i64.wrap (1 + M) = 1 + M := by simp [IntKind.wrap, IntKind.bits, IntKind.signed]; omega
            have BX : Below w1.heap.size w1 ((w1.alloc (.cells #[.int .i64 (1 + M)] 3)).drew) := bel_dr9 (bel0 w1 _)
            have HO3 := Lib.hid (owL HO2.out BX)
            have HB4 := Lib.hid (bel_c HB3.out (Nat.le_refl _) BX)
            have HS3 := Lib.hid HB4.out.size
            have HNW : Hid (∀ (j : Nat) u, ([.int .i64 (1 + M)] : List Value)[j]? = some u → ((w1.alloc (.cells #[.int .i64 (1 + M)] 3)).drew).cell? ((⟨w1.heap.size, 0, none⟩ : Addr).add j) = some u) := Lib.hid (fun j u hu => newsL w1 w1.heap.size #[.int .i64 (1 + M)] 3 rfl j u hu)
            clear BX HO2 HB3
            go_wp2_with fail
            go_region_law (first
              | (refine step_append_lies _ (by rfl) _ _ _ (by rfl) w.heap.size 3 i0 _ 1 8 Try.underlying77 hi0 hz0 hz1 hz2 rfl (by omega) _ ds.length _ (by rfl) HO3.out ⟨w1.heap.size, 0, none⟩ 1 1 [.int .i64 (1 + M)] (by rfl) (by rfl) HNW.out (by simp [Value.oneCell']) (by omega) (by unfold maxLen; omega) (by omega) HS3.out (w1.heap.size + 1) (by simp) ?_; intro gg cc w5 hown5 hgrow hat hlt5; have hbw := (Below.refl w.heap.size _).grown hgrow HS3.out (ogL HO3.out)))
            all_goals
              have HN5 : Hid (OwnD w.heap.size w5 (.slice (some ⟨gg, 0, none⟩) (ds.length + 1) cc) (ds ++ [1 + M])) := Lib.hid (OwnD.more hown5)
              have HB5 := Lib.hid (HB4.out.trans hbw)
              have HL5 : Hid ((ds ++ [1 + M]).length = N + (k + 1)) := Lib.hid (by have := hdl.out; simp; omega)
              clear hown5 hgrow hat hlt5 hbw HO3 HNW HS3 HB4
              go_wp2_with fail
              go_roundw
              case rel => exact ⟨k + 1, _, by omega, by go_num, HL5, HN5, HB2, HY, HB5⟩
              case measure => simp [intOf] <;> omega
          · have HY := Lib.hid (HM.out hok)
            clear HN HM hdb hin
            have HU := Lib.hid (fun u => HasUnits_any up a b ds.length u)
            rw [show decide (InU ds.length a ∧ InU ds.length b) = false from decide_eq_false hok] at HU
            clear hok
            go_wp2_with fail
            refine (args_eqL (HU.out _) (by with_reducible rfl)).mono ?_
            rintro e w1 ⟨rfl, hb1⟩
            have HB3 := Lib.hid (bel_c HB1.out (Nat.le_refl _) hb1)
            clear hb1 HO1 HB1
            go_wp2_with fail
            go_ret
            exact ⟨ret_int HY.out, HB3.out⟩
        · obtain rfl : k = js.length := by omega
          have hjj := hJ.out
          have HE := Lib.hid (dpF_all hdf.out)
          have hq : ds.length - 1 < ds.length := by omega
          obtain ⟨gd, hgd, hgd0, hgd1, r1, _⟩ := hin.at (Below.refl _ _) hq
          rw [show ds.getD (ds.length - 1) 0 = d from HE.out] at r1
          obtain rfl : aq = some ⟨gd, 0, none⟩ := hgd
          obtain ⟨L, hL⟩ : ∃ L, L = ds.length := ⟨_, rfl⟩
          rw [← hL] at r1 hdl0 hdl12 ⊢
          have hL1 : ((L - 1 : Nat) : Int) = (L : Int) - 1 := by omega
          have hL2 := Lib.hid hL
          clear hL hin ho hdb hdf hq
          obtain ⟨K, rfl⟩ : ∃ K, L = K + 1 := ⟨L - 1, by omega⟩
          simp only [Nat.add_sub_cancel] at r1
          clear hL1
          clear hjj hdl
          go_wp2_with fail
          go_ret
          exact ⟨rfl, hbel.out⟩
    · have h2 : ((js.length : Int) == n - 1) = false := by simpa using h1
      have h3 : ((js.length : Int) != n - 1) = true := by simpa using h1
      rw [show depJ js n = -1 by unfold depJ; rw [if_neg (fun k => h1 k.2)]]
      clear h1
      go_enter Try.func15, Try.ntmps15
      go_wp2_with fail
      go_ret
      exact ⟨rfl, Below.refl _ _⟩
  · rw [show depJ js n = -1 by unfold depJ; rw [if_neg (fun k => h0 k.1)]]
    by_cases h1 : n < 1
    · go_enter Try.func15, Try.ntmps15
      go_wp2_with fail
      go_ret
      exact ⟨rfl, Below.refl _ _⟩
    · have h2 : 12 < n := by omega
      clear h0
      go_enter Try.func15, Try.ntmps15
      go_wp2_with fail
      go_ret
      exact ⟨rfl, Below.refl _ _⟩

end Go.Proofs.Ytboahceibeeifaa

set_option linter.unusedSimpArgs false
set_option linter.unusedVariables false
namespace Go.Proofs.Ytboahceibeeifaa
open Go.ChangeShapes Go.WideShapes Go.ChangeAt Go.RowKit

set_option maxHeartbeats 3200000 in
set_option maxRecDepth 20000 in
theorem SpecLayoutOk_any (lo hi : Nat) (m n : Int) (v : Value) (xs : List P5) (w : World) (r : PatIn lo hi w v xs) (hhi : hi ≤ w.heap.size) :
    Calls Try.prog 37 #[.agg #[.int .i64 m, .int .i64 n, v]] w fun e w' => e = .returned (.bool (layB m n xs)) ∧ Below w.heap.size w w' := by
  obtain ⟨a, cap, rfl⟩ := r.form
  have R := Lib.hid r
  have hl := r.1
  clear r
  by_cases h0 : 1 ≤ m ∧ m ≤ 12
  · obtain ⟨p00, p01⟩ := h0
    by_cases h1 : 1 ≤ n ∧ n ≤ 12
    · obtain ⟨p10, p11⟩ := h1
      by_cases h2 : 1 ≤ xs.length ∧ xs.length ≤ 12
      · obtain ⟨p20, p21⟩ := h2
        go_enter Try.func37, Try.ntmps37
        go_wp2_with fail
        refine (In_yes _ _ _ _ p00 p01).mono ?_
        rintro e w' ⟨rfl, rfl⟩
        go_wp2_with fail
        refine (In_yes _ _ _ _ p10 p11).mono ?_
        rintro e w' ⟨rfl, rfl⟩
        go_wp2_with fail
        refine (In_yes _ _ _ _ (by omega) (by omega)).mono ?_
        rintro e w' ⟨rfl, rfl⟩
        go_wp2_with fail
        go_loopw [3, 4] (fun s i wr => ∃ (k : Nat) (A : Int), k ≤ xs.length ∧ i = .int .i64 k ∧ s = .int .i64 A ∧ Hid (A = ar xs k) ∧ 0 ≤ A ∧ A ≤ 144 * k ∧ Hid (LayK m n xs k) ∧ Below (w.heap.size + 1) (w.alloc (.cells #[.int .i64 m, .int .i64 n, .slice a xs.length cap] 26)) wr) (fun _ i _ => xs.length - (intOf i).toNat)
        case atStart => exact ⟨0, 0, Nat.zero_le _, rfl, rfl, Lib.hid rfl, by omega, by omega, Lib.hid (fun j hj => by omega), Below.refl _ _⟩
        case round =>
          obtain ⟨k, A, hk, rfl, rfl, HAr, A0, A1, hall, hbel⟩ := hrel
          have hsz := hbel.size
          simp at hsz
          have b0 : wr.cell? ⟨w.heap.size, 0, none⟩ = some (.int .i64 m) := (hbel.cell (p := ⟨w.heap.size, 0, none⟩) (by simp)).trans (by simp)
          have b1 : wr.cell? ⟨w.heap.size, 1, none⟩ = some (.int .i64 n) := (hbel.cell (p := ⟨w.heap.size, 1, none⟩) (by simp)).trans (by simp)
          have b2 : wr.cell? ⟨w.heap.size, 2, none⟩ = some (.slice a xs.length cap) := (hbel.cell (p := ⟨w.heap.size, 2, none⟩) (by simp)).trans (by simp)
          by_cases hlt : k < xs.length
          · obtain ⟨g, rfl, hg, hg1, hel, _⟩ := R.out.at (((bel0 w _).trans (hbel.mono (by omega))).mono hhi) hlt
            obtain ⟨e0, e1, e2, e3, e4⟩ := hel
            obtain ⟨c, hc⟩ : ∃ c, c = xs.getD k P5.zero := ⟨_, rfl⟩
            rw [← hc] at e0 e1 e2 e3 e4
            have HC : Hid (c = pat xs k) := Lib.hid hc
            have HB0 : Hid (Below w.heap.size w (wr.alloc (.cells #[.int .i64 c.x, .int .i64 c.y, .int .i64 c.w, .int .i64 c.h, .int .i64 c.c] 34))) := Lib.hid (bel_n ((bel0 w _).trans (hbel.mono (by omega))) (Nat.le_refl _) _)
            have b0' := kept (bel0 wr (.cells #[.int .i64 c.x, .int .i64 c.y, .int .i64 c.w, .int .i64 c.h, .int .i64 c.c] 34)) b0
            have b1' := kept (bel0 wr (.cells #[.int .i64 c.x, .int .i64 c.y, .int .i64 c.w, .int .i64 c.h, .int .i64 c.c] 34)) b1
            have b2' := kept (bel0 wr (.cells #[.int .i64 c.x, .int .i64 c.y, .int .i64 c.w, .int .i64 c.h, .int .i64 c.c] 34)) b2
            clear hc
            by_cases f0 : 0 ≤ c.x ∧ c.x ≤ m - 1
            · obtain ⟨f00, f01⟩ := f0
              by_cases f1 : 0 ≤ c.y ∧ c.y ≤ n - 1
              · obtain ⟨f10, f11⟩ := f1
                by_cases f2 : 1 ≤ c.w ∧ c.w ≤ m - c.x
                · obtain ⟨f20, f21⟩ := f2
                  by_cases f3 : 1 ≤ c.h ∧ c.h ≤ n - c.y
                  · obtain ⟨f30, f31⟩ := f3
                    by_cases f4 : 0 ≤ c.c ∧ c.c ≤ 5
                    · obtain ⟨f40, f41⟩ := f4
                      go_wp2_with fail
                      refine (In_yes _ _ _ _ f00 f01).mono ?_
                      rintro e w' ⟨rfl, rfl⟩
                      go_wp2_with fail
                      refine (In_yes _ _ _ _ f10 f11).mono ?_
                      rintro e w' ⟨rfl, rfl⟩
                      go_wp2_with fail
                      refine (In_yes _ _ _ _ f20 f21).mono ?_
                      rintro e w' ⟨rfl, rfl⟩
                      go_wp2_with fail
                      refine (In_yes _ _ _ _ f30 f31).mono ?_
                      rintro e w' ⟨rfl, rfl⟩
                      go_wp2_with fail
                      refine (In_yes _ _ _ _ f40 f41).mono ?_
                      rintro e w' ⟨rfl, rfl⟩
                      obtain ⟨wo, rfl⟩ : ∃ wo : World, wo = wr := ⟨_, rfl⟩
                      go_wp2_with fail
                      go_loopw [6] (fun i wr => ∃ i' : Nat, i' ≤ k ∧ i = .int .i64 i' ∧ Hid (∀ j, j < i' → ¬ Hit (pat xs k) (pat xs j)) ∧ Below (wo.heap.size + 1) (wo.alloc (.cells #[.int .i64 c.x, .int .i64 c.y, .int .i64 c.w, .int .i64 c.h, .int .i64 c.c] 34)) wr) (fun i _ => k - (intOf i).toNat)
                      case atStart => exact ⟨0, Nat.zero_le _, rfl, Lib.hid (fun j hj => by omega), Below.refl _ _⟩
                      case round =>
                        obtain ⟨i, hik, rfl, hno, hbi⟩ := hrel
                        have HBW : Below (w.heap.size + 1) (w.alloc (.cells #[.int .i64 m, .int .i64 n, .slice (some ⟨g, 0, none⟩) xs.length cap] 26)) wr := hbel.trans ((bel_n (Below.refl _ _) (by omega) _).trans (hbi.mono (by omega)))
                        have b0 : wr.cell? ⟨w.heap.size, 0, none⟩ = some (.int .i64 m) := (HBW.cell (p := ⟨w.heap.size, 0, none⟩) (by simp)).trans (by simp)
                        have b1 : wr.cell? ⟨w.heap.size, 1, none⟩ = some (.int .i64 n) := (HBW.cell (p := ⟨w.heap.size, 1, none⟩) (by simp)).trans (by simp)
                        have b2 : wr.cell? ⟨w.heap.size, 2, none⟩ = some (.slice (some ⟨g, 0, none⟩) xs.length cap) := (HBW.cell (p := ⟨w.heap.size, 2, none⟩) (by simp)).trans (by simp)
                        have e0 : wr.cell? ⟨wo.heap.size, 0, none⟩ = some (.int .i64 c.x) := (hbi.cell (p := ⟨wo.heap.size, 0, none⟩) (by simp)).trans (by simp)
                        have e1 : wr.cell? ⟨wo.heap.size, 1, none⟩ = some (.int .i64 c.y) := (hbi.cell (p := ⟨wo.heap.size, 1, none⟩) (by simp)).trans (by simp)
                        have e2 : wr.cell? ⟨wo.heap.size, 2, none⟩ = some (.int .i64 c.w) := (hbi.cell (p := ⟨wo.heap.size, 2, none⟩) (by simp)).trans (by simp)
                        have e3 : wr.cell? ⟨wo.heap.size, 3, none⟩ = some (.int .i64 c.h) := (hbi.cell (p := ⟨wo.heap.size, 3, none⟩) (by simp)).trans (by simp)
                        have e4 : wr.cell? ⟨wo.heap.size, 4, none⟩ = some (.int .i64 c.c) := (hbi.cell (p := ⟨wo.heap.size, 4, none⟩) (by simp)).trans (by simp)
                        by_cases hlt2 : i < k
                        · obtain ⟨g', hg', _, _, hel, _⟩ := R.out.at (((bel0 w _).trans (HBW.mono (by omega))).mono hhi) (i := i) (by omega)
                          obtain rfl : g = g' := by simpa using hg'
                          clear hg'
                          obtain ⟨q0, q1, q2, q3, q4⟩ := hel
                          obtain ⟨d, hd⟩ : ∃ d, d = xs.getD i P5.zero := ⟨_, rfl⟩
                          have HF : Hid (Fit m n d) := Lib.hid (by rw [hd]; exact (hall.out i hlt2).1)
                          rw [← hd] at q0 q1 q2 q3 q4
                          have HD : Hid (d = pat xs i) := Lib.hid hd
                          obtain ⟨⟨d00, d01⟩, ⟨d10, d11⟩, ⟨d20, d21⟩, ⟨d30, d31⟩, _⟩ := HF.out
                          have HB2 : Hid (Below w.heap.size w wr) := Lib.hid ((bel0 w _).trans (HBW.mono (by omega)))
                          have HB3 := Lib.hid (bel_n hbi (by simp) (.cells #[.int .i64 d.x, .int .i64 d.y, .int .i64 d.w, .int .i64 d.h, .int .i64 d.c] 34))
                          have hsi := hbi.size
                          simp at hsi
                          have e0' := kept (bel0 wr (.cells #[.int .i64 d.x, .int .i64 d.y, .int .i64 d.w, .int .i64 d.h, .int .i64 d.c] 34)) e0
                          have e1' := kept (bel0 wr (.cells #[.int .i64 d.x, .int .i64 d.y, .int .i64 d.w, .int .i64 d.h, .int .i64 d.c] 34)) e1
                          have e2' := kept (bel0 wr (.cells #[.int .i64 d.x, .int .i64 d.y, .int .i64 d.w, .int .i64 d.h, .int .i64 d.c] 34)) e2
                          have e3' := kept (bel0 wr (.cells #[.int .i64 d.x, .int .i64 d.y, .int .i64 d.w, .int .i64 d.h, .int .i64 d.c] 34)) e3
                          have e4' := kept (bel0 wr (.cells #[.int .i64 d.x, .int .i64 d.y, .int .i64 d.w, .int .i64 d.h, .int .i64 d.c] 34)) e4
                          clear hd hbi HBW
                          by_cases g0 : c.x < d.x + d.w
                          · by_cases g1 : d.x < c.x + c.w
                            · by_cases g2 : c.y < d.y + d.h
                              · by_cases g3 : d.y < c.y + c.h
                                · have HH := Lib.hid (lay_no_hit (n := n) (m := m) hlt hlt2 (by rw [← HC.out, ← HD.out]; exact ⟨g0, g1, g2, g3⟩))
                                  go_wp2_with fail
                                  go_ret
                                  exact ⟨ret_bool HH.out, bel_n HB2.out (Nat.le_refl _) _⟩
                                · have HN : Hid (∀ j, j < i + 1 → ¬ Hit (pat xs k) (pat xs j)) := Lib.hid (fun j hj => by
                                    rcases Nat.lt_succ_iff_lt_or_eq.1 hj with h | rfl
                                    · exact hno.out j h
                                    · rw [← HC.out, ← HD.out]; exact fun z => g3 z.2.2.2)
                                  go_wp2_with fail
                                  go_roundw
                                  case rel => exact ⟨i + 1, by omega, by go_num, HN, HB3.out⟩
                                  case measure => simp [intOf] <;> omega
                              · have HN : Hid (∀ j, j < i + 1 → ¬ Hit (pat xs k) (pat xs j)) := Lib.hid (fun j hj => by
                                  rcases Nat.lt_succ_iff_lt_or_eq.1 hj with h | rfl
                                  · exact hno.out j h
                                  · rw [← HC.out, ← HD.out]; exact fun z => g2 z.2.2.1)
                                go_wp2_with fail
                                go_roundw
                                case rel => exact ⟨i + 1, by omega, by go_num, HN, HB3.out⟩
                                case measure => simp [intOf] <;> omega
                            · have HN : Hid (∀ j, j < i + 1 → ¬ Hit (pat xs k) (pat xs j)) := Lib.hid (fun j hj => by
                                rcases Nat.lt_succ_iff_lt_or_eq.1 hj with h | rfl
                                · exact hno.out j h
                                · rw [← HC.out, ← HD.out]; exact fun z => g1 z.2.1)
                              go_wp2_with fail
                              go_roundw
                              case rel => exact ⟨i + 1, by omega, by go_num, HN, HB3.out⟩
                              case measure => simp [intOf] <;> omega
                          · have HN : Hid (∀ j, j < i + 1 → ¬ Hit (pat xs k) (pat xs j)) := Lib.hid (fun j hj => by
                              rcases Nat.lt_succ_iff_lt_or_eq.1 hj with h | rfl
                              · exact hno.out j h
                              · rw [← HC.out, ← HD.out]; exact fun z => g0 z.1)
                            go_wp2_with fail
                            go_roundw
                            case rel => exact ⟨i + 1, by omega, by go_num, HN, HB3.out⟩
                            case measure => simp [intOf] <;> omega
                        · obtain rfl : i = k := by omega
                          have HN := Lib.hid (hall.out.succ (by rw [← HC.out]; exact ⟨⟨f00, f01⟩, ⟨f10, f11⟩, ⟨f20, f21⟩, ⟨f30, f31⟩, ⟨f40, f41⟩⟩) hno.out)
                          have HA := Lib.hid (ar_succ HAr.out HC.out)
                          obtain ⟨hw, s0, s1⟩ := mul_wrap (a := c.w) (b := c.h) (by omega) (by omega) (by omega) (by omega)
                          have HBQ := Lib.hid HBW
                          clear HBW hbi
                          go_wp2_with fail
                          go_roundw
                          case rel => exact ⟨i + 1, _, by omega, by go_num, rfl, HA, by omega, by omega, HN, HBQ.out⟩
                          case measure => simp [intOf] <;> omega
                    · have HH := Lib.hid (lay_no_fit (n := n) (m := m) hlt (by rw [← HC.out]; intro k; exact f4 k.2.2.2.2))
                      have HN : c.c < 0 ∨ 5 < c.c := by omega
                      clear f4
                      go_wp2_with fail
                      refine (In_yes _ _ _ _ f00 f01).mono ?_
                      rintro e w' ⟨rfl, rfl⟩
                      go_wp2_with fail
                      refine (In_yes _ _ _ _ f10 f11).mono ?_
                      rintro e w' ⟨rfl, rfl⟩
                      go_wp2_with fail
                      refine (In_yes _ _ _ _ f20 f21).mono ?_
                      rintro e w' ⟨rfl, rfl⟩
                      go_wp2_with fail
                      refine (In_yes _ _ _ _ f30 f31).mono ?_
                      rintro e w' ⟨rfl, rfl⟩
                      go_wp2_with fail
                      refine (In_no _ _ _ _ HN).mono ?_
                      rintro e w' ⟨rfl, rfl⟩
                      go_wp2_with fail
                      go_ret
                      exact ⟨ret_bool HH.out, HB0.out⟩
                  · have HH := Lib.hid (lay_no_fit (n := n) (m := m) hlt (by rw [← HC.out]; intro k; exact f3 k.2.2.2.1))
                    have HN : c.h < 1 ∨ n - c.y < c.h := by omega
                    clear f3
                    go_wp2_with fail
                    refine (In_yes _ _ _ _ f00 f01).mono ?_
                    rintro e w' ⟨rfl, rfl⟩
                    go_wp2_with fail
                    refine (In_yes _ _ _ _ f10 f11).mono ?_
                    rintro e w' ⟨rfl, rfl⟩
                    go_wp2_with fail
                    refine (In_yes _ _ _ _ f20 f21).mono ?_
                    rintro e w' ⟨rfl, rfl⟩
                    go_wp2_with fail
                    refine (In_no _ _ _ _ HN).mono ?_
                    rintro e w' ⟨rfl, rfl⟩
                    go_wp2_with fail
                    go_ret
                    exact ⟨ret_bool HH.out, HB0.out⟩
                · have HH := Lib.hid (lay_no_fit (n := n) (m := m) hlt (by rw [← HC.out]; intro k; exact f2 k.2.2.1))
                  have HN : c.w < 1 ∨ m - c.x < c.w := by omega
                  clear f2
                  go_wp2_with fail
                  refine (In_yes _ _ _ _ f00 f01).mono ?_
                  rintro e w' ⟨rfl, rfl⟩
                  go_wp2_with fail
                  refine (In_yes _ _ _ _ f10 f11).mono ?_
                  rintro e w' ⟨rfl, rfl⟩
                  go_wp2_with fail
                  refine (In_no _ _ _ _ HN).mono ?_
                  rintro e w' ⟨rfl, rfl⟩
                  go_wp2_with fail
                  go_ret
                  exact ⟨ret_bool HH.out, HB0.out⟩
              · have HH := Lib.hid (lay_no_fit (n := n) (m := m) hlt (by rw [← HC.out]; intro k; exact f1 k.2.1))
                have HN : c.y < 0 ∨ n - 1 < c.y := by omega
                clear f1
                go_wp2_with fail
                refine (In_yes _ _ _ _ f00 f01).mono ?_
                rintro e w' ⟨rfl, rfl⟩
                go_wp2_with fail
                refine (In_no _ _ _ _ HN).mono ?_
                rintro e w' ⟨rfl, rfl⟩
                go_wp2_with fail
                go_ret
                exact ⟨ret_bool HH.out, HB0.out⟩
            · have HH := Lib.hid (lay_no_fit (n := n) (m := m) hlt (by rw [← HC.out]; intro k; exact f0 k.1))
              have HN : c.x < 0 ∨ m - 1 < c.x := by omega
              clear f0
              go_wp2_with fail
              refine (In_no _ _ _ _ HN).mono ?_
              rintro e w' ⟨rfl, rfl⟩
              go_wp2_with fail
              go_ret
              exact ⟨ret_bool HH.out, HB0.out⟩
          · obtain rfl : k = xs.length := by omega
            have HH := Lib.hid (lay_is ⟨p00, p01⟩ ⟨p10, p11⟩ ⟨p20, p21⟩ hall.out)
            have HB0 := Lib.hid ((bel0 w _).trans (hbel.mono (by omega)))
            obtain ⟨hw, s0, s1⟩ := mul_wrap (a := m) (b := n) (by omega) (by omega) (by omega) (by omega)
            clear hbel
            go_wp2_with fail
            go_ret
            exact ⟨ret_bool (by rw [← HH.out, ← HAr.out]; first | rfl | simp [Int.beq_eq] | (by_cases z : A = m * n <;> simp [z])), HB0.out⟩
      · have HH := Lib.hid (lay_no_l (m := m) (n := n) (xs := xs) h2)
        have HN : (xs.length : Int) < 1 ∨ 12 < (xs.length : Int) := by omega
        clear h2
        go_enter Try.func37, Try.ntmps37
        go_wp2_with fail
        refine (In_yes _ _ _ _ p00 p01).mono ?_
        rintro e w' ⟨rfl, rfl⟩
        go_wp2_with fail
        refine (In_yes _ _ _ _ p10 p11).mono ?_
        rintro e w' ⟨rfl, rfl⟩
        go_wp2_with fail
        refine (In_no _ _ _ _ HN).mono ?_
        rintro e w' ⟨rfl, rfl⟩
        go_wp2_with fail
        go_ret
        exact ⟨ret_bool HH.out, bel0 _ _⟩
    · have HH := Lib.hid (lay_no_n (m := m) (n := n) (xs := xs) h1)
      have HN : n < 1 ∨ 12 < n := by omega
      clear h1
      go_enter Try.func37, Try.ntmps37
      go_wp2_with fail
      refine (In_yes _ _ _ _ p00 p01).mono ?_
      rintro e w' ⟨rfl, rfl⟩
      go_wp2_with fail
      refine (In_no _ _ _ _ HN).mono ?_
      rintro e w' ⟨rfl, rfl⟩
      go_wp2_with fail
      go_ret
      exact ⟨ret_bool HH.out, bel0 _ _⟩
  · have HH := Lib.hid (lay_no_m (m := m) (n := n) (xs := xs) h0)
    have HN : m < 1 ∨ 12 < m := by omega
    clear h0
    go_enter Try.func37, Try.ntmps37
    go_wp2_with fail
    refine (In_no _ _ _ _ HN).mono ?_
    rintro e w' ⟨rfl, rfl⟩
    go_wp2_with fail
    go_ret
    exact ⟨ret_bool HH.out, bel0 _ _⟩

end Go.Proofs.Ytboahceibeeifaa

set_option linter.unusedSimpArgs false
set_option linter.unusedVariables false
namespace Go.Proofs.Ytboahceibeeifaa
open Go.ChangeShapes Go.WideShapes Go.ChangeAt Go.RowKit

set_option maxHeartbeats 3200000 in
set_option maxRecDepth 20000 in
theorem SpecIsCut_any (lo hi : Nat) (m n : Int) (v : Value) (xs : List P5) (up : Bool) (a : Int) (w : World) (r : PatIn lo hi w v xs) (hhi : hi ≤ w.heap.size) :
    Calls Try.prog 62 #[.agg #[.int .i64 m, .int .i64 n, v], .agg #[.bool up, .int .i64 a]] w fun e w' => e = .returned (.bool (cutB m n xs ⟨up, a⟩)) ∧ Below w.heap.size w w' := by
  obtain ⟨b, cap, rfl⟩ := r.form
  have R := Lib.hid r
  have hl := r.1
  have LK : Hid (∀ u : World, Below w.heap.size w u → Calls Try.prog 37 #[.agg #[.int .i64 m, .int .i64 n, .slice b xs.length cap]] u fun e w' => e = .returned (.bool (layB m n xs)) ∧ Below u.heap.size u w') := Lib.hid (fun u hb => SpecLayoutOk_any lo hi m n _ xs u (r.below (hb.mono hhi)) (Nat.le_trans hhi hb.size))
  clear r
  cases up
  · have HB0 : Hid (Below w.heap.size w ((w.alloc (.cells #[.int .i64 m, .int .i64 n, .slice b xs.length cap] 26)).alloc (.cells #[.bool false, .int .i64 a] 71))) := Lib.hid (bel_n (bel0 w _) (Nat.le_refl _) _)
    by_cases h : layB m n xs = false
    · have HH := Lib.hid (cut_no_lay (c := ⟨false, a⟩) h)
      rw [h] at LK
      clear h
      go_enter Try.func62, Try.ntmps62
      go_wp2_with fail
      refine (LK.out _ HB0.out).mono ?_
      rintro e w1 ⟨rfl, hb1⟩
      have HBZ := Lib.hid (bel_c HB0.out (Nat.le_refl _) hb1)
      clear hb1
      go_wp2_with fail
      go_ret
      exact ⟨ret_bool HH.out, HBZ.out⟩
    · have h' : layB m n xs = true := by simpa using h
      obtain ⟨⟨p00, p01⟩, ⟨p10, p11⟩, ⟨p20, p21⟩, HL4, _⟩ := lay_of h'
      have HF : Hid (∀ i, i < xs.length → Fit m n (pat xs i)) := Lib.hid (fun i hi => (HL4 i hi).1)
      have HL := Lib.hid (cut_lay (c := ⟨false, a⟩) h')
      rw [h'] at LK
      clear h h' HL4
      by_cases h0 : 1 ≤ a ∧ a ≤ n - 1
      · obtain ⟨h1, h2⟩ := h0
        go_enter Try.func62, Try.ntmps62
        go_wp2_with fail
        refine (LK.out _ HB0.out).mono ?_
        rintro e w1 ⟨rfl, hb1⟩
        have HB1 : Below ((w.alloc (.cells #[.int .i64 m, .int .i64 n, .slice b xs.length cap] 26)).alloc (.cells #[.bool false, .int .i64 a] 71)).heap.size ((w.alloc (.cells #[.int .i64 m, .int .i64 n, .slice b xs.length cap] 26)).alloc (.cells #[.bool false, .int .i64 a] 71)) w1 := hb1
        have b0 := kept (p := ⟨w.heap.size, 0, none⟩) (x := .int .i64 m) hb1 (by go_simp)
        have b1 := kept (p := ⟨w.heap.size, 1, none⟩) (x := .int .i64 n) hb1 (by go_simp)
        have b2 := kept (p := ⟨w.heap.size, 2, none⟩) (x := .slice b xs.length cap) hb1 (by go_simp)
        have b3 := kept (p := ⟨w.heap.size + 1, 0, none⟩) (x := .bool false) hb1 (by go_simp)
        have b4 := kept (p := ⟨w.heap.size + 1, 1, none⟩) (x := .int .i64 a) hb1 (by go_simp)
        clear hb1
        go_wp2_with fail
        refine (In_yes _ _ _ _ h1 h2).mono ?_
        rintro e w' ⟨rfl, rfl⟩
        go_wp2_with fail
        go_loopw [6] (fun i wr => ∃ k : Nat, k ≤ xs.length ∧ i = .int .i64 k ∧ Hid (∀ j, j < k → thr ⟨false, a⟩ (pat xs j) = false) ∧ Below ((w.alloc (.cells #[.int .i64 m, .int .i64 n, .slice b xs.length cap] 26)).alloc (.cells #[.bool false, .int .i64 a] 71)).heap.size ((w.alloc (.cells #[.int .i64 m, .int .i64 n, .slice b xs.length cap] 26)).alloc (.cells #[.bool false, .int .i64 a] 71)) wr) (fun i _ => xs.length - (intOf i).toNat)
        case atStart => exact ⟨0, Nat.zero_le _, rfl, Lib.hid (fun j hj => by omega), HB1⟩
        case round =>
          obtain ⟨k, hk, rfl, hno, hbel⟩ := hrel
          have hsz := hbel.size
          simp at hsz
          have b0 : wr.cell? ⟨w.heap.size, 0, none⟩ = some (.int .i64 m) := (hbel.cell (p := ⟨w.heap.size, 0, none⟩) (by simp; omega)).trans (by simp)
          have b1 : wr.cell? ⟨w.heap.size, 1, none⟩ = some (.int .i64 n) := (hbel.cell (p := ⟨w.heap.size, 1, none⟩) (by simp; omega)).trans (by simp)
          have b2 : wr.cell? ⟨w.heap.size, 2, none⟩ = some (.slice b xs.length cap) := (hbel.cell (p := ⟨w.heap.size, 2, none⟩) (by simp; omega)).trans (by simp)
          have b3 : wr.cell? ⟨w.heap.size + 1, 0, none⟩ = some (.bool false) := (hbel.cell (p := ⟨w.heap.size + 1, 0, none⟩) (by simp)).trans (by simp)
          have b4 : wr.cell? ⟨w.heap.size + 1, 1, none⟩ = some (.int .i64 a) := (hbel.cell (p := ⟨w.heap.size + 1, 1, none⟩) (by simp)).trans (by simp)
          by_cases hlt : k < xs.length
          · obtain ⟨g, rfl, hg, hg1, hel, _⟩ := R.out.at ((bel_c HB0.out (Nat.le_refl _) hbel).mono hhi) hlt
            obtain ⟨q0, q1, q2, q3, q4⟩ := hel
            obtain ⟨d, hd⟩ : ∃ d, d = xs.getD k P5.zero := ⟨_, rfl⟩
            obtain ⟨⟨f00, f01⟩, ⟨f10, f11⟩, ⟨f20, f21⟩, ⟨f30, f31⟩, _⟩ : Fit m n d := by rw [hd]; exact HF.out k hlt
            rw [← hd] at q0 q1 q2 q3 q4
            have HD : Hid (d = pat xs k) := Lib.hid hd
            have HB3 := Lib.hid (bel_n hbel (Nat.le_refl _) (.cells #[.int .i64 d.x, .int .i64 d.y, .int .i64 d.w, .int .i64 d.h, .int .i64 d.c] 34))
            have HB2 := Lib.hid (bel_c HB0.out (Nat.le_refl _) HB3.out)
            have b0' := kept (bel0 wr (.cells #[.int .i64 d.x, .int .i64 d.y, .int .i64 d.w, .int .i64 d.h, .int .i64 d.c] 34)) b0
            have b1' := kept (bel0 wr (.cells #[.int .i64 d.x, .int .i64 d.y, .int .i64 d.w, .int .i64 d.h, .int .i64 d.c] 34)) b1
            have b2' := kept (bel0 wr (.cells #[.int .i64 d.x, .int .i64 d.y, .int .i64 d.w, .int .i64 d.h, .int .i64 d.c] 34)) b2
            have b3' := kept (bel0 wr (.cells #[.int .i64 d.x, .int .i64 d.y, .int .i64 d.w, .int .i64 d.h, .int .i64 d.c] 34)) b3
            have b4' := kept (bel0 wr (.cells #[.int .i64 d.x, .int .i64 d.y, .int .i64 d.w, .int .i64 d.h, .int .i64 d.c] 34)) b4
            clear hd hbel
            by_cases z1 : d.y < a
            · by_cases z2 : a < d.y + d.h
              · have HH := Lib.hid (has_no_at (m := m) (n := n) (c := ⟨false, a⟩) hlt (by rw [← HD.out]; simp [thr, z1, z2]))
                go_wp2_with fail
                go_ret
                exact ⟨ret_bool (HH.out.trans HL.out), HB2.out⟩
              · have HN : Hid (∀ j, j < k + 1 → thr ⟨false, a⟩ (pat xs j) = false) := Lib.hid (fun j hj => by
                  rcases Nat.lt_succ_iff_lt_or_eq.1 hj with h | rfl
                  · exact hno.out j h
                  · rw [← HD.out]; exact thr_f.2 (by omega))
                go_wp2_with fail
                go_roundw
                case rel => exact ⟨k + 1, by omega, by go_num, HN, HB3.out⟩
                case measure => simp [intOf] <;> omega
            · have HN : Hid (∀ j, j < k + 1 → thr ⟨false, a⟩ (pat xs j) = false) := Lib.hid (fun j hj => by
                rcases Nat.lt_succ_iff_lt_or_eq.1 hj with h | rfl
                · exact hno.out j h
                · rw [← HD.out]; exact thr_f.2 (by omega))
              go_wp2_with fail
              go_roundw
              case rel => exact ⟨k + 1, by omega, by go_num, HN, HB3.out⟩
              case measure => simp [intOf] <;> omega
          · obtain rfl : k = xs.length := by omega
            have HH := Lib.hid (has_yes (m := m) (n := n) (xs := xs) (c := ⟨false, a⟩) (by show 0 < a; omega) (by simp [endC]; omega) hno.out)
            have HBZ := Lib.hid (bel_c HB0.out (Nat.le_refl _) hbel)
            clear hbel
            go_wp2_with fail
            go_ret
            exact ⟨ret_bool (HH.out.trans HL.out), HBZ.out⟩
      · have h1 : a < 1 ∨ n - 1 < a := by omega
        have HH : Hid (false = hasC m n xs ⟨false, a⟩) := Lib.hid (by
          rcases h1 with h1 | h1
          · exact has_no_lo (by show a ≤ 0; omega)
          · exact has_no_hi (by simp [endC]; omega))
        clear h0
        go_enter Try.func62, Try.ntmps62
        go_wp2_with fail
        refine (LK.out _ HB0.out).mono ?_
        rintro e w1 ⟨rfl, hb1⟩
        have HBZ := Lib.hid (bel_c HB0.out (Nat.le_refl _) hb1)
        have b0 := kept (p := ⟨w.heap.size, 0, none⟩) (x := .int .i64 m) hb1 (by go_simp)
        have b1 := kept (p := ⟨w.heap.size, 1, none⟩) (x := .int .i64 n) hb1 (by go_simp)
        have b2 := kept (p := ⟨w.heap.size, 2, none⟩) (x := .slice b xs.length cap) hb1 (by go_simp)
        have b3 := kept (p := ⟨w.heap.size + 1, 0, none⟩) (x := .bool false) hb1 (by go_simp)
        have b4 := kept (p := ⟨w.heap.size + 1, 1, none⟩) (x := .int .i64 a) hb1 (by go_simp)
        clear hb1
        go_wp2_with fail
        refine (In_no _ _ _ _ h1).mono ?_
        rintro e w' ⟨rfl, rfl⟩
        go_wp2_with fail
        go_ret
        exact ⟨ret_bool (HH.out.trans HL.out), HBZ.out⟩
  · have HB0 : Hid (Below w.heap.size w ((w.alloc (.cells #[.int .i64 m, .int .i64 n, .slice b xs.length cap] 26)).alloc (.cells #[.bool true, .int .i64 a] 71))) := Lib.hid (bel_n (bel0 w _) (Nat.le_refl _) _)
    by_cases h : layB m n xs = false
    · have HH := Lib.hid (cut_no_lay (c := ⟨true, a⟩) h)
      rw [h] at LK
      clear h
      go_enter Try.func62, Try.ntmps62
      go_wp2_with fail
      refine (LK.out _ HB0.out).mono ?_
      rintro e w1 ⟨rfl, hb1⟩
      have HBZ := Lib.hid (bel_c HB0.out (Nat.le_refl _) hb1)
      clear hb1
      go_wp2_with fail
      go_ret
      exact ⟨ret_bool HH.out, HBZ.out⟩
    · have h' : layB m n xs = true := by simpa using h
      obtain ⟨⟨p00, p01⟩, ⟨p10, p11⟩, ⟨p20, p21⟩, HL4, _⟩ := lay_of h'
      have HF : Hid (∀ i, i < xs.length → Fit m n (pat xs i)) := Lib.hid (fun i hi => (HL4 i hi).1)
      have HL := Lib.hid (cut_lay (c := ⟨true, a⟩) h')
      rw [h'] at LK
      clear h h' HL4
      by_cases h0 : 1 ≤ a ∧ a ≤ m - 1
      · obtain ⟨h1, h2⟩ := h0
        go_enter Try.func62, Try.ntmps62
        go_wp2_with fail
        refine (LK.out _ HB0.out).mono ?_
        rintro e w1 ⟨rfl, hb1⟩
        have HB1 : Below ((w.alloc (.cells #[.int .i64 m, .int .i64 n, .slice b xs.length cap] 26)).alloc (.cells #[.bool true, .int .i64 a] 71)).heap.size ((w.alloc (.cells #[.int .i64 m, .int .i64 n, .slice b xs.length cap] 26)).alloc (.cells #[.bool true, .int .i64 a] 71)) w1 := hb1
        have b0 := kept (p := ⟨w.heap.size, 0, none⟩) (x := .int .i64 m) hb1 (by go_simp)
        have b1 := kept (p := ⟨w.heap.size, 1, none⟩) (x := .int .i64 n) hb1 (by go_simp)
        have b2 := kept (p := ⟨w.heap.size, 2, none⟩) (x := .slice b xs.length cap) hb1 (by go_simp)
        have b3 := kept (p := ⟨w.heap.size + 1, 0, none⟩) (x := .bool true) hb1 (by go_simp)
        have b4 := kept (p := ⟨w.heap.size + 1, 1, none⟩) (x := .int .i64 a) hb1 (by go_simp)
        clear hb1
        go_wp2_with fail
        refine (In_yes _ _ _ _ h1 h2).mono ?_
        rintro e w' ⟨rfl, rfl⟩
        go_wp2_with fail
        go_loopw [6] (fun i wr => ∃ k : Nat, k ≤ xs.length ∧ i = .int .i64 k ∧ Hid (∀ j, j < k → thr ⟨true, a⟩ (pat xs j) = false) ∧ Below ((w.alloc (.cells #[.int .i64 m, .int .i64 n, .slice b xs.length cap] 26)).alloc (.cells #[.bool true, .int .i64 a] 71)).heap.size ((w.alloc (.cells #[.int .i64 m, .int .i64 n, .slice b xs.length cap] 26)).alloc (.cells #[.bool true, .int .i64 a] 71)) wr) (fun i _ => xs.length - (intOf i).toNat)
        case atStart => exact ⟨0, Nat.zero_le _, rfl, Lib.hid (fun j hj => by omega), HB1⟩
        case round =>
          obtain ⟨k, hk, rfl, hno, hbel⟩ := hrel
          have hsz := hbel.size
          simp at hsz
          have b0 : wr.cell? ⟨w.heap.size, 0, none⟩ = some (.int .i64 m) := (hbel.cell (p := ⟨w.heap.size, 0, none⟩) (by simp; omega)).trans (by simp)
          have b1 : wr.cell? ⟨w.heap.size, 1, none⟩ = some (.int .i64 n) := (hbel.cell (p := ⟨w.heap.size, 1, none⟩) (by simp; omega)).trans (by simp)
          have b2 : wr.cell? ⟨w.heap.size, 2, none⟩ = some (.slice b xs.length cap) := (hbel.cell (p := ⟨w.heap.size, 2, none⟩) (by simp; omega)).trans (by simp)
          have b3 : wr.cell? ⟨w.heap.size + 1, 0, none⟩ = some (.bool true) := (hbel.cell (p := ⟨w.heap.size + 1, 0, none⟩) (by simp)).trans (by simp)
          have b4 : wr.cell? ⟨w.heap.size + 1, 1, none⟩ = some (.int .i64 a) := (hbel.cell (p := ⟨w.heap.size + 1, 1, none⟩) (by simp)).trans (by simp)
          by_cases hlt : k < xs.length
          · obtain ⟨g, rfl, hg, hg1, hel, _⟩ := R.out.at ((bel_c HB0.out (Nat.le_refl _) hbel).mono hhi) hlt
            obtain ⟨q0, q1, q2, q3, q4⟩ := hel
            obtain ⟨d, hd⟩ : ∃ d, d = xs.getD k P5.zero := ⟨_, rfl⟩
            obtain ⟨⟨f00, f01⟩, ⟨f10, f11⟩, ⟨f20, f21⟩, ⟨f30, f31⟩, _⟩ : Fit m n d := by rw [hd]; exact HF.out k hlt
            rw [← hd] at q0 q1 q2 q3 q4
            have HD : Hid (d = pat xs k) := Lib.hid hd
            have HB3 := Lib.hid (bel_n hbel (Nat.le_refl _) (.cells #[.int .i64 d.x, .int .i64 d.y, .int .i64 d.w, .int .i64 d.h, .int .i64 d.c] 34))
            have HB2 := Lib.hid (bel_c HB0.out (Nat.le_refl _) HB3.out)
            have b0' := kept (bel0 wr (.cells #[.int .i64 d.x, .int .i64 d.y, .int .i64 d.w, .int .i64 d.h, .int .i64 d.c] 34)) b0
            have b1' := kept (bel0 wr (.cells #[.int .i64 d.x, .int .i64 d.y, .int .i64 d.w, .int .i64 d.h, .int .i64 d.c] 34)) b1
            have b2' := kept (bel0 wr (.cells #[.int .i64 d.x, .int .i64 d.y, .int .i64 d.w, .int .i64 d.h, .int .i64 d.c] 34)) b2
            have b3' := kept (bel0 wr (.cells #[.int .i64 d.x, .int .i64 d.y, .int .i64 d.w, .int .i64 d.h, .int .i64 d.c] 34)) b3
            have b4' := kept (bel0 wr (.cells #[.int .i64 d.x, .int .i64 d.y, .int .i64 d.w, .int .i64 d.h, .int .i64 d.c] 34)) b4
            clear hd hbel
            by_cases z1 : d.x < a
            · by_cases z2 : a < d.x + d.w
              · have HH := Lib.hid (has_no_at (m := m) (n := n) (c := ⟨true, a⟩) hlt (by rw [← HD.out]; simp [thr, z1, z2]))
                go_wp2_with fail
                go_ret
                exact ⟨ret_bool (HH.out.trans HL.out), HB2.out⟩
              · have HN : Hid (∀ j, j < k + 1 → thr ⟨true, a⟩ (pat xs j) = false) := Lib.hid (fun j hj => by
                  rcases Nat.lt_succ_iff_lt_or_eq.1 hj with h | rfl
                  · exact hno.out j h
                  · rw [← HD.out]; exact thr_t.2 (by omega))
                go_wp2_with fail
                go_roundw
                case rel => exact ⟨k + 1, by omega, by go_num, HN, HB3.out⟩
                case measure => simp [intOf] <;> omega
            · have HN : Hid (∀ j, j < k + 1 → thr ⟨true, a⟩ (pat xs j) = false) := Lib.hid (fun j hj => by
                rcases Nat.lt_succ_iff_lt_or_eq.1 hj with h | rfl
                · exact hno.out j h
                · rw [← HD.out]; exact thr_t.2 (by omega))
              go_wp2_with fail
              go_roundw
              case rel => exact ⟨k + 1, by omega, by go_num, HN, HB3.out⟩
              case measure => simp [intOf] <;> omega
          · obtain rfl : k = xs.length := by omega
            have HH := Lib.hid (has_yes (m := m) (n := n) (xs := xs) (c := ⟨true, a⟩) (by show 0 < a; omega) (by simp [endC]; omega) hno.out)
            have HBZ := Lib.hid (bel_c HB0.out (Nat.le_refl _) hbel)
            clear hbel
            go_wp2_with fail
            go_ret
            exact ⟨ret_bool (HH.out.trans HL.out), HBZ.out⟩
      · have h1 : a < 1 ∨ m - 1 < a := by omega
        have HH : Hid (false = hasC m n xs ⟨true, a⟩) := Lib.hid (by
          rcases h1 with h1 | h1
          · exact has_no_lo (by show a ≤ 0; omega)
          · exact has_no_hi (by simp [endC]; omega))
        clear h0
        go_enter Try.func62, Try.ntmps62
        go_wp2_with fail
        refine (LK.out _ HB0.out).mono ?_
        rintro e w1 ⟨rfl, hb1⟩
        have HBZ := Lib.hid (bel_c HB0.out (Nat.le_refl _) hb1)
        have b0 := kept (p := ⟨w.heap.size, 0, none⟩) (x := .int .i64 m) hb1 (by go_simp)
        have b1 := kept (p := ⟨w.heap.size, 1, none⟩) (x := .int .i64 n) hb1 (by go_simp)
        have b2 := kept (p := ⟨w.heap.size, 2, none⟩) (x := .slice b xs.length cap) hb1 (by go_simp)
        have b3 := kept (p := ⟨w.heap.size + 1, 0, none⟩) (x := .bool true) hb1 (by go_simp)
        have b4 := kept (p := ⟨w.heap.size + 1, 1, none⟩) (x := .int .i64 a) hb1 (by go_simp)
        clear hb1
        go_wp2_with fail
        refine (In_no _ _ _ _ h1).mono ?_
        rintro e w' ⟨rfl, rfl⟩
        go_wp2_with fail
        go_ret
        exact ⟨ret_bool (HH.out.trans HL.out), HBZ.out⟩

end Go.Proofs.Ytboahceibeeifaa
