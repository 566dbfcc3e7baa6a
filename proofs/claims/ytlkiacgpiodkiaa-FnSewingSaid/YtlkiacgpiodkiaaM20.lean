/- Rows of rows of integers that grow. Orders of sewing: ChainRounds of the program. Orders of sewing: ChainRounds of the model. -/
import Derived.Test.YtlkiacgpiodkiaaM19
import Derived.OneCell
import Derived.Test.YtlkiacgpiodkiaaM15
import Derived.Test.YtlkiacgpiodkiaaM18

set_option linter.unusedSimpArgs false
set_option linter.unusedVariables false
namespace Go.Proofs.Ytlkiacgpiodkiaa
open Go.ChangeShapes Go.WideShapes Go.ChangeAt Go.RowKit

theorem info_rowJ : (Try.prog.info? 28).map (fun i => (i.zero, i.size, i.bytes)) = some (some (.slice none 0 0), 1, 24) := by kernel_rfl
def FreshII (L : List (List Int)) (w : World) (e : Ending) (w' : World) : Prop := ∃ v, e = .returned v ∧ RowII w.heap.size w'.heap.size w' v L ∧ Below w.heap.size w w'
theorem own_lt {b e size n : Nat} {w : World} {v : Value} {xs : List Value} (h : w.ownsRow b e size v n xs) : ∀ g, v.ownBlock = some g → b ≤ g ∧ g < w.heap.size ∧ ∃ cur, w.heap[g]? = some (.cells cur e) := by
  intro g hg
  obtain ⟨_, ⟨hv, _⟩ | ⟨g', cap, cur, hv, hb, hh, _⟩⟩ := h
  · rw [hv] at hg; cases hg
  · rw [hv] at hg
    simp only [Value.ownBlock, Option.some.injEq] at hg
    subst hg
    exact ⟨hb, lt_of_heapB hh, cur, hh⟩
theorem only_grown {u w : World} {ob : Option Nat} (h : u.grownBy w ob) : Only (fun k => ob = some k) u w := ⟨h.os, h.tape, h.output, h.size, fun k hk hn => h.block k hk fun e => hn e.symm⟩
/-- The parts of an owned row of rows. -/
structure PartsII (b X : Nat) (w : World) (v : Value) (L : List (List Int)) (vs : List Value) : Prop where
  len : vs.length = L.length
  row : w.ownsRow b 28 1 v L.length vs
  ins : ∀ i, i < L.length → OwnD b w (vat vs i) (lat L i)
  dis : ∀ i, i < L.length → DisV (vat vs i) v
  dis2 : ∀ i k, i < k → k < L.length → DisV (vat vs i) (vat vs k)
  ltv : ∀ g, v.ownBlock = some g → g < X
  lts : ∀ i, i < L.length → ∀ g, (vat vs i).ownBlock = some g → g < X
theorem OwnII.parts {b : Nat} {w : World} {v : Value} {L : List (List Int)} (h : OwnII b w v L) : ∃ vs, PartsII b w.heap.size w v L vs := by
  obtain ⟨vs, h1, h2, h3, h4, h5⟩ := h
  exact ⟨vs, h1, h2, h3, h4, h5, fun g hg => (own_lt h2 g hg).2.1, fun i hi g hg => (own_lt (h3 i hi) g hg).2.1⟩
theorem PartsII.of {b : Nat} {w : World} {v : Value} {L : List (List Int)} {vs : List Value} (h1 : vs.length = L.length) (h2 : w.ownsRow b 28 1 v L.length vs) (h3 : ∀ i, i < L.length → OwnD b w (vat vs i) (lat L i)) (h4 : ∀ i, i < L.length → DisV (vat vs i) v)
    (h5 : ∀ i k, i < k → k < L.length → DisV (vat vs i) (vat vs k)) : PartsII b w.heap.size w v L vs :=
  ⟨h1, h2, h3, h4, h5, fun g hg => (own_lt h2 g hg).2.1, fun i hi g hg => (own_lt (h3 i hi) g hg).2.1⟩
theorem PartsII.own {b X : Nat} {w : World} {v : Value} {L : List (List Int)} {vs : List Value} (h : PartsII b X w v L vs) : OwnII b w v L := ⟨vs, h.len, h.row, h.ins, h.dis, h.dis2⟩
theorem PartsII.only {S : Nat → Prop} {b X : Nat} {u w : World} {v : Value} {L : List (List Int)} {vs : List Value} (h : PartsII b X u v L vs) (k : Only S u w) (hn : ∀ g, b ≤ g → (∃ cur e, u.heap[g]? = some (.cells cur e)) → ¬ S g) : PartsII b X w v L vs :=
  ⟨h.len, owO h.row k fun g hg => by
      obtain ⟨h1, _, cur, h2⟩ := own_lt h.row g hg
      exact hn g h1 ⟨cur, _, h2⟩,
    fun i hi => owO (h.ins i hi) k fun g hg => by
      obtain ⟨h1, _, cur, h2⟩ := own_lt (h.ins i hi) g hg
      exact hn g h1 ⟨cur, _, h2⟩, h.dis, h.dis2, h.ltv, h.lts⟩
theorem PartsII.below {b X : Nat} {u w : World} {v : Value} {L : List (List Int)} {vs : List Value} (h : PartsII b X u v L vs) (k : Below u.heap.size u w) : PartsII b X w v L vs :=
  ⟨h.len, owL h.row k, fun i hi => owL (h.ins i hi) k, h.dis, h.dis2, h.ltv, h.lts⟩
theorem PartsII.keep {S : Nat → Prop} {b X : Nat} {u w : World} {v : Value} {L : List (List Int)} {vs : List Value} (h : PartsII b X u v L vs) (k : Only S u w) (hv : ∀ g, v.ownBlock = some g → ¬ S g) (hs : ∀ i, i < L.length → ∀ g, (vat vs i).ownBlock = some g → ¬ S g) : PartsII b X w v L vs :=
  ⟨h.len, owO h.row k hv, fun i hi => owO (h.ins i hi) k (hs i hi), h.dis, h.dis2, h.ltv, h.lts⟩
theorem vat_old {vs : List Value} {vr : Value} {i : Nat} (h : i < vs.length) : vat (vs ++ [vr]) i = vat vs i := by
  unfold vat; rw [List.getD_eq_getElem?_getD, List.getElem?_append_left h, ← List.getD_eq_getElem?_getD]
theorem vat_new (vs : List Value) (vr : Value) : vat (vs ++ [vr]) vs.length = vr := by simp [vat]
theorem lat_old {L : List (List Int)} {ds : List Int} {i : Nat} (h : i < L.length) : lat (L ++ [ds]) i = lat L i := by
  unfold lat; rw [List.getD_eq_getElem?_getD, List.getElem?_append_left h, ← List.getD_eq_getElem?_getD]
theorem lat_new (L : List (List Int)) (ds : List Int) : lat (L ++ [ds]) L.length = ds := by simp [lat]
/-- A row is appended. -/
theorem PartsII.push {b X : Nat} {u w : World} {v vr : Value} {L : List (List Int)} {vs : List Value} {ds : List Int} {gg cc H : Nat} (h : PartsII b X u v L vs) (hr : OwnD b u vr ds) (hrX : ∀ g, vr.ownBlock = some g → X ≤ g) (hX : X ≤ u.heap.size)
    (hown : w.ownsRow b 28 1 (.slice (some ⟨gg, 0, none⟩) (L.length + 1) cc) (L.length + 1) (vs ++ [vr])) (hg : u.grownBy w v.ownBlock) (hat : v.ownBlock = some gg ∨ gg = H) (hH : u.heap.size = H) :
    PartsII b w.heap.size w (.slice (some ⟨gg, 0, none⟩) (L.length + 1) cc) (L ++ [ds]) (vs ++ [vr]) := by
  have ho := only_grown hg
  have hl := h.len
  have hob : ∀ i, i < L.length → DisV (vat vs i) (.slice (some ⟨gg, 0, none⟩) (L.length + 1) cc) := by
    intro i hi g hg1 hg2
    simp only [Value.ownBlock, Option.some.injEq] at hg2
    subst hg2
    rcases hat with e | e
    · exact h.dis i hi _ hg1 e
    · have := (own_lt (h.ins i hi) _ hg1).2.1
      omega
  have hrv : DisV vr (.slice (some ⟨gg, 0, none⟩) (L.length + 1) cc) := by
    intro g hg1 hg2
    simp only [Value.ownBlock, Option.some.injEq] at hg2
    subst hg2
    rcases hat with e | e
    · have h1 := hrX _ hg1
      have h2 := h.ltv _ e
      omega
    · have := (own_lt hr _ hg1).2.1
      omega
  refine PartsII.of (by simp [hl]) (by rw [List.length_append]; exact hown) (fun i hi => ?_) (fun i hi => ?_) (fun i k hik hk => ?_)
  · rw [List.length_append] at hi
    by_cases e : i < L.length
    · rw [vat_old (by omega), lat_old e]
      exact owO (h.ins i e) ho fun g hg1 hg2 => h.dis i e g hg1 hg2
    · obtain rfl : i = L.length := by simp at hi; omega
      rw [lat_new, ← hl, vat_new]
      exact owO hr ho fun g hg1 hg2 => by
        have h1 := hrX _ hg1
        have h2 := h.ltv _ hg2
        omega
  · rw [List.length_append] at hi
    by_cases e : i < L.length
    · rw [vat_old (by omega)]; exact hob i e
    · obtain rfl : i = L.length := by simp at hi; omega
      rw [← hl, vat_new, hl]; exact hrv
  · rw [List.length_append] at hk
    by_cases e : k < L.length
    · rw [vat_old (by omega), vat_old (by omega)]; exact h.dis2 i k hik e
    · obtain rfl : k = L.length := by simp at hk; omega
      rw [vat_old (by omega), ← hl, vat_new]
      intro g hg1 hg2
      have h1 := hrX _ hg2
      have h2 := h.lts i hik _ hg1
      omega
theorem vat_set {vs : List Value} {x : Value} {i k : Nat} (h : k < vs.length) : vat (vs.set i x) k = if k = i then x else vat vs k := by
  unfold vat
  rw [List.getD_eq_getElem?_getD, List.getElem?_set]
  by_cases e : i = k
  · subst e; simp [h]
  · simp [e, Ne.symm e]
theorem lat_set {L : List (List Int)} {x : List Int} {i k : Nat} (h : k < L.length) : lat (L.set i x) k = if k = i then x else lat L k := by
  unfold lat
  rw [List.getD_eq_getElem?_getD, List.getElem?_set]
  by_cases e : i = k
  · subst e; simp [h]
  · simp [e, Ne.symm e]
/-- A number is appended to a row, and the row is put back. -/
theorem PartsII.put {b X : Nat} {u w : World} {G cap : Nat} {L : List (List Int)} {vs : List Value} {ds : List Int} {i n gg cc H : Nat} (h : PartsII b X u (.slice (some ⟨G, 0, none⟩) L.length cap) L vs) (hi : i < L.length)
    (hown : OwnD b w (.slice (some ⟨gg, 0, none⟩) n cc) ds) (hg : u.grownBy w (vat vs i).ownBlock) (hat : (vat vs i).ownBlock = some gg ∨ gg = H) (hH : u.heap.size = H) :
    PartsII b w.heap.size (w.setCell ⟨G, i, none⟩ (.slice (some ⟨gg, 0, none⟩) n cc)) (.slice (some ⟨G, 0, none⟩) L.length cap) (L.set i ds) (vs.set i (.slice (some ⟨gg, 0, none⟩) n cc)) := by
  have ho := only_grown hg
  have hl := h.len
  have hG := own_lt h.row G rfl
  have hgG : gg ≠ G := by
    rintro rfl
    rcases hat with e | e
    · exact h.dis i hi gg e rfl
    · omega
  have hrow : w.ownsRow b 28 1 (.slice (some ⟨G, 0, none⟩) L.length cap) L.length vs := owO h.row ho fun g hg1 hg2 => h.dis i hi g hg2 hg1
  have hdj : ∀ j, j < L.length → j ≠ i → DisV (vat vs j) (vat vs i) := by
    intro j hj hji
    rcases Nat.lt_or_gt_of_ne hji with e | e
    · exact h.dis2 j i e hi
    · exact (h.dis2 i j e hj).symm
  have hdn : ∀ j, j < L.length → j ≠ i → DisV (vat vs j) (.slice (some ⟨gg, 0, none⟩) n cc) := by
    intro j hj hji g hg1 hg2
    simp only [Value.ownBlock, Option.some.injEq] at hg2
    subst hg2
    rcases hat with e | e
    · exact hdj j hj hji gg hg1 e
    · have := (own_lt (h.ins j hj) gg hg1).2.1; omega
  rw [show w.heap.size = (w.setCell ⟨G, i, none⟩ (.slice (some ⟨gg, 0, none⟩) n cc)).heap.size by simp [World.setCell]]
  refine PartsII.of (by simp [hl]) ?_ (fun j hj => ?_) (fun j hj => ?_) (fun j k hjk hk => ?_)
  · rw [List.length_set]
    exact (World.ownsRow.stored hrow i (.slice (some ⟨gg, 0, none⟩) n cc)).1
  · rw [List.length_set] at hj
    rw [vat_set (by omega), lat_set hj]
    by_cases e : j = i
    · subst e
      rw [if_pos rfl, if_pos rfl]
      exact ownsRow_setCell_other hown (by simp only [Value.ownBlock, ne_eq, Option.some.injEq]; exact hgG) _
    · rw [if_neg e, if_neg e]
      have h1 : OwnD b w (vat vs j) (lat L j) := owO (h.ins j hj) ho fun g hg1 hg2 => hdj j hj e g hg1 hg2
      exact ownsRow_setCell_other h1 (fun e2 => h.dis j hj G e2 rfl) _
  · rw [List.length_set] at hj
    rw [vat_set (by omega)]
    by_cases e : j = i
    · subst e
      rw [if_pos rfl]
      intro g hg1 hg2
      simp only [Value.ownBlock, Option.some.injEq] at hg1 hg2
      omega
    · rw [if_neg e]; exact h.dis j hj
  · rw [List.length_set] at hk
    rw [vat_set (by omega), vat_set (by omega)]
    by_cases e : j = i
    · subst e
      rw [if_pos rfl, if_neg (by omega)]
      exact (hdn k hk (by omega)).symm
    · rw [if_neg e]
      by_cases e2 : k = i
      · subst e2
        rw [if_pos rfl]; exact hdn j (by omega) e
      · rw [if_neg e2]; exact h.dis2 j k hjk hk
end Go.Proofs.Ytlkiacgpiodkiaa

set_option linter.unusedSimpArgs false
set_option linter.unusedVariables false
namespace Go.Proofs.Ytlkiacgpiodkiaa
open Go.ChangeShapes Go.WideShapes Go.ChangeAt Go.RowKit

theorem only_bel {S : Nat → Prop} {b : Nat} {w u x : World} (h : Below b w u) (k : Only S u x) (hb : b ≤ w.heap.size) (hs : ∀ i, i < b → ¬ S i) : Below b w x :=
  h.trans ⟨k.os, k.tape, k.output, k.size, fun i hi => k.block i (Nat.lt_of_lt_of_le hi (Nat.le_trans hb h.size)) (hs i hi)⟩
theorem go_next {js : List J3} {N : Nat} (h : TreeJ js N) (k : Nat) : goL js N (depU js N k) (waitM js N js.length k) = rndM js N js.length ((k : Int) + 1) ∧ stayL js N (depU js N k) (waitM js N js.length k) = waitM js N js.length ((k + 1 : Nat) : Int) ∧
    rowB (N + js.length) (putU N (depU js N k) (rndM js N js.length ((k : Int) + 1))) = rowB (N + js.length) (depU js N ((k + 1 : Nat) : Int)) := by
  have e : ((k : Int) + 1) - 1 = k := by omega
  have h1 := go_round h ((k : Int) + 1)
  have h2 := stay_round h ((k : Int) + 1)
  have h3 := put_dep h (r := (k : Int) + 1) (by omega)
  rw [e] at h1 h2 h3
  have e2 : ((k + 1 : Nat) : Int) = (k : Int) + 1 := by push_cast; rfl
  rw [e2]
  exact ⟨h1, h2, h3⟩
theorem wait_in {js : List J3} {N m : Nat} {r : Int} : ∀ o ∈ waitM js N m r, InU m o := by
  intro o ho
  obtain ⟨k, hk, _, rfl⟩ := mem_wait.1 ho
  exact ⟨by omega, by omega⟩
theorem wait_le (js : List J3) (N m : Nat) (r : Int) : (waitM js N m r).length ≤ m := by
  unfold waitM
  rw [List.length_map]
  have := List.length_filter_le (fun k => decide (r < dpK js N k)) (List.range m)
  rw [List.length_range] at this; exact this
theorem rounds_small {js : List J3} {N : Nat} (hl : js.length ≤ 11) (d : Nat) : ∀ i, i < (roundsN js N d).length → (lat (roundsN js N d) i).length ≤ 1048576 := by
  intro i hi
  rw [roundsN_len] at hi
  have := roundsN_get (js := js) (N := N) hi
  unfold lat
  rw [this]
  have := rnd_le (js := js) (N := N) js.length ((i : Int) + 1)
  omega
set_option maxHeartbeats 6400000 in
set_option maxRecDepth 20000 in
theorem ImplRounds_any (lo hi : Nat) (v : Value) (js : List J3) (n : Int) (wn : (Lit.int .i64 n).wf = true) (w : World) (r : JnIn lo hi w v js) (hhi : hi ≤ w.heap.size) :
    Calls Try.prog 13 #[v, .int .i64 n] w (FreshII (roundsB js n) w) := by
  obtain ⟨i0, hi0, hz0, hz1, hz2⟩ := info_parts3 info_rowJ
  obtain ⟨av, cv, rfl⟩ := r.form
  have R := Lib.hid r
  have CT := Lib.hid (ImplAreTree_any lo hi _ js n wn w r hhi)
  clear r
  by_cases hd : treeB js n = true
  · obtain ⟨N, rfl, hT⟩ := tree_is hd
    rw [hd] at CT
    have HC : Hid (roundsB js N = roundsN js N (depJ js N).toNat) := Lib.hid (by rw [rounds_yes hd]; rfl)
    have hdb := dep_bd hT
    obtain ⟨D, hD⟩ : ∃ D : Nat, depJ js N = D := ⟨(depJ js N).toNat, by omega⟩
    rw [hD] at HC
    simp only [Int.toNat_natCast] at HC
    rw [HC.out]
    have hN : N ≤ 12 := hT.n12
    have hlM : js.length ≤ 11 := by have := hT.len; omega
    have hD11 : D ≤ 11 := by omega
    have HT := Lib.hid hT
    have CD := Lib.hid (fun lo hi v w r h => ImplDepthOf_any lo hi v js N wn w r h)
    rw [hD] at CD
    clear hd hT wn HC hdb hD
    go_enter Try.func13, Try.ntmps13
    go_wp2_with fail
    refine (args_eqL CT.out (by with_reducible rfl)).mono ?_
    rintro e w1 ⟨rfl, hb1⟩
    have hs1 := hb1.size
    have HB1 := Lib.hid hb1
    clear hb1 CT
    go_wp2_with fail
    refine (args_eqL (ImplNew_any _ js N av cv w1 rfl HT.out) (by with_reducible rfl)).mono ?_
    rintro e w2 ⟨g, vb, rfl, hg, hg2, hin, hb2⟩
    obtain ⟨ab, cb, rfl⟩ := hin.form
    rw [rowB_len] at hin ⊢
    have HB2 := Lib.hid (bel_c HB1.out (Nat.le_refl _) hb2)
    obtain ⟨W3, hW3⟩ : ∃ W3, W3 = w2.alloc (.cells #[.slice av js.length cv, .int .i64 N, .slice ab (N + js.length) cb] 57) := ⟨_, rfl⟩
    have HB3 : Hid (Below w.heap.size w W3 ∧ Below w2.heap.size w2 W3 ∧ W3.heap.size = w2.heap.size + 1 ∧ W3.cell? ⟨w2.heap.size, 0, none⟩ = some (.slice av js.length cv) ∧ W3.cell? ⟨w2.heap.size, 1, none⟩ = some (.int .i64 N) ∧ W3.cell? ⟨w2.heap.size, 2, none⟩ = some (.slice ab (N + js.length) cb)) := Lib.hid (by
      rw [hW3]; exact ⟨bel_n HB2.out (Nat.le_refl _) _, bel0 w2 _, by simp, by go_simp, by go_simp, by go_simp⟩)
    have HI3 : Hid (BoolIn g (g + 1) W3 (.slice ab (N + js.length) cb) (rowB (N + js.length) (iniU N))) := Lib.hid (hin.below (HB3.out.2.1.mono (by omega)))
    have hs2 := hb2.size
    clear hb2 hin HB2 HB1
    go_wp2_with fail
    rw [← hW3]
    refine (args_eqL (ImplLine_any _ js N av cv _ W3 rfl ab (N + js.length) cb rfl hlM) (by with_reducible rfl)).mono ?_
    rintro e w4 ⟨c, rfl, hc, hch, hb4⟩
    obtain ⟨hb30, hb31, hs3, c0, c1, c2⟩ := HB3.out
    have HO4 : Hid (Only (fun k => k = g) W3 w4) := Lib.hid (Only.of_below hb4)
    have HI4 := Lib.hid (HI3.out.below (hb4.mono (by omega)))
    have HC4 := Lib.hid hch
    have d0 := kept hb4 c0
    have d1 := kept hb4 c1
    have d2 := kept hb4 c2
    have hs4 := hb4.size
    have HB4 := Lib.hid (bel_c hb30 (Nat.le_refl _) hb4)
    clear hb4 hch HI3 hb30 hb31 c0 c1 c2 hW3
    go_wp2_with fail
    refine (args_eqL (CD.out lo hi _ w4 (R.out.below (HB4.out.mono hhi)) (by have := HB4.out.size; omega)) (by with_reducible rfl)).mono ?_
    rintro e w5 ⟨rfl, hb5⟩
    have HO5 : Hid (Only (fun k => k = g) W3 w5) := Lib.hid (HO4.out.trans (Only.of_below hb5))
    have HI5 := Lib.hid (HI4.out.below (hb5.mono (by omega)))
    have HC5 := Lib.hid (HC4.out.below hb5)
    have hs5 := hb5.size
    clear hb5 HO4 HI4 HC4 HB4 d0 d1 d2
    go_wp2_with fail
    go_loopw [6, 7, 22] (fun l q i wr => ∃ (k c : Nat), k ≤ D ∧ i = .int .i64 k ∧ l = .chan (some c) ∧ Hid (ChanC wr c js.length (waitM js N js.length k) true) ∧ W3.heap.size ≤ c ∧ Hid (BoolIn g (g + 1) wr (.slice ab (N + js.length) cb) (rowB (N + js.length) (depU js N k))) ∧ Hid (OwnII W3.heap.size wr q (roundsN js N k)) ∧ Hid (Only (fun k => k = g) W3 wr)) (fun _ _ i _ => D - (intOf i).toNat)
    case atStart =>
      refine ⟨0, c, Nat.zero_le _, rfl, rfl, Lib.hid ?_, hc, Lib.hid ?_, Lib.hid (OwnII.nil _ _), HO5⟩
      · have := wait_first HT.out
        rw [show ((0 : Nat) : Int) = 0 from rfl, this]; exact HC5.out
      · have := ini_dep HT.out
        rw [show ((0 : Nat) : Int) = 0 from rfl, ← this]; exact HI5.out
    case round =>
      clear HO5 HI5 HC5 hc
      obtain ⟨k, c, hk, rfl, rfl, hch, hcs, hin, hown, honly⟩ := hrel
      obtain ⟨hb30, hb31, _, c0, c1, c2⟩ := HB3.out
      have hsz := honly.out.size
      have HBW : Hid (Below w.heap.size w wr) := Lib.hid (only_bel hb30 honly.out (Nat.le_refl _) (fun i hi => by omega))
      have hbw := HBW.out.size
      by_cases hlt : k < D
      · have d0 := honly.out.cell c0 (by simp only; omega)
        have d1 := honly.out.cell c1 (by simp only; omega)
        have d2 := honly.out.cell c2 (by simp only; omega)
        obtain ⟨n1, n2, n3⟩ := go_next HT.out k
        have HNX := Lib.hid (ImplNext_any lo hi _ js N (.slice ab (N + js.length) cb) g (depU js N k) c (waitM js N js.length k) wr (R.out.below (HBW.out.mono hhi)) (by omega) HT.out hin.out (by omega) hch.out (by omega) wait_in (wait_le _ _ _ _))
        rw [n1, n2, n3] at HNX
        have hng : ∀ g', W3.heap.size ≤ g' → (∃ cur e, wr.heap[g']? = some (.cells cur e)) → ¬ (g' = c ∨ g' = g) := by
          rintro g' h1 ⟨cur, e, h2⟩ (rfl | rfl)
          · obtain ⟨s, r, h3⟩ := hch.out
            rw [h2] at h3; cases h3
          · omega
        have HNG := Lib.hid hng
        clear n1 n2 n3 hch hin c0 c1 c2 hb30 hb31 hng
        go_wp2_with fail
        refine (args_eqL HNX.out (by with_reducible rfl)).mono ?_
        rintro e u ⟨vr, c2, rfl, hvr, hc2, hch2, hin2, ho2⟩
        obtain ⟨vs, hvs⟩ := hown.out.parts
        have HP := Lib.hid (hvs.only ho2 HNG.out)
        have hrl : (rndM js N js.length ((k : Int) + 1)).length ≤ 11 := by have := rnd_le (js := js) (N := N) js.length ((k : Int) + 1); omega
        have hri := hvr.row (by omega)
        obtain ⟨ar, cr, rfl⟩ := hri.form
        have hsu := ho2.size
        have BX := bel0 u (.cells #[.slice ar (rndM js N js.length ((k : Int) + 1)).length cr] 28)
        have HP2 := Lib.hid (HP.out.below BX)
        have HV2 : Hid (OwnD wr.heap.size (u.alloc (.cells #[.slice ar (rndM js N js.length ((k : Int) + 1)).length cr] 28)) (.slice ar (rndM js N js.length ((k : Int) + 1)).length cr) (rndM js N js.length ((k : Int) + 1))) := Lib.hid (owL hvr BX)
        have HC2 := Lib.hid (hch2.below BX)
        have HI2 := Lib.hid (hin2.below (BX.mono (by omega)))
        have HO2 : Hid (Only (fun k => k = g) W3 (u.alloc (.cells #[.slice ar (rndM js N js.length ((k : Int) + 1)).length cr] 28))) := Lib.hid ((honly.out.next ho2 (fun j hj h => by omega)).trans (Only.of_below BX))
        have HNW : Hid (∀ (j : Nat) x, ([.slice ar (rndM js N js.length ((k : Int) + 1)).length cr] : List Value)[j]? = some x → (u.alloc (.cells #[.slice ar (rndM js N js.length ((k : Int) + 1)).length cr] 28)).cell? ((⟨u.heap.size, 0, none⟩ : Addr).add j) = some x) := Lib.hid (fun j x hx => newsL u u.heap.size #[.slice ar (rndM js N js.length ((k : Int) + 1)).length cr] 28 rfl j x hx)
        have HS3 : Hid (W3.heap.size ≤ (u.alloc (.cells #[.slice ar (rndM js N js.length ((k : Int) + 1)).length cr] 28)).heap.size) := Lib.hid (by simp; omega)
        have HLR := Lib.hid (roundsN_succ (js := js) (N := N) k)
        have hrn := roundsN_len (js := js) (N := N) k
        have HWR : Hid (wr.heap.size ≤ (u.alloc (.cells #[.slice ar (rndM js N js.length ((k : Int) + 1)).length cr] 28)).heap.size) := Lib.hid (by simp; omega)
        clear hvr hch2 hin2 ho2 hvs HP hri BX HNX hown honly HNG
        generalize rndM js N js.length ((k : Int) + 1) = ds at HV2 HP2 HC2 HI2 HO2 HNW HS3 HLR HWR ⊢
        go_wp2_with (at_builtin; refine wpList_append_lies _ rfl _ _ 30 rfl W3.heap.size 28 i0 (.slice none 0 0) 1 24 Try.underlying30 hi0 hz0 hz1 hz2 rfl (by decide) _ _ _ rfl HP2.out.row ⟨u.heap.size, 0, none⟩ 1 1 [.slice ar ds.length cr] rfl rfl HNW.out (by simp [Value.oneCell']) (by omega) (by unfold maxLen; omega) (by omega) HS3.out (u.heap.size + 1) (by simp) ?_; intro gg cc w6 hown6 hgrow hat hlt6)
        have hog := only_grown hgrow
        have hob := ogL HP2.out.row
        have HN5 : Hid (OwnII W3.heap.size w6 (.slice (some ⟨gg, 0, none⟩) ((roundsN js N k).length + 1) cc) (roundsN js N (k + 1))) := Lib.hid (by
          rw [HLR.out]
          exact (HP2.out.push (OwnD.base HV2.out hsz) (ogL HV2.out) HWR.out hown6 hgrow hat (by simp)).own)
        have HC7 : Hid (ChanC w6 c2 js.length (waitM js N js.length ((k + 1 : Nat) : Int)) true) := Lib.hid (HC2.out.only hog (fun h => own_chan HP2.out.row HC2.out _ h rfl))
        have HI7 : Hid (BoolIn g (g + 1) w6 (.slice ab (N + js.length) cb) (rowB (N + js.length) (depU js N ((k + 1 : Nat) : Int)))) := Lib.hid (HI2.out.only hog (fun j h1 h2 h => by have := hob j h; omega) (by simp; omega))
        have HO7 : Hid (Only (fun k => k = g) W3 w6) := Lib.hid (HO2.out.next hog (fun j hj h => by have := hob j h; omega))
        clear hown6 hgrow hat hlt6 hog hob HP2 HV2 HC2 HI2 HO2 HNW HS3 HLR HWR
        go_wp2_with fail
        go_roundw
        case rel => exact ⟨k + 1, c2, by omega, by go_num, rfl, HC7, by omega, HI7, by rw [hrn] at HN5; exact HN5, HO7⟩
        case measure => simp [intOf] <;> omega
      · obtain rfl : k = D := by omega
        have HRW := Lib.hid (hown.out.row (by rw [roundsN_len]; omega) (rounds_small hlM k))
        clear hch hin hown
        go_wp2_with fail
        go_ret
        exact ⟨_, rfl, HRW.out.wide (by omega) (Nat.le_refl _), HBW.out⟩
  · have hd' : treeB js n = false := by simpa using hd
    rw [hd'] at CT
    have HC : Hid (roundsB js n = []) := Lib.hid (rounds_no hd')
    rw [HC.out]
    clear wn R hd hd' HC
    go_enter Try.func13, Try.ntmps13
    go_wp2_with fail
    refine (args_eqL CT.out (by with_reducible rfl)).mono ?_
    rintro e w1 ⟨rfl, hb1⟩
    go_wp2_with fail
    go_ret
    exact ⟨_, rfl, ⟨by simp, .inl ⟨rfl, _, _, rfl⟩⟩, hb1⟩
end Go.Proofs.Ytlkiacgpiodkiaa

set_option linter.unusedSimpArgs false
set_option linter.unusedVariables false
namespace Go.Proofs.Ytlkiacgpiodkiaa
open Go.ChangeShapes Go.WideShapes Go.ChangeAt Go.RowKit

def lenV : Value → Nat
  | .slice _ n _ => n
  | _ => 0
theorem PartsII.form {b X : Nat} {w : World} {v : Value} {L : List (List Int)} {vs : List Value} (h : PartsII b X w v L vs) : ∃ a c, v = .slice a L.length c := by
  obtain ⟨_, ⟨hv, he⟩ | ⟨g, cap, cur, hv, _⟩⟩ := h.row
  · exact ⟨_, _, by rw [hv, he]⟩
  · exact ⟨_, _, hv⟩
theorem PartsII.at {b X : Nat} {w : World} {v : Value} {L : List (List Int)} {vs : List Value} (h : PartsII b X w v L vs) {i : Nat} (hi : i < L.length) :
    ∃ G c, v = .slice (some ⟨G, 0, none⟩) L.length c ∧ b ≤ G ∧ G < w.heap.size ∧ w.cell? ⟨G, i, none⟩ = some (vat vs i) ∧ w.frozen? ⟨G, i, none⟩ = false := by
  have h0 := h.row
  have hl := h.len
  obtain ⟨_, ⟨hv, he⟩ | ⟨g, cap, cur, hv, hg, hh, _⟩⟩ := h.row
  · omega
  · subst hv
    refine ⟨g, cap, rfl, hg, lt_of_heapB hh, ?_, h0.frozenAt i⟩
    rw [h0.cellAt i (by omega)]
    simp [vat, List.getD_eq_getElem?_getD, hl, hi]
theorem disV_new {u : Value} {gg n c : Nat} (h : ∀ g, u.ownBlock = some g → g ≠ gg) : DisV u (.slice (some ⟨gg, 0, none⟩) n c) := by
  intro g h1 h2
  simp only [Value.ownBlock, Option.some.injEq] at h2
  exact h g h1 h2.symm
theorem rndM_le {js : List J3} {N k : Nat} (L : List (List Int)) (h : L = outX js N k) (hk : k ≤ 11) : ∀ i, i < L.length → (lat L i).length ≤ 11 := by
  intro i hi
  subst h
  unfold lat
  rw [List.getD_eq_getElem?_getD]
  unfold outX
  by_cases e : i < (outK js N k).length
  · rw [List.getElem?_append_left e]
    rw [outK_len] at e
    have := rnd_le (js := js) (N := N) k ((i : Int) + 1)
    simp [outK, e]; omega
  · rw [List.getElem?_append_right (by omega), List.getElem?_replicate]
    split <;> simp
set_option maxHeartbeats 12800000 in
set_option maxRecDepth 20000 in
theorem SpecRounds_any (lo hi : Nat) (v : Value) (js : List J3) (n : Int) (wn : (Lit.int .i64 n).wf = true) (w : World) (r : JnIn lo hi w v js) (hhi : hi ≤ w.heap.size) :
    Calls Try.prog 28 #[v, .int .i64 n] w (FreshII (roundsB js n) w) := by
  obtain ⟨i1, hi1, hy0, hy1, hy2⟩ := info_parts3 info_intJ
  obtain ⟨i0, hi0, hz0, hz1, hz2⟩ := info_parts3 info_rowJ
  obtain ⟨av, cv, rfl⟩ := r.form
  have R := Lib.hid r
  obtain ⟨W1, hW1⟩ : ∃ W1, W1 = w.alloc (.cells #[] 28) := ⟨_, rfl⟩
  have B1 : Below w.heap.size w W1 := by rw [hW1]; exact bel0 _ _
  have CT := Lib.hid (SpecTree_any lo hi _ js n wn W1 (r.below (B1.mono hhi)) (Nat.le_trans hhi B1.size))
  have HP1 : Hid (PartsII w.heap.size W1.heap.size W1 (.slice (some ⟨w.heap.size, 0, none⟩) 0 0) [] []) := Lib.hid (by
    have := World.ownsRow_lit (base := w.heap.size) (e := 28) (size := 1) w #[] 0 (Nat.le_refl _) (by decide) rfl
    rw [hW1]
    exact PartsII.of rfl (by simpa using this) (fun i hi => by simp at hi) (fun i hi => by simp at hi) (fun i k h hk => by simp at hk))
  have hs01 : W1.heap.size = w.heap.size + 1 := by rw [hW1]; simp
  have HB1 := Lib.hid B1
  clear r B1
  by_cases hd : treeB js n = true
  · obtain ⟨N, rfl, hT⟩ := tree_is hd
    rw [hd] at CT
    have HC : Hid (roundsB js N = outK js N js.length) := Lib.hid (by rw [rounds_yes hd, out_all hT]; rfl)
    rw [HC.out]
    have hN : N ≤ 12 := hT.n12
    have hlM : js.length ≤ 11 := by have := hT.len; omega
    have hmx : ∀ k, k ≤ js.length → mxK js N k ≤ 11 := by
      intro k
      induction k with
      | zero => intro _; simp [mxK]
      | succ k ih =>
        intro hk
        have h1 := ih (by omega)
        have h2 := dp_le hT (u := N + k) (by omega)
        have h3 := (dep_bd hT).2.1
        simp only [mxK]
        unfold dpK at *
        omega
    have HMX := Lib.hid hmx
    have HT := Lib.hid hT
    clear hd hT wn HC hmx
    go_enter Try.func28, Try.ntmps28
    go_wp2_with fail
    rw [← hW1]
    refine (args_eqL CT.out (by with_reducible rfl)).mono ?_
    rintro e w1 ⟨rfl, hb1⟩
    have hs1 := hb1.size
    have HP2 := Lib.hid (HP1.out.below hb1)
    have HB2 := Lib.hid (bel_c HB1.out (Nat.le_refl _) hb1)
    clear hb1 CT HP1 HB1 hW1
    go_wp2_with (at_make; refine wpList_make_full _ rfl _ _ 28 rfl w.heap.size 3 i1 _ 1 Try.underlying28 hi1 hy0 hy1 .i64 .i64 _ _ N rfl rfl rfl rfl (by rw [hy2]; omega) (by unfold maxLen; omega) (by omega) ?_; intro w0 hown0 hgrow0)
    have hw0 := own_none hgrow0
    have HO := Lib.hid (OwnD.zero hown0)
    have HP3 := Lib.hid (HP2.out.below hw0)
    have HW := Lib.hid (bel_c HB2.out (Nat.le_refl _) hw0)
    have hs0 := hw0.size
    clear hw0 hown0 hgrow0 HP2 HB2
    go_loopw [5, 6, 7] (fun q p i wr => ∃ (k X : Nat) (vs : List Value), k ≤ js.length ∧ i = .int .i64 k ∧ X ≤ wr.heap.size ∧ Hid (PartsII w.heap.size X wr q (outK js N k) vs) ∧ Hid (OwnD w.heap.size wr p (grow dpJ js N k)) ∧ Hid (∀ i, i < (outK js N k).length → DisV (vat vs i) p) ∧ Hid (DisV q p) ∧ Hid (Below w.heap.size w wr)) (fun _ _ i _ => js.length - (intOf i).toNat)
    case atStart =>
      refine ⟨0, _, [], Nat.zero_le _, rfl, ?_, HP3, HO, Lib.hid (fun i hi => by rw [outK_len] at hi; simp [mxK] at hi), Lib.hid (disV_new fun g hg => ?_), HW⟩
      · have := HW.out.size; omega
      · simp only [Value.ownBlock, Option.some.injEq] at hg
        omega
    case round =>
      clear HO HP3 HW
      obtain ⟨k, X, vs, hk, rfl, hX, hp, ho, hdi, hdv, hbel⟩ := hrel
      have hgl := grow_len (f := dpJ) (js := js) (N := N) k
      have hin := ho.out.row (by omega)
      obtain ⟨aq, cq, rfl⟩ := hin.form
      obtain ⟨a5, c5, rfl⟩ := hp.out.form
      have hsw := hbel.out.size
      by_cases hlt : k < js.length
      · obtain ⟨g, rfl, hg, hg1, ⟨e0, e1, e2⟩, _⟩ := R.out.at (hbel.out.mono hhi) hlt
        obtain ⟨A, B, ha, hb, la, lb, _⟩ := HT.out.nat hlt
        have hdn := dpK_next HT.out hlt
        have hmk := HMX.out k hk
        have hmk1 := HMX.out (k + 1) hlt
        have hdk : dpJ (grow dpJ js N k) (jn js k) = dpK js N k := by unfold dpK; rw [grow_at hlt]
        have HGN : Hid (grow dpJ js N (k + 1) = grow dpJ js N k ++ [dpK js N k]) := Lib.hid (by rw [← hdk]; rfl)
        have HOS := Lib.hid (out_step HT.out hlt)
        have HRL := Lib.hid (fun L h => rndM_le (js := js) (N := N) (k := k) L h (by omega))
        obtain ⟨j, hj⟩ : ∃ j, j = jn js k := ⟨_, rfl⟩
        rw [show js.getD k J3.zero = j from hj.symm] at e0 e1 e2
        rw [show jn js k = j from hj.symm] at ha hb hdk
        obtain ⟨up, a, b⟩ := j
        simp only at e0 e1 e2 ha hb
        subst ha
        subst hb
        clear hj
        have la' : A < (grow dpJ js N k).length := by omega
        have lb' : B < (grow dpJ js N k).length := by omega
        obtain ⟨gd, hgd, hgd0, hgd1, r1, _⟩ := hin.at (Below.refl _ _) (i := A) (by omega)
        obtain ⟨gd', hgd', _, _, r2, _⟩ := hin.at (Below.refl _ _) (i := B) (by omega)
        obtain rfl : gd = gd' := by rw [hgd] at hgd'; simpa using hgd'
        obtain rfl : aq = some ⟨gd, 0, none⟩ := hgd
        rw [dpJ_eq] at hdk
        simp only [Int.toNat_natCast] at hdk
        have hx := dp_nn (js := js) (N := N) k A
        have hy := dp_nn (js := js) (N := N) k B
        obtain ⟨x, hxx⟩ : ∃ x, x = dp (grow dpJ js N k) A := ⟨_, rfl⟩
        obtain ⟨y, hyy⟩ : ∃ y, y = dp (grow dpJ js N k) B := ⟨_, rfl⟩
        rw [show (grow dpJ js N k).getD A 0 = x from hxx.symm] at r1
        rw [show (grow dpJ js N k).getD B 0 = y from hyy.symm] at r2
        rw [← hxx] at hx hdk
        rw [← hyy] at hy hdk
        obtain ⟨d, hdd⟩ : ∃ d : Nat, dpK js N k = (d : Int) + 1 := ⟨(dpK js N k - 1).toNat, by omega⟩
        obtain ⟨mx, hmx⟩ : ∃ mx, mx = mxK js N k := ⟨_, rfl⟩
        have hol := outK_len (js := js) (N := N) k
        rw [← hmx] at hol hmk hdn
        rw [hdd] at HGN hdn
        have HOL := Lib.hid hol
        have HXD : Hid (outX js N k = outK js N k ++ List.replicate (d + 1 - mx) []) := Lib.hid (by unfold outX; rw [hdd, ← hmx]; congr 2)
        rw [hdd, show ((d : Int) + 1).toNat - 1 = d by omega] at HOS
        have hmk1' : d ≤ 10 := by simp only [mxK] at hmk1; rw [hdd] at hmk1; omega
        obtain ⟨M, hM⟩ : ∃ M, (if x < y then y else x) = M := ⟨_, rfl⟩
        have hMM : 1 + max x y = 1 + M := by rw [← hM]; split <;> omega
        have hMd : M = (d : Int) := by omega
        rw [hMd] at hM
        have hwM : IntKind.i64.wrap (1 + (d : Int)) = ((d + 1 : Nat) : Int) := by simp [IntKind.wrap, IntKind.bits, IntKind.signed]; omega
        obtain ⟨D, hD⟩ : ∃ D : Nat, D = d + 1 := ⟨_, rfl⟩
        have hGD : (d : Int) + 1 = (D : Int) := by omega
        rw [hGD] at HGN
        rw [← hD] at hwM HXD
        have HD := Lib.hid hD
        have HDD := Lib.hid hdd
        clear hD hGD hdd
        have BX : Below wr.heap.size wr ((wr.drew).alloc (.cells #[.int .i64 (D : Int)] 3)) := (bel_dr9 (Below.refl _ _)).alloc (Nat.le_refl _) _
        have HO3 : Hid (OwnD w.heap.size ((wr.drew).alloc (.cells #[.int .i64 (D : Int)] 3)) (.slice (some ⟨gd, 0, none⟩) (grow dpJ js N k).length cq) (grow dpJ js N k)) := Lib.hid (owL ho.out BX)
        have HP3 : Hid (PartsII w.heap.size X ((wr.drew).alloc (.cells #[.int .i64 (D : Int)] 3)) (.slice a5 (outK js N k).length c5) (outK js N k) vs) := Lib.hid (hp.out.below BX)
        have HB3 : Hid (Below w.heap.size w ((wr.drew).alloc (.cells #[.int .i64 (D : Int)] 3))) := Lib.hid (bel_c hbel.out (Nat.le_refl _) BX)
        have HNW : Hid (∀ (j : Nat) u, ([.int .i64 (D : Int)] : List Value)[j]? = some u → ((wr.drew).alloc (.cells #[.int .i64 (D : Int)] 3)).cell? ((⟨wr.heap.size, 0, none⟩ : Addr).add j) = some u) := Lib.hid (fun j u hu => newsL wr.drew wr.heap.size #[.int .i64 (D : Int)] 3 rfl j u hu)
        have HS3 : Hid (w.heap.size ≤ ((wr.drew).alloc (.cells #[.int .i64 (D : Int)] 3)).heap.size) := Lib.hid (by simp; omega)
        have HH3 : Hid (((wr.drew).alloc (.cells #[.int .i64 (D : Int)] 3)).heap.size = wr.heap.size + 1) := Lib.hid (by simp)
        clear BX ho hp hbel hgd' hxx hyy hx hy hin la lb hdk hMM hMd hmx hol hmk1
        go_wp2_with fail
        go_region
        go_wp2_with (at_builtin; refine wpList_append_lies _ rfl _ _ 28 rfl w.heap.size 3 i1 (.int .i64 0) 1 8 Try.underlying28 hi1 hy0 hy1 hy2 rfl (by decide) _ _ _ rfl HO3.out ⟨wr.heap.size, 0, none⟩ 1 1 [.int .i64 (D : Int)] rfl rfl HNW.out (by simp [Value.oneCell']) (by omega) (by unfold maxLen; omega) (by omega) HS3.out (wr.heap.size + 1) HH3.out ?_; intro gg cc w5 hown5 hgrow hat hlt5; have hbw := (Below.refl w.heap.size _).grown hgrow HS3.out (ogL HO3.out))
        have hog := only_grown hgrow
        have HN5 : Hid (OwnD w.heap.size w5 (.slice (some ⟨gg, 0, none⟩) (N + k + 1) cc) (grow dpJ js N (k + 1))) := Lib.hid (by
          have h1 := OwnD.more hown5
          rw [← HGN.out, hgl] at h1; exact h1)
        have HP5 : Hid (PartsII w.heap.size X w5 (.slice a5 (outK js N k).length c5) (outK js N k) vs) := Lib.hid (HP3.out.keep hog (fun g h1 h2 => hdv.out g h1 h2) (fun i hi g h1 h2 => hdi.out i hi g h1 h2))
        have HDI5 : Hid (∀ i, i < (outK js N k).length → DisV (vat vs i) (.slice (some ⟨gg, 0, none⟩) (N + k + 1) cc)) := Lib.hid (fun i hi => disV_new fun g hg => by
          rintro rfl
          rcases hat with h | h
          · exact hdi.out i hi _ hg h
          · have := HP3.out.lts i hi _ hg; omega)
        have HDV5 : Hid (DisV (.slice a5 (outK js N k).length c5) (.slice (some ⟨gg, 0, none⟩) (N + k + 1) cc)) := Lib.hid (disV_new fun g hg => by
          rintro rfl
          rcases hat with h | h
          · exact hdv.out _ hg h
          · have := HP3.out.ltv _ hg; omega)
        have HB5 := Lib.hid (HB3.out.trans hbw)
        have hX5 : X ≤ w5.heap.size := by have h1 := Nat.le_trans (Nat.le_of_eq HH3.out.symm) hbw.size; omega
        clear hown5 hgrow hat hlt5 hbw hog HO3 HNW HS3 HB3 HP3 HH3 hdi hdv
        obtain ⟨p, hp⟩ : ∃ p, p = Value.slice (some ⟨gg, 0, none⟩) (N + k + 1) cc := ⟨_, rfl⟩
        have HPP := Lib.hid hp
        rw [← hp] at HN5 HDI5 HDV5
        clear hp
        go_wp2_with fail
        go_loopw [5] (fun q wx => ∃ (t X : Nat) (vs : List Value) (L' : List (List Int)), t ≤ D - mx ∧ Hid (L' = outK js N k ++ List.replicate t []) ∧ X ≤ wx.heap.size ∧ Hid (PartsII w.heap.size X wx q L' vs) ∧ Hid (OwnD w.heap.size wx p (grow dpJ js N (k + 1))) ∧ Hid (∀ i, i < L'.length → DisV (vat vs i) p) ∧ Hid (DisV q p) ∧ Hid (Below w.heap.size w wx)) (fun q _ => D - lenV q)
        case atStart => exact ⟨0, X, vs, outK js N k, Nat.zero_le _, Lib.hid (by simp), hX5, HP5, HN5, HDI5, HDV5, HB5⟩
        case round =>
          clear HP5 HN5 HDI5 HDV5 HB5 hX5 hX
          obtain ⟨t, X, vs, L', ht, hL, hX, hp, ho, hdi, hdv, hbel⟩ := hrel
          obtain ⟨a5, c5, rfl⟩ := hp.out.form
          have hsw := hbel.out.size
          have hLl : L'.length = mx + t := by rw [hL.out, List.length_append, List.length_replicate, HOL.out]
          have HLL := Lib.hid hLl
          by_cases htl : t < D - mx
          · have hcmp : (L'.length : Int) < (D : Int) := by omega
            have hL11 : L'.length ≤ 11 := by have := HD.out; omega
            have BX : Below wr.heap.size wr ((wr.alloc (.cells #[] 3)).alloc (.cells #[.slice (some ⟨wr.heap.size, 0, none⟩) 0 0] 28)) := bel_n (bel0 wr _) (Nat.le_refl _) _
            have HV6 : Hid (OwnD w.heap.size ((wr.alloc (.cells #[] 3)).alloc (.cells #[.slice (some ⟨wr.heap.size, 0, none⟩) 0 0] 28)) (.slice (some ⟨wr.heap.size, 0, none⟩) 0 0) []) := Lib.hid (by
              have := World.ownsRow_lit (base := w.heap.size) (e := 3) (size := 1) wr #[] 0 hsw (by decide) rfl
              have h2 : OwnD w.heap.size (wr.alloc (.cells #[] 3)) (.slice (some ⟨wr.heap.size, 0, none⟩) 0 0) [] := by simpa [OwnD, ivals] using this
              exact owL h2 (bel0 _ _))
            have HP6 := Lib.hid (hp.out.below BX)
            have HO6 : Hid (OwnD w.heap.size ((wr.alloc (.cells #[] 3)).alloc (.cells #[.slice (some ⟨wr.heap.size, 0, none⟩) 0 0] 28)) p (grow dpJ js N (k + 1))) := Lib.hid (owL ho.out BX)
            have HOL6 := Lib.hid (own_lt ho.out)
            have HB6 : Hid (Below w.heap.size w ((wr.alloc (.cells #[] 3)).alloc (.cells #[.slice (some ⟨wr.heap.size, 0, none⟩) 0 0] 28))) := Lib.hid (bel_c hbel.out (Nat.le_refl _) BX)
            have HNW : Hid (∀ (j : Nat) x, ([.slice (some ⟨wr.heap.size, 0, none⟩) 0 0] : List Value)[j]? = some x → ((wr.alloc (.cells #[] 3)).alloc (.cells #[.slice (some ⟨wr.heap.size, 0, none⟩) 0 0] 28)).cell? ((⟨wr.heap.size + 1, 0, none⟩ : Addr).add j) = some x) := Lib.hid (fun j x hx => newsL (wr.alloc (.cells #[] 3)) (wr.heap.size + 1) #[.slice (some ⟨wr.heap.size, 0, none⟩) 0 0] 28 (by simp) j x hx)
            have HS6 : Hid (w.heap.size ≤ ((wr.alloc (.cells #[] 3)).alloc (.cells #[.slice (some ⟨wr.heap.size, 0, none⟩) 0 0] 28)).heap.size) := Lib.hid HB6.out.size
            have HH6 : Hid (((wr.alloc (.cells #[] 3)).alloc (.cells #[.slice (some ⟨wr.heap.size, 0, none⟩) 0 0] 28)).heap.size = wr.heap.size + 2) := Lib.hid (by simp)
            clear BX hp ho hbel hLl
            go_wp2_with (at_builtin; refine wpList_append_lies _ rfl _ _ 30 rfl w.heap.size 28 i0 (.slice none 0 0) 1 24 Try.underlying30 hi0 hz0 hz1 hz2 rfl (by decide) _ _ _ rfl HP6.out.row ⟨wr.heap.size + 1, 0, none⟩ 1 1 [.slice (some ⟨wr.heap.size, 0, none⟩) 0 0] rfl rfl HNW.out (by simp [Value.oneCell']) (by omega) (by unfold maxLen; omega) (by omega) HS6.out (wr.heap.size + 2) HH6.out ?_; intro g6 cc6 w6 hown6 hgrow hat hlt6; have hbw := (Below.refl w.heap.size _).grown hgrow HS6.out (ogL HP6.out.row))
            have hog := only_grown hgrow
            have hpush := HP6.out.push HV6.out (fun g hg => by simp only [Value.ownBlock, Option.some.injEq] at hg; omega) (by have := HH6.out; omega) hown6 hgrow hat HH6.out
            have HP7 := Lib.hid hpush
            have HO7 : Hid (OwnD w.heap.size w6 p (grow dpJ js N (k + 1))) := Lib.hid (owO HO6.out hog (fun g h1 h2 => hdv.out g h2 h1))
            have HDI7 : Hid (∀ i, i < (L' ++ [[]]).length → DisV (vat (vs ++ [.slice (some ⟨wr.heap.size, 0, none⟩) 0 0]) i) p) := Lib.hid (fun i hi => by
              have hvl := HP6.out.len
              rw [List.length_append] at hi
              by_cases e : i < L'.length
              · rw [vat_old (by omega)]; exact hdi.out i e
              · obtain rfl : i = vs.length := by simp at hi; omega
                rw [vat_new]
                intro g h1 h2
                simp only [Value.ownBlock, Option.some.injEq] at h1
                have := (HOL6.out g h2).2.1
                omega)
            have HDV7 : Hid (DisV (.slice (some ⟨g6, 0, none⟩) (L'.length + 1) cc6) p) := Lib.hid (by
              intro g h1 h2
              simp only [Value.ownBlock, Option.some.injEq] at h1
              subst h1
              rcases hat with h | h
              · exact hdv.out _ h h2
              · have := (HOL6.out _ h2).2.1; omega)
            have HB7 := Lib.hid (HB6.out.trans hbw)
            have HL7 : Hid (L' ++ [[]] = outK js N k ++ List.replicate (t + 1) []) := Lib.hid (by rw [hL.out, List.append_assoc, List.replicate_succ'])
            clear hown6 hgrow hat hlt6 hbw hog hpush HP6 HV6 HO6 HNW HS6 HB6 hdi hdv hL
            go_wp2_with fail
            go_roundw
            case rel => exact ⟨t + 1, _, _, _, by omega, HL7, Nat.le_refl _, HP7, HO7, HDI7, HDV7, HB7⟩
            case measure => simp [lenV] <;> omega
          · have hcmp : ¬ (L'.length : Int) < (D : Int) := by omega
            have hLX : L' = outX js N k := by rw [hL.out, HXD.out, show t = D - mx by omega]
            have hdL : d < L'.length := by have := HD.out; omega
            obtain ⟨G, c5', hq5, hG0, hG1, g0, gf⟩ := hp.out.at hdL
            simp only [Value.slice.injEq] at hq5
            obtain ⟨rfl, _, rfl⟩ := hq5
            have hrow := hp.out.ins d hdL
            have hrl := HRL.out L' hLX d hdL
            obtain ⟨ar, cr, hvr⟩ := (hrow.row (by omega)).form
            have HOSX : Hid (L'.set d (lat L' d ++ [(k : Int)]) = outK js N (k + 1)) := Lib.hid (by rw [hLX]; exact HOS.out)
            have hwd : IntKind.i64.wrap ((D : Int) - 1) = (d : Int) := by have := HD.out; simp [IntKind.wrap, IntKind.bits, IntKind.signed]; omega
            have BX := bel0 wr (.cells #[.int .i64 (k : Int)] 3)
            rw [hvr] at hrow g0
            have HR8 : Hid (OwnD w.heap.size (wr.alloc (.cells #[.int .i64 (k : Int)] 3)) (.slice ar (lat L' d).length cr) (lat L' d)) := Lib.hid (owL hrow BX)
            have HP8 := Lib.hid (hp.out.below BX)
            have HO8 : Hid (OwnD w.heap.size (wr.alloc (.cells #[.int .i64 (k : Int)] 3)) p (grow dpJ js N (k + 1))) := Lib.hid (owL ho.out BX)
            have HB8 := Lib.hid (bel_c hbel.out (Nat.le_refl _) BX)
            have HNW : Hid (∀ (j : Nat) x, ([.int .i64 (k : Int)] : List Value)[j]? = some x → (wr.alloc (.cells #[.int .i64 (k : Int)] 3)).cell? ((⟨wr.heap.size, 0, none⟩ : Addr).add j) = some x) := Lib.hid (fun j x hx => newsL wr wr.heap.size #[.int .i64 (k : Int)] 3 rfl j x hx)
            have HS8 : Hid (w.heap.size ≤ (wr.alloc (.cells #[.int .i64 (k : Int)] 3)).heap.size) := Lib.hid HB8.out.size
            have HVR := Lib.hid hvr
            have HPG := Lib.hid (own_lt ho.out)
            have g1 := kept BX g0
            clear BX hp ho hbel hrow hLl hLX hL hvr gf
            have HDS : Hid (¬ (Value.slice ar (lat L' d).length cr).ownBlock = some G) := Lib.hid (fun h => by
              rw [← HVR.out] at h
              exact HP8.out.dis d hdL G h rfl)
            have HFR : Hid (∀ u, Only (fun j => (Value.slice ar (lat L' d).length cr).ownBlock = some j) (wr.alloc (.cells #[.int .i64 (k : Int)] 3)) u → u.frozen? ⟨G, d, none⟩ = false) := Lib.hid (fun u h =>
              (owO HP8.out.row h (fun g h1 h2 => by
                rw [← HVR.out] at h2
                exact HP8.out.dis d hdL g h2 h1)).frozenAt d)
            have HK8 : Hid ((wr.alloc (.cells #[.int .i64 (k : Int)] 3)).heap.size = wr.heap.size + 1) := Lib.hid (by simp)
            obtain ⟨m, hm⟩ : ∃ m, m = (lat L' d).length := ⟨_, rfl⟩
            have HMM := Lib.hid hm
            rw [← hm] at HR8 g0 g1 HVR HDS HFR hrl
            unfold OwnD at HR8
            rw [← hm] at HR8
            clear hm
            go_wp2_with (at_builtin; refine wpList_append_lies _ rfl _ _ 28 rfl w.heap.size 3 i1 (.int .i64 0) 1 8 Try.underlying28 hi1 hy0 hy1 hy2 rfl (by decide) _ _ _ rfl HR8.out ⟨wr.heap.size, 0, none⟩ 1 1 [.int .i64 (k : Int)] rfl rfl HNW.out (by simp [Value.oneCell']) (by omega) (by unfold maxLen; omega) (by omega) HS8.out (wr.heap.size + 1) HK8.out ?_; intro g9 cc9 w9 hown9 hgrow hat hlt9; have hog := only_grown hgrow; have g2 := hog.cell g1 HDS.out; have gf := HFR.out _ hog)
            have hown9' : OwnD w.heap.size w9 (.slice (some ⟨g9, 0, none⟩) (m + 1) cc9) (lat L' d ++ [(k : Int)]) := by
              have h1 := OwnD.more (ds := lat L' d) (x := (k : Int)) hown9
              exact h1
            have hgrow' := hgrow
            rw [← HVR.out] at hgrow'
            have hat' := hat
            rw [← HVR.out] at hat'
            have HP9 := Lib.hid (HP8.out.put hdL hown9' hgrow' hat' HK8.out)
            rw [HOSX.out] at HP9
            have HO9 : Hid (OwnD w.heap.size (w9.setCell ⟨G, d, none⟩ (.slice (some ⟨g9, 0, none⟩) (m + 1) cc9)) p (grow dpJ js N (k + 1))) := Lib.hid (by
              have h1 : OwnD w.heap.size w9 p (grow dpJ js N (k + 1)) := owO HO8.out hog (fun g h1 h2 => by
                rw [← HVR.out] at h2
                exact hdi.out d hdL g h2 h1)
              exact ownsRow_setCell_other h1 (fun e => hdv.out G rfl e) _)
            have HDI9 : Hid (∀ i, i < (outK js N (k + 1)).length → DisV (vat (vs.set d (.slice (some ⟨g9, 0, none⟩) (m + 1) cc9)) i) p) := Lib.hid (fun i hi => by
              have hvl := HP8.out.len
              rw [← HOSX.out, List.length_set] at hi
              rw [vat_set (by omega)]
              by_cases e : i = d
              · subst e
                rw [if_pos rfl]
                intro g h1 h2
                simp only [Value.ownBlock, Option.some.injEq] at h1
                subst h1
                rcases hat' with h | h
                · exact hdi.out i hdL _ h h2
                · have := (HPG.out _ h2).2.1; omega
              · rw [if_neg e]; exact hdi.out i hi)
            have HB9 : Hid (Below w.heap.size w (w9.setCell ⟨G, d, none⟩ (.slice (some ⟨g9, 0, none⟩) (m + 1) cc9))) := Lib.hid (Below.setCell (HB8.out.grown hgrow HS8.out (ogL HR8.out)) hG0 _)
            have HX9 : Hid (w9.heap.size ≤ (w9.setCell ⟨G, d, none⟩ (.slice (some ⟨g9, 0, none⟩) (m + 1) cc9)).heap.size) := Lib.hid (by simp [World.setCell])
            clear hown9 hown9' hgrow hgrow' hat hat' hlt9 hog HP8 HR8 HO8 HNW HS8 HB8 g0 g1 g2 gf HDS HFR hdi
            have hpp := HPP.out
            subst hpp
            go_wp2_with fail
            go_roundw
            case rel => exact ⟨k + 1, _, _, by omega, by go_num, HX9.out, HP9, HO9, HDI9, hdv, HB9⟩
            case measure => simp [intOf] <;> omega
      · obtain rfl : k = js.length := by omega
        have HRW := Lib.hid (hp.out.own.row (by rw [outK_len]; have := HMX.out js.length (Nat.le_refl _); omega) (fun i hi => by
          rw [outK_len] at hi
          have := rnd_le (js := js) (N := N) js.length ((i : Int) + 1)
          have e : lat (outK js N js.length) i = rndM js N js.length ((i : Int) + 1) := by simp [lat, outK, hi]
          rw [e]; omega))
        clear hp ho hdi hdv
        go_wp2_with fail
        go_ret
        exact ⟨_, rfl, HRW.out, hbel.out⟩
  · have hd' : treeB js n = false := by simpa using hd
    rw [hd'] at CT
    have HC : Hid (roundsB js n = []) := Lib.hid (rounds_no hd')
    rw [HC.out]
    clear wn R hd hd' HC HP1
    go_enter Try.func28, Try.ntmps28
    go_wp2_with fail
    rw [← hW1]
    refine (args_eqL CT.out (by with_reducible rfl)).mono ?_
    rintro e w1 ⟨rfl, hb1⟩
    have HB2 := Lib.hid (bel_c HB1.out (Nat.le_refl _) hb1)
    clear hb1
    go_wp2_with fail
    go_ret
    exact ⟨_, rfl, ⟨by simp, .inl ⟨rfl, _, _, rfl⟩⟩, HB2.out⟩
end Go.Proofs.Ytlkiacgpiodkiaa
