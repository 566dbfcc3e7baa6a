/- Rows of integers that came in; taken from the law's argument. Orders of sewing: FirstSewOrder of both. Orders of sewing: the rounds, one behind the other; the model's rows; the longest round. -/
import Derived.Test.YtlkiacgpiodkiaaM17
import Derived.Test.YtlkiacgpiodkiaaM03
import Derived.OwnWalk
import Derived.Test.YtlkiacgpiodkiaaM16
import Derived.Test.YtlkiacgpiodkiaaM15

set_option linter.unusedSimpArgs false
set_option linter.unusedVariables false
namespace Go.Proofs.Ytlkiacgpiodkiaa
open Go.ChangeShapes Go.WideShapes Go.ChangeAt Go.RowKit

/-- A slice of ints that came in. -/
def ArgI (w : World) (a : Option Addr) (len : Nat) (zs : List Int) : Prop :=
  zs.length = len ∧ len ≤ maxLen ∧ (len = 0 ∨ ∃ x : Addr, a = some x ∧ ∀ i, i < len → w.cell? (x.add i) = some (.int .i64 (zs.getD i 0)))
theorem add_block (x : Addr) (i : Nat) : (x.add i).block = x.block := by unfold Addr.add; split <;> rfl
theorem ArgI.below {w w' : World} {a : Option Addr} {len : Nat} {zs : List Int} (h : ArgI w a len zs) (hb : Below w.heap.size w w') : ArgI w' a len zs := by
  obtain ⟨h1, h2, h | ⟨x, hx, hc⟩⟩ := h
  · exact ⟨h1, h2, .inl h⟩
  · exact ⟨h1, h2, .inr ⟨x, hx, fun i hi => (hb.cell (lt_of_cell (hc i hi))).trans (hc i hi)⟩⟩
theorem ArgI.of_row {w : World} {a : Option Addr} {len cap : Nat} {zs : List Int} (h : (a = none ∧ len = 0 ∧ cap = 0 ∧ zs = []) ∨ ∃ x, a = some x ∧ len ≤ cap ∧ cap ≤ maxLen ∧ zs.length = cap ∧ (∀ i, i < zs.length → w.cell? (x.add i) = some (.int .i64 (zs.getD i 0))) ∧ ∀ n ∈ zs, (Lit.int .i64 n).wf = true) : ArgI w a len (zs.take len) := by
  rcases h with ⟨_, rfl, _, rfl⟩ | ⟨x, rfl, h1, h2, rfl, hc, _⟩
  · exact ⟨rfl, Nat.zero_le _, .inl rfl⟩
  · refine ⟨by simp; omega, Nat.le_trans h1 h2, .inr ⟨x, rfl, fun i hi => ?_⟩⟩
    rw [hc i (by omega)]
    simp [List.getD, hi]

theorem infoA : (Try.prog.info? 3).map (fun i => (i.zero, i.size, i.bytes)) = some (some (.int .i64 0), 1, 8) := by kernel_rfl
theorem madeA (n : Nat) : (madeCells (Value.int .i64 0).cells (n * 1)).toList = ivals (List.replicate n 0) := by
  apply List.ext_getElem
  · simp [madeCells, ivals]
  · intro i a b
    simp [madeCells, ivals, Value.cells, Nat.mod_one]
set_option maxHeartbeats 400000 in
theorem ToIntS_any (a : Option Addr) (len cap : Nat) (zs : List Int) (w : World) (r : ArgI w a len zs) (hlen : len ≤ 1048576) :
    Calls Try.prog 22 #[.slice a len cap] w (FreshI zs w) := by
  obtain ⟨i0, hi0, hz0, hz1, hz2⟩ : ∃ i, Try.prog.info? 3 = some i ∧ i.zero = some (.int .i64 0) ∧ i.size = 1 ∧ i.bytes = 8 := info_parts3 infoA
  have HR := Lib.hid (fun W (hb : Below w.heap.size w W) => r.below hb)
  obtain ⟨hxl, _, _⟩ := r
  subst hxl
  go_enter Try.func22, Try.ntmps22
  go_wp2_with (at_make; refine wpList_make_full _ rfl _ _ 28 rfl w.heap.size 3 i0 _ 1 Try.underlying28 hi0 hz0 hz1 .i64 .i64 _ _ zs.length rfl rfl rfl rfl (by rw [hz2]; omega) (by unfold maxLen; omega) (Nat.le_refl _) ?_; intro w0 hown0 hgrow0)
  have hb0 := own_none hgrow0
  rw [madeA] at hown0
  have hin0 := IntIn.of_owns (zs := List.replicate zs.length 0) (by rw [List.length_replicate]; exact hown0) (by simpa using hlen)
  have HB := Lib.hid hb0
  have HW := Lib.hid hin0
  clear hb0 hown0 hgrow0 hin0
  go_loopw [4] (fun i wr => ∃ (k : Nat) (ys : List Int), k ≤ zs.length ∧ i = .int .i64 k ∧ Hid (UpToI k zs ys) ∧ Hid (IntIn w.heap.size w0.heap.size wr (.slice (some ⟨w.heap.size, 0, none⟩) zs.length zs.length) ys) ∧ Hid (Below w.heap.size w wr) ∧ w0.heap.size ≤ wr.heap.size) (fun i _ => zs.length - (intOf i).toNat)
  case atStart => exact ⟨0, _, Nat.zero_le _, rfl, Lib.hid ⟨by simp, fun i hi => by omega⟩, HW, HB, Nat.le_refl _⟩
  case round =>
    obtain ⟨k, ys, hk, rfl, hup, hin, hbel, hsz⟩ := hrel
    by_cases hlt : k < zs.length
    · obtain ⟨_, _, h | ⟨x, rfl, hc⟩⟩ := HR.out _ hbel.out
      · omega
      have c0 := hc k hlt
      clear hc
      have hyl := hup.out.1
      obtain ⟨g, hg, _, _, e0, f0⟩ := hin.out.at (Below.refl _ _) (i := k) (by omega)
      obtain rfl : w.heap.size = g := by simpa using hg
      have HN := Lib.hid (hin.out.set k (by omega) (zs.getD k 0))
      have HU := Lib.hid (hup.out.set (c := zs.getD k 0) hlt rfl)
      have HB1 := Lib.hid (Below.setCell hbel.out (p := ⟨w.heap.size, k, none⟩) (Nat.le_refl _) (.int .i64 (zs.getD k 0)))
      generalize zs.getD k 0 = z at c0 HN HU HB1
      generalize ys.getD k 0 = y at e0
      clear hg hin hup hbel
      go_wp2_with fail
      go_roundw
      case rel => exact ⟨k + 1, _, by omega, by go_num, HU, HN, HB1, by simp [World.setCell]; exact hsz⟩
      case measure => simp [intOf] <;> omega
    · obtain rfl : k = zs.length := by omega
      have hall := hup.out.all
      subst hall
      go_wp2_with fail
      go_ret
      exact ⟨_, rfl, hin.out.wide (Nat.le_refl _) hsz, hbel.out⟩

end Go.Proofs.Ytlkiacgpiodkiaa

set_option linter.unusedSimpArgs false
set_option linter.unusedVariables false
namespace Go.Proofs.Ytlkiacgpiodkiaa
open Go.ChangeShapes Go.WideShapes Go.ChangeAt Go.RowKit

def firstB (js : List J3) (n : Int) : List Int := if treeB js n then idxL js.length else []
theorem IntIn.zero {w : World} {b e n : Nat} {v : Value} (h : w.ownsRow b e 1 v n (madeCells (Value.int .i64 0).cells (n * 1)).toList) (hn : n ≤ 1048576) : IntIn b w.heap.size w v (List.replicate n 0) := by
  have e : (madeCells (Value.int .i64 0).cells (n * 1)).toList = ivals (List.replicate n 0) := by
    apply List.ext_getElem?
    intro i
    by_cases hi : i < n
    · simp [madeCells, Value.cells, ivals, hi, Nat.mod_one]
    · simp [madeCells, Value.cells, ivals, hi]
  rw [e] at h
  exact IntIn.of_owns (by rw [List.length_replicate]; exact h) (by simpa using hn)
set_option maxHeartbeats 3200000 in
set_option maxRecDepth 20000 in
theorem ImplFirst_any (lo hi : Nat) (v : Value) (js : List J3) (n : Int) (wn : (Lit.int .i64 n).wf = true) (w : World) (r : JnIn lo hi w v js) (hhi : hi ≤ w.heap.size) :
    Calls Try.prog 12 #[v, .int .i64 n] w (FreshI (firstB js n) w) := by
  obtain ⟨i0, hi0, hz0, hz1, hz2⟩ := info_parts3 info_intJ
  obtain ⟨av, cv, rfl⟩ := r.form
  have CT := Lib.hid (ImplAreTree_any lo hi _ js n wn w r hhi)
  clear r
  by_cases hd : treeB js n = true
  · have hlM : js.length ≤ 11 := by
      obtain ⟨N, rfl, hT⟩ := tree_is hd
      have := hT.len; have := hT.n12; omega
    have HC : Hid (firstB js n = idxL js.length) := Lib.hid (by unfold firstB; rw [if_pos hd])
    rw [hd] at CT
    rw [HC.out]
    clear hd HC wn
    go_enter Try.func12, Try.ntmps12
    go_wp2_with fail
    refine (args_eqL CT.out (by with_reducible rfl)).mono ?_
    rintro e w1 ⟨rfl, hb1⟩
    have hs1 := hb1.size
    have HB1 := Lib.hid hb1
    clear hb1 CT
    go_wp2_with (at_make; refine wpList_make_full _ rfl _ _ 28 rfl w1.heap.size 3 i0 _ 1 Try.underlying28 hi0 hz0 hz1 .i64 .i64 _ _ js.length rfl rfl rfl rfl (by rw [hz2]; omega) (by unfold maxLen; omega) (Nat.le_refl _) ?_; intro w0 hown0 hgrow0)
    have hw0 := own_none hgrow0
    have HO := Lib.hid (IntIn.zero hown0 (by omega))
    have HW := Lib.hid (bel_c HB1.out (Nat.le_refl _) hw0)
    have hs0 := hw0.size
    clear hw0 hown0 hgrow0
    go_loopw [16] (fun i wr => ∃ (k : Nat) (ys : List Int), k ≤ js.length ∧ i = .int .i64 k ∧ Hid (UpToI k (idxL js.length) ys) ∧ Hid (IntIn w1.heap.size w0.heap.size wr (.slice (some ⟨w1.heap.size, 0, none⟩) js.length js.length) ys) ∧ Hid (Below w.heap.size w wr) ∧ w0.heap.size ≤ wr.heap.size) (fun i _ => js.length - (intOf i).toNat)
    case atStart => exact ⟨0, List.replicate js.length 0, Nat.zero_le _, rfl, Lib.hid ⟨by rw [idxL_len]; simp, fun i hi => by omega⟩, HO, HW, Nat.le_refl _⟩
    case round =>
      clear HO HB1 HW
      obtain ⟨k, ys, hk, rfl, hup, hin, hbel, hsz⟩ := hrel
      by_cases hlt : k < js.length
      · have hyl : ys.length = js.length := by have := hup.out.1; rw [idxL_len] at this; exact this
        obtain ⟨g, hg, hg0, hg1, e0, f0⟩ := hin.out.at (Below.refl _ _) (i := k) (by omega)
        simp only [Option.some.injEq, Addr.mk.injEq, and_true] at hg
        subst hg
        have HN := Lib.hid (hin.out.set k (by omega) (k : Int))
        have HU := Lib.hid (hup.out.set (c := (k : Int)) (by rw [idxL_len]; exact hlt) (idxL_get hlt).symm)
        have HB := Lib.hid (Below.setCell hbel.out (p := ⟨w1.heap.size, k, none⟩) hs1 (.int .i64 (k : Int)))
        have HS : Hid (w0.heap.size ≤ (wr.setCell ⟨w1.heap.size, k, none⟩ (.int .i64 (k : Int))).heap.size) := Lib.hid (by simp [World.setCell]; exact hsz)
        generalize ys.getD k 0 = y at e0
        clear hin hup hbel
        go_wp2_with fail
        go_roundw
        case rel => exact ⟨k + 1, _, by omega, by go_num, HU, HN, HB, HS.out⟩
        case measure => simp [intOf] <;> omega
      · obtain rfl : k = js.length := by omega
        have h2 : ys = idxL js.length := UpToI.all (by rw [idxL_len]; exact hup.out)
        subst h2
        have HI := Lib.hid hin.out
        clear hin hup
        go_wp2_with fail
        go_ret
        exact ⟨_, rfl, HI.out.wide hs1 hsz, hbel.out⟩
  · have hd' : treeB js n = false := by simpa using hd
    rw [hd'] at CT
    have HC : Hid (firstB js n = []) := Lib.hid (by unfold firstB; rw [hd']; rfl)
    rw [HC.out]
    clear wn hd hd' HC
    go_enter Try.func12, Try.ntmps12
    go_wp2_with fail
    refine (args_eqL CT.out (by with_reducible rfl)).mono ?_
    rintro e w1 ⟨rfl, hb1⟩
    go_wp2_with fail
    go_ret
    exact ⟨_, rfl, ⟨by simp, .inl ⟨rfl, _, _, rfl⟩⟩, hb1⟩
set_option maxHeartbeats 3200000 in
set_option maxRecDepth 20000 in
theorem SpecFirst_any (lo hi : Nat) (v : Value) (js : List J3) (n : Int) (wn : (Lit.int .i64 n).wf = true) (w : World) (r : JnIn lo hi w v js) (hhi : hi ≤ w.heap.size) :
    Calls Try.prog 24 #[v, .int .i64 n] w (FreshI (firstB js n) w) := by
  obtain ⟨i0, hi0, hz0, hz1, hz2⟩ := info_parts3 info_intJ
  obtain ⟨av, cv, rfl⟩ := r.form
  obtain ⟨W1, hW1⟩ : ∃ W1, W1 = w.alloc (.cells #[] 3) := ⟨_, rfl⟩
  have B1 : Below w.heap.size w W1 := by rw [hW1]; exact bel0 _ _
  have CT := Lib.hid (SpecTree_any lo hi _ js n wn W1 (r.below (B1.mono hhi)) (Nat.le_trans hhi B1.size))
  have HO1 : Hid (OwnD w.heap.size W1 (.slice (some ⟨w.heap.size, 0, none⟩) 0 0) []) := Lib.hid (by
    have := World.ownsRow_lit (base := w.heap.size) (e := 3) (size := 1) w #[] 0 (Nat.le_refl _) (by decide) rfl
    rw [hW1]; simpa [OwnD, ivals] using this)
  have HB1 := Lib.hid B1
  clear r B1
  by_cases hd : treeB js n = true
  · have hlM : js.length ≤ 11 := by
      obtain ⟨N, rfl, hT⟩ := tree_is hd
      have := hT.len; have := hT.n12; omega
    have HC : Hid (firstB js n = idxL js.length) := Lib.hid (by unfold firstB; rw [if_pos hd])
    rw [hd] at CT
    rw [HC.out]
    clear hd HC wn
    go_enter Try.func24, Try.ntmps24
    go_wp2_with fail
    rw [← hW1]
    refine (args_eqL CT.out (by with_reducible rfl)).mono ?_
    rintro e w1 ⟨rfl, hb1⟩
    have HO2 := Lib.hid (owL HO1.out hb1)
    have HB2 := Lib.hid (bel_c HB1.out (Nat.le_refl _) hb1)
    clear hb1 CT HO1 HB1 hW1
    go_wp2_with fail
    go_loopw [5, 6] (fun q i wr => ∃ (k : Nat), k ≤ js.length ∧ i = .int .i64 k ∧ Hid (OwnD w.heap.size wr q (idxL k)) ∧ Hid (Below w.heap.size w wr)) (fun _ i _ => js.length - (intOf i).toNat)
    case atStart => exact ⟨0, Nat.zero_le _, rfl, HO2, HB2⟩
    case round =>
      clear HO2 HB2
      obtain ⟨k, hk, rfl, ho, hbel⟩ := hrel
      have hil := idxL_len k
      obtain ⟨aq, cq, hq⟩ := (ho.out.row (by omega)).form
      rw [hil] at hq
      subst hq
      by_cases hlt : k < js.length
      · have BX := bel0 wr (.cells #[.int .i64 (k : Int)] 3)
        have HO3 := Lib.hid (owL ho.out BX)
        have HB3 := Lib.hid (bel_c hbel.out (Nat.le_refl _) BX)
        have HNW : Hid (∀ (j : Nat) u, ([.int .i64 (k : Int)] : List Value)[j]? = some u → (wr.alloc (.cells #[.int .i64 (k : Int)] 3)).cell? ((⟨wr.heap.size, 0, none⟩ : Addr).add j) = some u) := Lib.hid (fun j u hu => newsL wr wr.heap.size #[.int .i64 (k : Int)] 3 rfl j u hu)
        have HS3 : Hid (w.heap.size ≤ (wr.alloc (.cells #[.int .i64 (k : Int)] 3)).heap.size) := Lib.hid HB3.out.size
        have HIS := Lib.hid (idxL_succ k)
        clear BX ho hbel
        unfold OwnD at HO3
        rw [hil] at HO3
        go_wp2_with (at_builtin; refine wpList_append_lies _ rfl _ _ 28 rfl w.heap.size 3 i0 (.int .i64 0) 1 8 Try.underlying28 hi0 hz0 hz1 hz2 rfl (by decide) _ _ _ rfl HO3.out ⟨wr.heap.size, 0, none⟩ 1 1 [.int .i64 (k : Int)] rfl rfl HNW.out (by simp [Value.oneCell']) (by omega) (by unfold maxLen; omega) (by omega) HS3.out (wr.heap.size + 1) (by simp) ?_; intro gg cc w5 hown5 hgrow hat hlt5; have hbw := (Below.refl w.heap.size _).grown hgrow HS3.out (ogL HO3.out))
        have HN5 : Hid (OwnD w.heap.size w5 (.slice (some ⟨gg, 0, none⟩) (k + 1) cc) (idxL (k + 1))) := Lib.hid (by
          rw [HIS.out]
          unfold OwnD ivals at *
          rw [List.map_append, List.length_append, hil]
          exact hown5)
        have HB5 := Lib.hid (HB3.out.trans hbw)
        clear hown5 hgrow hat hlt5 hbw HO3 HNW HS3 HB3
        go_wp2_with fail
        go_roundw
        case rel => exact ⟨k + 1, by omega, by go_num, HN5, HB5⟩
        case measure => simp [intOf] <;> omega
      · obtain rfl : k = js.length := by omega
        have HI := Lib.hid (ho.out.row (by omega))
        clear ho
        go_wp2_with fail
        go_ret
        exact ⟨_, rfl, HI.out, hbel.out⟩
  · have hd' : treeB js n = false := by simpa using hd
    rw [hd'] at CT
    have HC : Hid (firstB js n = []) := Lib.hid (by unfold firstB; rw [hd']; rfl)
    rw [HC.out]
    clear wn hd hd' HC
    go_enter Try.func24, Try.ntmps24
    go_wp2_with fail
    rw [← hW1]
    refine (args_eqL CT.out (by with_reducible rfl)).mono ?_
    rintro e w1 ⟨rfl, hb1⟩
    have HB2 := Lib.hid (bel_c HB1.out (Nat.le_refl _) hb1)
    clear hb1
    go_wp2_with fail
    go_ret
    exact ⟨_, rfl, ⟨by simp, .inl ⟨rfl, _, _, rfl⟩⟩, HB2.out⟩
end Go.Proofs.Ytlkiacgpiodkiaa

set_option linter.unusedSimpArgs false
set_option linter.unusedVariables false
namespace Go.Proofs.Ytlkiacgpiodkiaa

section
variable {js : List J3} {N : Nat}
/-! A line of joins is parted. -/
theorem mem_wait {m : Nat} {r o : Int} : o ∈ waitM js N m r ↔ ∃ k : Nat, k < m ∧ r < dpK js N k ∧ o = k := by
  simp only [waitM, List.mem_map, List.mem_filter, List.mem_range, decide_eq_true_eq]
  constructor
  · rintro ⟨k, ⟨h1, h2⟩, rfl⟩; exact ⟨k, h1, h2, rfl⟩
  · rintro ⟨k, h1, h2, rfl⟩; exact ⟨k, ⟨h1, h2⟩, rfl⟩
theorem wait_first (h : TreeJ js N) : waitM js N js.length 0 = idxL js.length := by
  unfold waitM idxL
  congr 1
  apply List.filter_eq_self.2
  intro k hk
  have := dpK_pos h (List.mem_range.1 hk)
  exact decide_eq_true (by omega)
def goL (js : List J3) (N : Nat) (U : Nat → Bool) (ls : List Int) : List Int := ls.filter fun o => canB js N U o.toNat
def stayL (js : List J3) (N : Nat) (U : Nat → Bool) (ls : List Int) : List Int := ls.filter fun o => !canB js N U o.toNat
theorem go_round (h : TreeJ js N) (r : Int) : goL js N (depU js N (r - 1)) (waitM js N js.length (r - 1)) = rndM js N js.length r := by
  unfold goL waitM rndM
  rw [List.filter_map, List.filter_filter]
  congr 1
  apply List.filter_congr
  intro k hk
  rw [List.mem_range] at hk
  simp only [Function.comp_apply, Int.toNat_natCast]
  by_cases h1 : r - 1 < dpK js N k
  · rw [can_dep h hk h1, decide_eq_true h1, Bool.and_true]
  · have : (dpK js N k == r) = false := by simp; omega
    rw [this, decide_eq_false h1, Bool.and_false]
theorem stay_round (h : TreeJ js N) (r : Int) : stayL js N (depU js N (r - 1)) (waitM js N js.length (r - 1)) = waitM js N js.length r := by
  unfold stayL waitM
  rw [List.filter_map, List.filter_filter]
  congr 1
  apply List.filter_congr
  intro k hk
  rw [List.mem_range] at hk
  simp only [Function.comp_apply, Int.toNat_natCast]
  by_cases h1 : r - 1 < dpK js N k
  · rw [can_dep h hk h1, decide_eq_true h1, Bool.and_true]
    by_cases e : dpK js N k = r
    · have e2 : ¬ r < dpK js N k := by omega
      simp [e, e2]
    · have e2 : r < dpK js N k := by omega
      simp [e, e2]
  · have e2 : ¬ r < dpK js N k := by omega
    simp [h1, e2]
theorem goL_step {U : Nat → Bool} {ls : List Int} {k : Nat} (hk : k < ls.length) (h : canB js N U (ls.getD k 0).toNat = true) :
    goL js N U (ls.take (k + 1)) = goL js N U (ls.take k) ++ [ls.getD k 0] ∧ stayL js N U (ls.take (k + 1)) = stayL js N U (ls.take k) := by
  have e : ls.getD k 0 = ls[k] := by simp [List.getD_eq_getElem?_getD, hk]
  rw [e] at h ⊢
  unfold goL stayL
  rw [List.take_succ_eq_append_getElem hk, List.filter_append, List.filter_append]
  simp [h]
theorem stayL_step {U : Nat → Bool} {ls : List Int} {k : Nat} (hk : k < ls.length) (h : canB js N U (ls.getD k 0).toNat = false) :
    goL js N U (ls.take (k + 1)) = goL js N U (ls.take k) ∧ stayL js N U (ls.take (k + 1)) = stayL js N U (ls.take k) ++ [ls.getD k 0] := by
  have e : ls.getD k 0 = ls[k] := by simp [List.getD_eq_getElem?_getD, hk]
  rw [e] at h ⊢
  unfold goL stayL
  rw [List.take_succ_eq_append_getElem hk, List.filter_append, List.filter_append]
  simp [h]
theorem stayL_le {U : Nat → Bool} {ls : List Int} (k : Nat) : (stayL js N U (ls.take k)).length ≤ k ∧ (stayL js N U (ls.take k)).length ≤ ls.length ∧ (goL js N U (ls.take k)).length ≤ ls.length := by
  have h1 := List.length_filter_le (fun o => !canB js N U o.toNat) (ls.take k)
  have h2 := List.length_filter_le (fun o => canB js N U o.toNat) (ls.take k)
  rw [List.length_take] at h1 h2
  unfold stayL goL
  omega

/-! The model's rows. -/
def mxK (js : List J3) (N : Nat) : Nat → Nat
  | 0 => 0
  | k + 1 => max (mxK js N k) (dpK js N k).toNat
theorem mxK_le : ∀ {k i : Nat}, i < k → dpK js N i ≤ mxK js N k
  | 0, i, h => by omega
  | k + 1, i, h => by
    simp only [mxK]
    by_cases e : i = k
    · subst e; omega
    · have := mxK_le (k := k) (i := i) (by omega)
      omega
def outK (js : List J3) (N k : Nat) : List (List Int) := (List.range (mxK js N k)).map fun (r : Nat) => rndM js N k ((r : Int) + 1)
theorem outK_len (k : Nat) : (outK js N k).length = mxK js N k := by simp [outK]
theorem dpK_next (h : TreeJ js N) {k : Nat} (hk : k < js.length) : 1 ≤ dpK js N k ∧ dpK js N k ≤ mxK js N k + 1 := by
  refine ⟨dpK_pos h hk, ?_⟩
  obtain ⟨a, b, ha, hb, la, lb, _⟩ := h.nat hk
  have hu : ∀ u, u < N + k → dp (grow dpJ js N js.length) u ≤ mxK js N k := by
    intro u hu
    by_cases e : u < N
    · rw [grow_zero e]; omega
    · obtain ⟨i, rfl⟩ : ∃ i, u = N + i := ⟨u - N, by omega⟩
      exact mxK_le (by omega)
  have h1 := hu a la
  have h2 := hu b lb
  rw [dpK_is h hk, ha, hb]
  simp only [Int.toNat_natCast]
  omega
theorem rndM_succ (k : Nat) (r : Int) : rndM js N (k + 1) r = rndM js N k r ++ (if dpK js N k = r then [(k : Int)] else []) := by
  unfold rndM
  rw [List.range_succ, List.filter_append, List.map_append]
  congr 1
  by_cases e : dpK js N k = r <;> simp [e]
theorem rndM_none {k : Nat} {r : Int} (h : (mxK js N k : Int) < r) : rndM js N k r = [] := by
  unfold rndM
  rw [List.map_eq_nil_iff, List.filter_eq_nil_iff]
  intro i hi
  rw [List.mem_range] at hi
  have := mxK_le (js := js) (N := N) hi
  simp; omega
/-- The rows when they are enough. -/
def outX (js : List J3) (N k : Nat) : List (List Int) := outK js N k ++ List.replicate ((dpK js N k).toNat - mxK js N k) []
theorem outX_len (k : Nat) : (outX js N k).length = max (mxK js N k) (dpK js N k).toNat := by
  unfold outX; rw [List.length_append, outK_len, List.length_replicate]; omega
theorem outX_more (h : TreeJ js N) {k : Nat} (hk : k < js.length) (h1 : (mxK js N k : Int) < dpK js N k) : outX js N k = outK js N k ++ [[]] := by
  have := (dpK_next h hk).2
  unfold outX
  rw [show (dpK js N k).toNat - mxK js N k = 1 by omega]; rfl
theorem outX_same {k : Nat} (h1 : ¬ (mxK js N k : Int) < dpK js N k) : outX js N k = outK js N k := by
  unfold outX
  rw [show (dpK js N k).toNat - mxK js N k = 0 by omega]; simp
theorem out_step (h : TreeJ js N) {k : Nat} (hk : k < js.length) : (outX js N k).set ((dpK js N k).toNat - 1) ((outX js N k).getD ((dpK js N k).toNat - 1) [] ++ [(k : Int)]) = outK js N (k + 1) := by
  obtain ⟨d1, d2⟩ := dpK_next h hk
  obtain ⟨d, hd⟩ : ∃ d : Nat, dpK js N k = d + 1 := ⟨(dpK js N k - 1).toNat, by omega⟩
  have hd' : (dpK js N k).toNat - 1 = d := by omega
  have hX : ∀ r, r < max (mxK js N k) (d + 1) → (outX js N k).getD r [] = rndM js N k ((r : Int) + 1) := by
    intro r hr
    unfold outX
    rw [List.getD_eq_getElem?_getD]
    by_cases e : r < mxK js N k
    · rw [List.getElem?_append_left (by rw [outK_len]; exact e)]
      simp [outK, e]
    · rw [List.getElem?_append_right (by rw [outK_len]; omega), outK_len, rndM_none (by omega), List.getElem?_replicate]
      split <;> rfl
  rw [hd']
  have hl : (outX js N k).length = max (mxK js N k) (d + 1) := by rw [outX_len, hd]; rfl
  have hm : mxK js N (k + 1) = max (mxK js N k) (d + 1) := by simp only [mxK]; rw [hd]; rfl
  apply List.ext_getElem?
  intro r
  rw [List.getElem?_set]
  by_cases hr : r < max (mxK js N k) (d + 1)
  · have e2 : (outK js N (k + 1))[r]? = some (rndM js N (k + 1) ((r : Int) + 1)) := by
      unfold outK; rw [hm]; simp [List.getElem?_range hr]
    have e3 : (outX js N k)[r]? = some (rndM js N k ((r : Int) + 1)) := by
      have := hX r hr
      rw [List.getD_eq_getElem?_getD, List.getElem?_eq_getElem (by rw [hl]; exact hr)] at this
      rw [List.getElem?_eq_getElem (by rw [hl]; exact hr)]
      simpa using this
    rw [e2, rndM_succ]
    by_cases e : d = r
    · subst e
      rw [if_pos rfl, if_pos (by rw [hl]; exact hr), hX d hr, if_pos hd]
    · rw [if_neg e, e3, if_neg (by omega), List.append_nil]
  · rw [List.getElem?_eq_none (l := outK js N (k + 1)) (by rw [outK_len, hm]; omega)]
    split
    · rename_i e; rw [if_neg (by rw [hl]; omega)]
    · exact List.getElem?_eq_none (by rw [hl]; omega)
theorem mx_last (h : TreeJ js N) : mxK js N js.length = (depJ js N).toNat := by
  have hall : ∀ k, k ≤ js.length → (mxK js N k : Int) ≤ depJ js N := by
    intro k
    induction k with
    | zero => intro _; have := (dep_bd h).1; simpa [mxK] using this
    | succ k ih =>
      intro hk
      have h1 := ih (by omega)
      have h2 := dp_le h (u := N + k) (by omega)
      have h3 := dpK_pos h (k := k) (by omega)
      simp only [mxK]
      unfold dpK at *
      omega
  have h1 := hall _ (Nat.le_refl _)
  have h2 : depJ js N ≤ mxK js N js.length := by
    rw [h.dep]
    have := h.len
    by_cases e : js.length = 0
    · rw [grow_zero (by omega)]; omega
    · have h3 := mxK_le (js := js) (N := N) (k := js.length) (i := js.length - 1) (by omega)
      unfold dpK at h3
      rw [show N + js.length - 1 = N + (js.length - 1) by omega]; exact h3
  omega
theorem out_all (h : TreeJ js N) : outK js N js.length = roundsN js N (depJ js N).toNat := by
  unfold outK roundsN; rw [mx_last h]

/-! The longest round. -/
def mostF (L : List (List Int)) : Nat → Int
  | 0 => 0
  | k + 1 => max (mostF L k) ((L.getD k []).length : Int)
def mostB (js : List J3) (n : Int) : Int := mostF (roundsB js n) (roundsB js n).length
/-! One behind the other. -/
def catF (L : List (List Int)) : Nat → List Int
  | 0 => []
  | k + 1 => catF L k ++ L.getD k []
theorem rnd_le (m : Nat) (r : Int) : (rndM js N m r).length ≤ m := by
  unfold rndM
  rw [List.length_map]
  have := List.length_filter_le (fun k => dpK js N k == r) (List.range m)
  rw [List.length_range] at this; exact this
theorem cat_sum (L : List (List Int)) : ∀ k, ((catF L k).length : Int) = sm k fun r => ((L.getD r []).length : Int)
  | 0 => rfl
  | k + 1 => by simp only [catF, sm, List.length_append, Int.natCast_add, cat_sum L k]
theorem rnd_sum {d : Nat} : ∀ m, (∀ k, k < m → 1 ≤ dpK js N k ∧ dpK js N k ≤ d) → sm d (fun r => ((rndM js N m ((r : Int) + 1)).length : Int)) = m
  | 0, _ => by
    have : sm d (fun r => ((rndM js N 0 ((r : Int) + 1)).length : Int)) = sm d fun _ => 0 := sm_congr fun i _ => by simp [rndM]
    rw [this, sm_zero]; rfl
  | m + 1, h => by
    obtain ⟨h1, h2⟩ := h m (by omega)
    obtain ⟨i, hi⟩ : ∃ i : Nat, dpK js N m = i + 1 := ⟨(dpK js N m - 1).toNat, by omega⟩
    have : sm d (fun r => ((rndM js N (m + 1) ((r : Int) + 1)).length : Int)) = sm d (fun r => ((rndM js N m ((r : Int) + 1)).length : Int) + (if r = i then 1 else 0)) := sm_congr fun r _ => by
      rw [rndM_succ, List.length_append, hi]
      by_cases e : r = i
      · subst e; simp
      · have : ¬ ((i : Int) + 1 = (r : Int) + 1) := by omega
        simp [e, this]
    rw [this, sm_add, rnd_sum m (fun k hk => h k (by omega)), sm_upd (fun _ => 0) 1 (i := i) (k := d) (by omega), sm_zero]
    push_cast; omega
theorem cat_len (h : TreeJ js N) : (catF (roundsN js N (depJ js N).toNat) (depJ js N).toNat).length = js.length := by
  have hb := dep_bd h
  have h1 := cat_sum (roundsN js N (depJ js N).toNat) (depJ js N).toNat
  have h2 := rnd_sum (js := js) (N := N) (d := (depJ js N).toNat) js.length (fun k hk => ⟨dpK_pos h hk, by
    have := dp_le h (u := N + k) (by omega)
    unfold dpK; omega⟩)
  have : sm (depJ js N).toNat (fun r => (((roundsN js N (depJ js N).toNat).getD r []).length : Int)) = sm (depJ js N).toNat (fun r => ((rndM js N js.length ((r : Int) + 1)).length : Int)) := sm_congr fun r hr => by rw [roundsN_get hr]
  rw [this, h2] at h1
  omega
theorem ordF_ext (h : TreeJ js N) : ∀ (os : List Int) (U V : Nat → Bool), (∀ i, i < N + js.length → U i = V i) → ordF js N U os = ordF js N V os
  | [], _, _, _ => rfl
  | o :: r, U, V, he => by
    rw [ordF, ordF]
    have h1 : ordS js N U o = ordS js N V o := by
      unfold ordS
      by_cases hi : InU js.length o
      · obtain ⟨o0, o1⟩ := hi
        obtain ⟨k, rfl⟩ : ∃ k : Nat, o = k := ⟨o.toNat, by omega⟩
        obtain ⟨a, b, ha, hb, la, lb, _⟩ := h.nat (k := k) (by omega)
        rw [Int.toNat_natCast, canB_eq _ ha hb, canB_eq _ ha hb, he _ (by omega), he _ (by omega), he _ (by omega)]
      · rw [decide_eq_false hi]; rfl
    rw [h1, ordF_ext h r (putU N U [o]) (putU N V [o]) fun i hi => by unfold putU; rw [he i hi]]
theorem ordF_can : ∀ (os : List Int) (U : Nat → Bool), os.Pairwise (fun a b => a < b) → (∀ o ∈ os, InU js.length o ∧ canB js N U o.toNat = true) → ordF js N U os = true
  | [], _, _, _ => rfl
  | o :: r, U, hp, hc => by
    rw [ordF]
    obtain ⟨h1, h2⟩ := hc o (by simp)
    rw [List.pairwise_cons] at hp
    have h3 : ordS js N U o = true := by unfold ordS; rw [decide_eq_true h1, h2]; rfl
    rw [h3, Bool.true_and]
    refine ordF_can r _ hp.2 fun p hpm => ?_
    obtain ⟨g1, g2⟩ := hc p (by simp [hpm])
    refine ⟨g1, ?_⟩
    have hlt := hp.1 p hpm
    unfold InU at h1 g1
    unfold canB at g2 ⊢
    simp only [Bool.and_eq_true] at g2 ⊢
    obtain ⟨⟨g3, g4⟩, g5⟩ := g2
    have hne : (N + o.toNat == N + p.toNat) = false := by simp; omega
    refine ⟨⟨?_, ?_⟩, ?_⟩
    · simp only [putU, List.any_cons, List.any_nil, Bool.or_false, hne]; exact g3
    · simp only [putU, g4, Bool.true_or]
    · simp only [putU, g5, Bool.true_or]
theorem rnd_up (m : Nat) (r : Int) : (rndM js N m r).Pairwise (fun a b => a < b) := by
  unfold rndM
  rw [List.pairwise_map]
  exact (List.pairwise_lt_range.filter _).imp fun h => by omega
theorem cat_ord (h : TreeJ js N) (d : Nat) : ∀ r, r ≤ d → ordF js N (iniU N) (catF (roundsN js N d) r) = true ∧ rowB (N + js.length) (putU N (iniU N) (catF (roundsN js N d) r)) = rowB (N + js.length) (depU js N r)
  | 0, _ => by
    refine ⟨rfl, ?_⟩
    rw [show catF (roundsN js N d) 0 = [] from rfl, putU_nil]; exact ini_dep h
  | r + 1, hr => by
    obtain ⟨h1, h2⟩ := cat_ord h d r (by omega)
    have he : ∀ i, i < N + js.length → putU N (iniU N) (catF (roundsN js N d) r) i = depU js N r i := by
      intro i hi
      have e := congrArg (fun l => l.getD i false) h2
      rwa [rowB_get hi, rowB_get hi] at e
    have hrr : ((r : Int) + 1) - 1 = r := by omega
    simp only [catF]
    rw [roundsN_get (by omega), ordF_app, h1, Bool.true_and, ordF_ext h _ _ _ he]
    constructor
    · refine ordF_can _ _ (rnd_up _ _) fun o ho => ?_
      obtain ⟨k, hk, hd, rfl⟩ := mem_rnd.1 ho
      refine ⟨⟨by omega, by omega⟩, ?_⟩
      have := can_dep h hk (r := (r : Int) + 1) (by omega)
      rw [hrr, hd] at this
      rw [Int.toNat_natCast, this]; simp
    · rw [← putU_app]
      have hp := put_dep h (r := (r : Int) + 1) (by omega)
      rw [hrr] at hp
      rw [show ((r + 1 : Nat) : Int) = (r : Int) + 1 by push_cast; rfl, ← hp]
      apply rowB_ext
      intro i hi
      unfold putU
      have := he i hi
      unfold putU at this
      rw [this]
/-- A list of joins that make a tree, at its rounds. -/
theorem rounds_yes {n : Int} (h : treeB js n = true) : roundsB js n = roundsN js n.toNat (depJ js n).toNat := by unfold roundsB; rw [if_pos h]
theorem rounds_no {n : Int} (h : treeB js n = false) : roundsB js n = [] := by unfold roundsB; rw [h]; rfl
theorem cat_all {n : Int} (h : treeB js n = true) : ordB js n (catF (roundsB js n) (roundsB js n).length) = true ∧ (catF (roundsB js n) (roundsB js n).length).length = js.length ∧ ((roundsB js n).length : Int) = depJ js n := by
  obtain ⟨N, rfl, hT⟩ := tree_is h
  rw [rounds_yes h, Int.toNat_natCast, roundsN_len]
  have hb := dep_bd hT
  refine ⟨?_, cat_len hT, by omega⟩
  unfold ordB
  rw [h, cat_len hT, Int.toNat_natCast, (cat_ord hT _ _ (Nat.le_refl _)).1]
  simp
end
end Go.Proofs.Ytlkiacgpiodkiaa
