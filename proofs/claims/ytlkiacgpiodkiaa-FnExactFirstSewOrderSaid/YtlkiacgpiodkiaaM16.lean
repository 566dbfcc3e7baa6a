/- Orders of sewing: newSewing, canSew, sew of the program. Orders of sewing: IsSewOrder of the program. Orders of sewing: IsSewOrder of the model. -/
import Derived.Test.YtlkiacgpiodkiaaM15
import Derived.Test.YtlkiacgpiodkiaaM14
import Derived.Test.YtlkiacgpiodkiaaM11

set_option linter.unusedSimpArgs false
set_option linter.unusedVariables false
namespace Go.Proofs.Ytlkiacgpiodkiaa
open Go.ChangeShapes Go.WideShapes Go.ChangeAt Go.RowKit

theorem rowB_one {g : Nat} {w : World} {a : Option Addr} {n cap M : Nat} {U : Nat → Bool} (h : BoolIn g (g + 1) w (.slice a n cap) (rowB M U)) {i : Nat} (hi' : i < M) {u : Bool} (hu : U i = u) :
    a = some ⟨g, 0, none⟩ ∧ w.cell? ⟨g, i, none⟩ = some (.bool u) ∧ w.frozen? ⟨g, i, none⟩ = false := by
  obtain ⟨g', h1, h2, h3, h4, h5⟩ := rowB_cell h hi' hu
  obtain rfl : g' = g := by omega
  exact ⟨h1, h4, h5⟩
theorem canB_at {js : List J3} {N : Nat} {U : Nat → Bool} {k a b : Nat} {u0 u1 u2 : Bool} (ha : (jn js k).a = a) (hb : (jn js k).b = b) (h0 : U (N + k) = u0) (h1 : U a = u1) (h2 : U b = u2) : canB js N U k = (!u0 && u1 && u2) := by
  rw [canB_eq U ha hb, h0, h1, h2]
set_option maxHeartbeats 3200000 in
set_option maxRecDepth 20000 in
theorem ImplCan_any (lo hi : Nat) (v : Value) (js : List J3) (N : Nat) (vb : Value) (g : Nat) (U : Nat → Bool) (k : Nat) (w : World) (r : JnIn lo hi w v js) (hhi : hi ≤ w.heap.size) (hT : TreeJ js N) (hk : k < js.length)
    (rb : BoolIn g (g + 1) w vb (rowB (N + js.length) U)) (hg : g < w.heap.size) :
    Calls Try.prog 41 #[.agg #[v, .int .i64 N, vb], .int .i64 k] w fun e w' => e = .returned (.bool (canB js N U k)) ∧ Below w.heap.size w w' := by
  obtain ⟨av, cv, rfl⟩ := r.form
  obtain ⟨ab, cb, rfl⟩ := rb.form
  rw [rowB_len] at rb ⊢
  have hlM : js.length ≤ 11 := by have := hT.len; have := hT.n12; omega
  have hN : N ≤ 12 := hT.n12
  obtain ⟨gj, rfl, hg0, hg1, ⟨e0, e1, e2⟩, _⟩ := r.at (Below.refl _ _) hk
  obtain ⟨A, B, ha, hb, la, lb, _⟩ := hT.nat hk
  obtain ⟨u0, h0⟩ : ∃ u, U (N + k) = u := ⟨_, rfl⟩
  obtain ⟨u1, h1⟩ : ∃ u, U A = u := ⟨_, rfl⟩
  obtain ⟨u2, h2⟩ : ∃ u, U B = u := ⟨_, rfl⟩
  have HC := Lib.hid (canB_at ha hb h0 h1 h2)
  obtain ⟨hab, r0, _⟩ := rowB_one rb (i := N + k) (by omega) h0
  obtain ⟨_, r1, _⟩ := rowB_one rb (i := A) (by omega) h1
  obtain ⟨_, r2, _⟩ := rowB_one rb (i := B) (by omega) h2
  subst hab
  obtain ⟨j, hj⟩ : ∃ j, j = jn js k := ⟨_, rfl⟩
  rw [show js.getD k J3.zero = j from hj.symm] at e0 e1 e2
  rw [show jn js k = j from hj.symm] at ha hb
  obtain ⟨up, a, b⟩ := j
  simp only at e0 e1 e2 ha hb
  subst ha
  subst hb
  obtain ⟨W1, hW1⟩ : ∃ W1, W1 = (w.alloc (.cells #[.slice (some ⟨gj, 0, none⟩) js.length cv, .int .i64 N, .slice (some ⟨g, 0, none⟩) (N + js.length) cb] 57)).alloc (.cells #[.bool up, .int .i64 A, .int .i64 B] 34) := ⟨_, rfl⟩
  have B0 := bel0 w (.cells #[.slice (some ⟨gj, 0, none⟩) js.length cv, .int .i64 N, .slice (some ⟨g, 0, none⟩) (N + js.length) cb] 57)
  have BA : Below w.heap.size w W1 := by rw [hW1]; exact bel_n B0 (Nat.le_refl _) _
  have c0 := kept B0 e0
  have c1 := kept B0 e1
  have c2 := kept B0 e2
  have s0 := kept BA r0
  have s1 := kept BA r1
  have s2 := kept BA r2
  rw [hW1] at s0 s1 s2
  have HB := Lib.hid BA
  rw [hW1] at HB
  have hwk : IntKind.i64.wrap ((N : Int) + (k : Int)) = ((N + k : Nat) : Int) := by simp [IntKind.wrap, IntKind.bits, IntKind.signed]; omega
  have hx0 : N + k < N + js.length := by omega
  have hx1 : A < N + js.length := by omega
  have hx2 : B < N + js.length := by omega
  rw [HC.out]
  clear r rb hj h0 h1 h2 B0 BA hW1 la lb HC r0 r1 r2
  cases u0 <;> cases u1 <;> cases u2
  all_goals
    go_enter Try.func41, Try.ntmps41
    go_wp2_with fail
    go_ret
    exact ⟨rfl, HB.out⟩

theorem lt_next (M k : Nat) : (rowB M (fun i => decide (i < k))).set k true = rowB M (fun i => decide (i < k + 1)) := by
  rw [rowB_set]
  apply rowB_ext
  intro i _
  by_cases e : i = k
  · subst e; simp
  · rw [if_neg e]
    exact decide_eq_decide.2 (by omega)
set_option maxHeartbeats 3200000 in
set_option maxRecDepth 20000 in
theorem ImplNew_any (v : Value) (js : List J3) (N : Nat) (a : Option Addr) (cap : Nat) (w : World) (hv : v = .slice a js.length cap) (hT : TreeJ js N) :
    Calls Try.prog 37 #[v, .int .i64 N] w fun e w' => ∃ g vb, e = .returned (.agg #[v, .int .i64 N, vb]) ∧ w.heap.size ≤ g ∧ g < w'.heap.size ∧ BoolIn g (g + 1) w' vb (rowB (N + js.length) (iniU N)) ∧ Below w.heap.size w w' := by
  obtain ⟨i0, hi0, hz0, hz1, hz2⟩ := info_parts3 info_boolJ
  subst hv
  have hlM : js.length ≤ 11 := by have := hT.len; have := hT.n12; omega
  have hN : N ≤ 12 := hT.n12
  have hlen := hT.len
  obtain ⟨M, hM⟩ : ∃ M : Nat, M = N + js.length := ⟨_, rfl⟩
  have hwM : IntKind.i64.wrap ((N : Int) + (js.length : Int)) = (M : Int) := by simp [IntKind.wrap, IntKind.bits, IntKind.signed]; omega
  have hNM : N ≤ M := by omega
  have hM23 : M ≤ 23 := by omega
  rw [← hM]
  clear hT hlen hM
  obtain ⟨W1, hW1⟩ : ∃ W1, W1 = w.alloc (.cells #[.slice none 0 0, .int .i64 0, .slice none 0 0] 57) := ⟨_, rfl⟩
  have HBW : Hid (Below w.heap.size w W1 ∧ W1.heap.size = w.heap.size + 1 ∧ W1.cell? ⟨w.heap.size, 0, none⟩ = some (.slice none 0 0) ∧ W1.cell? ⟨w.heap.size, 1, none⟩ = some (.int .i64 0) ∧ W1.cell? ⟨w.heap.size, 2, none⟩ = some (.slice none 0 0) ∧
      W1.frozen? ⟨w.heap.size, 0, none⟩ = false ∧ W1.frozen? ⟨w.heap.size, 1, none⟩ = false ∧ W1.frozen? ⟨w.heap.size, 2, none⟩ = false) := Lib.hid (by
    rw [hW1]; exact ⟨bel0 w _, by simp, by go_simp, by go_simp, by go_simp, by go_simp, by go_simp, by go_simp⟩)
  have HSZ : Hid (w.heap.size ≤ W1.heap.size) := Lib.hid HBW.out.1.size
  rw [hW1] at HSZ
  go_enter Try.func37, Try.ntmps37
  go_wp2_with (at_make; refine wpList_make_full _ rfl _ _ 55 rfl (w.heap.size + 1) 4 i0 _ 1 Try.underlying55 hi0 hz0 hz1 .i64 .i64 _ _ M rfl rfl rfl rfl (by rw [hz2]; omega) (by unfold maxLen; omega) (by simp) ?_; intro w0 hown0 hgrow0)
  have hw0 := own_none hgrow0
  have hsz : (w.alloc (.cells #[.slice none 0 0, .int .i64 0, .slice none 0 0] 57)).heap.size = w.heap.size + 1 := by simp
  rw [hsz] at hown0 hw0
  have HO : Hid (BoolIn (w.heap.size + 1) (w.heap.size + 1 + 1) w0 (.slice (some ⟨w.heap.size + 1, 0, none⟩) M M) (rowB M (fun i => decide (i < 0)))) := Lib.hid (by
    have h1 := BoolIn.zero hown0 (by omega)
    have e : rowB M (fun i => decide (i < 0)) = List.replicate M false := by rw [← rowB_false]; apply rowB_ext; intro i _; simp
    rw [e]
    obtain ⟨hl, h1 | ⟨g, c, hv, hg, hlt, hc⟩⟩ := h1
    · exact ⟨hl, .inl h1⟩
    · simp only [Value.slice.injEq, Option.some.injEq, Addr.mk.injEq, and_true] at hv
      obtain ⟨hv1, hv2⟩ := hv
      subst hv1
      exact ⟨hl, .inr ⟨_, c, by rw [hv2.2]; simp, Nat.le_refl _, Nat.lt_succ_self _, hc⟩⟩)
  have HW : Hid (Below (w.heap.size + 1) W1 w0) := Lib.hid (by rw [hW1]; exact hw0)
  have hs0 : w.heap.size + 1 < w0.heap.size := by
    obtain ⟨_, h | ⟨g, c, cur, hv, hg, hh, _⟩⟩ := hown0
    · have := h.1; simp at this
    · have := lt_of_heapB hh; omega
  clear hw0 hown0 hgrow0 hsz hW1 HSZ
  go_loopw [13] (fun i wr => ∃ (k : Nat), k ≤ N ∧ i = .int .i64 k ∧ Hid (BoolIn (w.heap.size + 1) (w.heap.size + 1 + 1) wr (.slice (some ⟨w.heap.size + 1, 0, none⟩) M M) (rowB M (fun i => decide (i < k)))) ∧ Hid (Below (w.heap.size + 1) W1 wr) ∧ w.heap.size + 1 < wr.heap.size) (fun i _ => N - (intOf i).toNat)
  case atStart => exact ⟨0, Nat.zero_le _, rfl, HO, HW, hs0⟩
  case round =>
    clear HO HW hs0
    obtain ⟨k, hk, rfl, hin, hbel, hsz⟩ := hrel
    by_cases hlt : k < N
    · have hkM : k < M := by omega
      obtain ⟨_, r0, f0⟩ := rowB_one hin.out (i := k) hkM rfl
      have HI1 := Lib.hid (hin.out.set k (by rw [rowB_len]; exact hkM) true)
      rw [lt_next] at HI1
      have HB1 := Lib.hid (Below.setCell hbel.out (p := ⟨w.heap.size + 1, k, none⟩) (Nat.le_refl _) (.bool true))
      have HS1 : Hid (w.heap.size + 1 < (wr.setCell ⟨w.heap.size + 1, k, none⟩ (.bool true)).heap.size) := Lib.hid (by simp [World.setCell]; exact hsz)
      clear hin hbel
      generalize decide (k < k) = u0 at r0
      go_wp2_with fail
      go_roundw
      case rel => exact ⟨k + 1, by omega, by go_num, HI1, HB1, HS1.out⟩
      case measure => simp [intOf] <;> omega
    · obtain rfl : k = N := by omega
      obtain ⟨h1, h2, c0, c1, c2, f0, f1, f2⟩ := HBW.out
      have d0 := (hbel.out.cell (p := ⟨w.heap.size, 0, none⟩) (by simp only; omega)).trans c0
      have d1 := (hbel.out.cell (p := ⟨w.heap.size, 1, none⟩) (by simp only; omega)).trans c1
      have d2 := (hbel.out.cell (p := ⟨w.heap.size, 2, none⟩) (by simp only; omega)).trans c2
      have g0 := (hbel.out.frozen (p := ⟨w.heap.size, 0, none⟩) (by simp only; omega)).trans f0
      have g1 := (hbel.out.frozen (p := ⟨w.heap.size, 1, none⟩) (by simp only; omega)).trans f1
      have g2 := (hbel.out.frozen (p := ⟨w.heap.size, 2, none⟩) (by simp only; omega)).trans f2
      have HB1 : Hid (Below w.heap.size w wr) := Lib.hid (h1.trans (hbel.out.mono (by omega)))
      clear h1 h2 c0 c1 c2 f0 f1 f2 hbel HBW
      go_wp2_with fail
      refine bodyPost_ret (v := .agg #[.slice a js.length cap, .int .i64 k, .slice (some ⟨w.heap.size + 1, 0, none⟩) M M]) (by simp [results, Try.results37, go_sem, d0, d1, d2]) rfl ⟨w.heap.size + 1, _, rfl, by omega, by simp [World.setCell]; omega, ?_, ?_⟩
      · exact ((hin.out.set_far (p := ⟨w.heap.size, 0, none⟩) (by simp) _).set_far (p := ⟨w.heap.size, 1, none⟩) (by simp) _).set_far (p := ⟨w.heap.size, 2, none⟩) (by simp) _
      · exact Below.setCell (Below.setCell (Below.setCell HB1.out (by simp) _) (by simp) _) (by simp) _

set_option maxHeartbeats 3200000 in
set_option maxRecDepth 20000 in
theorem ImplSew_any (v : Value) (js : List J3) (N : Nat) (vb : Value) (g : Nat) (U : Nat → Bool) (lo hi : Nat) (vi : Value) (os : List Int) (w : World) (hN : N ≤ 12) (hlM : js.length ≤ 11)
    (rb : BoolIn g (g + 1) w vb (rowB (N + js.length) U)) (hg : g < w.heap.size) (ri : IntIn lo hi w vi os) (hhi : hi ≤ w.heap.size) (hfar : g < lo ∨ hi ≤ g) (ho : ∀ o ∈ os, InU js.length o) :
    Calls Try.prog 42 #[.agg #[v, .int .i64 N, vb], vi] w fun e w' => e = .returned (.tuple #[]) ∧ BoolIn g (g + 1) w' vb (rowB (N + js.length) (putU N U os)) ∧ Only (fun k => k = g) w w' := by
  obtain ⟨ab, cb, rfl⟩ := rb.form
  obtain ⟨ai, ci, rfl⟩ := ri.form
  rw [rowB_len] at rb ⊢
  have HO := Lib.hid ho
  have RI := Lib.hid ri
  have hol := ri.1
  obtain ⟨M, hM⟩ : ∃ M : Nat, M = N + js.length := ⟨_, rfl⟩
  have HM := Lib.hid hM
  rw [← hM] at rb ⊢
  have hM23 : M ≤ 23 := by omega
  have B0 := bel0 w (.cells #[v, .int .i64 N, .slice ab M cb] 57)
  have HI0 := Lib.hid (rb.below (w' := w.alloc (.cells #[v, .int .i64 N, .slice ab M cb] 57)) (B0.mono (by omega)))
  obtain ⟨W1, hW1⟩ : ∃ W1, W1 = w.alloc (.cells #[v, .int .i64 N, .slice ab M cb] 57) := ⟨_, rfl⟩
  have HBW : Hid (Below w.heap.size w W1 ∧ W1.heap.size = w.heap.size + 1 ∧ W1.cell? ⟨w.heap.size, 1, none⟩ = some (.int .i64 N) ∧ W1.cell? ⟨w.heap.size, 2, none⟩ = some (.slice ab M cb)) := Lib.hid (by
    rw [hW1]; exact ⟨bel0 w _, by simp, by go_simp, by go_simp⟩)
  have HI1 := HI0
  rw [← hW1] at HI1
  clear ri ho hM rb B0 HI0
  go_enter Try.func42, Try.ntmps42
  go_wp2_with fail
  rw [← hW1]
  clear hW1
  go_loopw [8] (fun i wr => ∃ (k : Nat), k ≤ os.length ∧ i = .int .i64 k ∧ Hid (BoolIn g (g + 1) wr (.slice ab M cb) (rowB M (putU N U (os.take k)))) ∧ Hid (Only (fun k => k = g) W1 wr)) (fun i _ => os.length - (intOf i).toNat)
  case atStart => exact ⟨0, Nat.zero_le _, rfl, Lib.hid (by rw [List.take_zero, putU_nil]; exact HI1.out), Lib.hid (Only.refl _ _)⟩
  case round =>
    clear HI1
    obtain ⟨k, hk, rfl, hin, honly⟩ := hrel
    obtain ⟨hb1, hb2, c1, c2⟩ := HBW.out
    by_cases hlt : k < os.length
    · have d1 := honly.out.cell c1 (by simp only; omega)
      have d2 := honly.out.cell c2 (by simp only; omega)
      have RI2 := (RI.out.below (hb1.mono hhi)).only honly.out (fun j h1 h2 => by omega) (by omega)
      obtain ⟨gi, hgi, hgi0, hgi1, e0, _⟩ := RI2.at (Below.refl _ _) hlt
      obtain ⟨o, hoo⟩ : ∃ o, o = os.getD k 0 := ⟨_, rfl⟩
      rw [← hoo] at e0
      have hmem : o ∈ os := by rw [hoo, List.getD_eq_getElem?_getD, List.getElem?_eq_getElem hlt]; exact List.getElem_mem hlt
      obtain ⟨o0, o1⟩ := HO.out o hmem
      obtain ⟨q, rfl⟩ : ∃ q : Nat, o = q := ⟨o.toNat, by omega⟩
      have hx : N + q < M := by have := HM.out; omega
      have htk : os.take (k + 1) = os.take k ++ [(q : Int)] := by
        rw [List.take_succ_eq_append_getElem hlt]; congr 2
        rw [hoo, List.getD_eq_getElem?_getD, List.getElem?_eq_getElem hlt]; rfl
      obtain ⟨hab, r0, f0⟩ := rowB_one hin.out (i := N + q) hx rfl
      subst hab
      have HI1 := Lib.hid (hin.out.set (N + q) (by rw [rowB_len]; exact hx) true)
      rw [show N + q = N + (q : Int).toNat from rfl, rowB_putU, ← htk] at HI1
      have HO1 := Lib.hid (honly.out.setCell (p := ⟨g, N + q, none⟩) (fun _ => rfl) (.bool true))
      have hwk : IntKind.i64.wrap ((N : Int) + (q : Int)) = ((N + q : Nat) : Int) := by simp [IntKind.wrap, IntKind.bits, IntKind.signed]; omega
      generalize putU N U (os.take k) (N + q) = u0 at r0
      rw [hgi] at RI
      clear hin honly hb1 hb2 c1 c2 RI2 hoo hmem htk
      subst hgi
      go_wp2_with fail
      go_roundw
      case rel => exact ⟨k + 1, by omega, by go_num, HI1, HO1⟩
      case measure => simp [intOf] <;> omega
    · obtain rfl : k = os.length := by omega
      have HI1 := Lib.hid (by have := hin.out; rw [List.take_length] at this; exact this)
      have HO1 : Hid (Only (fun k => k = g) w wr) := Lib.hid ((Only.of_below hb1).trans honly.out)
      clear hin honly hb1 hb2 c1 c2
      go_wp2_with fail
      exact ⟨rfl, .tuple #[], by simp [results, Try.results42, go_sem], rfl, HI1.out, HO1.out⟩
end Go.Proofs.Ytlkiacgpiodkiaa

set_option linter.unusedSimpArgs false
set_option linter.unusedVariables false
namespace Go.Proofs.Ytlkiacgpiodkiaa
open Go.ChangeShapes Go.WideShapes Go.ChangeAt Go.RowKit

theorem bel_only {S : Nat → Prop} {b : Nat} {w u x : World} (h : Below b w u) (k : Only S u x) (hb : b ≤ w.heap.size) (hs : ∀ i, i < b → ¬ S i) : Below b w x :=
  h.trans ⟨k.os, k.tape, k.output, k.size, fun i hi => k.block i (Nat.lt_of_lt_of_le hi (Nat.le_trans hb h.size)) (hs i hi)⟩
set_option maxHeartbeats 6400000 in
set_option maxRecDepth 20000 in
theorem ImplOrder_any (lo hi lo2 hi2 : Nat) (v vi : Value) (js : List J3) (os : List Int) (n : Int) (wn : (Lit.int .i64 n).wf = true) (w : World) (r : JnIn lo hi w v js) (ri : IntIn lo2 hi2 w vi os) (hhi : hi ≤ w.heap.size) (hhi2 : hi2 ≤ w.heap.size) :
    Calls Try.prog 14 #[v, .int .i64 n, vi] w fun e w' => e = .returned (.bool (ordB js n os)) ∧ Below w.heap.size w w' := by
  obtain ⟨av, cv, rfl⟩ := r.form
  obtain ⟨ai, ci, rfl⟩ := ri.form
  have R := Lib.hid r
  have RI := Lib.hid ri
  have CT := Lib.hid (ImplAreTree_any lo hi _ js n wn w r hhi)
  have hol := ri.1
  have hjl := r.1
  clear r ri
  by_cases hd : treeB js n = true
  · rw [hd] at CT
    by_cases hl : os.length = js.length
    · obtain ⟨N, rfl, hT⟩ := tree_is hd
      have HC : Hid (ordF js N (iniU N) os = ordB js N os) := Lib.hid (by unfold ordB; rw [hd, decide_eq_true hl]; simp)
      generalize ordB js N os = c at HC ⊢
      have hN : N ≤ 12 := hT.n12
      have hlM : js.length ≤ 11 := by have := hT.len; omega
      have HT := Lib.hid hT
      have hl2 : ((os.length : Int) != (js.length : Int)) = false := by rw [hl]; simp
      have HLO := Lib.hid hl
      clear hd hT wn hl
      go_enter Try.func14, Try.ntmps14
      go_wp2_with fail
      refine (args_eqL CT.out (by with_reducible rfl)).mono ?_
      rintro e w1 ⟨rfl, hb1⟩
      have hs1 := hb1.size
      have HB1 := Lib.hid hb1
      clear hb1 CT
      go_wp2_with fail
      refine (args_eqL (ImplNew_any _ js N av cv w1 rfl HT.out) (by with_reducible rfl)).mono ?_
      rintro e w2 ⟨g, vb, rfl, hg, hg2, hin, hb2⟩
      obtain ⟨ab, cb, rfl⟩ := hin.form
      rw [rowB_len] at hin ⊢
      have HB2 := Lib.hid (bel_c HB1.out (Nat.le_refl _) hb2)
      obtain ⟨W3, hW3⟩ : ∃ W3, W3 = w2.alloc (.cells #[.slice av js.length cv, .int .i64 N, .slice ab (N + js.length) cb] 57) := ⟨_, rfl⟩
      have HB3 : Hid (Below w.heap.size w W3 ∧ Below w2.heap.size w2 W3 ∧ W3.heap.size = w2.heap.size + 1 ∧ W3.cell? ⟨w2.heap.size, 0, none⟩ = some (.slice av js.length cv) ∧ W3.cell? ⟨w2.heap.size, 1, none⟩ = some (.int .i64 N) ∧ W3.cell? ⟨w2.heap.size, 2, none⟩ = some (.slice ab (N + js.length) cb)) := Lib.hid (by
        rw [hW3]; exact ⟨bel_n HB2.out (Nat.le_refl _) _, bel0 w2 _, by simp, by go_simp, by go_simp, by go_simp⟩)
      have HI3 : Hid (BoolIn g (g + 1) W3 (.slice ab (N + js.length) cb) (rowB (N + js.length) (iniU N))) := Lib.hid (hin.below (HB3.out.2.1.mono (by omega)))
      have hs2 := hb2.size
      clear hb2 hin HB2 HB1
      go_wp2_with fail
      rw [← hW3]
      clear hW3
      go_loopw [26] (fun i wr => ∃ (k : Nat), k ≤ os.length ∧ i = .int .i64 k ∧ Hid (BoolIn g (g + 1) wr (.slice ab (N + js.length) cb) (rowB (N + js.length) (putU N (iniU N) (os.take k)))) ∧ Hid (Only (fun k => k = g) W3 wr) ∧ Hid (ordF js N (putU N (iniU N) (os.take k)) (os.drop k) = c)) (fun i _ => os.length - (intOf i).toNat)
      case atStart => exact ⟨0, Nat.zero_le _, rfl, Lib.hid (by rw [List.take_zero, putU_nil]; exact HI3.out), Lib.hid (Only.refl _ _), Lib.hid (by rw [List.take_zero, putU_nil, List.drop_zero]; exact HC.out)⟩
      case round =>
        clear HI3 HC
        obtain ⟨k, hk, rfl, hin, honly, hord⟩ := hrel
        obtain ⟨hb3, hb4, hs3, c0, c1, c2⟩ := HB3.out
        have HBW : Hid (Below w.heap.size w wr) := Lib.hid (bel_only hb3 honly.out (Nat.le_refl _) (fun i hi => by omega))
        have hsz := honly.out.size
        have hsw := HBW.out.size
        by_cases hlt : k < os.length
        · have d0 := honly.out.cell c0 (by simp only; omega)
          have d1 := honly.out.cell c1 (by simp only; omega)
          have d2 := honly.out.cell c2 (by simp only; omega)
          have RI2 := RI.out.below (HBW.out.mono hhi2)
          have RJ2 := Lib.hid (R.out.below (HBW.out.mono hhi))
          obtain ⟨gi, hgi, hgi0, hgi1, e0, _⟩ := RI2.at (Below.refl _ _) hlt
          have HST := Lib.hid (ordF_step hlt hord.out)
          obtain ⟨o, hoo⟩ : ∃ o, o = os.getD k 0 := ⟨_, rfl⟩
          rw [← hoo] at e0 HST
          have htk : os.take (k + 1) = os.take k ++ [o] := by
            rw [List.take_succ_eq_append_getElem hlt]; congr 2
            rw [hoo, List.getD_eq_getElem?_getD, List.getElem?_eq_getElem hlt]; rfl
          rw [putU_app, ← htk] at HST
          have HTK := Lib.hid htk
          clear hord hoo htk hb3 hb4 c0 c1 c2 RI2
          subst hgi
          by_cases ho : InU js.length o
          · obtain ⟨o0, o1⟩ := ho
            obtain ⟨q, rfl⟩ : ∃ q : Nat, o = q := ⟨o.toNat, by omega⟩
            have hq : q < js.length := by omega
            have HCAN := Lib.hid (fun u hb => ImplCan_any lo hi _ js N (.slice ab (N + js.length) cb) g (putU N (iniU N) (os.take k)) q u (RJ2.out.below ((hb : Below wr.heap.size wr u).mono (by omega))) (by have := hb.size; omega) HT.out hq (hin.out.below (hb.mono (by omega))) (by have := hb.size; omega))
            have hiq : InU js.length (q : Int) := ⟨by omega, by omega⟩
            have HS0 : Hid (ordS js N (putU N (iniU N) (os.take k)) (q : Int) = canB js N (putU N (iniU N) (os.take k)) q) := Lib.hid (by unfold ordS; rw [decide_eq_true hiq]; rfl)
            rw [HS0.out] at HST
            clear hiq
            cases hc : canB js N (putU N (iniU N) (os.take k)) q with
            | false =>
              rw [hc] at HCAN HST
              have HE : Hid (false = c) := Lib.hid (by have := HST.out; simpa using this)
              clear HST hc HS0
              go_wp2_with fail
              refine (args_eqL (HCAN.out _ (Below.refl _ _)) (by with_reducible rfl)).mono ?_
              rintro e w4 ⟨rfl, hb5⟩
              have HB5 := Lib.hid (bel_c HBW.out (Nat.le_refl _) hb5)
              clear hb5 HCAN
              go_wp2_with fail
              go_ret
              exact ⟨by rw [← HE.out]; rfl, HB5.out⟩
            | true =>
              rw [hc] at HCAN HST
              have HE : Hid (ordF js N (putU N (iniU N) (os.take (k + 1))) (os.drop (k + 1)) = c) := Lib.hid (by have := HST.out; simpa using this)
              clear HST hc HS0
              go_wp2_with fail
              refine (args_eqL (HCAN.out _ (Below.refl _ _)) (by with_reducible rfl)).mono ?_
              rintro e w4 ⟨rfl, hb5⟩
              have f0 := kept hb5 d0
              have f1 := kept hb5 d1
              have f2 := kept hb5 d2
              have hs5 := hb5.size
              have HI5 := Lib.hid (hin.out.below (hb5.mono (by omega)))
              have HO5 : Hid (Only (fun k => k = g) W3 w4) := Lib.hid (honly.out.trans (Only.of_below hb5))
              clear hb5 HCAN d0 d1 d2 hin honly
              obtain ⟨W5, hW5⟩ : ∃ W5, W5 = w4.alloc (.cells #[.int .i64 (q : Int)] 3) := ⟨_, rfl⟩
              have B5 : Below w4.heap.size w4 W5 := by rw [hW5]; exact bel0 _ _
              have HI6 := Lib.hid (HI5.out.below (B5.mono (by omega)))
              have HRI : Hid (IntIn w4.heap.size (w4.heap.size + 1) W5 (.slice (some ⟨w4.heap.size, 0, none⟩) 1 1) [(q : Int)]) := Lib.hid (by
                refine ⟨by simp, .inr ⟨w4.heap.size, 1, rfl, Nat.le_refl _, Nat.lt_succ_self _, fun i hi => ?_⟩⟩
                obtain rfl : i = 0 := by simpa using hi
                rw [hW5]; exact ⟨by go_simp, by go_simp⟩)
              have hs6 : W5.heap.size = w4.heap.size + 1 := by rw [hW5]; simp
              have HO6 : Hid (Only (fun k => k = g) W3 W5) := Lib.hid (HO5.out.trans (Only.of_below B5))
              clear B5 HI5 HO5
              go_wp2_with fail
              rw [← hW5]
              refine (args_eqL (ImplSew_any _ js N (.slice ab (N + js.length) cb) g (putU N (iniU N) (os.take k)) _ _ _ [(q : Int)] W5 hN hlM HI6.out (by omega) HRI.out (by omega) (by omega) (fun o ho => by simp at ho; subst ho; exact ⟨by omega, by omega⟩)) (by with_reducible rfl)).mono ?_
              rintro e w6 ⟨rfl, hin6, ho6⟩
              rw [putU_app, ← HTK.out] at hin6
              have HI7 := Lib.hid hin6
              have HO7 := Lib.hid (HO6.out.trans ho6)
              clear hin6 ho6 HO6 HI6 HRI hW5
              go_wp2_with fail
              go_roundw
              case rel => exact ⟨k + 1, by omega, by go_num, HI7, HO7, HE⟩
              case measure => simp [intOf] <;> omega
          · have HE : Hid (false = c) := Lib.hid (by have := HST.out; unfold ordS at this; rw [decide_eq_false ho] at this; simpa using this)
            clear HST
            by_cases h0 : o < 0
            · clear ho
              go_wp2_with fail
              go_ret
              exact ⟨by rw [← HE.out]; rfl, HBW.out⟩
            · have h1 : (js.length : Int) ≤ o := by unfold InU at ho; omega
              clear ho
              go_wp2_with fail
              go_ret
              exact ⟨by rw [← HE.out]; rfl, HBW.out⟩
        · obtain rfl : k = os.length := by omega
          have HE := Lib.hid (ordF_all hord.out)
          clear hin hord
          go_wp2_with fail
          go_ret
          exact ⟨by rw [← HE.out]; rfl, HBW.out⟩
    · have HC : Hid (false = ordB js n os) := Lib.hid (by unfold ordB; rw [decide_eq_false hl]; simp)
      have hl2 : ((os.length : Int) != (js.length : Int)) = true := by simp; omega
      clear wn R RI hd hl
      go_enter Try.func14, Try.ntmps14
      go_wp2_with fail
      refine (args_eqL CT.out (by with_reducible rfl)).mono ?_
      rintro e w1 ⟨rfl, hb1⟩
      go_wp2_with fail
      go_ret
      exact ⟨by rw [← HC.out]; rfl, hb1⟩
  · have hd' : treeB js n = false := by simpa using hd
    rw [hd'] at CT
    have HC : Hid (false = ordB js n os) := Lib.hid (by unfold ordB; rw [hd']; rfl)
    clear wn R RI hd hd'
    go_enter Try.func14, Try.ntmps14
    go_wp2_with fail
    refine (args_eqL CT.out (by with_reducible rfl)).mono ?_
    rintro e w1 ⟨rfl, hb1⟩
    go_wp2_with fail
    go_ret
    exact ⟨by rw [← HC.out]; rfl, hb1⟩
end Go.Proofs.Ytlkiacgpiodkiaa

set_option linter.unusedSimpArgs false
set_option linter.unusedVariables false
namespace Go.Proofs.Ytlkiacgpiodkiaa
open Go.ChangeShapes Go.WideShapes Go.ChangeAt Go.RowKit

set_option maxHeartbeats 6400000 in
set_option maxRecDepth 20000 in
theorem SpecOrder_any (lo hi lo2 hi2 : Nat) (v vi : Value) (js : List J3) (os : List Int) (n : Int) (wn : (Lit.int .i64 n).wf = true) (w : World) (r : JnIn lo hi w v js) (ri : IntIn lo2 hi2 w vi os) (hhi : hi ≤ w.heap.size) (hhi2 : hi2 ≤ w.heap.size) :
    Calls Try.prog 21 #[v, .int .i64 n, vi] w fun e w' => e = .returned (.bool (ordB js n os)) ∧ Below w.heap.size w w' := by
  obtain ⟨i0, hi0, hz0, hz1, hz2⟩ := info_parts3 info_boolJ
  obtain ⟨av, cv, rfl⟩ := r.form
  obtain ⟨ai, ci, rfl⟩ := ri.form
  have R := Lib.hid r
  have RI := Lib.hid ri
  have CT := Lib.hid (SpecTree_any lo hi _ js n wn w r hhi)
  have hol := ri.1
  have hjl := r.1
  clear r ri
  by_cases hd : treeB js n = true
  · rw [hd] at CT
    by_cases hl : os.length = js.length
    · obtain ⟨N, rfl, hT⟩ := tree_is hd
      have HC : Hid (ordF js N (iniU N) os = ordB js N os) := Lib.hid (by unfold ordB; rw [hd, decide_eq_true hl]; simp)
      generalize ordB js N os = c at HC ⊢
      have hN : N ≤ 12 := hT.n12
      have hlM : js.length ≤ 11 := by have := hT.len; omega
      have HT := Lib.hid hT
      have HLN := Lib.hid hT.len
      obtain ⟨M, hM⟩ : ∃ M : Nat, M = 2 * N := ⟨_, rfl⟩
      have hwM : IntKind.i64.wrap (2 * (N : Int)) = (M : Int) := by simp [IntKind.wrap, IntKind.bits, IntKind.signed]; omega
      have hM24 : M ≤ 24 := by omega
      have hNM : N ≤ M := by omega
      have HM := Lib.hid hM
      have hl2 : ((os.length : Int) != (js.length : Int)) = false := by rw [hl]; simp
      have HLO := Lib.hid hl
      clear hd hT wn hl hM
      go_enter Try.func21, Try.ntmps21
      go_wp2_with fail
      refine (args_eqL CT.out (by with_reducible rfl)).mono ?_
      rintro e w1 ⟨rfl, hb1⟩
      have hs1 := hb1.size
      have HB1 := Lib.hid hb1
      clear hb1 CT
      go_wp2_with (at_make; refine wpList_make_full _ rfl _ _ 55 rfl w1.heap.size 4 i0 _ 1 Try.underlying55 hi0 hz0 hz1 .i64 .i64 _ _ M rfl rfl rfl rfl (by rw [hz2]; omega) (by unfold maxLen; omega) (Nat.le_refl _) ?_; intro w0 hown0 hgrow0)
      have hw0 := own_none hgrow0
      have HO : Hid (BoolIn w1.heap.size (w1.heap.size + 1) w0 (.slice (some ⟨w1.heap.size, 0, none⟩) M M) (rowB M (fun i => decide (i < 0)))) := Lib.hid (by
        have h1 := BoolIn.zero hown0 (by omega)
        have e : rowB M (fun i => decide (i < 0)) = List.replicate M false := by rw [← rowB_false]; apply rowB_ext; intro i _; simp
        rw [e]
        obtain ⟨hl, h1 | ⟨g, c, hv, hg, hlt, hc⟩⟩ := h1
        · exact ⟨hl, .inl h1⟩
        · simp only [Value.slice.injEq, Option.some.injEq, Addr.mk.injEq, and_true] at hv
          obtain ⟨hv1, hv2⟩ := hv
          subst hv1
          exact ⟨hl, .inr ⟨_, c, by rw [hv2.2]; simp, Nat.le_refl _, Nat.lt_succ_self _, hc⟩⟩)
      have HW : Hid (Below w.heap.size w w0) := Lib.hid (bel_c HB1.out (Nat.le_refl _) hw0)
      have hs0 : w1.heap.size < w0.heap.size := by
        obtain ⟨_, h | ⟨g, c, cur, hv, hg, hh, _⟩⟩ := hown0
        · have := h.1; simp at this
        · have := lt_of_heapB hh; omega
      clear hw0 hown0 hgrow0 HB1
      go_loopw [8] (fun i wr => ∃ (k : Nat), k ≤ N ∧ i = .int .i64 k ∧ Hid (BoolIn w1.heap.size (w1.heap.size + 1) wr (.slice (some ⟨w1.heap.size, 0, none⟩) M M) (rowB M (fun i => decide (i < k)))) ∧ Hid (Below w.heap.size w wr) ∧ w1.heap.size < wr.heap.size) (fun i _ => N - (intOf i).toNat)
      case atStart => exact ⟨0, Nat.zero_le _, rfl, HO, HW, hs0⟩
      case round =>
        clear HO HW hs0
        obtain ⟨k, hk, rfl, hin, hbel, hsz⟩ := hrel
        by_cases hlt : k < N
        · have hkM : k < M := by omega
          obtain ⟨_, r0, f0⟩ := rowB_one hin.out (i := k) hkM rfl
          have HI1 := Lib.hid (hin.out.set k (by rw [rowB_len]; exact hkM) true)
          rw [lt_next] at HI1
          have HB1 := Lib.hid (Below.setCell hbel.out (p := ⟨w1.heap.size, k, none⟩) hs1 (.bool true))
          have HS1 : Hid (w1.heap.size < (wr.setCell ⟨w1.heap.size, k, none⟩ (.bool true)).heap.size) := Lib.hid (by simp [World.setCell]; exact hsz)
          clear hin hbel
          generalize decide (k < k) = u0 at r0
          go_wp2_with fail
          go_roundw
          case rel => exact ⟨k + 1, by omega, by go_num, HI1, HB1, HS1.out⟩
          case measure => simp [intOf] <;> omega
        · obtain rfl : k = N := by omega
          have HI := Lib.hid (show BoolIn w1.heap.size (w1.heap.size + 1) wr (.slice (some ⟨w1.heap.size, 0, none⟩) M M) (rowB M (iniU k)) from hin.out)
          have hbw := hbel.out.size
          clear hin
          go_wp2_with fail
          go_loopw [9] (fun i wx => ∃ (m : Nat), m ≤ os.length ∧ i = .int .i64 m ∧ Hid (BoolIn w1.heap.size (w1.heap.size + 1) wx (.slice (some ⟨w1.heap.size, 0, none⟩) M M) (rowB M (putU k (iniU k) (os.take m)))) ∧ Hid (Below w.heap.size w wx) ∧ w1.heap.size < wx.heap.size ∧ Hid (ordF js k (putU k (iniU k) (os.take m)) (os.drop m) = c)) (fun i _ => os.length - (intOf i).toNat)
          case atStart => exact ⟨0, Nat.zero_le _, rfl, Lib.hid (by rw [List.take_zero, putU_nil]; exact HI.out), hbel, hsz, Lib.hid (by rw [List.take_zero, putU_nil, List.drop_zero]; exact HC.out)⟩
          case round =>
            clear HI HC hbel hsz hbw
            obtain ⟨m, hm, rfl, hin, hbel, hsz, hord⟩ := hrel
            have hsw := hbel.out.size
            by_cases hlt2 : m < os.length
            · obtain ⟨gi, hgi, hgi0, hgi1, e0, _⟩ := (RI.out.below (hbel.out.mono hhi2)).at (Below.refl _ _) hlt2
              have HST := Lib.hid (ordF_step hlt2 hord.out)
              obtain ⟨o, hoo⟩ : ∃ o, o = os.getD m 0 := ⟨_, rfl⟩
              rw [← hoo] at e0 HST
              have htk : os.take (m + 1) = os.take m ++ [o] := by
                rw [List.take_succ_eq_append_getElem hlt2]; congr 2
                rw [hoo, List.getD_eq_getElem?_getD, List.getElem?_eq_getElem hlt2]; rfl
              rw [putU_app, ← htk] at HST
              have HTK := Lib.hid htk
              clear hord hoo htk
              subst hgi
              by_cases ho : InU js.length o
              · have hiq := ho
                obtain ⟨o0, o1⟩ := ho
                obtain ⟨q, rfl⟩ : ∃ q : Nat, o = q := ⟨o.toNat, by omega⟩
                have hq : q < js.length := by omega
                have HS0 : Hid (ordS js k (putU k (iniU k) (os.take m)) (q : Int) = canB js k (putU k (iniU k) (os.take m)) q) := Lib.hid (by unfold ordS; rw [decide_eq_true hiq]; rfl)
                rw [HS0.out] at HST
                obtain ⟨gj, hgj, hg0, hg1, ⟨j0, j1, j2⟩, _⟩ := R.out.at (hbel.out.mono hhi) hq
                obtain ⟨A, B, ha, hb, la, lb, _⟩ := HT.out.nat hq
                obtain ⟨u0, h0⟩ : ∃ u, (putU k (iniU k) (os.take m)) (k + q) = u := ⟨_, rfl⟩
                obtain ⟨u1, h1⟩ : ∃ u, (putU k (iniU k) (os.take m)) A = u := ⟨_, rfl⟩
                obtain ⟨u2, h2⟩ : ∃ u, (putU k (iniU k) (os.take m)) B = u := ⟨_, rfl⟩
                rw [canB_at ha hb h0 h1 h2] at HST
                have hx0 : k + q < M := by have := HM.out; have := HLN.out; omega
                have hx1 : A < M := by have := HM.out; have := HLN.out; omega
                have hx2 : B < M := by have := HM.out; have := HLN.out; omega
                obtain ⟨_, r0, f0⟩ := rowB_one hin.out hx0 h0
                obtain ⟨_, r1, _⟩ := rowB_one hin.out hx1 h1
                obtain ⟨_, r2, _⟩ := rowB_one hin.out hx2 h2
                have HI1 := Lib.hid (hin.out.set (k + q) (by rw [rowB_len]; exact hx0) true)
                rw [show k + q = k + (q : Int).toNat from rfl, rowB_putU, ← HTK.out] at HI1
                have HB1 := Lib.hid (Below.setCell hbel.out (p := ⟨w1.heap.size, k + q, none⟩) hs1 (.bool true))
                have HS1 : Hid (w1.heap.size < (wr.setCell ⟨w1.heap.size, k + q, none⟩ (.bool true)).heap.size) := Lib.hid (by simp [World.setCell]; exact hsz)
                obtain ⟨j, hj⟩ : ∃ j, j = jn js q := ⟨_, rfl⟩
                rw [show js.getD q J3.zero = j from hj.symm] at j0 j1 j2
                rw [show jn js q = j from hj.symm] at ha hb
                obtain ⟨up, a, b⟩ := j
                simp only at j0 j1 j2 ha hb
                subst ha
                subst hb
                subst hgj
                have hwk : IntKind.i64.wrap ((k : Int) + (q : Int)) = ((k + q : Nat) : Int) := by simp [IntKind.wrap, IntKind.bits, IntKind.signed]; omega
                have HX := Lib.hid (fun u => In_yes (q : Int) 0 ((js.length : Int) - 1) u (by omega) (by omega))
                clear hin hj h0 h1 h2 hiq HS0
                by_cases hf : (!u0 && u1 && u2) = true
                · rw [hf] at HST
                  have HE : Hid (ordF js k (putU k (iniU k) (os.take (m + 1))) (os.drop (m + 1)) = c) := Lib.hid (by have := HST.out; simpa using this)
                  obtain ⟨⟨rfl, rfl⟩, rfl⟩ : (u0 = false ∧ u1 = true) ∧ u2 = true := by simpa using hf
                  clear HST hf
                  go_wp2_with fail
                  refine (HX.out _).mono ?_
                  rintro e w' ⟨rfl, hw⟩
                  have hw' := hw.symm
                  subst hw'
                  clear hw
                  go_wp2_with fail
                  go_roundw
                  case rel => exact ⟨m + 1, by omega, by go_num, HI1, HB1, HS1.out, HE⟩
                  case measure => simp [intOf] <;> omega
                · have hf' : (!u0 && u1 && u2) = false := by simpa using hf
                  rw [hf'] at HST
                  have HE : Hid (false = c) := Lib.hid (by have := HST.out; simpa using this)
                  clear HST hf HI1 HB1 HS1
                  cases u0 <;> cases u1 <;> cases u2 <;> (try (exact absurd hf' (by decide)))
                  all_goals
                    clear hf'
                    go_wp2_with fail
                    refine (HX.out _).mono ?_
                    rintro e w' ⟨rfl, hw⟩
                    have hw' := hw.symm
                    subst hw'
                    clear hw
                    go_wp2_with fail
                    go_ret
                    exact ⟨by rw [← HE.out]; rfl, hbel.out⟩
              · have HE : Hid (false = c) := Lib.hid (by have := HST.out; unfold ordS at this; rw [decide_eq_false ho] at this; simpa using this)
                have HX := Lib.hid (fun u => In_no o 0 ((js.length : Int) - 1) u (by unfold InU at ho; omega))
                clear HST ho hin
                go_wp2_with fail
                refine (HX.out _).mono ?_
                rintro e w' ⟨rfl, hw⟩
                have hw' := hw.symm
                subst hw'
                clear hw
                go_wp2_with fail
                go_ret
                exact ⟨by rw [← HE.out]; rfl, hbel.out⟩
            · obtain rfl : m = os.length := by omega
              have HE := Lib.hid (ordF_all hord.out)
              clear hin hord
              go_wp2_with fail
              go_ret
              exact ⟨by rw [← HE.out]; rfl, hbel.out⟩
    · have HC : Hid (false = ordB js n os) := Lib.hid (by unfold ordB; rw [decide_eq_false hl]; simp)
      have hl2 : ((os.length : Int) != (js.length : Int)) = true := by simp; omega
      clear wn R RI hd hl
      go_enter Try.func21, Try.ntmps21
      go_wp2_with fail
      refine (args_eqL CT.out (by with_reducible rfl)).mono ?_
      rintro e w1 ⟨rfl, hb1⟩
      go_wp2_with fail
      go_ret
      exact ⟨by rw [← HC.out]; rfl, hb1⟩
  · have hd' : treeB js n = false := by simpa using hd
    rw [hd'] at CT
    have HC : Hid (false = ordB js n os) := Lib.hid (by unfold ordB; rw [hd']; rfl)
    clear wn R RI hd hd'
    go_enter Try.func21, Try.ntmps21
    go_wp2_with fail
    refine (args_eqL CT.out (by with_reducible rfl)).mono ?_
    rintro e w1 ⟨rfl, hb1⟩
    go_wp2_with fail
    go_ret
    exact ⟨by rw [← HC.out]; rfl, hb1⟩
end Go.Proofs.Ytlkiacgpiodkiaa
