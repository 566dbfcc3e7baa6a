/- Rows of strings: compared, marked, and held against the marks. -/
import Derived.Test.YthnelahnlinbnaaRows
import Derived.Test.YthnelahnlinbnaaBase
import Derived.Test.YthnelahnlinbnaaNumF
import Derived.Test.YthnelahnlinbnaaFieldF
import Derived.WalkKit
import Derived.ProofKit
import Derived.OpenShut
import Derived.BigQuiet
import Derived.Deep.QuietTactic
import Derived.Deep.RegionHeld3
import Derived.Outline
import Derived.IntWalk
import Derived.Lib.Hide
namespace Go.Proofs.Ythnelahnlinbnaa
open Go.ChangeShapes Go.WideShapes Go.ChangeAt Go.RowKit

/-- A slice of strings in a block from lo on, below hi. -/
def StrIn (lo hi : Nat) (w : World) (v : Value) (fs : List ByteArray) : Prop :=
  fs.length ≤ 1048576 ∧ ((fs = [] ∧ ∃ a c, v = .slice a 0 c) ∨
    ∃ g cap, v = .slice (some ⟨g, 0, none⟩) fs.length cap ∧ lo ≤ g ∧ g < hi ∧ ∀ i, i < fs.length → w.cell? ⟨g, i, none⟩ = some (.string (fs.getD i ⟨#[]⟩)) ∧ w.frozen? ⟨g, i, none⟩ = false)
theorem StrIn.of_owns {w : World} {base e : Nat} {v : Value} {fs : List ByteArray} (h : w.ownsRow base e 1 v fs.length (strs fs)) (hl : fs.length ≤ 1048576) : StrIn base w.heap.size w v fs := by
  refine ⟨hl, ?_⟩
  have h0 := h
  obtain ⟨_, ⟨h1, h2⟩ | ⟨g, cap, cur, hv, hg, hh, _⟩⟩ := h
  · exact .inl ⟨List.length_eq_zero_iff.1 h2, none, 0, h1⟩
  · subst hv
    refine .inr ⟨g, cap, rfl, hg, lt_of_block hh, fun i hi => ⟨?_, h0.frozenAt i⟩⟩
    rw [h0.cellAt i (by omega)]
    simp [strs, List.getD, hi]
theorem StrIn.below {lo hi : Nat} {w w' : World} {v : Value} {fs : List ByteArray} (h : StrIn lo hi w v fs) (hb : Below hi w w') : StrIn lo hi w' v fs := by
  obtain ⟨hl, h | ⟨g, cap, hv, hg, hlt, hc⟩⟩ := h
  · exact ⟨hl, .inl h⟩
  · refine ⟨hl, .inr ⟨g, cap, hv, hg, hlt, fun i hi => ?_⟩⟩
    rw [hb.cell (p := ⟨g, i, none⟩) hlt, hb.frozen (p := ⟨g, i, none⟩) hlt]
    exact hc i hi
theorem StrIn.set {lo hi g n cap : Nat} {w : World} {fs : List ByteArray} (h : StrIn lo hi w (.slice (some ⟨g, 0, none⟩) n cap) fs) (j : Nat) (hj : j < fs.length) (t : ByteArray) :
    StrIn lo hi (w.setCell ⟨g, j, none⟩ (.string t)) (.slice (some ⟨g, 0, none⟩) n cap) (fs.set j t) := by
  obtain ⟨hl, ⟨h, _⟩ | ⟨g', cap', hv, hg, hlt, hc⟩⟩ := h
  · subst h; simp at hj
  · simp only [Value.slice.injEq, Option.some.injEq, Addr.mk.injEq, and_true, true_and] at hv
    obtain ⟨rfl, rfl, rfl⟩ := hv
    refine ⟨by simpa using hl, .inr ⟨g, cap, by simp, hg, hlt, fun i hi => ?_⟩⟩
    rw [List.length_set] at hi
    obtain ⟨h1, h2⟩ := hc i hi
    refine ⟨?_, by rw [World.frozen?_setCell]; exact h2⟩
    by_cases e : i = j
    · subst e
      rw [World.cell?_setCell_same _ _ _ h1]
      simp [List.getD, hi]
    · rw [World.cell?_setCell_other _ _ _ _ (by simp <;> omega), h1]
      simp [List.getD, List.getElem?_set, e, Ne.symm e]

set_option maxHeartbeats 400000 in
theorem EqS_any (l1 h1 l2 h2 : Nat) (v1 v2 : Value) (fs : List ByteArray) (w : World) (r1 : StrIn l1 h1 w v1 fs) (r2 : StrIn l2 h2 w v2 fs) :
    Calls Try.prog 17 #[v1, v2] w fun e w' => e = .returned (.bool true) ∧ Below w.heap.size w w' := by
  obtain ⟨hl, ⟨rfl, a1, c1, rfl⟩ | ⟨g1, cap1, rfl, _, _, hc1⟩⟩ := r1
  · obtain ⟨_, ⟨_, a2, c2, rfl⟩ | ⟨g2, cap2, rfl, _⟩⟩ := r2
    all_goals
      go_enter Try.func17, Try.ntmps17
      go_wp2_with fail
      refine wp_loop_rounds 1 ?_
      rw [rounds_succ]
      go_wp2_with fail
      go_ret
      exact ⟨rfl, Below.refl _ _⟩
  · obtain ⟨_, ⟨hn, a2, c2, rfl⟩ | ⟨g2, cap2, rfl, _, _, hc2⟩⟩ := r2
    · subst hn
      go_enter Try.func17, Try.ntmps17
      go_wp2_with fail
      refine wp_loop_rounds 1 ?_
      rw [rounds_succ]
      go_wp2_with fail
      go_ret
      exact ⟨rfl, Below.refl _ _⟩
    · have H1 := Lib.hid hc1
      have H2 := Lib.hid hc2
      clear hc1 hc2
      go_enter Try.func17, Try.ntmps17
      go_wp2_with fail
      go_loopw [5] (fun i wr => ∃ k : Nat, k ≤ fs.length ∧ i = .int .i64 k ∧ Below w.heap.size w wr) (fun i _ => fs.length - (intOf i).toNat)
      case atStart => exact ⟨0, Nat.zero_le _, rfl, Below.refl _ _⟩
      case round =>
        obtain ⟨k, hk, rfl, hbel⟩ := hrel
        by_cases hlt : k < fs.length
        · have k1 : wr.cell? ⟨g1, k, none⟩ = some (.string (fs.getD k ⟨#[]⟩)) := by
            have h := (H1.out k hlt).1
            rw [hbel.cell (lt_of_cell h)]; exact h
          have k2 : wr.cell? ⟨g2, k, none⟩ = some (.string (fs.getD k ⟨#[]⟩)) := by
            have h := (H2.out k hlt).1
            rw [hbel.cell (lt_of_cell h)]; exact h
          obtain ⟨t, ht⟩ : ∃ t, t = fs.getD k ⟨#[]⟩ := ⟨_, rfl⟩
          rw [← ht] at k1 k2
          clear ht
          go_wp2_with fail
          go_quiet (fail)
          go_wp2_with fail
          go_roundw
          case rel => exact ⟨k + 1, by omega, by go_num, below_drewN hbel _⟩
          case measure => simp [intOf]; omega
        · go_wp2_with fail
          go_ret
          exact ⟨rfl, hbel⟩

/-- The text of a mark. -/
def mark (k : Nat) : ByteArray := ⟨(109 :: dg k).toArray⟩
def marks (k n : Nat) : List ByteArray := (List.range n).map fun j => mark (k + j)

theorem markF {m n : Nat} {t : ByteArray} (hz : 0 < m) (h : dg m ++ t.data.toList = dg n) : dg (m / 10) ++ (({ data := #[hexDig (m % 10)] } : ByteArray) ++ t).data.toList = dg n := by
  rw [← h, dg_step m hz]
  simp

set_option maxHeartbeats 400000 in
theorem MarkText_any (n : Nat) (w : World) (h0 : 0 < n) (h1 : n ≤ 2000000000) :
    Calls Try.prog 29 #[.int .i64 n] w fun e w' => e = .returned (.string (mark n)) ∧ Below w.heap.size w w' := by
  have q1 : decide ((n : Int) ≤ 0) = false := by simp; omega
  go_enter Try.func29, Try.ntmps29
  go_wp2_with fail
  clear q1
  go_loopw [0, 3] (fun v s wr => ∃ (m : Nat) (t : ByteArray), m ≤ 2000000000 ∧ v = .int .i64 m ∧ s = .string t ∧ Hid (dg m ++ t.data.toList = dg n) ∧ Below w.heap.size w wr) (fun v _ _ => (intOf v).toNat)
  case atStart => exact ⟨n, _, h1, rfl, rfl, by simp [Hid], Below.refl _ _⟩
  case round =>
    obtain ⟨m, t, hm, rfl, rfl, hd, hbel⟩ := hrel
    have ht := dg_room (by omega) hd.out
    by_cases hz : 0 < m
    · have hx : ((hexDig (m % 10)).toNat : Int) = 48 + (m : Int) % 10 := by
        have h := hexDig_dec (m % 10) (by omega)
        rw [h]
        simp
        omega
      have cv := fun (w : World) => string_one (P := Try.prog) w (hexDig (m % 10)) Try.underlying22 Try.underlying5 Try.underlying9
      rw [hx] at cv
      clear hx
      go_wp2_with fail
      go_roundw
      case rel => exact ⟨m / 10, _, by omega, rfl, rfl, markF hz hd.out, hbel.alloc hbel.size _⟩
      case measure => simp [intOf]; omega
    · obtain rfl : m = 0 := by omega
      go_wp2_with fail
      go_ret
      have e1 : mark n = ⟨#[109]⟩ ++ t := by
        unfold mark
        rw [← hd.out]
        apply ByteArray.ext
        simp [dg]
      exact ⟨by rw [e1]; rfl, hbel⟩
theorem MarkText_at (n : Nat) (x : Int) (w : World) (hx : x = n) (h0 : 0 < n) (h1 : n ≤ 2000000000) :
    Calls Try.prog 29 #[.int .i64 x] w fun e w' => e = .returned (.string (mark n)) ∧ Below w.heap.size w w' := by
  subst hx
  exact MarkText_any n w h0 h1

/-- The first m of the row are marks. -/
def Marked (k m : Nat) (fs : List ByteArray) : Prop := ∀ i, i < m → fs.getD i ⟨#[]⟩ = mark (k + i)
theorem Marked.set {k m : Nat} {fs : List ByteArray} (h : Marked k m fs) (hm : m < fs.length) : Marked k (m + 1) (fs.set m (mark (k + m))) := by
  intro i hi
  by_cases e : i = m
  · subst e; simp [List.getD, hm]
  · have := h i (by omega)
    simp [List.getD, List.getElem?_set, e, Ne.symm e] at this ⊢
    exact this
theorem Marked.all {k : Nat} {fs : List ByteArray} (h : Marked k fs.length fs) : fs = marks k fs.length := by
  apply List.ext_getElem
  · simp [marks]
  · intro i h1 h2
    have := h i h1
    simp [List.getD, h1] at this
    simp [marks, this]

set_option maxHeartbeats 400000 in
theorem MarkS_any (lo hi : Nat) (v : Value) (fs : List ByteArray) (k : Nat) (w : World) (r : StrIn lo hi w v fs) (hlo : lo ≤ w.heap.size) (hhi : hi ≤ w.heap.size) (hk0 : 0 < k) (hk1 : k ≤ 1000000) :
    Calls Try.prog 18 #[v, .int .i64 k] w fun e w' => e = .returned (.int .i64 ((k + fs.length : Nat) : Int)) ∧ StrIn lo hi w' v (marks k fs.length) ∧ Below lo w w' := by
  have hl := r.1
  have R0 := Lib.hid r
  obtain ⟨_, ⟨hn, a1, c1, rfl⟩ | ⟨g1, cap1, rfl, hg, hlt, _⟩⟩ := r
  · subst hn
    go_enter Try.func18, Try.ntmps18
    go_wp2_with fail
    refine wp_loop_rounds 1 ?_
    rw [rounds_succ]
    go_wp2_with fail
    go_ret
    exact ⟨rfl, R0.out, Below.refl _ _⟩
  · go_enter Try.func18, Try.ntmps18
    go_wp2_with fail
    go_loopw [1, 5] (fun q i wr => ∃ (m : Nat) (xs : List ByteArray), m ≤ fs.length ∧ i = .int .i64 m ∧ q = .int .i64 ((k + m : Nat) : Int) ∧ Hid (xs.length = fs.length ∧ Marked k m xs ∧ StrIn lo hi wr (.slice (some ⟨g1, 0, none⟩) fs.length cap1) xs) ∧ Below lo w wr) (fun _ i _ => fs.length - (intOf i).toNat)
    case atStart => exact ⟨0, fs, Nat.zero_le _, rfl, rfl, ⟨rfl, fun i hi => by omega, R0.out⟩, Below.refl _ _⟩
    case round =>
      obtain ⟨m, xs, hm, rfl, rfl, hin, hbel⟩ := hrel
      by_cases hlt1 : m < fs.length
      · go_wp2_with fail
        refine (MarkText_at (k + m) _ _ (by omega) (by omega) (by omega)).mono ?_
        rintro e w1 ⟨rfl, hb1⟩
        have hsz := hbel.size
        have hin1 : Hid (StrIn lo hi w1 (.slice (some ⟨g1, 0, none⟩) fs.length cap1) xs) := Lib.hid (hin.out.2.2.below (hb1.mono (by omega)))
        have hc : w1.cell? ⟨g1, m, none⟩ = some (.string (xs.getD m ⟨#[]⟩)) ∧ w1.frozen? ⟨g1, m, none⟩ = false := by
          obtain ⟨_, ⟨h, _⟩ | ⟨g, cap, hv, _, _, hc⟩⟩ := hin1.out
          · have := hin.out.1; rw [h] at this; simp at this; omega
          · simp only [Value.slice.injEq, Option.some.injEq, Addr.mk.injEq, and_true, true_and] at hv
            obtain ⟨rfl, _, _⟩ := hv
            exact hc m (by have := hin.out.1; omega)
        obtain ⟨hc1, hf1⟩ := hc
        have HN := Lib.hid ((hin1.out).set m (by have := hin.out.1; omega) (mark (k + m)))
        have HB := Lib.hid ((hbel.trans (hb1.mono (by omega))).setCell (p := ⟨g1, m, none⟩) hg (.string (mark (k + m))))
        obtain ⟨t0, ht0⟩ : ∃ t, t = xs.getD m ⟨#[]⟩ := ⟨_, rfl⟩
        rw [← ht0] at hc1
        clear ht0 hb1 hbel
        go_wp2_with fail
        go_roundw
        case rel => exact ⟨m + 1, _, by omega, by go_num, by go_num, ⟨by rw [List.length_set]; exact hin.out.1, (hin.out.2.1).set (by have := hin.out.1; omega), HN.out⟩, HB.out⟩
        case measure => simp [intOf] <;> omega
      · obtain rfl : m = fs.length := by omega
        go_wp2_with fail
        go_ret
        refine ⟨rfl, ?_, hbel⟩
        obtain ⟨h1, h2, h3⟩ := hin.out
        rw [← h1] at h2
        rw [← h1, ← h2.all]
        rw [h1]
        exact h3

set_option maxHeartbeats 400000 in
theorem HeldS_any (lo hi : Nat) (v : Value) (n k : Nat) (w : World) (r : StrIn lo hi w v (marks k n)) (hhi : hi ≤ w.heap.size) (hk0 : 0 < k) (hk1 : k ≤ 1000000) :
    Calls Try.prog 19 #[v, .int .i64 k] w fun e w' => e = .returned (.int .i64 ((k + n : Nat) : Int)) ∧ Below w.heap.size w w' := by
  have hl := r.1
  have hnl : (marks k n).length = n := by simp [marks]
  rw [hnl] at hl
  have HNL := Lib.hid hnl
  obtain ⟨_, ⟨hn, a1, c1, rfl⟩ | ⟨g1, cap1, rfl, hg, hlt, hc⟩⟩ := r
  · have h0 : n = 0 := by rw [hn] at hnl; simpa using hnl.symm
    subst h0
    clear hn hnl
    go_enter Try.func19, Try.ntmps19
    go_wp2_with fail
    refine wp_loop_rounds 1 ?_
    rw [rounds_succ]
    go_wp2_with fail
    go_ret
    exact ⟨rfl, Below.refl _ _⟩
  · rw [hnl] at hc ⊢
    have HC := Lib.hid hc
    clear hc hnl
    go_enter Try.func19, Try.ntmps19
    go_wp2_with fail
    go_loopw [1, 5] (fun q i wr => ∃ m : Nat, m ≤ n ∧ i = .int .i64 m ∧ q = .int .i64 ((k + m : Nat) : Int) ∧ Below w.heap.size w wr) (fun _ i _ => n - (intOf i).toNat)
    case atStart => exact ⟨0, Nat.zero_le _, rfl, rfl, Below.refl _ _⟩
    case round =>
      obtain ⟨m, hm, rfl, rfl, hbel⟩ := hrel
      by_cases hlt1 : m < n
      · have k1 : wr.cell? ⟨g1, m, none⟩ = some (.string (mark (k + m))) := by
          have h := (HC.out m hlt1).1
          rw [hbel.cell (lt_of_cell h), h]
          simp [marks, List.getD, hlt1]
        have hgw : g1 < wr.heap.size := lt_of_cell k1
        go_wp2_with fail
        go_region_held3 (fun w' => w'.cell? ⟨g1, m, none⟩ = some (.string (mark (k + m)))) (first | exact k1 | exact (hb1.cell (p := ⟨g1, m, none⟩) hgw).trans k1 | go_keep)
          (first
            | (go_at_call 29; refine (MarkText_at (k + m) _ _ (by omega) (by omega) (by omega)).mono ?_; rintro e w1 ⟨rfl, hb1⟩))
        all_goals
          have hb2 : Below w.heap.size w w1 := by first | exact hbel.drew.trans (hb1.mono hbel.size) | exact hbel.trans (hb1.mono hbel.size)
          clear hb1
          go_wp2_with fail
          go_roundw
          case rel => exact ⟨m + 1, by omega, by go_num, by go_num, hb2⟩
          case measure => simp [intOf] <;> omega
      · obtain rfl : m = n := by omega
        go_wp2_with fail
        go_ret
        exact ⟨rfl, hbel⟩
end Go.Proofs.Ythnelahnlinbnaa
