/- Blocks: the model's SameBlock. Blocks: the model's BlockOk. Blocks: the model's CellAt. Blocks: the model's copy. -/
import Derived.Test.YtfidnhhlcdbaeaaGreatDoorM01
import Derived.BigQuiet
import Derived.Deep.QuietTactic
import Derived.Test.YtfidnhhlcdbaeaaGreatDoorM00
import Derived.WalkSmall
import Derived.Outline
import Derived.IntWalk
import Derived.Deep.RegionHeld3
import Derived.Deep.AppendLies

namespace Go.Proofs.YtfidnhhlcdbaeaaGreatDoor
open Go.ChangeShapes Go.WideShapes Go.ChangeAt Go.RowKit

noncomputable def sameB (n m : Int) (xs ys : List C3) : Bool := @decide (n = m ∧ xs = ys) (Classical.propDecidable _)
theorem same_yes {n m : Int} {xs ys : List C3} (h : n = m) (k : xs.length = ys.length) (e : ∀ i, i < xs.length → xs.getD i C3.zero = ys.getD i C3.zero) : true = sameB n m xs ys := by
  have hx : xs = ys := by
    apply List.ext_getElem k
    intro i a b
    have := e i a
    simpa [List.getD, a, b] using this
  unfold sameB; simp [h, hx]
theorem same_no {n m : Int} {xs ys : List C3} (h : ¬ (n = m ∧ xs = ys)) : false = sameB n m xs ys := by unfold sameB; simp [h]
theorem same_no_at {n m : Int} {xs ys : List C3} {i : Nat} (h : xs.getD i C3.zero ≠ ys.getD i C3.zero) : false = sameB n m xs ys := same_no (fun k => h (by rw [k.2]))

/-- Two cells differ in a first place, or are one. -/
theorem C3.parts (c d : C3) : ((c.s == d.s) = false ∧ c ≠ d) ∨ (c.s = d.s ∧ (c.a == d.a) = false ∧ c ≠ d) ∨ (c.s = d.s ∧ c.a = d.a ∧ (c.b == d.b) = false ∧ c ≠ d) ∨ c = d := by
  by_cases h1 : c.s = d.s
  · by_cases h2 : c.a = d.a
    · by_cases h3 : c.b = d.b
      · exact .inr (.inr (.inr (C3.ext' h1 h2 h3)))
      · exact .inr (.inr (.inl ⟨h1, h2, by simpa using h3, fun h => h3 (by rw [h])⟩))
    · exact .inr (.inl ⟨h1, by simpa using h2, fun h => h2 (by rw [h])⟩)
  · exact .inl ⟨by simpa using h1, fun h => h1 (by rw [h])⟩

end Go.Proofs.YtfidnhhlcdbaeaaGreatDoor

namespace Go.Proofs.YtfidnhhlcdbaeaaGreatDoor
open Go.ChangeShapes Go.WideShapes Go.ChangeAt Go.RowKit

theorem ne_bool {a b : Int} (h : ¬ a = b) : (a != b) = true := by simpa using h
theorem eq_bool {a b : Int} (h : a = b) : (a != b) = false := by simpa using h

theorem bel_new0 (w : World) (o : Obj) : Below w.heap.size w (w.alloc o) := (Below.refl _ _).alloc (Nat.le_refl _) o

set_option maxHeartbeats 400000 in
theorem SpecBlockOk_any (lo hi : Nat) (n : Int) (v : Value) (xs : List C3) (w : World) (r : CellIn lo hi w v xs) (hhi : hi ≤ w.heap.size) :
    Calls Tryz.prog 19 #[.agg #[.int .i64 n, v]] w fun e w' => e = .returned (.bool (blkB n xs)) ∧ Below w.heap.size w w' := by
  obtain ⟨a, cap, rfl⟩ := r.form
  have R := Lib.hid r
  have hl := r.1
  clear r
  by_cases h1 : 1 ≤ n ∧ n ≤ 4
  · obtain ⟨n0, n1⟩ := h1
    obtain ⟨hw, s0, s1⟩ := sq_wrap n0 n1
    by_cases h2 : (xs.length : Int) = n * n
    · have e2 := eq_bool h2
      have H2 := Lib.hid h2
      have S := Lib.hid (And.intro s0 s1)
      clear h2 s0 s1
      go_enter Tryz.func19, Tryz.ntmps19
      go_wp2_with fail
      refine (In_yes _ _ _ _ n0 n1).mono ?_
      rintro e w' ⟨rfl, rfl⟩
      go_wp2_with fail
      go_loopw [3] (fun i wr => ∃ k : Nat, k ≤ xs.length ∧ i = .int .i64 k ∧ Hid (∀ j, j < k → (xs.getD j C3.zero).Ok) ∧ Below (w.heap.size + 1) (w.alloc (.cells #[.int .i64 n, .slice a xs.length cap] 26)) wr) (fun i _ => xs.length - (intOf i).toNat)
      case atStart => exact ⟨0, Nat.zero_le _, rfl, fun j hj => by omega, Below.refl _ _⟩
      case round =>
        obtain ⟨k, hk, rfl, hok, hbel⟩ := hrel
        have b0 : wr.cell? ⟨w.heap.size, 0, none⟩ = some (.int .i64 n) := (hbel.cell (p := ⟨w.heap.size, 0, none⟩) (by simp)).trans (by simp)
        have b1 : wr.cell? ⟨w.heap.size, 1, none⟩ = some (.slice a xs.length cap) := (hbel.cell (p := ⟨w.heap.size, 1, none⟩) (by simp)).trans (by simp)
        by_cases hlt : k < xs.length
        · obtain ⟨g, rfl, hg, hg1, hel, _⟩ := R.out.at ((bel_new0 w _).trans (hbel.mono (by omega)) |>.mono hhi) hlt
          obtain ⟨e0, e1, e3⟩ := hel
          obtain ⟨c, hc⟩ : ∃ c, c = xs.getD k C3.zero := ⟨_, rfl⟩
          rw [← hc] at e0 e1 e3
          have HC := Lib.hid hc
          clear hc
          go_wp2_with fail
          refine (SpecOk_any _ _ _ _).mono ?_
          by_cases ho : OkC c.s c.a c.b
          · have ho' := Lib.hid (decide_eq_true ho)
            rw [ho'.out]
            rintro e w1 ⟨rfl, rfl⟩
            have HN : Hid (∀ j, j < k + 1 → (xs.getD j C3.zero).Ok) := Lib.hid (fun j hj => by
              rcases Nat.lt_succ_iff_lt_or_eq.1 hj with h | rfl
              · exact hok.out j h
              · rw [← HC.out]; exact ho)
            have HB := Lib.hid (hbel.alloc (by have := hbel.size; simpa using this) (.cells #[.int .i64 c.s, .int .i64 c.a, .int .i64 c.b] 50))
            clear HC ho ho' hbel
            go_wp2_with fail
            go_roundw
            case rel => exact ⟨k + 1, by omega, by go_num, HN, HB.out⟩
            case measure => simp [intOf] <;> omega
          · have ho' := Lib.hid (decide_eq_false ho)
            rw [ho'.out]
            rintro e w1 ⟨rfl, rfl⟩
            have HN := Lib.hid (blk_no_cell (n := n) hlt (by rw [← HC.out]; exact ho))
            have HB := Lib.hid (hbel.alloc (by have := hbel.size; simpa using this) (.cells #[.int .i64 c.s, .int .i64 c.a, .int .i64 c.b] 50))
            clear HC ho ho' hbel
            go_wp2_with fail
            go_ret
            exact ⟨ret_bool HN.out, (bel_new0 w _).trans (HB.out.mono (by omega))⟩
        · obtain rfl : k = xs.length := by omega
          have HN := Lib.hid (blk_all (n := n) ⟨n0, n1⟩ H2.out hok.out)
          go_wp2_with fail
          go_ret
          exact ⟨ret_bool HN.out, (bel_new0 w _).trans (hbel.mono (by omega))⟩
    · have e2 := ne_bool h2
      have H2 := Lib.hid (blk_no_len h2)
      clear h2 s0 s1
      go_enter Tryz.func19, Tryz.ntmps19
      go_wp2_with fail
      refine (In_yes _ _ _ _ n0 n1).mono ?_
      rintro e w' ⟨rfl, rfl⟩
      go_wp2_with fail
      go_ret
      exact ⟨by rw [← H2.out]; rfl, (Below.refl _ _).alloc (Nat.le_refl _) _⟩
  · have h1' : n < 1 ∨ 4 < n := by omega
    have H1 := Lib.hid (blk_no_size (xs := xs) h1)
    clear h1
    go_enter Tryz.func19, Tryz.ntmps19
    go_wp2_with fail
    refine (In_no _ _ _ _ h1').mono ?_
    rintro e w' ⟨rfl, rfl⟩
    go_wp2_with fail
    go_ret
    exact ⟨ret_bool H1.out, (Below.refl _ _).alloc (Nat.le_refl _) _⟩

end Go.Proofs.YtfidnhhlcdbaeaaGreatDoor

namespace Go.Proofs.YtfidnhhlcdbaeaaGreatDoor
open Go.ChangeShapes Go.WideShapes Go.ChangeAt Go.RowKit

/-- x, y is a place of a block of size n. -/
def InB (n x y : Int) : Prop := (0 ≤ x ∧ x ≤ n - 1) ∧ (0 ≤ y ∧ y ≤ n - 1)
theorem idx {n x y : Int} (n0 : 1 ≤ n) (n1 : n ≤ 4) (h : InB n x y) : ∃ k : Nat, y * n + x = k ∧ (k : Int) < n * n ∧ IntKind.i64.wrap (y * n) = y * n ∧ IntKind.i64.wrap (y * n + x) = (k : Int) := by
  obtain ⟨⟨x0, x1⟩, y0, y1⟩ := h
  have hn : n = 1 ∨ n = 2 ∨ n = 3 ∨ n = 4 := by omega
  have key : 0 ≤ y * n ∧ y * n + x < n * n ∧ y * n + x ≤ 16 := by rcases hn with rfl | rfl | rfl | rfl <;> omega
  obtain ⟨k0, k1, k2⟩ := key
  refine ⟨(y * n + x).toNat, by omega, by omega, ?_, ?_⟩
  · rw [IntKind.wrap_i64]; omega
  · rw [IntKind.wrap_i64]; omega

/-- The cell at a place. -/
noncomputable def cAt (n : Int) (xs : List C3) (x y : Int) : C3 := @ite _ (BlkOk n xs ∧ InB n x y) (Classical.propDecidable _) (xs.getD (y * n + x).toNat C3.zero) C3.zero
theorem cAt_yes {n : Int} {xs : List C3} {x y : Int} (h : BlkOk n xs) (k : InB n x y) : cAt n xs x y = xs.getD (y * n + x).toNat C3.zero := if_pos ⟨h, k⟩
theorem cAt_no {n : Int} {xs : List C3} {x y : Int} (h : ¬ (BlkOk n xs ∧ InB n x y)) : cAt n xs x y = C3.zero := if_neg h

theorem SpecBlockOk_yes (lo hi : Nat) (n : Int) (v : Value) (xs : List C3) (w : World) (r : CellIn lo hi w v xs) (hhi : hi ≤ w.heap.size) (h : BlkOk n xs) :
    Calls Tryz.prog 19 #[.agg #[.int .i64 n, v]] w fun e w' => e = .returned (.bool true) ∧ Below w.heap.size w w' := by
  have hc := SpecBlockOk_any lo hi n v xs w r hhi
  rw [← blk_yes h] at hc
  exact hc
theorem SpecBlockOk_no (lo hi : Nat) (n : Int) (v : Value) (xs : List C3) (w : World) (r : CellIn lo hi w v xs) (hhi : hi ≤ w.heap.size) (h : ¬ BlkOk n xs) :
    Calls Tryz.prog 19 #[.agg #[.int .i64 n, v]] w fun e w' => e = .returned (.bool false) ∧ Below w.heap.size w w' := by
  have hc := SpecBlockOk_any lo hi n v xs w r hhi
  rw [← blk_no h] at hc
  exact hc

end Go.Proofs.YtfidnhhlcdbaeaaGreatDoor

namespace Go.Proofs.YtfidnhhlcdbaeaaGreatDoor
open Go.ChangeShapes Go.WideShapes Go.ChangeAt Go.RowKit

theorem own_new3 (w : World) (e : Nat) : (w.alloc (.cells #[] e)).ownsRow w.heap.size e 3 (.slice (some ⟨w.heap.size, 0, none⟩) 0 0) 0 [] :=
  ⟨by simp, .inr ⟨_, 0, #[], rfl, Nat.le_refl _, heap_alloc_new _ _, by simp, by simp, rfl, rfl⟩⟩
theorem bel_dr {b : Nat} {w u : World} (h : Below b w u) : Below b w u.drew := ⟨h.os, h.tape, h.output, h.size, h.block⟩
theorem places_one (xs : List C3) : ∀ u ∈ places xs, u.oneCell' = true := by
  intro u hu
  simp only [places, List.mem_flatMap] at hu
  obtain ⟨c, _, hc⟩ := hu
  simp only [List.mem_cons, List.not_mem_nil, or_false] at hc
  rcases hc with rfl | rfl | rfl <;> rfl
/-- The places of a row that is not empty, read one by one. -/
theorem CellIn.news {lo hi : Nat} {w : World} {a : Option Addr} {n cap : Nat} {xs : List C3} (h : CellIn lo hi w (.slice a n cap) xs) (h0 : 0 < xs.length) :
    ∃ g, a = some ⟨g, 0, none⟩ ∧ lo ≤ g ∧ g < hi ∧ ∀ w', Below hi w w' → ∀ (j : Nat) u, (places xs)[j]? = some u → w'.cell? ((⟨g, 0, none⟩ : Addr).add j) = some u := by
  obtain ⟨_, ⟨rfl, _⟩ | ⟨g, cap, hv, hg, hlt, hc⟩⟩ := h
  · simp at h0
  · simp only [Value.slice.injEq] at hv
    refine ⟨g, hv.1, hg, hlt, fun w' hb j u hu => ?_⟩
    have hj : j < xs.length * 3 := by
      rcases Nat.lt_or_ge j (xs.length * 3) with h | h
      · exact h
      · rw [List.getElem?_eq_none (by rw [places_length]; exact h)] at hu; cases hu
    have ad : (⟨g, 0, none⟩ : Addr).add j = ⟨g, j, none⟩ := by cases j <;> simp [Addr.add]
    rw [ad]
    obtain ⟨k, hk⟩ : ∃ k, j = k * 3 ∨ j = k * 3 + 1 ∨ j = k * 3 + 2 := ⟨j / 3, by omega⟩
    have hkn : k < xs.length := by omega
    obtain ⟨p0, p1, p2⟩ := places_at xs k hkn
    obtain ⟨e0, e1, e2⟩ := (hc k hkn).1.below hb hlt
    rcases hk with rfl | rfl | rfl
    · rw [e0, ← hu, p0]
    · rw [e1, ← hu, p1]
    · rw [e2, ← hu, p2]

set_option maxHeartbeats 400000 in
theorem SpecCopy_any (lo hi : Nat) (n : Int) (v : Value) (xs : List C3) (w : World) (r : CellIn lo hi w v xs) (hhi : hi ≤ w.heap.size) :
    Calls Tryz.prog 21 #[.agg #[.int .i64 n, v]] w (FreshB n xs w) := by
  obtain ⟨i0, hi0, hz0, hz1, hz2⟩ := info_parts3 info_cell
  obtain ⟨a, cap, rfl⟩ := r.form
  have hl := r.1
  rcases Nat.eq_zero_or_pos xs.length with h0 | h0
  · have hx : xs = [] := List.length_eq_zero_iff.1 h0
    subst hx
    clear r hl h0
    cases a
    all_goals
      go_enter Tryz.func21, Tryz.ntmps21
      go_wp2_with fail
      go_region
      go_wp2_with fail
      refine bodyPost_ret (v := .agg #[.int .i64 n, .slice (some ⟨w.heap.size + 1 + 1, 0, none⟩) 0 0]) (by simp [results, Tryz.results21, go_sem]) rfl ⟨.slice (some ⟨w.heap.size + 1 + 1, 0, none⟩) 0 0, rfl, ⟨by simp, .inl ⟨rfl, _, _, rfl⟩⟩, ?_⟩
      repeat (first | exact Below.refl _ _ | refine bel_dr ?_ | refine bel_n ?_ (Nat.le_refl _) _)
  · obtain ⟨g, rfl, hg, hg1, hn⟩ := r.news h0
    have RN : ∀ W, Below w.heap.size w W → ∀ (j : Nat) u, (places xs)[j]? = some u → W.cell? ((⟨g, 0, none⟩ : Addr).add j) = some u := fun W hb => hn W (hb.mono hhi)
    have HR := Lib.hid RN
    have KP : ∀ u v : World, Below (w.heap.size + 1 + 1) u v → (u.cell? ⟨w.heap.size, 0, none⟩ = some (.int .i64 n) ∧ u.cell? ⟨w.heap.size, 1, none⟩ = some (.slice (some ⟨g, 0, none⟩) xs.length cap)) → (v.cell? ⟨w.heap.size, 0, none⟩ = some (.int .i64 n) ∧ v.cell? ⟨w.heap.size, 1, none⟩ = some (.slice (some ⟨g, 0, none⟩) xs.length cap)) :=
      fun u v hb h => ⟨(hb.cell (p := ⟨w.heap.size, 0, none⟩) (Nat.lt_succ_of_lt (Nat.lt_succ_self _))).trans h.1, (hb.cell (p := ⟨w.heap.size, 1, none⟩) (Nat.lt_succ_of_lt (Nat.lt_succ_self _))).trans h.2⟩
    have HO : ∀ W : World, W.heap.size = w.heap.size + 1 + 1 → (W.alloc (.cells #[] 50)).ownsRow (w.heap.size + 1 + 1) 50 3 (.slice (some ⟨w.heap.size + 1 + 1, 0, none⟩) 0 0) 0 [] := by intro W h; rw [← h]; exact own_new3 _ _
    clear r hn RN
    go_enter Tryz.func21, Tryz.ntmps21
    go_wp2_with fail
    go_region_held3 (fun w' => w'.cell? ⟨w.heap.size, 0, none⟩ = some (.int .i64 n) ∧ w'.cell? ⟨w.heap.size, 1, none⟩ = some (.slice (some ⟨g, 0, none⟩) xs.length cap)) (first | (refine KP _ _ (by assumption) ?_; assumption) | go_keep)
      ((refine step_append_lies _ (by rfl) _ _ _ (by rfl) (w.heap.size + 1 + 1) 50 i0 _ 3 24 Tryz.underlying24 hi0 hz0 hz1 hz2 rfl (by omega) _ 0 _ (by rfl) (HO _ (by simp)) ⟨g, 0, none⟩ xs.length cap (places xs) (by rfl) (places_length xs) (HR.out _ (bel_n (bel_dr (bel_n (bel0 _ _) (Nat.le_refl _) _)) (Nat.le_refl _) _)) (places_one xs) h0 (by unfold maxLen; omega) (by omega) (by simp) (w.heap.size + 1 + 1 + 1) (by simp) ?_; intro gg cc w1 hown1 hgrow hat hlt1; have hbw := (Below.refl (w.heap.size + 1 + 1) _).grown hgrow (by simp) (by intro k hk; simp [Value.ownBlock] at hk; omega); have d0 := (hbw.cell (p := ⟨w.heap.size + 1, 0, none⟩) (Nat.lt_succ_self _)).trans (show _ = some (Value.int .i64 0) by go_simp); have d1 := (hbw.cell (p := ⟨w.heap.size + 1, 1, none⟩) (Nat.lt_succ_self _)).trans (show _ = some (Value.slice none 0 0) by go_simp); have g0 := (hbw.frozen (p := ⟨w.heap.size + 1, 0, none⟩) (Nat.lt_succ_self _)).trans (show _ = false by go_simp); have g1 := (hbw.frozen (p := ⟨w.heap.size + 1, 1, none⟩) (Nat.lt_succ_self _)).trans (show _ = false by go_simp)))
    have hB : Below w.heap.size w w1 := (bel_dr (bel_n (bel_n (bel0 w _) (Nat.le_refl _) _) (Nat.le_refl _) _)).trans (hbw.mono (by omega))
    have hin : CellIn (w.heap.size + 1 + 1) w1.heap.size w1 (.slice (some ⟨gg, 0, none⟩) xs.length cc) xs := CellIn.of_owns (xs := xs) (by simpa using hown1) hl
    have HI := Lib.hid hin
    have HBB := Lib.hid hB
    clear hin hB hbw hown1 hgrow hat hlt1 KP HO HR
    go_wp2_with fail
    refine bodyPost_ret (v := .agg #[.int .i64 n, .slice (some ⟨gg, 0, none⟩) xs.length cc]) (by simp [results, Tryz.results21, go_sem, d0, d1]) rfl ⟨.slice (some ⟨gg, 0, none⟩) xs.length cc, rfl, ?_, ?_⟩
    · refine CellIn.wide (lo := w.heap.size + 1 + 1) (hi := w1.heap.size) ?_ (by omega) (by simp [World.setCell])
      refine CellIn.set_far (CellIn.set_far HI.out ?_ _) ?_ _ <;> (simp <;> omega)
    · refine Below.setCell (Below.setCell HBB.out ?_ _) ?_ _ <;> (simp <;> omega)

end Go.Proofs.YtfidnhhlcdbaeaaGreatDoor
