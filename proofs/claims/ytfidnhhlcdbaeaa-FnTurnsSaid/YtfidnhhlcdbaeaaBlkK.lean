/- Blocks: the model's copy. -/
import Derived.Test.YtfidnhhlcdbaeaaBlkZ
import Derived.Deep.RegionHeld3
import Derived.Deep.AppendLies
namespace Go.Proofs.Ytfidnhhlcdbaeaa
open Go.ChangeShapes Go.WideShapes Go.ChangeAt Go.RowKit

theorem own_new3 (w : World) (e : Nat) : (w.alloc (.cells #[] e)).ownsRow w.heap.size e 3 (.slice (some ⟨w.heap.size, 0, none⟩) 0 0) 0 [] :=
  ⟨by simp, .inr ⟨_, 0, #[], rfl, Nat.le_refl _, heap_alloc_new _ _, by simp, by simp, rfl, rfl⟩⟩
theorem bel_dr {b : Nat} {w u : World} (h : Below b w u) : Below b w u.drew := ⟨h.os, h.tape, h.output, h.size, h.block⟩
theorem places_one (xs : List C3) : ∀ u ∈ places xs, u.oneCell' = true := by
  intro u hu
  simp only [places, List.mem_flatMap] at hu
  obtain ⟨c, _, hc⟩ := hu
  simp only [List.mem_cons, List.not_mem_nil, or_false] at hc
  rcases hc with rfl | rfl | rfl <;> rfl
/-- The places of a row that is not empty, read one by one. -/
theorem CellIn.news {lo hi : Nat} {w : World} {a : Option Addr} {n cap : Nat} {xs : List C3} (h : CellIn lo hi w (.slice a n cap) xs) (h0 : 0 < xs.length) :
    ∃ g, a = some ⟨g, 0, none⟩ ∧ lo ≤ g ∧ g < hi ∧ ∀ w', Below hi w w' → ∀ (j : Nat) u, (places xs)[j]? = some u → w'.cell? ((⟨g, 0, none⟩ : Addr).add j) = some u := by
  obtain ⟨_, ⟨rfl, _⟩ | ⟨g, cap, hv, hg, hlt, hc⟩⟩ := h
  · simp at h0
  · simp only [Value.slice.injEq] at hv
    refine ⟨g, hv.1, hg, hlt, fun w' hb j u hu => ?_⟩
    have hj : j < xs.length * 3 := by
      rcases Nat.lt_or_ge j (xs.length * 3) with h | h
      · exact h
      · rw [List.getElem?_eq_none (by rw [places_length]; exact h)] at hu; cases hu
    have ad : (⟨g, 0, none⟩ : Addr).add j = ⟨g, j, none⟩ := by cases j <;> simp [Addr.add]
    rw [ad]
    obtain ⟨k, hk⟩ : ∃ k, j = k * 3 ∨ j = k * 3 + 1 ∨ j = k * 3 + 2 := ⟨j / 3, by omega⟩
    have hkn : k < xs.length := by omega
    obtain ⟨p0, p1, p2⟩ := places_at xs k hkn
    obtain ⟨e0, e1, e2⟩ := (hc k hkn).1.below hb hlt
    rcases hk with rfl | rfl | rfl
    · rw [e0, ← hu, p0]
    · rw [e1, ← hu, p1]
    · rw [e2, ← hu, p2]

set_option maxHeartbeats 400000 in
theorem SpecCopy_any (lo hi : Nat) (n : Int) (v : Value) (xs : List C3) (w : World) (r : CellIn lo hi w v xs) (hhi : hi ≤ w.heap.size) :
    Calls Try.prog 41 #[.agg #[.int .i64 n, v]] w (FreshB n xs w) := by
  obtain ⟨i0, hi0, hz0, hz1, hz2⟩ := info_parts3 info_cell
  obtain ⟨a, cap, rfl⟩ := r.form
  have hl := r.1
  rcases Nat.eq_zero_or_pos xs.length with h0 | h0
  · have hx : xs = [] := List.length_eq_zero_iff.1 h0
    subst hx
    clear r hl h0
    cases a
    all_goals
      go_enter Try.func41, Try.ntmps41
      go_wp2_with fail
      go_region
      go_wp2_with fail
      refine bodyPost_ret (v := .agg #[.int .i64 n, .slice (some ⟨w.heap.size + 1 + 1, 0, none⟩) 0 0]) (by simp [results, Try.results41, go_sem]) rfl ⟨.slice (some ⟨w.heap.size + 1 + 1, 0, none⟩) 0 0, rfl, ⟨by simp, .inl ⟨rfl, _, _, rfl⟩⟩, ?_⟩
      repeat (first | exact Below.refl _ _ | refine bel_dr ?_ | refine bel_n ?_ (Nat.le_refl _) _)
  · obtain ⟨g, rfl, hg, hg1, hn⟩ := r.news h0
    have RN : ∀ W, Below w.heap.size w W → ∀ (j : Nat) u, (places xs)[j]? = some u → W.cell? ((⟨g, 0, none⟩ : Addr).add j) = some u := fun W hb => hn W (hb.mono hhi)
    have HR := Lib.hid RN
    have KP : ∀ u v : World, Below (w.heap.size + 1 + 1) u v → (u.cell? ⟨w.heap.size, 0, none⟩ = some (.int .i64 n) ∧ u.cell? ⟨w.heap.size, 1, none⟩ = some (.slice (some ⟨g, 0, none⟩) xs.length cap)) → (v.cell? ⟨w.heap.size, 0, none⟩ = some (.int .i64 n) ∧ v.cell? ⟨w.heap.size, 1, none⟩ = some (.slice (some ⟨g, 0, none⟩) xs.length cap)) :=
      fun u v hb h => ⟨(hb.cell (p := ⟨w.heap.size, 0, none⟩) (Nat.lt_succ_of_lt (Nat.lt_succ_self _))).trans h.1, (hb.cell (p := ⟨w.heap.size, 1, none⟩) (Nat.lt_succ_of_lt (Nat.lt_succ_self _))).trans h.2⟩
    have HO : ∀ W : World, W.heap.size = w.heap.size + 1 + 1 → (W.alloc (.cells #[] 29)).ownsRow (w.heap.size + 1 + 1) 29 3 (.slice (some ⟨w.heap.size + 1 + 1, 0, none⟩) 0 0) 0 [] := by intro W h; rw [← h]; exact own_new3 _ _
    clear r hn RN
    go_enter Try.func41, Try.ntmps41
    go_wp2_with fail
    go_region_held3 (fun w' => w'.cell? ⟨w.heap.size, 0, none⟩ = some (.int .i64 n) ∧ w'.cell? ⟨w.heap.size, 1, none⟩ = some (.slice (some ⟨g, 0, none⟩) xs.length cap)) (first | (refine KP _ _ (by assumption) ?_; assumption) | go_keep)
      ((refine step_append_lies _ (by rfl) _ _ _ (by rfl) (w.heap.size + 1 + 1) 29 i0 _ 3 24 Try.underlying24 hi0 hz0 hz1 hz2 rfl (by omega) _ 0 _ (by rfl) (HO _ (by simp)) ⟨g, 0, none⟩ xs.length cap (places xs) (by rfl) (places_length xs) (HR.out _ (bel_n (bel_dr (bel_n (bel0 _ _) (Nat.le_refl _) _)) (Nat.le_refl _) _)) (places_one xs) h0 (by unfold maxLen; omega) (by omega) (by simp) (w.heap.size + 1 + 1 + 1) (by simp) ?_; intro gg cc w1 hown1 hgrow hat hlt1; have hbw := (Below.refl (w.heap.size + 1 + 1) _).grown hgrow (by simp) (by intro k hk; simp [Value.ownBlock] at hk; omega); have d0 := (hbw.cell (p := ⟨w.heap.size + 1, 0, none⟩) (Nat.lt_succ_self _)).trans (show _ = some (Value.int .i64 0) by go_simp); have d1 := (hbw.cell (p := ⟨w.heap.size + 1, 1, none⟩) (Nat.lt_succ_self _)).trans (show _ = some (Value.slice none 0 0) by go_simp); have g0 := (hbw.frozen (p := ⟨w.heap.size + 1, 0, none⟩) (Nat.lt_succ_self _)).trans (show _ = false by go_simp); have g1 := (hbw.frozen (p := ⟨w.heap.size + 1, 1, none⟩) (Nat.lt_succ_self _)).trans (show _ = false by go_simp)))
    have hB : Below w.heap.size w w1 := (bel_dr (bel_n (bel_n (bel0 w _) (Nat.le_refl _) _) (Nat.le_refl _) _)).trans (hbw.mono (by omega))
    have hin : CellIn (w.heap.size + 1 + 1) w1.heap.size w1 (.slice (some ⟨gg, 0, none⟩) xs.length cc) xs := CellIn.of_owns (xs := xs) (by simpa using hown1) hl
    have HI := Lib.hid hin
    have HBB := Lib.hid hB
    clear hin hB hbw hown1 hgrow hat hlt1 KP HO HR
    go_wp2_with fail
    refine bodyPost_ret (v := .agg #[.int .i64 n, .slice (some ⟨gg, 0, none⟩) xs.length cc]) (by simp [results, Try.results41, go_sem, d0, d1]) rfl ⟨.slice (some ⟨gg, 0, none⟩) xs.length cc, rfl, ?_, ?_⟩
    · refine CellIn.wide (lo := w.heap.size + 1 + 1) (hi := w1.heap.size) ?_ (by omega) (by simp [World.setCell])
      refine CellIn.set_far (CellIn.set_far HI.out ?_ _) ?_ _ <;> (simp <;> omega)
    · refine Below.setCell (Below.setCell HBB.out ?_ _) ?_ _ <;> (simp <;> omega)

end Go.Proofs.Ytfidnhhlcdbaeaa
