/- Layouts: the program's TurnLayout. -/
import Derived.Test.YtlfeohahaidohaaLayP
import Derived.Test.YtlfeohahaidohaaLayB
import Derived.Test.YtlfeohahaidohaaLayZ
import Derived.Test.YtlfeohahaidohaaLayIk
namespace Go.Proofs.Ytlfeohahaidohaa
open Go.ChangeShapes Go.WideShapes Go.ChangeAt Go.RowKit

set_option maxHeartbeats 3200000 in
set_option maxRecDepth 20000 in
theorem ImplTurnLayout_any (lo hi : Nat) (m n : Int) (v : Value) (xs : List P5) (wf : ∀ c ∈ xs, c.Wf) (w : World) (r : PatIn lo hi w v xs) (hhi : hi ≤ w.heap.size) :
    Calls Try.prog 14 #[.agg #[.int .i64 m, .int .i64 n, v]] w (FreshL (tM m n xs) (tN m n xs) (tX m n xs) w) := by
  obtain ⟨i0, hi0, hz0, hz1, hz2⟩ := info_parts3 info_Pat
  obtain ⟨a, cap, rfl⟩ := r.form
  have R : Hid (PatIn lo hi ((w.alloc (.cells #[.int .i64 m, .int .i64 n, .slice a xs.length cap] 26)).alloc (.cells #[.int .i64 0, .int .i64 0, .slice none 0 0] 26)) (.slice a xs.length cap) xs) := Lib.hid (r.below ((bel_n (bel0 w _) (Nat.le_refl _) _).mono hhi))
  have R0 := Lib.hid r
  have hl := r.1
  have hhi1 : hi ≤ ((w.alloc (.cells #[.int .i64 m, .int .i64 n, .slice a xs.length cap] 26)).alloc (.cells #[.int .i64 0, .int .i64 0, .slice none 0 0] 26)).heap.size := by simp; omega
  clear r
  by_cases h : layB m n xs = false
  · obtain ⟨e1, e2, e3⟩ := t_no h
    rw [e1, e2, e3]
    clear e1 e2 e3
    have HB := Lib.hid h
    clear h
    go_enter Try.func14, Try.ntmps14
    go_wp2_with fail
    refine (ImplLayoutOk_any lo hi m n _ xs _ R.out hhi1 wf).mono ?_
    rw [HB.out]
    rintro e w1 ⟨rfl, hb1⟩
    have HB1 : Below (w.heap.size + 1 + 1) ((w.alloc (.cells #[.int .i64 m, .int .i64 n, .slice a xs.length cap] 26)).alloc (.cells #[.int .i64 0, .int .i64 0, .slice none 0 0] 26)) w1 := by simpa using hb1
    have r0 : w1.cell? ⟨w.heap.size + 1, 0, none⟩ = some (.int .i64 0) := (HB1.cell (p := ⟨w.heap.size + 1, 0, none⟩) (by simp)).trans (by simp)
    have z0 : w1.frozen? ⟨w.heap.size + 1, 0, none⟩ = false := (HB1.frozen (p := ⟨w.heap.size + 1, 0, none⟩) (by simp)).trans (by simp)
    have r1 : w1.cell? ⟨w.heap.size + 1, 1, none⟩ = some (.int .i64 0) := (HB1.cell (p := ⟨w.heap.size + 1, 1, none⟩) (by simp)).trans (by simp)
    have z1 : w1.frozen? ⟨w.heap.size + 1, 1, none⟩ = false := (HB1.frozen (p := ⟨w.heap.size + 1, 1, none⟩) (by simp)).trans (by simp)
    have r2 : w1.cell? ⟨w.heap.size + 1, 2, none⟩ = some (.slice none 0 0) := (HB1.cell (p := ⟨w.heap.size + 1, 2, none⟩) (by simp)).trans (by simp)
    have z2 : w1.frozen? ⟨w.heap.size + 1, 2, none⟩ = false := (HB1.frozen (p := ⟨w.heap.size + 1, 2, none⟩) (by simp)).trans (by simp)
    have HBB := Lib.hid (bel_c (bel_n (bel0 w _) (Nat.le_refl _) _) (Nat.le_refl _) hb1)
    have hs1 := hb1.size
    simp at hs1
    clear hb1 HB1
    go_wp2_with fail
    refine bodyPost_ret (v := .agg #[.int .i64 0, .int .i64 0, .slice none 0 0]) (by simp [results, Try.results14, go_sem, r0, r1, r2]) rfl ⟨.slice none 0 0, rfl, ⟨by simp, .inl ⟨rfl, _, _, rfl⟩⟩, ?_⟩
    refine Below.setCell (Below.setCell (Below.setCell HBB.out ?_ _) ?_ _) ?_ _ <;> (simp <;> omega)
  · obtain ⟨e1, e2, e3⟩ := t_yes (m := m) (n := n) (xs := xs) (by simpa using h)
    rw [e1, e2, e3]
    clear e1 e2 e3
    have HB : Hid (layB m n xs = true) := Lib.hid (by simpa using h)
    clear h
    obtain ⟨⟨p00, p01⟩, ⟨p10, p11⟩, ⟨p20, p21⟩, HL4, _⟩ := lay_of HB.out
    have HF : Hid (∀ i, i < xs.length → Fit m n (pat xs i)) := Lib.hid (fun i hi => (HL4 i hi).1)
    clear HL4
    go_enter Try.func14, Try.ntmps14
    go_wp2_with fail
    refine (ImplLayoutOk_any lo hi m n _ xs _ R.out hhi1 wf).mono ?_
    rw [HB.out]
    rintro e w1 ⟨rfl, hb1⟩
    have HB1 : Below (w.heap.size + 1 + 1) ((w.alloc (.cells #[.int .i64 m, .int .i64 n, .slice a xs.length cap] 26)).alloc (.cells #[.int .i64 0, .int .i64 0, .slice none 0 0] 26)) w1 := by simpa using hb1
    have b0 : w1.cell? ⟨w.heap.size, 0, none⟩ = some (.int .i64 m) := (HB1.cell (p := ⟨w.heap.size, 0, none⟩) (Nat.lt_succ_of_lt (Nat.lt_succ_self _))).trans (kept (bel0 _ _) (by simp))
    have b1 : w1.cell? ⟨w.heap.size, 1, none⟩ = some (.int .i64 n) := (HB1.cell (p := ⟨w.heap.size, 1, none⟩) (Nat.lt_succ_of_lt (Nat.lt_succ_self _))).trans (kept (bel0 _ _) (by simp))
    have b2 : w1.cell? ⟨w.heap.size, 2, none⟩ = some (.slice a xs.length cap) := (HB1.cell (p := ⟨w.heap.size, 2, none⟩) (Nat.lt_succ_of_lt (Nat.lt_succ_self _))).trans (kept (bel0 _ _) (by simp))
    have hs1 := hb1.size
    simp at hs1
    clear hb1
    go_wp2_with (at_make; refine wpList_make_own _ rfl _ _ 24 rfl w1.heap.size 31 i0 _ 5 Try.underlying24 hi0 hz0 hz1 .i64 .i64 _ xs.length rfl rfl rfl (by rw [hz2]; omega) (by unfold maxLen; omega) (Nat.le_refl _) ?_; intro w2 hown2 hgrow2; have hb2 := own_none hgrow2; have c0 := kept hb2 b0; have c1 := kept hb2 b1; have c2 := kept hb2 b2)
    have HB2 : Below (w.heap.size + 1 + 1) ((w.alloc (.cells #[.int .i64 m, .int .i64 n, .slice a xs.length cap] 26)).alloc (.cells #[.int .i64 0, .int .i64 0, .slice none 0 0] 26)) w2 := HB1.trans (hb2.mono (by omega))
    have HO2 := Lib.hid hown2
    have hs2 := hb2.size
    clear b0 b1 b2 c0 c1 c2 hb2 hgrow2 hown2
    go_loopw [3, 17] (fun s i wr => ∃ (k : Nat) (v : Value), k ≤ xs.length ∧ i = .int .i64 k ∧ v = s ∧ Hid (wr.ownsRow w1.heap.size 31 5 v k (placesPat (turL n (xs.take k)))) ∧ Below (w.heap.size + 1 + 1) ((w.alloc (.cells #[.int .i64 m, .int .i64 n, .slice a xs.length cap] 26)).alloc (.cells #[.int .i64 0, .int .i64 0, .slice none 0 0] 26)) wr ∧ w1.heap.size ≤ wr.heap.size) (fun _ i _ => xs.length - (intOf i).toNat)
    case atStart => exact ⟨0, _, Nat.zero_le _, rfl, rfl, Lib.hid (by simpa [turL, placesPat] using HO2.out), HB2, by omega⟩
    case round =>
      obtain ⟨k, v, hk, rfl, rfl, hown, hbel, hsz⟩ := hrel
      have b0 : wr.cell? ⟨w.heap.size, 0, none⟩ = some (.int .i64 m) := (hbel.cell (p := ⟨w.heap.size, 0, none⟩) (Nat.lt_succ_of_lt (Nat.lt_succ_self _))).trans (kept (bel0 _ _) (by simp))
      have b1 : wr.cell? ⟨w.heap.size, 1, none⟩ = some (.int .i64 n) := (hbel.cell (p := ⟨w.heap.size, 1, none⟩) (Nat.lt_succ_of_lt (Nat.lt_succ_self _))).trans (kept (bel0 _ _) (by simp))
      have b2 : wr.cell? ⟨w.heap.size, 2, none⟩ = some (.slice a xs.length cap) := (hbel.cell (p := ⟨w.heap.size, 2, none⟩) (Nat.lt_succ_of_lt (Nat.lt_succ_self _))).trans (kept (bel0 _ _) (by simp))
      by_cases hlt : k < xs.length
      · obtain ⟨g, rfl, hg, hg1, hel, _⟩ := R0.out.at (((bel_n (bel0 w _) (Nat.le_refl _) _).trans (hbel.mono (by omega))).mono hhi) hlt
        obtain ⟨e0, e1, e2, e3, e4⟩ := hel
        obtain ⟨c, hc⟩ : ∃ c, c = xs.getD k P5.zero := ⟨_, rfl⟩
        rw [← hc] at e0 e1 e2 e3 e4
        have HC : Hid (turL n (xs.take (k + 1)) = turL n (xs.take k) ++ [⟨n - c.y - c.h, c.x, c.h, c.w, c.c⟩]) := Lib.hid (by rw [turL_succ hlt, hc]; rfl)
        obtain ⟨⟨f00, f01⟩, ⟨f10, f11⟩, ⟨f20, f21⟩, ⟨f30, f31⟩, _⟩ : Fit m n c := by rw [hc]; exact HF.out k hlt
        clear hc
        have WW : Below wr.heap.size wr ((wr.alloc (.cells #[.int .i64 c.x, .int .i64 c.y, .int .i64 c.w, .int .i64 c.h, .int .i64 c.c] 31)).alloc (.cells #[.int .i64 (n - c.y - c.h), .int .i64 c.x, .int .i64 c.h, .int .i64 c.w, .int .i64 c.c] 31)) := bel_n (bel0 wr _) (Nat.le_refl _) _
        have b0' := kept (bel0 wr (.cells #[.int .i64 c.x, .int .i64 c.y, .int .i64 c.w, .int .i64 c.h, .int .i64 c.c] 31)) b0
        have b1' := kept (bel0 wr (.cells #[.int .i64 c.x, .int .i64 c.y, .int .i64 c.w, .int .i64 c.h, .int .i64 c.c] 31)) b1
        have b2' := kept (bel0 wr (.cells #[.int .i64 c.x, .int .i64 c.y, .int .i64 c.w, .int .i64 c.h, .int .i64 c.c] 31)) b2
        have HO := Lib.hid (owL hown.out WW)
        have HNW := Lib.hid (newsL (wr.alloc (.cells #[.int .i64 c.x, .int .i64 c.y, .int .i64 c.w, .int .i64 c.h, .int .i64 c.c] 31)) (wr.heap.size + 1) #[.int .i64 (n - c.y - c.h), .int .i64 c.x, .int .i64 c.h, .int .i64 c.w, .int .i64 c.c] 31 (by simp))
        have HBS : Hid (w1.heap.size ≤ ((wr.alloc (.cells #[.int .i64 c.x, .int .i64 c.y, .int .i64 c.w, .int .i64 c.h, .int .i64 c.c] 31)).alloc (.cells #[.int .i64 (n - c.y - c.h), .int .i64 c.x, .int .i64 c.h, .int .i64 c.w, .int .i64 c.c] 31)).heap.size) := Lib.hid (by simp; omega)
        have HBE : Hid (Below (w.heap.size + 1 + 1) ((w.alloc (.cells #[.int .i64 m, .int .i64 n, .slice (some ⟨g, 0, none⟩) xs.length cap] 26)).alloc (.cells #[.int .i64 0, .int .i64 0, .slice none 0 0] 26)) ((wr.alloc (.cells #[.int .i64 c.x, .int .i64 c.y, .int .i64 c.w, .int .i64 c.h, .int .i64 c.c] 31)).alloc (.cells #[.int .i64 (n - c.y - c.h), .int .i64 c.x, .int .i64 c.h, .int .i64 c.w, .int .i64 c.c] 31))) := Lib.hid (hbel.trans (WW.mono (by omega)))
        clear hown WW hbel
        go_wp2_with (at_builtin; refine wpList_append_lies _ rfl _ _ 24 rfl w1.heap.size 31 i0 _ 5 40 Try.underlying24 hi0 hz0 hz1 hz2 rfl (by decide) _ _ _ rfl HO.out ⟨wr.heap.size + 1, 0, none⟩ 1 1 [.int .i64 (n - c.y - c.h), .int .i64 c.x, .int .i64 c.h, .int .i64 c.w, .int .i64 c.c] rfl rfl HNW.out (by simp [Value.oneCell']) (by omega) (by unfold maxLen; omega) (by omega) HBS.out (wr.heap.size + 1 + 1) (by simp) ?_; intro gg cc w5 hown5 hgrow hat hlt5; have hbw := (Below.refl w1.heap.size _).grown hgrow HBS.out (ogL HO.out))
        have HN : Hid (w5.ownsRow w1.heap.size 31 5 (.slice (some ⟨gg, 0, none⟩) (k + 1) cc) (k + 1) (placesPat (turL n (xs.take (k + 1))))) := Lib.hid (by rw [HC.out, placesPat_more]; exact hown5)
        have HB6 := Lib.hid (HBE.out.trans (hbw.mono (by omega)))
        have hs6 : w1.heap.size ≤ w5.heap.size := Nat.le_trans HBS.out hbw.size
        clear hown5 hgrow hat hlt5 hbw HO HNW
        go_wp2_with fail
        go_roundw
        case rel => exact ⟨k + 1, _, by omega, by go_num, rfl, HN, HB6.out, hs6⟩
        case measure => simp [intOf] <;> omega
      · obtain rfl : k = xs.length := by omega
        have hin : PatIn w1.heap.size wr.heap.size wr v (turL n xs) := PatIn.of_owns (by have := hown.out; rw [List.take_length] at this; simpa [turL] using this) (by simp [turL]; omega)
        have hlen : (turL n xs).length = xs.length := by simp [turL]
        obtain ⟨av, cv, rfl⟩ := hin.form
        have HI := Lib.hid hin
        have r0 : wr.cell? ⟨w.heap.size + 1, 0, none⟩ = some (.int .i64 0) := (hbel.cell (p := ⟨w.heap.size + 1, 0, none⟩) (by simp)).trans (by simp)
        have z0 : wr.frozen? ⟨w.heap.size + 1, 0, none⟩ = false := (hbel.frozen (p := ⟨w.heap.size + 1, 0, none⟩) (by simp)).trans (by simp)
        have r1 : wr.cell? ⟨w.heap.size + 1, 1, none⟩ = some (.int .i64 0) := (hbel.cell (p := ⟨w.heap.size + 1, 1, none⟩) (by simp)).trans (by simp)
        have z1 : wr.frozen? ⟨w.heap.size + 1, 1, none⟩ = false := (hbel.frozen (p := ⟨w.heap.size + 1, 1, none⟩) (by simp)).trans (by simp)
        have r2 : wr.cell? ⟨w.heap.size + 1, 2, none⟩ = some (.slice none 0 0) := (hbel.cell (p := ⟨w.heap.size + 1, 2, none⟩) (by simp)).trans (by simp)
        have z2 : wr.frozen? ⟨w.heap.size + 1, 2, none⟩ = false := (hbel.frozen (p := ⟨w.heap.size + 1, 2, none⟩) (by simp)).trans (by simp)
        have HB0 := Lib.hid ((bel_n (bel0 w _) (Nat.le_refl _) _).trans (hbel.mono (by omega)))
        clear hin hown hbel
        go_wp2_with fail
        refine bodyPost_ret (v := .agg #[.int .i64 n, .int .i64 m, .slice av (turL n xs).length cv]) (by simp [results, Try.results14, go_sem, r0, r1, r2, hlen]) rfl ⟨_, rfl, ?_, ?_⟩
        · refine PatIn.wide (lo := w1.heap.size) (hi := wr.heap.size) ?_ (by omega) (by simp [World.setCell])
          refine PatIn.set_far (PatIn.set_far (PatIn.set_far HI.out ?_ _) ?_ _) ?_ _ <;> (simp <;> omega)
        · refine Below.setCell (Below.setCell (Below.setCell HB0.out ?_ _) ?_ _) ?_ _ <;> (simp <;> omega)

end Go.Proofs.Ytlfeohahaidohaa
