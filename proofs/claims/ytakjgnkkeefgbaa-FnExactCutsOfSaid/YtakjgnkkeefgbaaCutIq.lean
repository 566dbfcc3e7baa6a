/- Cuts: the program's partAt. -/
import Derived.Test.YtakjgnkkeefgbaaCutIp
namespace Go.Proofs.Ytakjgnkkeefgbaa
open Go.ChangeShapes Go.WideShapes Go.ChangeAt Go.RowKit

/-- A part is handed back. -/
def PartIs (W H l t : Int) (xs : List P5) (w : World) (e : Ending) (w' : World) : Prop :=
  ∃ v, e = .returned (.agg #[.int .i64 W, .int .i64 H, v, .int .i64 l, .int .i64 t]) ∧ PatIn w.heap.size w'.heap.size w' v (restr l t W H xs) ∧ Below w.heap.size w w'
theorem restr_len (l t W H : Int) (xs : List P5) : (restr l t W H xs).length ≤ xs.length := by
  have := List.length_filter_le (fitB W H) (xs.map (mv l t))
  rw [List.length_map] at this
  unfold restr; omega
theorem restr_succ {l t W H : Int} {xs : List P5} {k : Nat} (hk : k < xs.length) {d : P5} (hd : d = pat xs k) : restr l t W H (xs.take (k + 1)) = if fitB W H (mv l t d) then restr l t W H (xs.take k) ++ [mv l t d] else restr l t W H (xs.take k) := by
  rw [List.take_succ_eq_append_getElem hk, ← pat_get hk, ← hd]
  unfold restr
  rw [List.map_append, List.filter_append]
  by_cases z : fitB W H (mv l t d) <;> simp [z]

set_option maxHeartbeats 3200000 in
set_option maxRecDepth 20000 in
theorem PartAt_any (lo hi : Nat) (m n : Int) (v : Value) (xs : List P5) (l t W H : Int) (w : World) (r : PatIn lo hi w v xs) (hhi : hi ≤ w.heap.size) (lay : LayOk m n xs)
    (m0 : 1 ≤ W) (m1 : W ≤ 12) (n0 : 1 ≤ H) (n1 : H ≤ 12) (l0 : 0 ≤ l) (l1 : l ≤ 12) (t0 : 0 ≤ t) (t1 : t ≤ 12) :
    Calls Try.prog 41 #[.agg #[.int .i64 m, .int .i64 n, v], .int .i64 l, .int .i64 t, .int .i64 W, .int .i64 H] w (PartIs W H l t xs w) := by
  obtain ⟨b, cap, rfl⟩ := r.form
  have R := Lib.hid r
  have HF : Hid (∀ i, i < xs.length → Fit m n (pat xs i)) := Lib.hid (fun i hi => lay.fit hi)
  have m12 := lay.1.2
  have n12 := lay.2.1.2
  have x12 := lay.2.2.1.2
  have HB2 : Hid (Below w.heap.size w ((w.alloc (.cells #[.int .i64 m, .int .i64 n, .slice b xs.length cap] 26)).alloc (.cells #[.int .i64 0, .int .i64 0, .slice none 0 0, .int .i64 0, .int .i64 0] 60))) := Lib.hid (bel_n (bel0 w _) (Nat.le_refl _) _)
  have HS0 : Hid (((w.alloc (.cells #[.int .i64 m, .int .i64 n, .slice b xs.length cap] 26)).alloc (.cells #[.int .i64 0, .int .i64 0, .slice none 0 0, .int .i64 0, .int .i64 0] 60)).heap.size = w.heap.size + 2) := Lib.hid (by simp)
  have HQ : Hid (BoxQ (w.heap.size + 2) W H (.slice none 0 0) l t (((w.alloc (.cells #[.int .i64 m, .int .i64 n, .slice b xs.length cap] 26)).alloc (.cells #[.int .i64 0, .int .i64 0, .slice none 0 0, .int .i64 0, .int .i64 0] 60)).alloc (.cells #[.int .i64 W, .int .i64 H, .slice none 0 0, .int .i64 l, .int .i64 t] 60))) := Lib.hid (by have := BoxQ.new ((w.alloc (.cells #[.int .i64 m, .int .i64 n, .slice b xs.length cap] 26)).alloc (.cells #[.int .i64 0, .int .i64 0, .slice none 0 0, .int .i64 0, .int .i64 0] 60)) W H (.slice none 0 0) l t 60; rwa [HS0.out] at this)
  have HQ2 : Hid (Below (w.heap.size + 2) ((w.alloc (.cells #[.int .i64 m, .int .i64 n, .slice b xs.length cap] 26)).alloc (.cells #[.int .i64 0, .int .i64 0, .slice none 0 0, .int .i64 0, .int .i64 0] 60)) (((w.alloc (.cells #[.int .i64 m, .int .i64 n, .slice b xs.length cap] 26)).alloc (.cells #[.int .i64 0, .int .i64 0, .slice none 0 0, .int .i64 0, .int .i64 0] 60)).alloc (.cells #[.int .i64 W, .int .i64 H, .slice none 0 0, .int .i64 l, .int .i64 t] 60))) := Lib.hid (by have := bel0 ((w.alloc (.cells #[.int .i64 m, .int .i64 n, .slice b xs.length cap] 26)).alloc (.cells #[.int .i64 0, .int .i64 0, .slice none 0 0, .int .i64 0, .int .i64 0] 60)) (.cells #[.int .i64 W, .int .i64 H, .slice none 0 0, .int .i64 l, .int .i64 t] 60); rwa [HS0.out] at this)
  clear r lay
  go_enter Try.func41, Try.ntmps41
  go_wp2_with fail
  go_loopw [23] (fun i wr => ∃ (k : Nat) (v : Value), k ≤ xs.length ∧ i = .int .i64 k ∧ Hid (BoxQ (w.heap.size + 2) W H v l t wr) ∧ Hid (wr.ownsRow (w.heap.size + 2 + 1) 67 5 v (restr l t W H (xs.take k)).length (placesPat (restr l t W H (xs.take k)))) ∧ Hid (Below (w.heap.size + 2) ((w.alloc (.cells #[.int .i64 m, .int .i64 n, .slice b xs.length cap] 26)).alloc (.cells #[.int .i64 0, .int .i64 0, .slice none 0 0, .int .i64 0, .int .i64 0] 60)) wr)) (fun i _ => xs.length - (intOf i).toNat)
  case atStart => exact ⟨0, _, Nat.zero_le _, rfl, HQ, Lib.hid (World.ownsRow_nil _ _ _ _), HQ2⟩
  case round =>
    obtain ⟨k, v, hk, rfl, hq, hown, hbel⟩ := hrel
    have hs := hbel.out.size
    rw [HS0.out] at hs
    have hql := hq.out.lt
    by_cases hlt : k < xs.length
    · obtain ⟨g, rfl, hg, hg1, hel, _⟩ := R.out.at ((HB2.out.trans (hbel.out.mono (Nat.le_add_right _ 2))).mono hhi) hlt
      obtain ⟨q0, q1, q2, q3, q4⟩ := hel
      obtain ⟨d, hd⟩ : ∃ d, d = xs.getD k P5.zero := ⟨_, rfl⟩
      obtain ⟨⟨f00, f01⟩, ⟨f10, f11⟩, ⟨f20, f21⟩, ⟨f30, f31⟩, f40, f41⟩ : Fit m n d := by rw [hd]; exact HF.out k hlt
      rw [← hd] at q0 q1 q2 q3 q4
      have HD := Lib.hid (restr_succ (l := l) (t := t) (W := W) (H := H) hlt (show d = pat xs k from hd))
      have HB3 : Hid (Below (w.heap.size + 2) ((w.alloc (.cells #[.int .i64 m, .int .i64 n, .slice (some ⟨g, 0, none⟩) xs.length cap] 26)).alloc (.cells #[.int .i64 0, .int .i64 0, .slice none 0 0, .int .i64 0, .int .i64 0] 60)) (wr.alloc (.cells #[.int .i64 d.x, .int .i64 d.y, .int .i64 d.w, .int .i64 d.h, .int .i64 d.c] 67))) := Lib.hid (hbel.out.trans ((bel0 wr _).mono hs))
      have HQ3 := Lib.hid (hq.out.below (bel0 wr (.cells #[.int .i64 d.x, .int .i64 d.y, .int .i64 d.w, .int .i64 d.h, .int .i64 d.c] 67)) (by omega))
      have HO3 := Lib.hid (owL hown.out (bel0 wr (.cells #[.int .i64 d.x, .int .i64 d.y, .int .i64 d.w, .int .i64 d.h, .int .i64 d.c] 67)))
      have hrl : (restr l t W H (xs.take k)).length ≤ 12 := by have := restr_len l t W H (xs.take k); simp at this; omega
      clear hd hbel hq hown
      go_wp2_with fail
      refine (Add_any (w.heap.size + 2) W H v l t (restr l t W H (xs.take k)) d.x d.y d.w d.h d.c _ HQ3.out HO3.out m0 m1 n0 n1 l0 l1 t0 t1 (by omega) (by omega) (by omega) (by omega) (by omega) (by omega) (by omega) (by omega) (by omega) (by omega) hrl).mono ?_
      rintro e w1 ⟨rfl, v2, hq2, ho2, hb2, hs2⟩
      have HQ4 := Lib.hid hq2
      have HO4 : Hid (w1.ownsRow (w.heap.size + 2 + 1) 67 5 v2 (restr l t W H (xs.take (k + 1))).length (placesPat (restr l t W H (xs.take (k + 1))))) := Lib.hid (by rw [HD.out]; exact ho2)
      have HB4 := Lib.hid (HB3.out.trans hb2)
      clear hq2 ho2 hb2 hs2 HQ3 HO3 HB3 HD
      go_wp2_with fail
      go_roundw
      case rel => exact ⟨k + 1, v2, by omega, by go_num, HQ4, HO4, HB4⟩
      case measure => simp [intOf] <;> omega
    · obtain rfl : k = xs.length := by omega
      have HO5 : Hid (wr.ownsRow (w.heap.size + 2 + 1) 67 5 v (restr l t W H xs).length (placesPat (restr l t W H xs))) := Lib.hid (by have := hown.out; rwa [List.take_length] at this)
      have hin : PatIn (w.heap.size + 2 + 1) wr.heap.size wr v (restr l t W H xs) := PatIn.of_owns HO5.out (by have := restr_len l t W H xs; omega)
      have HI := Lib.hid hin
      obtain ⟨av, cv, rfl⟩ := hin.form
      obtain ⟨⟨b0, b1, b2, b3, b4⟩, _⟩ := hq.out
      have d0 : wr.cell? ⟨w.heap.size + 1, 0, none⟩ = some (.int .i64 0) := (hbel.out.cell (p := ⟨w.heap.size + 1, 0, none⟩) (by simp)).trans (by simp)
      have z0 : wr.frozen? ⟨w.heap.size + 1, 0, none⟩ = false := (hbel.out.frozen (p := ⟨w.heap.size + 1, 0, none⟩) (by simp)).trans (by simp)
      have d1 : wr.cell? ⟨w.heap.size + 1, 1, none⟩ = some (.int .i64 0) := (hbel.out.cell (p := ⟨w.heap.size + 1, 1, none⟩) (by simp)).trans (by simp)
      have z1 : wr.frozen? ⟨w.heap.size + 1, 1, none⟩ = false := (hbel.out.frozen (p := ⟨w.heap.size + 1, 1, none⟩) (by simp)).trans (by simp)
      have d2 : wr.cell? ⟨w.heap.size + 1, 2, none⟩ = some (.slice none 0 0) := (hbel.out.cell (p := ⟨w.heap.size + 1, 2, none⟩) (by simp)).trans (by simp)
      have z2 : wr.frozen? ⟨w.heap.size + 1, 2, none⟩ = false := (hbel.out.frozen (p := ⟨w.heap.size + 1, 2, none⟩) (by simp)).trans (by simp)
      have d3 : wr.cell? ⟨w.heap.size + 1, 3, none⟩ = some (.int .i64 0) := (hbel.out.cell (p := ⟨w.heap.size + 1, 3, none⟩) (by simp)).trans (by simp)
      have z3 : wr.frozen? ⟨w.heap.size + 1, 3, none⟩ = false := (hbel.out.frozen (p := ⟨w.heap.size + 1, 3, none⟩) (by simp)).trans (by simp)
      have d4 : wr.cell? ⟨w.heap.size + 1, 4, none⟩ = some (.int .i64 0) := (hbel.out.cell (p := ⟨w.heap.size + 1, 4, none⟩) (by simp)).trans (by simp)
      have z4 : wr.frozen? ⟨w.heap.size + 1, 4, none⟩ = false := (hbel.out.frozen (p := ⟨w.heap.size + 1, 4, none⟩) (by simp)).trans (by simp)
      have HB0 := Lib.hid (HB2.out.trans (hbel.out.mono (Nat.le_add_right _ 2)))
      clear hin hown hbel
      go_wp2_with fail
      refine bodyPost_ret (v := .agg #[.int .i64 W, .int .i64 H, .slice av (restr l t W H xs).length cv, .int .i64 l, .int .i64 t]) (by simp [results, Try.results41, go_sem, d0, d1, d2, d3, d4]) rfl ⟨_, rfl, ?_, ?_⟩
      · refine PatIn.wide (lo := w.heap.size + 2 + 1) (hi := wr.heap.size) ?_ (by omega) (by simp [World.setCell])
        refine PatIn.set_far (PatIn.set_far (PatIn.set_far (PatIn.set_far (PatIn.set_far HI.out ?_ _) ?_ _) ?_ _) ?_ _) ?_ _ <;> (simp <;> omega)
      · refine Below.setCell (Below.setCell (Below.setCell (Below.setCell (Below.setCell HB0.out ?_ _) ?_ _) ?_ _) ?_ _) ?_ _ <;> (simp <;> omega)

end Go.Proofs.Ytakjgnkkeefgbaa
