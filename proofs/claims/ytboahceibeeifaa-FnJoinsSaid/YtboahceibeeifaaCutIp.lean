/- Cuts: a part; a patch is added; the program's partAt. -/
import Derived.Test.YtboahceibeeifaaCutIa
import Derived.Test.YtboahceibeeifaaLayB
import Derived.Test.YtboahceibeeifaaLayD
import Derived.Deep.RegionLaw
import Derived.Deep.RegionHeld3

set_option linter.unusedSimpArgs false
set_option linter.unusedVariables false
namespace Go.Proofs.Ytboahceibeeifaa
open Go.ChangeShapes Go.WideShapes Go.ChangeAt Go.RowKit

/-- A part's box. -/
def BoxQ (p : Nat) (m n : Int) (v : Value) (l t : Int) (u : World) : Prop := (u.cell? ⟨p, 0, none⟩ = some (.int .i64 m) ∧ u.cell? ⟨p, 1, none⟩ = some (.int .i64 n) ∧ u.cell? ⟨p, 2, none⟩ = some (v) ∧ u.cell? ⟨p, 3, none⟩ = some (.int .i64 l) ∧ u.cell? ⟨p, 4, none⟩ = some (.int .i64 t)) ∧ u.frozen? ⟨p, 0, none⟩ = false ∧ u.frozen? ⟨p, 1, none⟩ = false ∧ u.frozen? ⟨p, 2, none⟩ = false ∧ u.frozen? ⟨p, 3, none⟩ = false ∧ u.frozen? ⟨p, 4, none⟩ = false
theorem BoxQ.lt {p : Nat} {m n : Int} {v : Value} {l t : Int} {u : World} (h : BoxQ p m n v l t u) : p < u.heap.size := lt_of_cell h.1.1
theorem BoxQ.new (w : World) (m n : Int) (v : Value) (l t : Int) (T : TypeId) : BoxQ w.heap.size m n v l t (w.alloc (.cells #[.int .i64 m, .int .i64 n, v, .int .i64 l, .int .i64 t] T)) := by
  unfold BoxQ; simp
theorem BoxQ.at {p : Nat} {m n : Int} {v : Value} {l t : Int} {u w : World} (h : BoxQ p m n v l t u) (hc : w.heap[p]? = u.heap[p]?) : BoxQ p m n v l t w := by
  obtain ⟨⟨h0, h1, h2, h3, h4⟩, f0, f1, f2, f3, f4⟩ := h
  exact ⟨⟨(World.cell?_of_block (w := u) hc).trans h0, (World.cell?_of_block (w := u) hc).trans h1, (World.cell?_of_block (w := u) hc).trans h2, (World.cell?_of_block (w := u) hc).trans h3, (World.cell?_of_block (w := u) hc).trans h4⟩, (World.frozen?_of_block (w := u) hc).trans f0, (World.frozen?_of_block (w := u) hc).trans f1, (World.frozen?_of_block (w := u) hc).trans f2, (World.frozen?_of_block (w := u) hc).trans f3, (World.frozen?_of_block (w := u) hc).trans f4⟩
theorem BoxQ.below {p B : Nat} {m n : Int} {v : Value} {l t : Int} {u w : World} (h : BoxQ p m n v l t u) (hb : Below B u w) (hp : p < B) : BoxQ p m n v l t w := h.at (hb.block p hp)
theorem BoxQ.far {p : Nat} {m n : Int} {v : Value} {l t : Int} {u : World} (h : BoxQ p m n v l t u) {q : Addr} (hq : q.block ≠ p) (x : Value) : BoxQ p m n v l t (u.setCell q x) := h.at (Below.heap_setCell _ _ _ _ (Ne.symm hq))
theorem BoxQ.store {p : Nat} {m n : Int} {v : Value} {l t : Int} {u : World} (h : BoxQ p m n v l t u) (x : Value) : BoxQ p m n x l t (u.setCell ⟨p, 2, none⟩ x) := by
  obtain ⟨⟨h0, h1, h2, h3, h4⟩, f0, f1, f2, f3, f4⟩ := h
  exact ⟨⟨(World.cell?_setCell_other _ _ _ _ (by simp)).trans h0, (World.cell?_setCell_other _ _ _ _ (by simp)).trans h1, World.cell?_setCell_same _ _ _ h2, (World.cell?_setCell_other _ _ _ _ (by simp)).trans h3, (World.cell?_setCell_other _ _ _ _ (by simp)).trans h4⟩, (World.frozen?_setCell _ _ _ _).trans f0, (World.frozen?_setCell _ _ _ _).trans f1, (World.frozen?_setCell _ _ _ _).trans f2, (World.frozen?_setCell _ _ _ _).trans f3, (World.frozen?_setCell _ _ _ _).trans f4⟩
/-- What adding keeps. -/
def AddIs (pb : Nat) (m n : Int) (l t : Int) (ys : List P5) (u : World) (e : Ending) (u' : World) : Prop :=
  e = .returned (.tuple #[]) ∧ ∃ v, BoxQ pb m n v l t u' ∧ u'.ownsRow (pb + 1) 34 5 v ys.length (placesPat ys) ∧ Below pb u u' ∧ u.heap.size ≤ u'.heap.size
set_option maxHeartbeats 3200000 in
set_option maxRecDepth 20000 in
theorem Add_any (pb : Nat) (m n : Int) (v : Value) (l t : Int) (ys : List P5) (qx qy qw qh qc : Int) (u : World) (hbox : BoxQ pb m n v l t u) (hown : u.ownsRow (pb + 1) 34 5 v ys.length (placesPat ys))
    (m0 : 1 ≤ m) (m1 : m ≤ 12) (n0 : 1 ≤ n) (n1 : n ≤ 12) (l0 : 0 ≤ l) (l1 : l ≤ 12) (t0 : 0 ≤ t) (t1 : t ≤ 12) (x0 : 0 ≤ qx) (x1 : qx ≤ 12) (y0 : 0 ≤ qy) (y1 : qy ≤ 12) (w0 : 0 ≤ qw) (w1 : qw ≤ 12) (h0 : 0 ≤ qh) (h1 : qh ≤ 12) (c0 : 0 ≤ qc) (c1 : qc ≤ 12) (hl : ys.length ≤ 12) :
    Calls Try.prog 58 #[.pointer (some ⟨pb, 0, none⟩), .agg #[.int .i64 qx, .int .i64 qy, .int .i64 qw, .int .i64 qh, .int .i64 qc]] u
      (AddIs pb m n l t (if fitB m n (mv l t ⟨qx, qy, qw, qh, qc⟩) then ys ++ [mv l t ⟨qx, qy, qw, qh, qc⟩] else ys) u) := by
  obtain ⟨i0, hi0, hz0, hz1, hz2⟩ := info_parts3 info_Pat
  have HB := Lib.hid hbox
  have HO := Lib.hid hown
  have hlt := hbox.lt
  have K4 : ∀ o, (u.alloc o).cell? ⟨pb, 4, none⟩ = some (.int .i64 t) := fun o => (hbox.below (bel0 u o) hlt).1.2.2.2.2
  have bb := hbox.below (bel0 u (.cells #[.int .i64 qx, .int .i64 qy, .int .i64 qw, .int .i64 qh, .int .i64 qc] 34)) hlt
  obtain ⟨⟨b0, b1, b2, b3, b4⟩, _⟩ := bb
  clear hbox hown
  have wfq : ∀ z : Int, -100 ≤ z → z ≤ 100 → (Lit.int .i64 z).wf = true := fun z a b => by simp [Lit.wf, IntKind.min, IntKind.max, IntKind.bits, IntKind.signed]; omega
  have FI : Hid (∀ x : World, Calls Try.prog 64 #[.agg #[.int .i64 (qx - l), .int .i64 (qy - t), .int .i64 qw, .int .i64 qh, .int .i64 qc], .agg #[.int .i64 m, .int .i64 n, v]] x fun e w' => e = .returned (.bool (fitB m n (mv l t ⟨qx, qy, qw, qh, qc⟩))) ∧ Below x.heap.size x w') := Lib.hid (fun x => FitsInto_any m n v ⟨qx - l, qy - t, qw, qh, qc⟩ x m0 m1 n0 n1 ⟨wfq _ (by show -100 ≤ qx - l; omega) (by show qx - l ≤ 100; omega), wfq _ (by show -100 ≤ qy - t; omega) (by show qy - t ≤ 100; omega), wfq _ (by show -100 ≤ qw; omega) (by show qw ≤ 100; omega), wfq _ (by show -100 ≤ qh; omega) (by show qh ≤ 100; omega), wfq _ (by show -100 ≤ qc; omega) (by show qc ≤ 100; omega)⟩)
  clear wfq
  obtain ⟨b, hb⟩ : ∃ b, b = fitB m n (mv l t ⟨qx, qy, qw, qh, qc⟩) := ⟨_, rfl⟩
  rw [← hb] at FI ⊢
  clear hb
  obtain ⟨X, hX⟩ : ∃ X, X = ((u.alloc (.cells #[.int .i64 (qx - l), .int .i64 (qy - t), .int .i64 qw, .int .i64 qh, .int .i64 qc] 34)).drew).drew := ⟨_, rfl⟩
  have BX : Below u.heap.size u X := by rw [hX]; exact bel_dr9 (bel_dr9 (bel0 u (.cells #[.int .i64 (qx - l), .int .i64 (qy - t), .int .i64 qw, .int .i64 qh, .int .i64 qc] 34)))
  have eX : X.heap.size = u.heap.size + 1 := by rw [hX]; simp
  have p0 : X.cell? ⟨u.heap.size, 0, none⟩ = some (.int .i64 (qx - l)) := by rw [hX]; simp
  have p1 : X.cell? ⟨u.heap.size, 1, none⟩ = some (.int .i64 (qy - t)) := by rw [hX]; simp
  have p2 : X.cell? ⟨u.heap.size, 2, none⟩ = some (.int .i64 qw) := by rw [hX]; simp
  have p3 : X.cell? ⟨u.heap.size, 3, none⟩ = some (.int .i64 qh) := by rw [hX]; simp
  have p4 : X.cell? ⟨u.heap.size, 4, none⟩ = some (.int .i64 qc) := by rw [hX]; simp
  have HBX := Lib.hid (HB.out.below BX hlt)
  have HOX := Lib.hid (owL HO.out BX)
  have HX := Lib.hid BX
  have KP : ∀ x z : World, Below x.heap.size x z → (x.cell? ⟨pb, 0, none⟩ = some (.int .i64 m) ∧ x.cell? ⟨pb, 1, none⟩ = some (.int .i64 n) ∧ x.cell? ⟨pb, 2, none⟩ = some (v) ∧ x.cell? ⟨pb, 3, none⟩ = some (.int .i64 l) ∧ x.cell? ⟨pb, 4, none⟩ = some (.int .i64 t) ∧ x.cell? ⟨u.heap.size, 0, none⟩ = some (.int .i64 (qx - l)) ∧ x.cell? ⟨u.heap.size, 1, none⟩ = some (.int .i64 (qy - t)) ∧ x.cell? ⟨u.heap.size, 2, none⟩ = some (.int .i64 qw) ∧ x.cell? ⟨u.heap.size, 3, none⟩ = some (.int .i64 qh) ∧ x.cell? ⟨u.heap.size, 4, none⟩ = some (.int .i64 qc)) → (z.cell? ⟨pb, 0, none⟩ = some (.int .i64 m) ∧ z.cell? ⟨pb, 1, none⟩ = some (.int .i64 n) ∧ z.cell? ⟨pb, 2, none⟩ = some (v) ∧ z.cell? ⟨pb, 3, none⟩ = some (.int .i64 l) ∧ z.cell? ⟨pb, 4, none⟩ = some (.int .i64 t) ∧ z.cell? ⟨u.heap.size, 0, none⟩ = some (.int .i64 (qx - l)) ∧ z.cell? ⟨u.heap.size, 1, none⟩ = some (.int .i64 (qy - t)) ∧ z.cell? ⟨u.heap.size, 2, none⟩ = some (.int .i64 qw) ∧ z.cell? ⟨u.heap.size, 3, none⟩ = some (.int .i64 qh) ∧ z.cell? ⟨u.heap.size, 4, none⟩ = some (.int .i64 qc)) := fun x z hb h => ⟨kept hb h.1, kept hb h.2.1, kept hb h.2.2.1, kept hb h.2.2.2.1, kept hb h.2.2.2.2.1, kept hb h.2.2.2.2.2.1, kept hb h.2.2.2.2.2.2.1, kept hb h.2.2.2.2.2.2.2.1, kept hb h.2.2.2.2.2.2.2.2.1, kept hb h.2.2.2.2.2.2.2.2.2⟩
  clear HB HO BX
  cases b
  · obtain ⟨zs, hzs⟩ : ∃ zs, zs = (if false = true then ys ++ [mv l t ⟨qx, qy, qw, qh, qc⟩] else ys) := ⟨_, rfl⟩
    rw [← hzs]
    have HZ : Hid (zs = ys) := Lib.hid (by rw [hzs]; rfl)
    clear hzs
    go_enter Try.func58, Try.ntmps58
    go_wp2_with fail
    go_region
    go_wp2_with fail
    go_region
    rw [← hX]
    clear b0 b1 b2 b3 b4 hX K4
    obtain ⟨⟨b0, b1, b2, b3, b4⟩, _⟩ := HBX.out
    go_wp2_with fail
    go_region_held3 (fun w' => w'.cell? ⟨pb, 0, none⟩ = some (.int .i64 m) ∧ w'.cell? ⟨pb, 1, none⟩ = some (.int .i64 n) ∧ w'.cell? ⟨pb, 2, none⟩ = some (v) ∧ w'.cell? ⟨pb, 3, none⟩ = some (.int .i64 l) ∧ w'.cell? ⟨pb, 4, none⟩ = some (.int .i64 t) ∧ w'.cell? ⟨u.heap.size, 0, none⟩ = some (.int .i64 (qx - l)) ∧ w'.cell? ⟨u.heap.size, 1, none⟩ = some (.int .i64 (qy - t)) ∧ w'.cell? ⟨u.heap.size, 2, none⟩ = some (.int .i64 qw) ∧ w'.cell? ⟨u.heap.size, 3, none⟩ = some (.int .i64 qh) ∧ w'.cell? ⟨u.heap.size, 4, none⟩ = some (.int .i64 qc)) (first | (refine KP _ _ (by assumption) ?_; assumption) | go_keep)
      ((go_at_call 64; refine (FI.out _).mono ?_; rintro e y ⟨rfl, hb1⟩))
    have BY := Lib.hid (bel_c (bel_dr9 (Below.refl X.heap.size X)) (Nat.le_refl _) hb1)
    clear hb1 KP
    go_wp2_with fail
    have hs := BY.out.size
    refine bodyPost_ret (v := .tuple #[]) (by simp [results, Try.results58, go_sem]) rfl ⟨rfl, v, HBX.out.below BY.out (by omega), by rw [HZ.out]; exact owL HOX.out BY.out, ?_, by omega⟩
    exact (HX.out.mono (by omega)).trans (BY.out.mono (by omega))
  · obtain ⟨zs, hzs⟩ : ∃ zs, zs = (if true = true then ys ++ [mv l t ⟨qx, qy, qw, qh, qc⟩] else ys) := ⟨_, rfl⟩
    rw [← hzs]
    have HZ : Hid (zs = ys ++ [⟨qx - l, qy - t, qw, qh, qc⟩]) := Lib.hid (by rw [hzs]; rfl)
    clear hzs
    go_enter Try.func58, Try.ntmps58
    go_wp2_with fail
    go_region
    go_wp2_with fail
    go_region
    rw [← hX]
    clear b0 b1 b2 b3 b4 hX K4
    obtain ⟨⟨b0, b1, b2, b3, b4⟩, _⟩ := HBX.out
    go_wp2_with fail
    go_region_held3 (fun w' => w'.cell? ⟨pb, 0, none⟩ = some (.int .i64 m) ∧ w'.cell? ⟨pb, 1, none⟩ = some (.int .i64 n) ∧ w'.cell? ⟨pb, 2, none⟩ = some (v) ∧ w'.cell? ⟨pb, 3, none⟩ = some (.int .i64 l) ∧ w'.cell? ⟨pb, 4, none⟩ = some (.int .i64 t) ∧ w'.cell? ⟨u.heap.size, 0, none⟩ = some (.int .i64 (qx - l)) ∧ w'.cell? ⟨u.heap.size, 1, none⟩ = some (.int .i64 (qy - t)) ∧ w'.cell? ⟨u.heap.size, 2, none⟩ = some (.int .i64 qw) ∧ w'.cell? ⟨u.heap.size, 3, none⟩ = some (.int .i64 qh) ∧ w'.cell? ⟨u.heap.size, 4, none⟩ = some (.int .i64 qc)) (first | (refine KP _ _ (by assumption) ?_; assumption) | go_keep)
      ((go_at_call 64; refine (FI.out _).mono ?_; rintro e y ⟨rfl, hb1⟩))
    have BY := Lib.hid (bel_c (bel_dr9 (Below.refl X.heap.size X)) (Nat.le_refl _) hb1)
    have BYU : Hid (Below u.heap.size u y) := Lib.hid ((HX.out.mono (by omega)).trans (BY.out.mono (by omega)))
    have hys : u.heap.size + 1 ≤ y.heap.size := by have := BY.out.size; omega
    have c0 : y.cell? ⟨u.heap.size, 0, none⟩ = some (.int .i64 (qx - l)) := kept BY.out p0
    have c1 : y.cell? ⟨u.heap.size, 1, none⟩ = some (.int .i64 (qy - t)) := kept BY.out p1
    have c2 : y.cell? ⟨u.heap.size, 2, none⟩ = some (.int .i64 qw) := kept BY.out p2
    have c3 : y.cell? ⟨u.heap.size, 3, none⟩ = some (.int .i64 qh) := kept BY.out p3
    have c4 : y.cell? ⟨u.heap.size, 4, none⟩ = some (.int .i64 qc) := kept BY.out p4
    have HBY := Lib.hid (HBX.out.below BY.out (by omega))
    have HOY := Lib.hid (owL HOX.out BY.out)
    clear hb1 KP b0 b1 b2 b3 b4 HBX HOX p0 p1 p2 p3 p4 HX BY FI
    obtain ⟨⟨b0, b1, b2, b3, b4⟩, d0, d1, d2, d3, d4⟩ := HBY.out
    have KK : ∀ o, (y.alloc o).cell? ⟨pb, 2, none⟩ = some v := fun o => kept (bel0 y o) b2
    have KF : ∀ o, (y.alloc o).frozen? ⟨pb, 2, none⟩ = false := fun o => keptF (bel0 y o) b2 d2
    have BYN : Below y.heap.size y ((y.alloc (.cells #[.int .i64 (qx - l), .int .i64 (qy - t), .int .i64 qw, .int .i64 qh, .int .i64 qc] 34)).drew) := bel_dr9 (bel0 y (.cells #[.int .i64 (qx - l), .int .i64 (qy - t), .int .i64 qw, .int .i64 qh, .int .i64 qc] 34))
    have HO2 := Lib.hid (owL HOY.out BYN)
    have HB2 := Lib.hid (HBY.out.below BYN (by omega))
    have HBN := Lib.hid BYN
    have HNW : Hid (∀ (j : Nat) x, ([.int .i64 (qx - l), .int .i64 (qy - t), .int .i64 qw, .int .i64 qh, .int .i64 qc] : List Value)[j]? = some x → ((y.alloc (.cells #[.int .i64 (qx - l), .int .i64 (qy - t), .int .i64 qw, .int .i64 qh, .int .i64 qc] 34)).drew).cell? ((⟨y.heap.size, 0, none⟩ : Addr).add j) = some x) :=
      Lib.hid (fun j x hx => newsL y y.heap.size #[.int .i64 (qx - l), .int .i64 (qy - t), .int .i64 qw, .int .i64 qh, .int .i64 qc] 34 rfl j x hx)
    have HS1 : Hid (pb + 1 ≤ ((y.alloc (.cells #[.int .i64 (qx - l), .int .i64 (qy - t), .int .i64 qw, .int .i64 qh, .int .i64 qc] 34)).drew).heap.size) := Lib.hid (by simp; omega)
    clear BYN HOY HBY
    go_wp2_with fail
    go_region_law (first
      | (refine step_append_lies _ (by rfl) _ _ _ (by rfl) (pb + 1) 34 i0 _ 5 40 Try.underlying24 hi0 hz0 hz1 hz2 rfl (by omega) v ys.length _ (by rfl) HO2.out ⟨y.heap.size, 0, none⟩ 1 1 [.int .i64 (qx - l), .int .i64 (qy - t), .int .i64 qw, .int .i64 qh, .int .i64 qc] (by rfl) (by rfl) HNW.out (by simp [Value.oneCell']) (by omega) (by unfold maxLen; omega) (by omega) HS1.out (y.heap.size + 1) (by simp) ?_; intro gg cc w1 hown1 hgrow hat hlt1; have hbw := (Below.refl (pb + 1) _).grown hgrow HS1.out (ogL HO2.out); have hP := Lib.hid (HB2.out.below hbw (Nat.lt_succ_self _)); have q2 := hP.out.1.2.2.1; have r2 := hP.out.2.2.2.1))
    all_goals
      have HN : Hid ((w1.setCell ⟨pb, 2, none⟩ (.slice (some ⟨gg, 0, none⟩) (ys.length + 1) cc)).ownsRow (pb + 1) 34 5 (.slice (some ⟨gg, 0, none⟩) (ys.length + 1) cc) zs.length (placesPat zs)) := Lib.hid (by
        have o1 : w1.ownsRow (pb + 1) 34 5 (.slice (some ⟨gg, 0, none⟩) (ys.length + 1) cc) zs.length (placesPat zs) := by rw [HZ.out, placesPat_more, List.length_append]; exact hown1
        exact osL o1 (Nat.lt_succ_self _) _)
      have HP2 := Lib.hid (hP.out.store (.slice (some ⟨gg, 0, none⟩) (ys.length + 1) cc))
      have HB3 : Hid (Below pb u (w1.setCell ⟨pb, 2, none⟩ (.slice (some ⟨gg, 0, none⟩) (ys.length + 1) cc))) := Lib.hid (Below.setCell ((BYU.out.mono (Nat.le_of_lt hlt)).trans ((HBN.out.mono (show pb ≤ y.heap.size by omega)).trans (hbw.mono (Nat.le_succ _)))) (p := ⟨pb, 2, none⟩) (Nat.le_refl _) _)
      have hs3 : u.heap.size ≤ (w1.setCell ⟨pb, 2, none⟩ (.slice (some ⟨gg, 0, none⟩) (ys.length + 1) cc)).heap.size := by
        have h1 := hbw.size
        have h2 := HBN.out.size
        simp [World.setCell] at h1 h2 ⊢; omega
      clear hown1 hgrow hat hlt1 hbw hP
      go_wp2_with fail
      refine bodyPost_ret (v := .tuple #[]) (by simp [results, Try.results58, go_sem]) rfl ⟨rfl, _, HP2.out, HN.out, HB3.out, hs3⟩


/-- A part is handed back. -/
def PartIs (W H l t : Int) (xs : List P5) (w : World) (e : Ending) (w' : World) : Prop :=
  ∃ v, e = .returned (.agg #[.int .i64 W, .int .i64 H, v, .int .i64 l, .int .i64 t]) ∧ PatIn w.heap.size w'.heap.size w' v (restr l t W H xs) ∧ Below w.heap.size w w'
theorem restr_len (l t W H : Int) (xs : List P5) : (restr l t W H xs).length ≤ xs.length := by
  have := List.length_filter_le (fitB W H) (xs.map (mv l t))
  rw [List.length_map] at this
  unfold restr; omega
theorem restr_succ {l t W H : Int} {xs : List P5} {k : Nat} (hk : k < xs.length) {d : P5} (hd : d = pat xs k) : restr l t W H (xs.take (k + 1)) = if fitB W H (mv l t d) then restr l t W H (xs.take k) ++ [mv l t d] else restr l t W H (xs.take k) := by
  rw [List.take_succ_eq_append_getElem hk, ← pat_get hk, ← hd]
  unfold restr
  rw [List.map_append, List.filter_append]
  by_cases z : fitB W H (mv l t d) <;> simp [z]

set_option maxHeartbeats 3200000 in
set_option maxRecDepth 20000 in
theorem PartAt_any (lo hi : Nat) (m n : Int) (v : Value) (xs : List P5) (l t W H : Int) (w : World) (r : PatIn lo hi w v xs) (hhi : hi ≤ w.heap.size) (lay : LayOk m n xs)
    (m0 : 1 ≤ W) (m1 : W ≤ 12) (n0 : 1 ≤ H) (n1 : H ≤ 12) (l0 : 0 ≤ l) (l1 : l ≤ 12) (t0 : 0 ≤ t) (t1 : t ≤ 12) :
    Calls Try.prog 35 #[.agg #[.int .i64 m, .int .i64 n, v], .int .i64 l, .int .i64 t, .int .i64 W, .int .i64 H] w (PartIs W H l t xs w) := by
  obtain ⟨b, cap, rfl⟩ := r.form
  have R := Lib.hid r
  have HF : Hid (∀ i, i < xs.length → Fit m n (pat xs i)) := Lib.hid (fun i hi => lay.fit hi)
  have m12 := lay.1.2
  have n12 := lay.2.1.2
  have x12 := lay.2.2.1.2
  have HB2 : Hid (Below w.heap.size w ((w.alloc (.cells #[.int .i64 m, .int .i64 n, .slice b xs.length cap] 26)).alloc (.cells #[.int .i64 0, .int .i64 0, .slice none 0 0, .int .i64 0, .int .i64 0] 62))) := Lib.hid (bel_n (bel0 w _) (Nat.le_refl _) _)
  have HS0 : Hid (((w.alloc (.cells #[.int .i64 m, .int .i64 n, .slice b xs.length cap] 26)).alloc (.cells #[.int .i64 0, .int .i64 0, .slice none 0 0, .int .i64 0, .int .i64 0] 62)).heap.size = w.heap.size + 2) := Lib.hid (by simp)
  have HQ : Hid (BoxQ (w.heap.size + 2) W H (.slice none 0 0) l t (((w.alloc (.cells #[.int .i64 m, .int .i64 n, .slice b xs.length cap] 26)).alloc (.cells #[.int .i64 0, .int .i64 0, .slice none 0 0, .int .i64 0, .int .i64 0] 62)).alloc (.cells #[.int .i64 W, .int .i64 H, .slice none 0 0, .int .i64 l, .int .i64 t] 62))) := Lib.hid (by have := BoxQ.new ((w.alloc (.cells #[.int .i64 m, .int .i64 n, .slice b xs.length cap] 26)).alloc (.cells #[.int .i64 0, .int .i64 0, .slice none 0 0, .int .i64 0, .int .i64 0] 62)) W H (.slice none 0 0) l t 62; rwa [HS0.out] at this)
  have HQ2 : Hid (Below (w.heap.size + 2) ((w.alloc (.cells #[.int .i64 m, .int .i64 n, .slice b xs.length cap] 26)).alloc (.cells #[.int .i64 0, .int .i64 0, .slice none 0 0, .int .i64 0, .int .i64 0] 62)) (((w.alloc (.cells #[.int .i64 m, .int .i64 n, .slice b xs.length cap] 26)).alloc (.cells #[.int .i64 0, .int .i64 0, .slice none 0 0, .int .i64 0, .int .i64 0] 62)).alloc (.cells #[.int .i64 W, .int .i64 H, .slice none 0 0, .int .i64 l, .int .i64 t] 62))) := Lib.hid (by have := bel0 ((w.alloc (.cells #[.int .i64 m, .int .i64 n, .slice b xs.length cap] 26)).alloc (.cells #[.int .i64 0, .int .i64 0, .slice none 0 0, .int .i64 0, .int .i64 0] 62)) (.cells #[.int .i64 W, .int .i64 H, .slice none 0 0, .int .i64 l, .int .i64 t] 62); rwa [HS0.out] at this)
  clear r lay
  go_enter Try.func35, Try.ntmps35
  go_wp2_with fail
  go_loopw [23] (fun i wr => ∃ (k : Nat) (v : Value), k ≤ xs.length ∧ i = .int .i64 k ∧ Hid (BoxQ (w.heap.size + 2) W H v l t wr) ∧ Hid (wr.ownsRow (w.heap.size + 2 + 1) 34 5 v (restr l t W H (xs.take k)).length (placesPat (restr l t W H (xs.take k)))) ∧ Hid (Below (w.heap.size + 2) ((w.alloc (.cells #[.int .i64 m, .int .i64 n, .slice b xs.length cap] 26)).alloc (.cells #[.int .i64 0, .int .i64 0, .slice none 0 0, .int .i64 0, .int .i64 0] 62)) wr)) (fun i _ => xs.length - (intOf i).toNat)
  case atStart => exact ⟨0, _, Nat.zero_le _, rfl, HQ, Lib.hid (World.ownsRow_nil _ _ _ _), HQ2⟩
  case round =>
    obtain ⟨k, v, hk, rfl, hq, hown, hbel⟩ := hrel
    have hs := hbel.out.size
    rw [HS0.out] at hs
    have hql := hq.out.lt
    by_cases hlt : k < xs.length
    · obtain ⟨g, rfl, hg, hg1, hel, _⟩ := R.out.at ((HB2.out.trans (hbel.out.mono (Nat.le_add_right _ 2))).mono hhi) hlt
      obtain ⟨q0, q1, q2, q3, q4⟩ := hel
      obtain ⟨d, hd⟩ : ∃ d, d = xs.getD k P5.zero := ⟨_, rfl⟩
      obtain ⟨⟨f00, f01⟩, ⟨f10, f11⟩, ⟨f20, f21⟩, ⟨f30, f31⟩, f40, f41⟩ : Fit m n d := by rw [hd]; exact HF.out k hlt
      rw [← hd] at q0 q1 q2 q3 q4
      have HD := Lib.hid (restr_succ (l := l) (t := t) (W := W) (H := H) hlt (show d = pat xs k from hd))
      have HB3 : Hid (Below (w.heap.size + 2) ((w.alloc (.cells #[.int .i64 m, .int .i64 n, .slice (some ⟨g, 0, none⟩) xs.length cap] 26)).alloc (.cells #[.int .i64 0, .int .i64 0, .slice none 0 0, .int .i64 0, .int .i64 0] 62)) (wr.alloc (.cells #[.int .i64 d.x, .int .i64 d.y, .int .i64 d.w, .int .i64 d.h, .int .i64 d.c] 34))) := Lib.hid (hbel.out.trans ((bel0 wr _).mono hs))
      have HQ3 := Lib.hid (hq.out.below (bel0 wr (.cells #[.int .i64 d.x, .int .i64 d.y, .int .i64 d.w, .int .i64 d.h, .int .i64 d.c] 34)) (by omega))
      have HO3 := Lib.hid (owL hown.out (bel0 wr (.cells #[.int .i64 d.x, .int .i64 d.y, .int .i64 d.w, .int .i64 d.h, .int .i64 d.c] 34)))
      have hrl : (restr l t W H (xs.take k)).length ≤ 12 := by have := restr_len l t W H (xs.take k); simp at this; omega
      clear hd hbel hq hown
      go_wp2_with fail
      refine (Add_any (w.heap.size + 2) W H v l t (restr l t W H (xs.take k)) d.x d.y d.w d.h d.c _ HQ3.out HO3.out m0 m1 n0 n1 l0 l1 t0 t1 (by omega) (by omega) (by omega) (by omega) (by omega) (by omega) (by omega) (by omega) (by omega) (by omega) hrl).mono ?_
      rintro e w1 ⟨rfl, v2, hq2, ho2, hb2, hs2⟩
      have HQ4 := Lib.hid hq2
      have HO4 : Hid (w1.ownsRow (w.heap.size + 2 + 1) 34 5 v2 (restr l t W H (xs.take (k + 1))).length (placesPat (restr l t W H (xs.take (k + 1))))) := Lib.hid (by rw [HD.out]; exact ho2)
      have HB4 := Lib.hid (HB3.out.trans hb2)
      clear hq2 ho2 hb2 hs2 HQ3 HO3 HB3 HD
      go_wp2_with fail
      go_roundw
      case rel => exact ⟨k + 1, v2, by omega, by go_num, HQ4, HO4, HB4⟩
      case measure => simp [intOf] <;> omega
    · obtain rfl : k = xs.length := by omega
      have HO5 : Hid (wr.ownsRow (w.heap.size + 2 + 1) 34 5 v (restr l t W H xs).length (placesPat (restr l t W H xs))) := Lib.hid (by have := hown.out; rwa [List.take_length] at this)
      have hin : PatIn (w.heap.size + 2 + 1) wr.heap.size wr v (restr l t W H xs) := PatIn.of_owns HO5.out (by have := restr_len l t W H xs; omega)
      have HI := Lib.hid hin
      obtain ⟨av, cv, rfl⟩ := hin.form
      obtain ⟨⟨b0, b1, b2, b3, b4⟩, _⟩ := hq.out
      have d0 : wr.cell? ⟨w.heap.size + 1, 0, none⟩ = some (.int .i64 0) := (hbel.out.cell (p := ⟨w.heap.size + 1, 0, none⟩) (by simp)).trans (by simp)
      have z0 : wr.frozen? ⟨w.heap.size + 1, 0, none⟩ = false := (hbel.out.frozen (p := ⟨w.heap.size + 1, 0, none⟩) (by simp)).trans (by simp)
      have d1 : wr.cell? ⟨w.heap.size + 1, 1, none⟩ = some (.int .i64 0) := (hbel.out.cell (p := ⟨w.heap.size + 1, 1, none⟩) (by simp)).trans (by simp)
      have z1 : wr.frozen? ⟨w.heap.size + 1, 1, none⟩ = false := (hbel.out.frozen (p := ⟨w.heap.size + 1, 1, none⟩) (by simp)).trans (by simp)
      have d2 : wr.cell? ⟨w.heap.size + 1, 2, none⟩ = some (.slice none 0 0) := (hbel.out.cell (p := ⟨w.heap.size + 1, 2, none⟩) (by simp)).trans (by simp)
      have z2 : wr.frozen? ⟨w.heap.size + 1, 2, none⟩ = false := (hbel.out.frozen (p := ⟨w.heap.size + 1, 2, none⟩) (by simp)).trans (by simp)
      have d3 : wr.cell? ⟨w.heap.size + 1, 3, none⟩ = some (.int .i64 0) := (hbel.out.cell (p := ⟨w.heap.size + 1, 3, none⟩) (by simp)).trans (by simp)
      have z3 : wr.frozen? ⟨w.heap.size + 1, 3, none⟩ = false := (hbel.out.frozen (p := ⟨w.heap.size + 1, 3, none⟩) (by simp)).trans (by simp)
      have d4 : wr.cell? ⟨w.heap.size + 1, 4, none⟩ = some (.int .i64 0) := (hbel.out.cell (p := ⟨w.heap.size + 1, 4, none⟩) (by simp)).trans (by simp)
      have z4 : wr.frozen? ⟨w.heap.size + 1, 4, none⟩ = false := (hbel.out.frozen (p := ⟨w.heap.size + 1, 4, none⟩) (by simp)).trans (by simp)
      have HB0 := Lib.hid (HB2.out.trans (hbel.out.mono (Nat.le_add_right _ 2)))
      clear hin hown hbel
      go_wp2_with fail
      refine bodyPost_ret (v := .agg #[.int .i64 W, .int .i64 H, .slice av (restr l t W H xs).length cv, .int .i64 l, .int .i64 t]) (by simp [results, Try.results35, go_sem, d0, d1, d2, d3, d4]) rfl ⟨_, rfl, ?_, ?_⟩
      · refine PatIn.wide (lo := w.heap.size + 2 + 1) (hi := wr.heap.size) ?_ (by omega) (by simp [World.setCell])
        refine PatIn.set_far (PatIn.set_far (PatIn.set_far (PatIn.set_far (PatIn.set_far HI.out ?_ _) ?_ _) ?_ _) ?_ _) ?_ _ <;> (simp <;> omega)
      · refine Below.setCell (Below.setCell (Below.setCell (Below.setCell (Below.setCell HB0.out ?_ _) ?_ _) ?_ _) ?_ _) ?_ _ <;> (simp <;> omega)

end Go.Proofs.Ytboahceibeeifaa
