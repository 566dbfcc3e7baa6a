/- Blocks: the program's PlainBlock. -/
import Derived.Test.YtoljnokfhgopoaaBlkIa
import Derived.Test.YtoljnokfhgopoaaBlkP
import Derived.Test.YtoljnokfhgopoaaCellWi
import Derived.Test.YtoljnokfhgopoaaBlkG
namespace Go.Proofs.Ytoljnokfhgopoaa
open Go.ChangeShapes Go.WideShapes Go.ChangeAt Go.RowKit

theorem BoxB.far {p : Nat} {x y : Value} {u : World} (h : BoxB p x y u) {q : Addr} (hq : q.block ≠ p) (z : Value) : BoxB p x y (u.setCell q z) := by
  obtain ⟨h0, h1, h2, h3⟩ := h
  have hn : ∀ o : Nat, q ≠ ⟨p, o, none⟩ := fun o e => hq (by rw [e])
  exact ⟨(World.cell?_setCell_other _ _ _ _ (hn _)).trans h0, (World.cell?_setCell_other _ _ _ _ (hn _)).trans h1, (World.frozen?_setCell _ _ _ _).trans h2, (World.frozen?_setCell _ _ _ _).trans h3⟩

set_option maxHeartbeats 400000 in
theorem ImplPlain_any (n a : Int) (w : World) :
    Calls Try.prog 18 #[.int .i64 n, .int .i64 a] w (FreshBB (plN n a) (plC n a) (plB n a) w) := by
  obtain ⟨i0, hi0, hz0, hz1, hz2⟩ := info_parts3 info_cell
  by_cases h : PlOk n a
  · obtain ⟨e1, e2, e3⟩ := pl_yes h
    rw [e1, e2, e3]
    clear e1 e2 e3
    obtain ⟨⟨n0, n1⟩, a0, a1⟩ := h
    obtain ⟨hw, s0, s1⟩ := sq_wrap n0 n1
    obtain ⟨m, hm⟩ : ∃ m : Nat, n * n = m := ⟨(n * n).toNat, by omega⟩
    have hmt : (n * n).toNat = m := by rw [hm]; simp
    have hm16 : m ≤ 16 := by omega
    rw [hmt]
    rw [hm] at hw
    have HM := Lib.hid hm
    clear hmt s0 s1
    have CW : ∀ w, Calls Try.prog 48 #[.int .i64 a] w fun e w' => e = .returned (.agg #[.int .i64 0, .int .i64 a, .int .i64 a]) ∧ w' = w.alloc (.cells #[.int .i64 0, .int .i64 a, .int .i64 a] 30) := fun w => by have := ImplWhole_any a w; rw [wh_yes ⟨a0, a1⟩] at this; exact this
    go_enter Try.func18, Try.ntmps18
    go_wp2_with fail
    refine (Size_yes _ _ n0 n1).mono ?_
    rintro e w' ⟨rfl, rfl⟩
    go_wp2_with fail
    refine (Color_yes _ _ a0 a1).mono ?_
    rintro e w' ⟨rfl, rfl⟩
    rw [← hm] at hw
    go_wp2_with (at_make; refine wpList_make_full _ rfl _ _ 24 rfl (w.heap.size + 1) 30 i0 _ 3 Try.underlying24 hi0 hz0 hz1 .i64 .i64 _ _ m (by rw [← hm]; rfl) (by rw [← hm]; rfl) rfl rfl (by rw [hz2]; omega) (by unfold maxLen; omega) (by simp) ?_; intro w0 hown0 hgrow0)
    have hb0 := own_none hgrow0
    rw [places_zero] at hown0
    have hin0 := CellIn.of_owns (xs := List.replicate m C3.zero) (by rw [List.length_replicate]; exact hown0) (by rw [List.length_replicate]; omega)
    have HB := Lib.hid (bel_c (bel0 w (.cells #[.int .i64 0, .slice none 0 0] 26)) (Nat.le_refl _) hb0)
    have HD : Hid (BoxB w.heap.size (.int .i64 0) (.slice none 0 0) w0) := Lib.hid ((BoxB.new w (.int .i64 0) (.slice none 0 0) 26).below hb0 (by simp))
    have HW : Hid (CellIn (w.heap.size + 1) w0.heap.size w0 (.slice (some ⟨w.heap.size + 1, 0, none⟩) m m) (List.replicate m C3.zero)) := Lib.hid (by simpa using hin0)
    have hz0' : w.heap.size + 1 ≤ w0.heap.size := by have := hb0.size; simpa using this
    clear hb0 hown0 hgrow0 hin0
    go_loopw [23] (fun i wr => ∃ (k : Nat) (ys : List C3), k ≤ m ∧ i = .int .i64 k ∧ Hid (UpTo k (List.replicate m ⟨0, a, a⟩) ys) ∧ Hid (CellIn (w.heap.size + 1) w0.heap.size wr (.slice (some ⟨w.heap.size + 1, 0, none⟩) m m) ys) ∧ Hid (BoxB w.heap.size (.int .i64 0) (.slice none 0 0) wr) ∧ Below w.heap.size w wr ∧ w0.heap.size ≤ wr.heap.size) (fun i _ => m - (intOf i).toNat)
    case atStart => exact ⟨0, List.replicate m C3.zero, Nat.zero_le _, rfl, ⟨by simp, fun i hi => by omega⟩, HW.out, HD, HB.out, Nat.le_refl _⟩
    case round =>
      obtain ⟨k, ys, hk, rfl, hup, hin, hbx, hbel, hsz⟩ := hrel
      by_cases hlt : k < m
      · have hyl : ys.length = m := by have := hup.out.1; simpa using this
        have hb1 := bel0 wr (.cells #[.int .i64 0, .int .i64 a, .int .i64 a] 30)
        have hin1 := Lib.hid (hin.out.below (hb1.mono hsz))
        obtain ⟨g, hg, _, _, ⟨e0, e1, e2⟩, f0, f1, f2⟩ := hin1.out.at (Below.refl _ _) (i := k) (by omega)
        obtain rfl : w.heap.size + 1 = g := by simpa using hg
        have HN := Lib.hid (hin1.out.set k (by omega) 0 a a)
        have HU := Lib.hid (hup.out.set (c := ⟨0, a, a⟩) (by simpa using hlt) (by simp [List.getD, hlt]))
        have hbw := bel_c hbel (Nat.le_refl _) hb1
        have HB1 := Lib.hid (Below.setCell (Below.setCell (Below.setCell hbw (p := ⟨w.heap.size + 1, k * 3, none⟩) (by simp) (.int .i64 0)) (p := ⟨w.heap.size + 1, k * 3 + 1, none⟩) (by simp) (.int .i64 a)) (p := ⟨w.heap.size + 1, k * 3 + 2, none⟩) (by simp) (.int .i64 a))
        have hbx1 := (hbx.out.below hb1 (by omega))
        have HX := Lib.hid (BoxB.far (BoxB.far (BoxB.far hbx1 (q := ⟨w.heap.size + 1, k * 3, none⟩) (by simp) (.int .i64 0)) (q := ⟨w.heap.size + 1, k * 3 + 1, none⟩) (by simp) (.int .i64 a)) (q := ⟨w.heap.size + 1, k * 3 + 2, none⟩) (by simp) (.int .i64 a))
        clear hg hin hup hbw hb1 hbel hbx hbx1
        generalize ys.getD k C3.zero = y at e0 e1 e2
        go_wp2_with fail
        refine (CW _).mono ?_
        rintro e w' ⟨rfl, rfl⟩
        go_wp2_with fail
        go_roundw
        case rel => exact ⟨k + 1, _, by omega, by go_num, HU, HN, HX, HB1.out, by simp [World.setCell]; omega⟩
        case measure => simp [intOf] <;> omega
      · obtain rfl : k = m := by omega
        have hall : ys = List.replicate k (⟨0, a, a⟩ : C3) := UpTo.all (by have := hup.out; simpa using this)
        subst hall
        obtain ⟨d0, d1, g0, g1⟩ := hbx.out
        go_wp2_with fail
        refine bodyPost_ret (v := .tuple #[.agg #[.int .i64 n, .slice (some ⟨w.heap.size + 1, 0, none⟩) k k], .bool true]) (by simp [results, Try.results18, go_sem, d0, d1]) rfl ⟨_, rfl, ?_, ?_⟩
        · refine CellIn.wide (lo := w.heap.size + 1) (hi := w0.heap.size) ?_ (by omega) (by simp [World.setCell]; omega)
          refine CellIn.set_far (CellIn.set_far hin.out ?_ _) ?_ _ <;> simp
        · refine Below.setCell (Below.setCell hbel ?_ _) ?_ _ <;> exact Nat.le_refl _
  · obtain ⟨e1, e2, e3⟩ := pl_no h
    rw [e1, e2, e3]
    clear e1 e2 e3
    by_cases hn : 1 ≤ n ∧ n ≤ 4
    · have ha : a < 0 ∨ 5 < a := by unfold PlOk at h; omega
      obtain ⟨n0, n1⟩ := hn
      clear h
      go_enter Try.func18, Try.ntmps18
      go_wp2_with fail
      refine (Size_yes _ _ n0 n1).mono ?_
      rintro e w' ⟨rfl, rfl⟩
      go_wp2_with fail
      refine (Color_no _ _ ha).mono ?_
      rintro e w' ⟨rfl, rfl⟩
      go_wp2_with fail
      exact bodyPost_ret (v := .tuple #[.agg #[.int .i64 0, .slice none 0 0], .bool false]) (by simp [results, Try.results18, go_sem]) rfl ⟨.slice none 0 0, rfl, ⟨by simp, .inl ⟨rfl, _, _, rfl⟩⟩, bel0 _ _⟩
    · have hn' : n < 1 ∨ 4 < n := by omega
      clear h hn
      go_enter Try.func18, Try.ntmps18
      go_wp2_with fail
      refine (Size_no _ _ hn').mono ?_
      rintro e w' ⟨rfl, rfl⟩
      go_wp2_with fail
      exact bodyPost_ret (v := .tuple #[.agg #[.int .i64 0, .slice none 0 0], .bool false]) (by simp [results, Try.results18, go_sem]) rfl ⟨.slice none 0 0, rfl, ⟨by simp, .inl ⟨rfl, _, _, rfl⟩⟩, bel0 _ _⟩

end Go.Proofs.Ytoljnokfhgopoaa
