/- Turns: the model's TurnCell and MirrorCell. -/
import Derived.Test.YtfidnhhlcdbaeaaTurF
import Derived.Test.YtfidnhhlcdbaeaaBlkW
namespace Go.Proofs.Ytfidnhhlcdbaeaa
open Go.ChangeShapes Go.WideShapes Go.ChangeAt Go.RowKit

/-- What the walk keeps: the cell's box, the answer's. -/
theorem SpecTurnCell_keep (s a b : Int) (w w1 : World) (hb : Below ((w.alloc (.cells #[.int .i64 s, .int .i64 a, .int .i64 b] 29)).alloc (.cells #[.int .i64 0, .int .i64 0, .int .i64 0] 29)).heap.size ((w.alloc (.cells #[.int .i64 s, .int .i64 a, .int .i64 b] 29)).alloc (.cells #[.int .i64 0, .int .i64 0, .int .i64 0] 29)) w1) :
    (w1.cell? ⟨w.heap.size, 0, none⟩ = some (.int .i64 s) ∧ w1.cell? ⟨w.heap.size, 1, none⟩ = some (.int .i64 a) ∧ w1.cell? ⟨w.heap.size, 2, none⟩ = some (.int .i64 b)) ∧
    (w1.cell? ⟨w.heap.size + 1, 0, none⟩ = some (.int .i64 0) ∧ w1.cell? ⟨w.heap.size + 1, 1, none⟩ = some (.int .i64 0) ∧ w1.cell? ⟨w.heap.size + 1, 2, none⟩ = some (.int .i64 0)) ∧
    (w1.frozen? ⟨w.heap.size + 1, 0, none⟩ = false ∧ w1.frozen? ⟨w.heap.size + 1, 1, none⟩ = false ∧ w1.frozen? ⟨w.heap.size + 1, 2, none⟩ = false) ∧ Below w.heap.size w w1 := by
  refine ⟨⟨kept hb ?_, kept hb ?_, kept hb ?_⟩, ⟨kept hb ?_, kept hb ?_, kept hb ?_⟩, ⟨keptF (x := .int .i64 0) hb ?_ ?_, keptF (x := .int .i64 0) hb ?_ ?_, keptF (x := .int .i64 0) hb ?_ ?_⟩, bel_c (bel_n (bel0 w _) (Nat.le_refl _) _) (Nat.le_refl _) hb⟩ <;> go_simp
theorem SpecTurnCell_any (s a b : Int) (w : World) :
    Calls Try.prog 18 #[.agg #[.int .i64 s, .int .i64 a, .int .i64 b]] w fun e w' => e = .returned (.agg #[.int .i64 (turnZ ⟨s, a, b⟩).s, .int .i64 (turnZ ⟨s, a, b⟩).a, .int .i64 (turnZ ⟨s, a, b⟩).b]) ∧ Below w.heap.size w w' := by
  have HK := Lib.hid (SpecTurnCell_keep s a b w)
  by_cases h : OkC s a b
  · have HC := Lib.hid h
    have hz : turnZ ⟨s, a, b⟩ = turnC ⟨s, a, b⟩ := if_pos h
    rw [hz]
    have hs : s = 0 ∨ s = 1 ∨ s = 2 := by unfold OkC at h; omega
    clear h hz
    rcases hs with rfl | rfl | rfl
    · have HZ : Hid (turnC ⟨0, a, b⟩ = ⟨0, a, b⟩) := Lib.hid (by simp [turnC])
      rw [HZ.out]
      clear HZ
      go_enter Try.func18, Try.ntmps18
      go_wp2_with fail
      refine (SpecOk_yes _ _ _ _ HC.out).mono ?_
      rintro e w1 ⟨rfl, hb⟩
      obtain ⟨⟨c0, c1, c2⟩, ⟨d0, d1, d2⟩, ⟨f0, f1, f2⟩, B⟩ := HK.out w1 hb
      clear hb HK
      go_wp2_with fail
      refine bodyPost_ret (v := .agg #[.int .i64 0, .int .i64 a, .int .i64 b]) (by simp [results, Try.results18, go_sem, d0, d1, d2]) rfl ⟨rfl, ?_⟩
      refine Below.setCell (Below.setCell (Below.setCell B ?_ _) ?_ _) ?_ _ <;> (simp <;> omega)
    · have HZ : Hid (turnC ⟨1, a, b⟩ = ⟨2, b, a⟩) := Lib.hid (by simp [turnC])
      rw [HZ.out]
      clear HZ
      go_enter Try.func18, Try.ntmps18
      go_wp2_with fail
      refine (SpecOk_yes _ _ _ _ HC.out).mono ?_
      rintro e w1 ⟨rfl, hb⟩
      obtain ⟨⟨c0, c1, c2⟩, ⟨d0, d1, d2⟩, ⟨f0, f1, f2⟩, B⟩ := HK.out w1 hb
      clear hb HK
      go_wp2_with fail
      refine bodyPost_ret (v := .agg #[.int .i64 2, .int .i64 b, .int .i64 a]) (by simp [results, Try.results18, go_sem, d0, d1, d2]) rfl ⟨rfl, ?_⟩
      refine Below.setCell (Below.setCell (Below.setCell B ?_ _) ?_ _) ?_ _ <;> (simp <;> omega)
    · have HZ : Hid (turnC ⟨2, a, b⟩ = ⟨1, a, b⟩) := Lib.hid (by simp [turnC])
      rw [HZ.out]
      clear HZ
      go_enter Try.func18, Try.ntmps18
      go_wp2_with fail
      refine (SpecOk_yes _ _ _ _ HC.out).mono ?_
      rintro e w1 ⟨rfl, hb⟩
      obtain ⟨⟨c0, c1, c2⟩, ⟨d0, d1, d2⟩, ⟨f0, f1, f2⟩, B⟩ := HK.out w1 hb
      clear hb HK
      go_wp2_with fail
      refine bodyPost_ret (v := .agg #[.int .i64 1, .int .i64 a, .int .i64 b]) (by simp [results, Try.results18, go_sem, d0, d1, d2]) rfl ⟨rfl, ?_⟩
      refine Below.setCell (Below.setCell (Below.setCell B ?_ _) ?_ _) ?_ _ <;> (simp <;> omega)
  · have HC := Lib.hid h
    have hz : turnZ ⟨s, a, b⟩ = ⟨0, 0, 0⟩ := if_neg h
    rw [hz]
    clear h hz
    go_enter Try.func18, Try.ntmps18
    go_wp2_with fail
    refine (SpecOk_no _ _ _ _ HC.out).mono ?_
    rintro e w1 ⟨rfl, hb⟩
    obtain ⟨⟨c0, c1, c2⟩, ⟨d0, d1, d2⟩, ⟨f0, f1, f2⟩, B⟩ := HK.out w1 hb
    clear hb HK
    go_wp2_with fail
    refine bodyPost_ret (v := .agg #[.int .i64 0, .int .i64 0, .int .i64 0]) (by simp [results, Try.results18, go_sem, d0, d1, d2]) rfl ⟨rfl, ?_⟩
    refine Below.setCell (Below.setCell (Below.setCell B ?_ _) ?_ _) ?_ _ <;> (simp <;> omega)
/-- What the walk keeps: the cell's box, the answer's. -/
theorem SpecMirrorCell_keep (s a b : Int) (w w1 : World) (hb : Below ((w.alloc (.cells #[.int .i64 s, .int .i64 a, .int .i64 b] 29)).alloc (.cells #[.int .i64 0, .int .i64 0, .int .i64 0] 29)).heap.size ((w.alloc (.cells #[.int .i64 s, .int .i64 a, .int .i64 b] 29)).alloc (.cells #[.int .i64 0, .int .i64 0, .int .i64 0] 29)) w1) :
    (w1.cell? ⟨w.heap.size, 0, none⟩ = some (.int .i64 s) ∧ w1.cell? ⟨w.heap.size, 1, none⟩ = some (.int .i64 a) ∧ w1.cell? ⟨w.heap.size, 2, none⟩ = some (.int .i64 b)) ∧
    (w1.cell? ⟨w.heap.size + 1, 0, none⟩ = some (.int .i64 0) ∧ w1.cell? ⟨w.heap.size + 1, 1, none⟩ = some (.int .i64 0) ∧ w1.cell? ⟨w.heap.size + 1, 2, none⟩ = some (.int .i64 0)) ∧
    (w1.frozen? ⟨w.heap.size + 1, 0, none⟩ = false ∧ w1.frozen? ⟨w.heap.size + 1, 1, none⟩ = false ∧ w1.frozen? ⟨w.heap.size + 1, 2, none⟩ = false) ∧ Below w.heap.size w w1 := by
  refine ⟨⟨kept hb ?_, kept hb ?_, kept hb ?_⟩, ⟨kept hb ?_, kept hb ?_, kept hb ?_⟩, ⟨keptF (x := .int .i64 0) hb ?_ ?_, keptF (x := .int .i64 0) hb ?_ ?_, keptF (x := .int .i64 0) hb ?_ ?_⟩, bel_c (bel_n (bel0 w _) (Nat.le_refl _) _) (Nat.le_refl _) hb⟩ <;> go_simp
theorem SpecMirrorCell_any (s a b : Int) (w : World) :
    Calls Try.prog 55 #[.agg #[.int .i64 s, .int .i64 a, .int .i64 b]] w fun e w' => e = .returned (.agg #[.int .i64 (mirZ ⟨s, a, b⟩).s, .int .i64 (mirZ ⟨s, a, b⟩).a, .int .i64 (mirZ ⟨s, a, b⟩).b]) ∧ Below w.heap.size w w' := by
  have HK := Lib.hid (SpecMirrorCell_keep s a b w)
  by_cases h : OkC s a b
  · have HC := Lib.hid h
    have hz : mirZ ⟨s, a, b⟩ = mirC ⟨s, a, b⟩ := if_pos h
    rw [hz]
    have hs : s = 0 ∨ s = 1 ∨ s = 2 := by unfold OkC at h; omega
    clear h hz
    rcases hs with rfl | rfl | rfl
    · have HZ : Hid (mirC ⟨0, a, b⟩ = ⟨0, a, b⟩) := Lib.hid (by simp [mirC])
      rw [HZ.out]
      clear HZ
      go_enter Try.func55, Try.ntmps55
      go_wp2_with fail
      refine (SpecOk_yes _ _ _ _ HC.out).mono ?_
      rintro e w1 ⟨rfl, hb⟩
      obtain ⟨⟨c0, c1, c2⟩, ⟨d0, d1, d2⟩, ⟨f0, f1, f2⟩, B⟩ := HK.out w1 hb
      clear hb HK
      go_wp2_with fail
      refine bodyPost_ret (v := .agg #[.int .i64 0, .int .i64 a, .int .i64 b]) (by simp [results, Try.results55, go_sem, d0, d1, d2]) rfl ⟨rfl, ?_⟩
      refine Below.setCell (Below.setCell (Below.setCell B ?_ _) ?_ _) ?_ _ <;> (simp <;> omega)
    · have HZ : Hid (mirC ⟨1, a, b⟩ = ⟨2, b, a⟩) := Lib.hid (by simp [mirC])
      rw [HZ.out]
      clear HZ
      go_enter Try.func55, Try.ntmps55
      go_wp2_with fail
      refine (SpecOk_yes _ _ _ _ HC.out).mono ?_
      rintro e w1 ⟨rfl, hb⟩
      obtain ⟨⟨c0, c1, c2⟩, ⟨d0, d1, d2⟩, ⟨f0, f1, f2⟩, B⟩ := HK.out w1 hb
      clear hb HK
      go_wp2_with fail
      refine bodyPost_ret (v := .agg #[.int .i64 2, .int .i64 b, .int .i64 a]) (by simp [results, Try.results55, go_sem, d0, d1, d2]) rfl ⟨rfl, ?_⟩
      refine Below.setCell (Below.setCell (Below.setCell B ?_ _) ?_ _) ?_ _ <;> (simp <;> omega)
    · have HZ : Hid (mirC ⟨2, a, b⟩ = ⟨1, b, a⟩) := Lib.hid (by simp [mirC])
      rw [HZ.out]
      clear HZ
      go_enter Try.func55, Try.ntmps55
      go_wp2_with fail
      refine (SpecOk_yes _ _ _ _ HC.out).mono ?_
      rintro e w1 ⟨rfl, hb⟩
      obtain ⟨⟨c0, c1, c2⟩, ⟨d0, d1, d2⟩, ⟨f0, f1, f2⟩, B⟩ := HK.out w1 hb
      clear hb HK
      go_wp2_with fail
      refine bodyPost_ret (v := .agg #[.int .i64 1, .int .i64 b, .int .i64 a]) (by simp [results, Try.results55, go_sem, d0, d1, d2]) rfl ⟨rfl, ?_⟩
      refine Below.setCell (Below.setCell (Below.setCell B ?_ _) ?_ _) ?_ _ <;> (simp <;> omega)
  · have HC := Lib.hid h
    have hz : mirZ ⟨s, a, b⟩ = ⟨0, 0, 0⟩ := if_neg h
    rw [hz]
    clear h hz
    go_enter Try.func55, Try.ntmps55
    go_wp2_with fail
    refine (SpecOk_no _ _ _ _ HC.out).mono ?_
    rintro e w1 ⟨rfl, hb⟩
    obtain ⟨⟨c0, c1, c2⟩, ⟨d0, d1, d2⟩, ⟨f0, f1, f2⟩, B⟩ := HK.out w1 hb
    clear hb HK
    go_wp2_with fail
    refine bodyPost_ret (v := .agg #[.int .i64 0, .int .i64 0, .int .i64 0]) (by simp [results, Try.results55, go_sem, d0, d1, d2]) rfl ⟨rfl, ?_⟩
    refine Below.setCell (Below.setCell (Below.setCell B ?_ _) ?_ _) ?_ _ <;> (simp <;> omega)

end Go.Proofs.Ytfidnhhlcdbaeaa
