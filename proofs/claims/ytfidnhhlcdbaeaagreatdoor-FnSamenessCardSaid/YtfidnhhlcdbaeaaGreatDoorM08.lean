/- Turns: the program's TurnCell and MirrorCell. Turns: the model's TurnCell and MirrorCell. A region that draws its order, walked by hand: one operation at a time, in the order of the text. Turns: what the walks of TurnBlock and MirrorBlock keep. -/
import Derived.Test.YtfidnhhlcdbaeaaGreatDoorM07
import Derived.Test.YtfidnhhlcdbaeaaGreatDoorM04
import Derived.Deep.RegionHeld3
import Derived.Deep.AppendLies
import Derived.IntWalk

namespace Go.Proofs.YtfidnhhlcdbaeaaGreatDoor
open Go.ChangeShapes Go.WideShapes Go.ChangeAt Go.RowKit

/-- What the walk keeps: the cell's box, the answer's. -/
theorem ImplTurnCell_keep (s a b : Int) (w w1 : World) (hb : Below ((w.alloc (.cells #[.int .i64 s, .int .i64 a, .int .i64 b] 50)).alloc (.cells #[.int .i64 0, .int .i64 0, .int .i64 0] 50)).heap.size ((w.alloc (.cells #[.int .i64 s, .int .i64 a, .int .i64 b] 50)).alloc (.cells #[.int .i64 0, .int .i64 0, .int .i64 0] 50)) w1) :
    (w1.cell? ⟨w.heap.size, 0, none⟩ = some (.int .i64 s) ∧ w1.cell? ⟨w.heap.size, 1, none⟩ = some (.int .i64 a) ∧ w1.cell? ⟨w.heap.size, 2, none⟩ = some (.int .i64 b)) ∧
    (w1.cell? ⟨w.heap.size + 1, 0, none⟩ = some (.int .i64 0) ∧ w1.cell? ⟨w.heap.size + 1, 1, none⟩ = some (.int .i64 0) ∧ w1.cell? ⟨w.heap.size + 1, 2, none⟩ = some (.int .i64 0)) ∧
    (w1.frozen? ⟨w.heap.size + 1, 0, none⟩ = false ∧ w1.frozen? ⟨w.heap.size + 1, 1, none⟩ = false ∧ w1.frozen? ⟨w.heap.size + 1, 2, none⟩ = false) ∧ Below w.heap.size w w1 := by
  refine ⟨⟨kept hb ?_, kept hb ?_, kept hb ?_⟩, ⟨kept hb ?_, kept hb ?_, kept hb ?_⟩, ⟨keptF (x := .int .i64 0) hb ?_ ?_, keptF (x := .int .i64 0) hb ?_ ?_, keptF (x := .int .i64 0) hb ?_ ?_⟩, bel_c (bel_n (bel0 w _) (Nat.le_refl _) _) (Nat.le_refl _) hb⟩ <;> go_simp
theorem ImplTurnCell_any (s a b : Int) (w : World) :
    Calls Tryz.prog 83 #[.agg #[.int .i64 s, .int .i64 a, .int .i64 b]] w fun e w' => e = .returned (.agg #[.int .i64 (turnZ ⟨s, a, b⟩).s, .int .i64 (turnZ ⟨s, a, b⟩).a, .int .i64 (turnZ ⟨s, a, b⟩).b]) ∧ Below w.heap.size w w' := by
  have HK := Lib.hid (ImplTurnCell_keep s a b w)
  by_cases h : OkC s a b
  · have HC := Lib.hid h
    have hz : turnZ ⟨s, a, b⟩ = turnC ⟨s, a, b⟩ := if_pos h
    rw [hz]
    have hs : s = 0 ∨ s = 1 ∨ s = 2 := by unfold OkC at h; omega
    clear h hz
    rcases hs with rfl | rfl | rfl
    · have HZ : Hid (turnC ⟨0, a, b⟩ = ⟨0, a, b⟩) := Lib.hid (by simp [turnC])
      rw [HZ.out]
      clear HZ
      go_enter Tryz.func83, Tryz.ntmps83
      go_wp2_with fail
      refine (ImplCellOk_yes _ _ _ _ HC.out).mono ?_
      rintro e w1 ⟨rfl, hb⟩
      obtain ⟨⟨c0, c1, c2⟩, ⟨d0, d1, d2⟩, ⟨f0, f1, f2⟩, B⟩ := HK.out w1 hb
      clear hb HK
      go_wp2_with fail
      refine bodyPost_ret (v := .agg #[.int .i64 0, .int .i64 a, .int .i64 b]) (by simp [results, Tryz.results83, go_sem, d0, d1, d2]) rfl ⟨rfl, ?_⟩
      refine Below.setCell (Below.setCell (Below.setCell B ?_ _) ?_ _) ?_ _ <;> (simp <;> omega)
    · have HZ : Hid (turnC ⟨1, a, b⟩ = ⟨2, b, a⟩) := Lib.hid (by simp [turnC])
      rw [HZ.out]
      clear HZ
      go_enter Tryz.func83, Tryz.ntmps83
      go_wp2_with fail
      refine (ImplCellOk_yes _ _ _ _ HC.out).mono ?_
      rintro e w1 ⟨rfl, hb⟩
      obtain ⟨⟨c0, c1, c2⟩, ⟨d0, d1, d2⟩, ⟨f0, f1, f2⟩, B⟩ := HK.out w1 hb
      clear hb HK
      go_wp2_with fail
      refine bodyPost_ret (v := .agg #[.int .i64 2, .int .i64 b, .int .i64 a]) (by simp [results, Tryz.results83, go_sem, d0, d1, d2]) rfl ⟨rfl, ?_⟩
      refine Below.setCell (Below.setCell (Below.setCell B ?_ _) ?_ _) ?_ _ <;> (simp <;> omega)
    · have HZ : Hid (turnC ⟨2, a, b⟩ = ⟨1, a, b⟩) := Lib.hid (by simp [turnC])
      rw [HZ.out]
      clear HZ
      go_enter Tryz.func83, Tryz.ntmps83
      go_wp2_with fail
      refine (ImplCellOk_yes _ _ _ _ HC.out).mono ?_
      rintro e w1 ⟨rfl, hb⟩
      obtain ⟨⟨c0, c1, c2⟩, ⟨d0, d1, d2⟩, ⟨f0, f1, f2⟩, B⟩ := HK.out w1 hb
      clear hb HK
      go_wp2_with fail
      refine bodyPost_ret (v := .agg #[.int .i64 1, .int .i64 a, .int .i64 b]) (by simp [results, Tryz.results83, go_sem, d0, d1, d2]) rfl ⟨rfl, ?_⟩
      refine Below.setCell (Below.setCell (Below.setCell B ?_ _) ?_ _) ?_ _ <;> (simp <;> omega)
  · have HC := Lib.hid h
    have hz : turnZ ⟨s, a, b⟩ = ⟨0, 0, 0⟩ := if_neg h
    rw [hz]
    clear h hz
    go_enter Tryz.func83, Tryz.ntmps83
    go_wp2_with fail
    refine (ImplCellOk_no _ _ _ _ HC.out).mono ?_
    rintro e w1 ⟨rfl, hb⟩
    obtain ⟨⟨c0, c1, c2⟩, ⟨d0, d1, d2⟩, ⟨f0, f1, f2⟩, B⟩ := HK.out w1 hb
    clear hb HK
    go_wp2_with fail
    refine bodyPost_ret (v := .agg #[.int .i64 0, .int .i64 0, .int .i64 0]) (by simp [results, Tryz.results83, go_sem, d0, d1, d2]) rfl ⟨rfl, ?_⟩
    refine Below.setCell (Below.setCell (Below.setCell B ?_ _) ?_ _) ?_ _ <;> (simp <;> omega)
/-- What the walk keeps: the cell's box, the answer's. -/
theorem ImplMirrorCell_keep (s a b : Int) (w w1 : World) (hb : Below ((w.alloc (.cells #[.int .i64 s, .int .i64 a, .int .i64 b] 50)).alloc (.cells #[.int .i64 0, .int .i64 0, .int .i64 0] 50)).heap.size ((w.alloc (.cells #[.int .i64 s, .int .i64 a, .int .i64 b] 50)).alloc (.cells #[.int .i64 0, .int .i64 0, .int .i64 0] 50)) w1) :
    (w1.cell? ⟨w.heap.size, 0, none⟩ = some (.int .i64 s) ∧ w1.cell? ⟨w.heap.size, 1, none⟩ = some (.int .i64 a) ∧ w1.cell? ⟨w.heap.size, 2, none⟩ = some (.int .i64 b)) ∧
    (w1.cell? ⟨w.heap.size + 1, 0, none⟩ = some (.int .i64 0) ∧ w1.cell? ⟨w.heap.size + 1, 1, none⟩ = some (.int .i64 0) ∧ w1.cell? ⟨w.heap.size + 1, 2, none⟩ = some (.int .i64 0)) ∧
    (w1.frozen? ⟨w.heap.size + 1, 0, none⟩ = false ∧ w1.frozen? ⟨w.heap.size + 1, 1, none⟩ = false ∧ w1.frozen? ⟨w.heap.size + 1, 2, none⟩ = false) ∧ Below w.heap.size w w1 := by
  refine ⟨⟨kept hb ?_, kept hb ?_, kept hb ?_⟩, ⟨kept hb ?_, kept hb ?_, kept hb ?_⟩, ⟨keptF (x := .int .i64 0) hb ?_ ?_, keptF (x := .int .i64 0) hb ?_ ?_, keptF (x := .int .i64 0) hb ?_ ?_⟩, bel_c (bel_n (bel0 w _) (Nat.le_refl _) _) (Nat.le_refl _) hb⟩ <;> go_simp
theorem ImplMirrorCell_any (s a b : Int) (w : World) :
    Calls Tryz.prog 82 #[.agg #[.int .i64 s, .int .i64 a, .int .i64 b]] w fun e w' => e = .returned (.agg #[.int .i64 (mirZ ⟨s, a, b⟩).s, .int .i64 (mirZ ⟨s, a, b⟩).a, .int .i64 (mirZ ⟨s, a, b⟩).b]) ∧ Below w.heap.size w w' := by
  have HK := Lib.hid (ImplMirrorCell_keep s a b w)
  by_cases h : OkC s a b
  · have HC := Lib.hid h
    have hz : mirZ ⟨s, a, b⟩ = mirC ⟨s, a, b⟩ := if_pos h
    rw [hz]
    have hs : s = 0 ∨ s = 1 ∨ s = 2 := by unfold OkC at h; omega
    clear h hz
    rcases hs with rfl | rfl | rfl
    · have HZ : Hid (mirC ⟨0, a, b⟩ = ⟨0, a, b⟩) := Lib.hid (by simp [mirC])
      rw [HZ.out]
      clear HZ
      go_enter Tryz.func82, Tryz.ntmps82
      go_wp2_with fail
      refine (ImplCellOk_yes _ _ _ _ HC.out).mono ?_
      rintro e w1 ⟨rfl, hb⟩
      obtain ⟨⟨c0, c1, c2⟩, ⟨d0, d1, d2⟩, ⟨f0, f1, f2⟩, B⟩ := HK.out w1 hb
      clear hb HK
      go_wp2_with fail
      refine bodyPost_ret (v := .agg #[.int .i64 0, .int .i64 a, .int .i64 b]) (by simp [results, Tryz.results82, go_sem, d0, d1, d2]) rfl ⟨rfl, ?_⟩
      refine Below.setCell (Below.setCell (Below.setCell B ?_ _) ?_ _) ?_ _ <;> (simp <;> omega)
    · have HZ : Hid (mirC ⟨1, a, b⟩ = ⟨2, b, a⟩) := Lib.hid (by simp [mirC])
      rw [HZ.out]
      clear HZ
      go_enter Tryz.func82, Tryz.ntmps82
      go_wp2_with fail
      refine (ImplCellOk_yes _ _ _ _ HC.out).mono ?_
      rintro e w1 ⟨rfl, hb⟩
      obtain ⟨⟨c0, c1, c2⟩, ⟨d0, d1, d2⟩, ⟨f0, f1, f2⟩, B⟩ := HK.out w1 hb
      clear hb HK
      go_wp2_with fail
      refine bodyPost_ret (v := .agg #[.int .i64 2, .int .i64 b, .int .i64 a]) (by simp [results, Tryz.results82, go_sem, d0, d1, d2]) rfl ⟨rfl, ?_⟩
      refine Below.setCell (Below.setCell (Below.setCell B ?_ _) ?_ _) ?_ _ <;> (simp <;> omega)
    · have HZ : Hid (mirC ⟨2, a, b⟩ = ⟨1, b, a⟩) := Lib.hid (by simp [mirC])
      rw [HZ.out]
      clear HZ
      go_enter Tryz.func82, Tryz.ntmps82
      go_wp2_with fail
      refine (ImplCellOk_yes _ _ _ _ HC.out).mono ?_
      rintro e w1 ⟨rfl, hb⟩
      obtain ⟨⟨c0, c1, c2⟩, ⟨d0, d1, d2⟩, ⟨f0, f1, f2⟩, B⟩ := HK.out w1 hb
      clear hb HK
      go_wp2_with fail
      refine bodyPost_ret (v := .agg #[.int .i64 1, .int .i64 b, .int .i64 a]) (by simp [results, Tryz.results82, go_sem, d0, d1, d2]) rfl ⟨rfl, ?_⟩
      refine Below.setCell (Below.setCell (Below.setCell B ?_ _) ?_ _) ?_ _ <;> (simp <;> omega)
  · have HC := Lib.hid h
    have hz : mirZ ⟨s, a, b⟩ = ⟨0, 0, 0⟩ := if_neg h
    rw [hz]
    clear h hz
    go_enter Tryz.func82, Tryz.ntmps82
    go_wp2_with fail
    refine (ImplCellOk_no _ _ _ _ HC.out).mono ?_
    rintro e w1 ⟨rfl, hb⟩
    obtain ⟨⟨c0, c1, c2⟩, ⟨d0, d1, d2⟩, ⟨f0, f1, f2⟩, B⟩ := HK.out w1 hb
    clear hb HK
    go_wp2_with fail
    refine bodyPost_ret (v := .agg #[.int .i64 0, .int .i64 0, .int .i64 0]) (by simp [results, Tryz.results82, go_sem, d0, d1, d2]) rfl ⟨rfl, ?_⟩
    refine Below.setCell (Below.setCell (Below.setCell B ?_ _) ?_ _) ?_ _ <;> (simp <;> omega)

end Go.Proofs.YtfidnhhlcdbaeaaGreatDoor

namespace Go.Proofs.YtfidnhhlcdbaeaaGreatDoor
open Go.ChangeShapes Go.WideShapes Go.ChangeAt Go.RowKit

/-- What the walk keeps: the cell's box, the answer's. -/
theorem SpecTurnCell_keep (s a b : Int) (w w1 : World) (hb : Below ((w.alloc (.cells #[.int .i64 s, .int .i64 a, .int .i64 b] 50)).alloc (.cells #[.int .i64 0, .int .i64 0, .int .i64 0] 50)).heap.size ((w.alloc (.cells #[.int .i64 s, .int .i64 a, .int .i64 b] 50)).alloc (.cells #[.int .i64 0, .int .i64 0, .int .i64 0] 50)) w1) :
    (w1.cell? ⟨w.heap.size, 0, none⟩ = some (.int .i64 s) ∧ w1.cell? ⟨w.heap.size, 1, none⟩ = some (.int .i64 a) ∧ w1.cell? ⟨w.heap.size, 2, none⟩ = some (.int .i64 b)) ∧
    (w1.cell? ⟨w.heap.size + 1, 0, none⟩ = some (.int .i64 0) ∧ w1.cell? ⟨w.heap.size + 1, 1, none⟩ = some (.int .i64 0) ∧ w1.cell? ⟨w.heap.size + 1, 2, none⟩ = some (.int .i64 0)) ∧
    (w1.frozen? ⟨w.heap.size + 1, 0, none⟩ = false ∧ w1.frozen? ⟨w.heap.size + 1, 1, none⟩ = false ∧ w1.frozen? ⟨w.heap.size + 1, 2, none⟩ = false) ∧ Below w.heap.size w w1 := by
  refine ⟨⟨kept hb ?_, kept hb ?_, kept hb ?_⟩, ⟨kept hb ?_, kept hb ?_, kept hb ?_⟩, ⟨keptF (x := .int .i64 0) hb ?_ ?_, keptF (x := .int .i64 0) hb ?_ ?_, keptF (x := .int .i64 0) hb ?_ ?_⟩, bel_c (bel_n (bel0 w _) (Nat.le_refl _) _) (Nat.le_refl _) hb⟩ <;> go_simp
theorem SpecTurnCell_any (s a b : Int) (w : World) :
    Calls Tryz.prog 44 #[.agg #[.int .i64 s, .int .i64 a, .int .i64 b]] w fun e w' => e = .returned (.agg #[.int .i64 (turnZ ⟨s, a, b⟩).s, .int .i64 (turnZ ⟨s, a, b⟩).a, .int .i64 (turnZ ⟨s, a, b⟩).b]) ∧ Below w.heap.size w w' := by
  have HK := Lib.hid (SpecTurnCell_keep s a b w)
  by_cases h : OkC s a b
  · have HC := Lib.hid h
    have hz : turnZ ⟨s, a, b⟩ = turnC ⟨s, a, b⟩ := if_pos h
    rw [hz]
    have hs : s = 0 ∨ s = 1 ∨ s = 2 := by unfold OkC at h; omega
    clear h hz
    rcases hs with rfl | rfl | rfl
    · have HZ : Hid (turnC ⟨0, a, b⟩ = ⟨0, a, b⟩) := Lib.hid (by simp [turnC])
      rw [HZ.out]
      clear HZ
      go_enter Tryz.func44, Tryz.ntmps44
      go_wp2_with fail
      refine (SpecOk_yes _ _ _ _ HC.out).mono ?_
      rintro e w1 ⟨rfl, hb⟩
      obtain ⟨⟨c0, c1, c2⟩, ⟨d0, d1, d2⟩, ⟨f0, f1, f2⟩, B⟩ := HK.out w1 hb
      clear hb HK
      go_wp2_with fail
      refine bodyPost_ret (v := .agg #[.int .i64 0, .int .i64 a, .int .i64 b]) (by simp [results, Tryz.results44, go_sem, d0, d1, d2]) rfl ⟨rfl, ?_⟩
      refine Below.setCell (Below.setCell (Below.setCell B ?_ _) ?_ _) ?_ _ <;> (simp <;> omega)
    · have HZ : Hid (turnC ⟨1, a, b⟩ = ⟨2, b, a⟩) := Lib.hid (by simp [turnC])
      rw [HZ.out]
      clear HZ
      go_enter Tryz.func44, Tryz.ntmps44
      go_wp2_with fail
      refine (SpecOk_yes _ _ _ _ HC.out).mono ?_
      rintro e w1 ⟨rfl, hb⟩
      obtain ⟨⟨c0, c1, c2⟩, ⟨d0, d1, d2⟩, ⟨f0, f1, f2⟩, B⟩ := HK.out w1 hb
      clear hb HK
      go_wp2_with fail
      refine bodyPost_ret (v := .agg #[.int .i64 2, .int .i64 b, .int .i64 a]) (by simp [results, Tryz.results44, go_sem, d0, d1, d2]) rfl ⟨rfl, ?_⟩
      refine Below.setCell (Below.setCell (Below.setCell B ?_ _) ?_ _) ?_ _ <;> (simp <;> omega)
    · have HZ : Hid (turnC ⟨2, a, b⟩ = ⟨1, a, b⟩) := Lib.hid (by simp [turnC])
      rw [HZ.out]
      clear HZ
      go_enter Tryz.func44, Tryz.ntmps44
      go_wp2_with fail
      refine (SpecOk_yes _ _ _ _ HC.out).mono ?_
      rintro e w1 ⟨rfl, hb⟩
      obtain ⟨⟨c0, c1, c2⟩, ⟨d0, d1, d2⟩, ⟨f0, f1, f2⟩, B⟩ := HK.out w1 hb
      clear hb HK
      go_wp2_with fail
      refine bodyPost_ret (v := .agg #[.int .i64 1, .int .i64 a, .int .i64 b]) (by simp [results, Tryz.results44, go_sem, d0, d1, d2]) rfl ⟨rfl, ?_⟩
      refine Below.setCell (Below.setCell (Below.setCell B ?_ _) ?_ _) ?_ _ <;> (simp <;> omega)
  · have HC := Lib.hid h
    have hz : turnZ ⟨s, a, b⟩ = ⟨0, 0, 0⟩ := if_neg h
    rw [hz]
    clear h hz
    go_enter Tryz.func44, Tryz.ntmps44
    go_wp2_with fail
    refine (SpecOk_no _ _ _ _ HC.out).mono ?_
    rintro e w1 ⟨rfl, hb⟩
    obtain ⟨⟨c0, c1, c2⟩, ⟨d0, d1, d2⟩, ⟨f0, f1, f2⟩, B⟩ := HK.out w1 hb
    clear hb HK
    go_wp2_with fail
    refine bodyPost_ret (v := .agg #[.int .i64 0, .int .i64 0, .int .i64 0]) (by simp [results, Tryz.results44, go_sem, d0, d1, d2]) rfl ⟨rfl, ?_⟩
    refine Below.setCell (Below.setCell (Below.setCell B ?_ _) ?_ _) ?_ _ <;> (simp <;> omega)
/-- What the walk keeps: the cell's box, the answer's. -/
theorem SpecMirrorCell_keep (s a b : Int) (w w1 : World) (hb : Below ((w.alloc (.cells #[.int .i64 s, .int .i64 a, .int .i64 b] 50)).alloc (.cells #[.int .i64 0, .int .i64 0, .int .i64 0] 50)).heap.size ((w.alloc (.cells #[.int .i64 s, .int .i64 a, .int .i64 b] 50)).alloc (.cells #[.int .i64 0, .int .i64 0, .int .i64 0] 50)) w1) :
    (w1.cell? ⟨w.heap.size, 0, none⟩ = some (.int .i64 s) ∧ w1.cell? ⟨w.heap.size, 1, none⟩ = some (.int .i64 a) ∧ w1.cell? ⟨w.heap.size, 2, none⟩ = some (.int .i64 b)) ∧
    (w1.cell? ⟨w.heap.size + 1, 0, none⟩ = some (.int .i64 0) ∧ w1.cell? ⟨w.heap.size + 1, 1, none⟩ = some (.int .i64 0) ∧ w1.cell? ⟨w.heap.size + 1, 2, none⟩ = some (.int .i64 0)) ∧
    (w1.frozen? ⟨w.heap.size + 1, 0, none⟩ = false ∧ w1.frozen? ⟨w.heap.size + 1, 1, none⟩ = false ∧ w1.frozen? ⟨w.heap.size + 1, 2, none⟩ = false) ∧ Below w.heap.size w w1 := by
  refine ⟨⟨kept hb ?_, kept hb ?_, kept hb ?_⟩, ⟨kept hb ?_, kept hb ?_, kept hb ?_⟩, ⟨keptF (x := .int .i64 0) hb ?_ ?_, keptF (x := .int .i64 0) hb ?_ ?_, keptF (x := .int .i64 0) hb ?_ ?_⟩, bel_c (bel_n (bel0 w _) (Nat.le_refl _) _) (Nat.le_refl _) hb⟩ <;> go_simp
theorem SpecMirrorCell_any (s a b : Int) (w : World) :
    Calls Tryz.prog 43 #[.agg #[.int .i64 s, .int .i64 a, .int .i64 b]] w fun e w' => e = .returned (.agg #[.int .i64 (mirZ ⟨s, a, b⟩).s, .int .i64 (mirZ ⟨s, a, b⟩).a, .int .i64 (mirZ ⟨s, a, b⟩).b]) ∧ Below w.heap.size w w' := by
  have HK := Lib.hid (SpecMirrorCell_keep s a b w)
  by_cases h : OkC s a b
  · have HC := Lib.hid h
    have hz : mirZ ⟨s, a, b⟩ = mirC ⟨s, a, b⟩ := if_pos h
    rw [hz]
    have hs : s = 0 ∨ s = 1 ∨ s = 2 := by unfold OkC at h; omega
    clear h hz
    rcases hs with rfl | rfl | rfl
    · have HZ : Hid (mirC ⟨0, a, b⟩ = ⟨0, a, b⟩) := Lib.hid (by simp [mirC])
      rw [HZ.out]
      clear HZ
      go_enter Tryz.func43, Tryz.ntmps43
      go_wp2_with fail
      refine (SpecOk_yes _ _ _ _ HC.out).mono ?_
      rintro e w1 ⟨rfl, hb⟩
      obtain ⟨⟨c0, c1, c2⟩, ⟨d0, d1, d2⟩, ⟨f0, f1, f2⟩, B⟩ := HK.out w1 hb
      clear hb HK
      go_wp2_with fail
      refine bodyPost_ret (v := .agg #[.int .i64 0, .int .i64 a, .int .i64 b]) (by simp [results, Tryz.results43, go_sem, d0, d1, d2]) rfl ⟨rfl, ?_⟩
      refine Below.setCell (Below.setCell (Below.setCell B ?_ _) ?_ _) ?_ _ <;> (simp <;> omega)
    · have HZ : Hid (mirC ⟨1, a, b⟩ = ⟨2, b, a⟩) := Lib.hid (by simp [mirC])
      rw [HZ.out]
      clear HZ
      go_enter Tryz.func43, Tryz.ntmps43
      go_wp2_with fail
      refine (SpecOk_yes _ _ _ _ HC.out).mono ?_
      rintro e w1 ⟨rfl, hb⟩
      obtain ⟨⟨c0, c1, c2⟩, ⟨d0, d1, d2⟩, ⟨f0, f1, f2⟩, B⟩ := HK.out w1 hb
      clear hb HK
      go_wp2_with fail
      refine bodyPost_ret (v := .agg #[.int .i64 2, .int .i64 b, .int .i64 a]) (by simp [results, Tryz.results43, go_sem, d0, d1, d2]) rfl ⟨rfl, ?_⟩
      refine Below.setCell (Below.setCell (Below.setCell B ?_ _) ?_ _) ?_ _ <;> (simp <;> omega)
    · have HZ : Hid (mirC ⟨2, a, b⟩ = ⟨1, b, a⟩) := Lib.hid (by simp [mirC])
      rw [HZ.out]
      clear HZ
      go_enter Tryz.func43, Tryz.ntmps43
      go_wp2_with fail
      refine (SpecOk_yes _ _ _ _ HC.out).mono ?_
      rintro e w1 ⟨rfl, hb⟩
      obtain ⟨⟨c0, c1, c2⟩, ⟨d0, d1, d2⟩, ⟨f0, f1, f2⟩, B⟩ := HK.out w1 hb
      clear hb HK
      go_wp2_with fail
      refine bodyPost_ret (v := .agg #[.int .i64 1, .int .i64 b, .int .i64 a]) (by simp [results, Tryz.results43, go_sem, d0, d1, d2]) rfl ⟨rfl, ?_⟩
      refine Below.setCell (Below.setCell (Below.setCell B ?_ _) ?_ _) ?_ _ <;> (simp <;> omega)
  · have HC := Lib.hid h
    have hz : mirZ ⟨s, a, b⟩ = ⟨0, 0, 0⟩ := if_neg h
    rw [hz]
    clear h hz
    go_enter Tryz.func43, Tryz.ntmps43
    go_wp2_with fail
    refine (SpecOk_no _ _ _ _ HC.out).mono ?_
    rintro e w1 ⟨rfl, hb⟩
    obtain ⟨⟨c0, c1, c2⟩, ⟨d0, d1, d2⟩, ⟨f0, f1, f2⟩, B⟩ := HK.out w1 hb
    clear hb HK
    go_wp2_with fail
    refine bodyPost_ret (v := .agg #[.int .i64 0, .int .i64 0, .int .i64 0]) (by simp [results, Tryz.results43, go_sem, d0, d1, d2]) rfl ⟨rfl, ?_⟩
    refine Below.setCell (Below.setCell (Below.setCell B ?_ _) ?_ _) ?_ _ <;> (simp <;> omega)

end Go.Proofs.YtfidnhhlcdbaeaaGreatDoor

namespace Go.Proofs.YtfidnhhlcdbaeaaGreatDoor

variable {P : Program} {md : Region.Mode} {l : List Oper} {Q : Exit → Act → World → Prop} {S : World → Prop}

/-- Operation number i is wanted and yields v in every world that meets S. -/
theorem reg_take (i : Nat) {oi : Oper} {v : Value} {fuel : Nat} {listed : Array Bool} {a : Act} {w : World} (hi : l[i]? = some oi)
    (hs : Region.noSelect l.toArray = true) (hf : Region.free md l.toArray listed i = true) (hr : (Region.ready md l.toArray listed).contains i = true)
    (hQ : ∀ c a w, Q (.panic c) (a.put oi.dst v) w → Q (.panic c) a w) (hw : Region.wanted oi (yielded l.toArray a.tmps) = true)
    (hy : ∀ w, S w → (execOp a.eval oi).run P w = .ok (.value v) w) (hS : S w)
    (h : wpAnyH P md l.toArray Q S fuel (listed.setIfInBounds i true) (a.put oi.dst v) w) : wpAnyH P md l.toArray Q S (fuel + 1) listed a w :=
  wpAnyH_take (by simpa using hi) hs hf hr hQ (Or.inl ⟨hw, hy⟩) hS h
/-- Operation number i is passed over by its guard. -/
theorem reg_skip (i : Nat) {oi : Oper} {fuel : Nat} {listed : Array Bool} {a : Act} {w : World} (hi : l[i]? = some oi)
    (hs : Region.noSelect l.toArray = true) (hf : Region.free md l.toArray listed i = true) (hr : (Region.ready md l.toArray listed).contains i = true)
    (hQ : ∀ c a w, Q (.panic c) (a.put oi.dst undef) w → Q (.panic c) a w) (hw : Region.wanted oi (yielded l.toArray a.tmps) = false) (hS : S w)
    (h : wpAnyH P md l.toArray Q S fuel (listed.setIfInBounds i true) (a.put oi.dst undef) w) : wpAnyH P md l.toArray Q S (fuel + 1) listed a w :=
  wpAnyH_take (by simpa using hi) hs hf hr hQ (Or.inr ⟨hw, rfl⟩) hS h
/-- Operation number i alone may come up, is wanted, and may write: S anew behind it. -/
theorem reg_call (i : Nat) {oi : Oper} {fuel : Nat} {listed : Array Bool} {a : Act} {w : World} (hi : l[i]? = some oi) (hr : Region.ready md l.toArray listed = [i])
    (hw : Region.wanted oi (yielded l.toArray a.tmps) = true)
    (h : ∀ K' : Act → World → Prop, Shut (∀ a w, S w → (S w → wpAnyH P md l.toArray Q S fuel (listed.setIfInBounds i true) a w) → K' a w) → Oper.wp P oi a w K' Q) :
    wpAnyH P md l.toArray Q S (fuel + 1) listed a w :=
  wpAnyH_ready hr (by simp) (AllReadyH.cons (by simpa using hi) (fun K hK => by rw [if_pos hw]; exact h K hK) AllReadyH.nil)
theorem reg_begin {id : Nat} {a : Act} {w : World} (S : World → Prop) (hm : P.follows .mixedOrders = true) (hS : S w.drew)
    (h : wpAnyH P .any l.toArray Q S l.length (Array.replicate l.length false) a w.drew) : (Code.region id l.toArray true).wp P Q a w :=
  wp_region_held_drew (S := S) hm hS (fun _ => by simpa using h)

end Go.Proofs.YtfidnhhlcdbaeaaGreatDoor

namespace Go.Proofs.YtfidnhhlcdbaeaaGreatDoor
open Go.ChangeShapes Go.WideShapes Go.ChangeAt Go.RowKit

/-- What the walk keeps: the argument's box at p, the answer's behind it, the block under way at o. -/
def TBk (p o : Nat) (n : Int) (sl v : Value) (u : World) : Prop :=
  u.cell? ⟨o, 1, none⟩ = some v ∧ u.cell? ⟨o, 0, none⟩ = some (.int .i64 n) ∧ u.frozen? ⟨o, 1, none⟩ = false ∧ u.cell? ⟨p, 0, none⟩ = some (.int .i64 n) ∧ u.cell? ⟨p, 1, none⟩ = some sl ∧
  u.cell? ⟨p + 1, 0, none⟩ = some (.int .i64 0) ∧ u.cell? ⟨p + 1, 1, none⟩ = some (.slice none 0 0) ∧ u.frozen? ⟨p + 1, 0, none⟩ = false ∧ u.frozen? ⟨p + 1, 1, none⟩ = false
theorem TBk.far {p o : Nat} {n : Int} {sl v : Value} {u w : World} (h : TBk p o n sl v u) (hb : Below (o + 1) u w) (hp : p + 1 < o) : TBk p o n sl v w := by
  obtain ⟨h0, h1, h2, h3, h4, h5, h6, h7, h8⟩ := h
  have l0 : o < o + 1 := by omega
  have l1 : p < o + 1 := by omega
  have l2 : p + 1 < o + 1 := by omega
  exact ⟨(hb.cell (p := ⟨o, 1, none⟩) l0).trans h0, (hb.cell (p := ⟨o, 0, none⟩) l0).trans h1, (hb.frozen (p := ⟨o, 1, none⟩) l0).trans h2, (hb.cell (p := ⟨p, 0, none⟩) l1).trans h3, (hb.cell (p := ⟨p, 1, none⟩) l1).trans h4, (hb.cell (p := ⟨p + 1, 0, none⟩) l2).trans h5, (hb.cell (p := ⟨p + 1, 1, none⟩) l2).trans h6, (hb.frozen (p := ⟨p + 1, 0, none⟩) l2).trans h7, (hb.frozen (p := ⟨p + 1, 1, none⟩) l2).trans h8⟩
theorem TBk.store {p o : Nat} {n : Int} {sl v : Value} {u : World} (h : TBk p o n sl v u) (hp : p + 1 < o) (v' : Value) : TBk p o n sl v' (u.setCell ⟨o, 1, none⟩ v') := by
  obtain ⟨h0, h1, h2, h3, h4, h5, h6, h7, h8⟩ := h
  have n0 : ∀ k : Nat, (⟨o, 1, none⟩ : Addr) ≠ ⟨p, k, none⟩ := by intro k e; injection e with e1; omega
  have n1 : ∀ k : Nat, (⟨o, 1, none⟩ : Addr) ≠ ⟨p + 1, k, none⟩ := by intro k e; injection e with e1; omega
  exact ⟨World.cell?_setCell_same _ _ _ h0, (World.cell?_setCell_other _ _ _ _ (by simp)).trans h1, (World.frozen?_setCell _ _ _ _).trans h2, (World.cell?_setCell_other _ _ _ _ (n0 0)).trans h3, (World.cell?_setCell_other _ _ _ _ (n0 1)).trans h4, (World.cell?_setCell_other _ _ _ _ (n1 0)).trans h5, (World.cell?_setCell_other _ _ _ _ (n1 1)).trans h6, (World.frozen?_setCell _ _ _ _).trans h7, (World.frozen?_setCell _ _ _ _).trans h8⟩
theorem TBk.start (n : Int) (sl : Value) (w w1 : World) (hb : Below ((w.alloc (.cells #[.int .i64 n, sl] 26)).alloc (.cells #[.int .i64 0, .slice none 0 0] 26)).heap.size ((w.alloc (.cells #[.int .i64 n, sl] 26)).alloc (.cells #[.int .i64 0, .slice none 0 0] 26)) w1) :
    TBk w.heap.size w1.heap.size n sl (.slice none 0 0) (w1.alloc (.cells #[.int .i64 n, .slice none 0 0] 26)) := by
  refine ⟨by simp, by simp, by simp, kept (bel0 w1 _) (kept hb ?_), kept (bel0 w1 _) (kept hb ?_), kept (bel0 w1 _) (kept hb ?_), kept (bel0 w1 _) (kept hb ?_), keptF (x := .int .i64 0) (bel0 w1 _) (kept hb ?_) (keptF (x := .int .i64 0) hb ?_ ?_), keptF (x := .slice none 0 0) (bel0 w1 _) (kept hb ?_) (keptF (x := .slice none 0 0) hb ?_ ?_)⟩ <;> go_simp
theorem bel_draw {w u : World} {b : Nat} (h : Below b w u) : Below b w u.drew := ⟨h.os, h.tape, h.output, h.size, h.block⟩
theorem places_more (xs : List C3) (c : C3) : places (xs ++ [c]) = places xs ++ [.int .i64 c.s, .int .i64 c.a, .int .i64 c.b] := by
  rw [places_append]; rfl
theorem tIdx {m x y : Nat} (h1 : 1 ≤ m) (hm : m ≤ 4) (hx : x < m) (hy : y < m) : ∃ j : Nat, j = (m - 1 - x) * m + y ∧ j < m * m ∧ IntKind.i64.wrap ((m : Int) - 1) = (m : Int) - 1 ∧ IntKind.i64.wrap ((m : Int) - 1 - x) = (m : Int) - 1 - x ∧ IntKind.i64.wrap (((m : Int) - 1 - x) * m) = ((m : Int) - 1 - x) * m ∧ IntKind.i64.wrap (((m : Int) - 1 - x) * m + y) = (j : Int) := by
  have hm' : m = 1 ∨ m = 2 ∨ m = 3 ∨ m = 4 := by omega
  refine ⟨_, rfl, ?_, IntWalk.i64_in _ (by omega), IntWalk.i64_in _ (by omega), ?_, ?_⟩
  · rcases hm' with rfl | rfl | rfl | rfl <;> omega
  · rcases hm' with rfl | rfl | rfl | rfl <;> exact IntWalk.i64_in _ (by omega)
  · rcases hm' with rfl | rfl | rfl | rfl <;> (rw [IntWalk.i64_in _ (by omega)]; omega)
theorem mIdx {m x y : Nat} (h1 : 1 ≤ m) (hm : m ≤ 4) (hx : x < m) (hy : y < m) : ∃ j : Nat, j = y * m + (m - 1 - x) ∧ j < m * m ∧ IntKind.i64.wrap ((y : Int) * m) = (y : Int) * m ∧ IntKind.i64.wrap ((y : Int) * m + m) = (y : Int) * m + m ∧ IntKind.i64.wrap ((y : Int) * m + m - 1) = (y : Int) * m + m - 1 ∧ IntKind.i64.wrap ((y : Int) * m + m - 1 - x) = (j : Int) := by
  have hm' : m = 1 ∨ m = 2 ∨ m = 3 ∨ m = 4 := by omega
  refine ⟨_, rfl, ?_, ?_, ?_, ?_, ?_⟩
  · rcases hm' with rfl | rfl | rfl | rfl <;> omega
  · rcases hm' with rfl | rfl | rfl | rfl <;> exact IntWalk.i64_in _ (by omega)
  · rcases hm' with rfl | rfl | rfl | rfl <;> exact IntWalk.i64_in _ (by omega)
  · rcases hm' with rfl | rfl | rfl | rfl <;> exact IntWalk.i64_in _ (by omega)
  · rcases hm' with rfl | rfl | rfl | rfl <;> (rw [IntWalk.i64_in _ (by omega)]; omega)
/-- A cell behind a row of cells, in three pieces. -/
theorem news3 (u : World) (c : C3) : ∀ (j : Nat) x, ([.int .i64 c.s, .int .i64 c.a, .int .i64 c.b] : List Value)[j]? = some x → (u.alloc (.cells #[.int .i64 c.s, .int .i64 c.a, .int .i64 c.b] 50)).cell? ((⟨u.heap.size, 0, none⟩ : Addr).add j) = some x :=
  fun j x hx => news_at u u.heap.size #[.int .i64 c.s, .int .i64 c.a, .int .i64 c.b] 50 rfl j x hx
section
variable {P : Program} {md : Region.Mode} {l : List Oper} {S : World → Prop} {Q : Exit → Act → World → Prop}
/-- Two operations may come up, both wanted. -/
theorem reg_pair (i j : Nat) {oi oj : Oper} {fuel : Nat} {listed : Array Bool} {a : Act} {w : World} (hi : l[i]? = some oi) (hj : l[j]? = some oj) (hr : Region.ready md l.toArray listed = [i, j])
    (hw : Region.wanted oi (yielded l.toArray a.tmps) = true) (hw2 : Region.wanted oj (yielded l.toArray a.tmps) = true)
    (h : ∀ K' : Act → World → Prop, Shut (∀ a w, S w → (S w → wpAnyH P md l.toArray Q S fuel (listed.setIfInBounds i true) a w) → K' a w) → Oper.wp P oi a w K' Q)
    (h2 : ∀ K' : Act → World → Prop, Shut (∀ a w, S w → (S w → wpAnyH P md l.toArray Q S fuel (listed.setIfInBounds j true) a w) → K' a w) → Oper.wp P oj a w K' Q) :
    wpAnyH P md l.toArray Q S (fuel + 1) listed a w :=
  wpAnyH_ready hr (by simp) (AllReadyH.cons (by simpa using hi) (fun K hK => by rw [if_pos hw]; exact h K hK) (AllReadyH.cons (by simpa using hj) (fun K hK => by rw [if_pos hw2]; exact h2 K hK) AllReadyH.nil))
end


end Go.Proofs.YtfidnhhlcdbaeaaGreatDoor
