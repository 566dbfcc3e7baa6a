/- Areas: the program's CellArea. Turns: the program's TurnCell and MirrorCell. Turns: the model's TurnCell and MirrorCell. A region that draws its order, walked by hand: one operation at a time, in the order of the text. -/
import Derived.Test.YtbnokmlmajcibaaM10
import Derived.Test.YtbnokmlmajcibaaM02
import Derived.Test.YtbnokmlmajcibaaM01
import Derived.Test.YtbnokmlmajcibaaM03
import Derived.Test.YtbnokmlmajcibaaM08
import Derived.Deep.RegionHeld3

namespace Go.Proofs.Ytbnokmlmajcibaa
open Go.ChangeShapes Go.WideShapes Go.ChangeAt Go.RowKit

theorem ImplCellOk_yes (s a b : Int) (w : World) (h : OkC s a b) :
    Calls Try.prog 77 #[.agg #[.int .i64 s, .int .i64 a, .int .i64 b]] w fun e w' => e = .returned (.bool true) ∧ Below w.heap.size w w' :=
  (ImplOk_any s a b w).mono fun e w' ⟨he, hw⟩ => ⟨by rw [he]; simp [h], by rw [hw]; exact bel0 _ _⟩
theorem ImplCellOk_no (s a b : Int) (w : World) (h : ¬ OkC s a b) :
    Calls Try.prog 77 #[.agg #[.int .i64 s, .int .i64 a, .int .i64 b]] w fun e w' => e = .returned (.bool false) ∧ Below w.heap.size w w' :=
  (ImplOk_any s a b w).mono fun e w' ⟨he, hw⟩ => ⟨by rw [he]; simp [h], by rw [hw]; exact bel0 _ _⟩
end Go.Proofs.Ytbnokmlmajcibaa

namespace Go.Proofs.Ytbnokmlmajcibaa
open Go.ChangeShapes Go.WideShapes Go.ChangeAt Go.RowKit

/-- What the walk keeps: the cell's box, the answer's. -/
theorem ImplTurnCell_keep (s a b : Int) (w w1 : World) (hb : Below ((w.alloc (.cells #[.int .i64 s, .int .i64 a, .int .i64 b] 58)).alloc (.cells #[.int .i64 0, .int .i64 0, .int .i64 0] 58)).heap.size ((w.alloc (.cells #[.int .i64 s, .int .i64 a, .int .i64 b] 58)).alloc (.cells #[.int .i64 0, .int .i64 0, .int .i64 0] 58)) w1) :
    (w1.cell? ⟨w.heap.size, 0, none⟩ = some (.int .i64 s) ∧ w1.cell? ⟨w.heap.size, 1, none⟩ = some (.int .i64 a) ∧ w1.cell? ⟨w.heap.size, 2, none⟩ = some (.int .i64 b)) ∧
    (w1.cell? ⟨w.heap.size + 1, 0, none⟩ = some (.int .i64 0) ∧ w1.cell? ⟨w.heap.size + 1, 1, none⟩ = some (.int .i64 0) ∧ w1.cell? ⟨w.heap.size + 1, 2, none⟩ = some (.int .i64 0)) ∧
    (w1.frozen? ⟨w.heap.size + 1, 0, none⟩ = false ∧ w1.frozen? ⟨w.heap.size + 1, 1, none⟩ = false ∧ w1.frozen? ⟨w.heap.size + 1, 2, none⟩ = false) ∧ Below w.heap.size w w1 := by
  refine ⟨⟨kept hb ?_, kept hb ?_, kept hb ?_⟩, ⟨kept hb ?_, kept hb ?_, kept hb ?_⟩, ⟨keptF (x := .int .i64 0) hb ?_ ?_, keptF (x := .int .i64 0) hb ?_ ?_, keptF (x := .int .i64 0) hb ?_ ?_⟩, bel_c (bel_n (bel0 w _) (Nat.le_refl _) _) (Nat.le_refl _) hb⟩ <;> go_simp
theorem ImplTurnCell_any (s a b : Int) (w : World) :
    Calls Try.prog 98 #[.agg #[.int .i64 s, .int .i64 a, .int .i64 b]] w fun e w' => e = .returned (.agg #[.int .i64 (turnZ ⟨s, a, b⟩).s, .int .i64 (turnZ ⟨s, a, b⟩).a, .int .i64 (turnZ ⟨s, a, b⟩).b]) ∧ Below w.heap.size w w' := by
  have HK := Lib.hid (ImplTurnCell_keep s a b w)
  by_cases h : OkC s a b
  · have HC := Lib.hid h
    have hz : turnZ ⟨s, a, b⟩ = turnC ⟨s, a, b⟩ := if_pos h
    rw [hz]
    have hs : s = 0 ∨ s = 1 ∨ s = 2 := by unfold OkC at h; omega
    clear h hz
    rcases hs with rfl | rfl | rfl
    · have HZ : Hid (turnC ⟨0, a, b⟩ = ⟨0, a, b⟩) := Lib.hid (by simp [turnC])
      rw [HZ.out]
      clear HZ
      go_enter Try.func98, Try.ntmps98
      go_wp2_with fail
      refine (ImplCellOk_yes _ _ _ _ HC.out).mono ?_
      rintro e w1 ⟨rfl, hb⟩
      obtain ⟨⟨c0, c1, c2⟩, ⟨d0, d1, d2⟩, ⟨f0, f1, f2⟩, B⟩ := HK.out w1 hb
      clear hb HK
      go_wp2_with fail
      refine bodyPost_ret (v := .agg #[.int .i64 0, .int .i64 a, .int .i64 b]) (by simp [results, Try.results98, go_sem, d0, d1, d2]) rfl ⟨rfl, ?_⟩
      refine Below.setCell (Below.setCell (Below.setCell B ?_ _) ?_ _) ?_ _ <;> (simp <;> omega)
    · have HZ : Hid (turnC ⟨1, a, b⟩ = ⟨2, b, a⟩) := Lib.hid (by simp [turnC])
      rw [HZ.out]
      clear HZ
      go_enter Try.func98, Try.ntmps98
      go_wp2_with fail
      refine (ImplCellOk_yes _ _ _ _ HC.out).mono ?_
      rintro e w1 ⟨rfl, hb⟩
      obtain ⟨⟨c0, c1, c2⟩, ⟨d0, d1, d2⟩, ⟨f0, f1, f2⟩, B⟩ := HK.out w1 hb
      clear hb HK
      go_wp2_with fail
      refine bodyPost_ret (v := .agg #[.int .i64 2, .int .i64 b, .int .i64 a]) (by simp [results, Try.results98, go_sem, d0, d1, d2]) rfl ⟨rfl, ?_⟩
      refine Below.setCell (Below.setCell (Below.setCell B ?_ _) ?_ _) ?_ _ <;> (simp <;> omega)
    · have HZ : Hid (turnC ⟨2, a, b⟩ = ⟨1, a, b⟩) := Lib.hid (by simp [turnC])
      rw [HZ.out]
      clear HZ
      go_enter Try.func98, Try.ntmps98
      go_wp2_with fail
      refine (ImplCellOk_yes _ _ _ _ HC.out).mono ?_
      rintro e w1 ⟨rfl, hb⟩
      obtain ⟨⟨c0, c1, c2⟩, ⟨d0, d1, d2⟩, ⟨f0, f1, f2⟩, B⟩ := HK.out w1 hb
      clear hb HK
      go_wp2_with fail
      refine bodyPost_ret (v := .agg #[.int .i64 1, .int .i64 a, .int .i64 b]) (by simp [results, Try.results98, go_sem, d0, d1, d2]) rfl ⟨rfl, ?_⟩
      refine Below.setCell (Below.setCell (Below.setCell B ?_ _) ?_ _) ?_ _ <;> (simp <;> omega)
  · have HC := Lib.hid h
    have hz : turnZ ⟨s, a, b⟩ = ⟨0, 0, 0⟩ := if_neg h
    rw [hz]
    clear h hz
    go_enter Try.func98, Try.ntmps98
    go_wp2_with fail
    refine (ImplCellOk_no _ _ _ _ HC.out).mono ?_
    rintro e w1 ⟨rfl, hb⟩
    obtain ⟨⟨c0, c1, c2⟩, ⟨d0, d1, d2⟩, ⟨f0, f1, f2⟩, B⟩ := HK.out w1 hb
    clear hb HK
    go_wp2_with fail
    refine bodyPost_ret (v := .agg #[.int .i64 0, .int .i64 0, .int .i64 0]) (by simp [results, Try.results98, go_sem, d0, d1, d2]) rfl ⟨rfl, ?_⟩
    refine Below.setCell (Below.setCell (Below.setCell B ?_ _) ?_ _) ?_ _ <;> (simp <;> omega)
/-- What the walk keeps: the cell's box, the answer's. -/
theorem ImplMirrorCell_keep (s a b : Int) (w w1 : World) (hb : Below ((w.alloc (.cells #[.int .i64 s, .int .i64 a, .int .i64 b] 58)).alloc (.cells #[.int .i64 0, .int .i64 0, .int .i64 0] 58)).heap.size ((w.alloc (.cells #[.int .i64 s, .int .i64 a, .int .i64 b] 58)).alloc (.cells #[.int .i64 0, .int .i64 0, .int .i64 0] 58)) w1) :
    (w1.cell? ⟨w.heap.size, 0, none⟩ = some (.int .i64 s) ∧ w1.cell? ⟨w.heap.size, 1, none⟩ = some (.int .i64 a) ∧ w1.cell? ⟨w.heap.size, 2, none⟩ = some (.int .i64 b)) ∧
    (w1.cell? ⟨w.heap.size + 1, 0, none⟩ = some (.int .i64 0) ∧ w1.cell? ⟨w.heap.size + 1, 1, none⟩ = some (.int .i64 0) ∧ w1.cell? ⟨w.heap.size + 1, 2, none⟩ = some (.int .i64 0)) ∧
    (w1.frozen? ⟨w.heap.size + 1, 0, none⟩ = false ∧ w1.frozen? ⟨w.heap.size + 1, 1, none⟩ = false ∧ w1.frozen? ⟨w.heap.size + 1, 2, none⟩ = false) ∧ Below w.heap.size w w1 := by
  refine ⟨⟨kept hb ?_, kept hb ?_, kept hb ?_⟩, ⟨kept hb ?_, kept hb ?_, kept hb ?_⟩, ⟨keptF (x := .int .i64 0) hb ?_ ?_, keptF (x := .int .i64 0) hb ?_ ?_, keptF (x := .int .i64 0) hb ?_ ?_⟩, bel_c (bel_n (bel0 w _) (Nat.le_refl _) _) (Nat.le_refl _) hb⟩ <;> go_simp
theorem ImplMirrorCell_any (s a b : Int) (w : World) :
    Calls Try.prog 97 #[.agg #[.int .i64 s, .int .i64 a, .int .i64 b]] w fun e w' => e = .returned (.agg #[.int .i64 (mirZ ⟨s, a, b⟩).s, .int .i64 (mirZ ⟨s, a, b⟩).a, .int .i64 (mirZ ⟨s, a, b⟩).b]) ∧ Below w.heap.size w w' := by
  have HK := Lib.hid (ImplMirrorCell_keep s a b w)
  by_cases h : OkC s a b
  · have HC := Lib.hid h
    have hz : mirZ ⟨s, a, b⟩ = mirC ⟨s, a, b⟩ := if_pos h
    rw [hz]
    have hs : s = 0 ∨ s = 1 ∨ s = 2 := by unfold OkC at h; omega
    clear h hz
    rcases hs with rfl | rfl | rfl
    · have HZ : Hid (mirC ⟨0, a, b⟩ = ⟨0, a, b⟩) := Lib.hid (by simp [mirC])
      rw [HZ.out]
      clear HZ
      go_enter Try.func97, Try.ntmps97
      go_wp2_with fail
      refine (ImplCellOk_yes _ _ _ _ HC.out).mono ?_
      rintro e w1 ⟨rfl, hb⟩
      obtain ⟨⟨c0, c1, c2⟩, ⟨d0, d1, d2⟩, ⟨f0, f1, f2⟩, B⟩ := HK.out w1 hb
      clear hb HK
      go_wp2_with fail
      refine bodyPost_ret (v := .agg #[.int .i64 0, .int .i64 a, .int .i64 b]) (by simp [results, Try.results97, go_sem, d0, d1, d2]) rfl ⟨rfl, ?_⟩
      refine Below.setCell (Below.setCell (Below.setCell B ?_ _) ?_ _) ?_ _ <;> (simp <;> omega)
    · have HZ : Hid (mirC ⟨1, a, b⟩ = ⟨2, b, a⟩) := Lib.hid (by simp [mirC])
      rw [HZ.out]
      clear HZ
      go_enter Try.func97, Try.ntmps97
      go_wp2_with fail
      refine (ImplCellOk_yes _ _ _ _ HC.out).mono ?_
      rintro e w1 ⟨rfl, hb⟩
      obtain ⟨⟨c0, c1, c2⟩, ⟨d0, d1, d2⟩, ⟨f0, f1, f2⟩, B⟩ := HK.out w1 hb
      clear hb HK
      go_wp2_with fail
      refine bodyPost_ret (v := .agg #[.int .i64 2, .int .i64 b, .int .i64 a]) (by simp [results, Try.results97, go_sem, d0, d1, d2]) rfl ⟨rfl, ?_⟩
      refine Below.setCell (Below.setCell (Below.setCell B ?_ _) ?_ _) ?_ _ <;> (simp <;> omega)
    · have HZ : Hid (mirC ⟨2, a, b⟩ = ⟨1, b, a⟩) := Lib.hid (by simp [mirC])
      rw [HZ.out]
      clear HZ
      go_enter Try.func97, Try.ntmps97
      go_wp2_with fail
      refine (ImplCellOk_yes _ _ _ _ HC.out).mono ?_
      rintro e w1 ⟨rfl, hb⟩
      obtain ⟨⟨c0, c1, c2⟩, ⟨d0, d1, d2⟩, ⟨f0, f1, f2⟩, B⟩ := HK.out w1 hb
      clear hb HK
      go_wp2_with fail
      refine bodyPost_ret (v := .agg #[.int .i64 1, .int .i64 b, .int .i64 a]) (by simp [results, Try.results97, go_sem, d0, d1, d2]) rfl ⟨rfl, ?_⟩
      refine Below.setCell (Below.setCell (Below.setCell B ?_ _) ?_ _) ?_ _ <;> (simp <;> omega)
  · have HC := Lib.hid h
    have hz : mirZ ⟨s, a, b⟩ = ⟨0, 0, 0⟩ := if_neg h
    rw [hz]
    clear h hz
    go_enter Try.func97, Try.ntmps97
    go_wp2_with fail
    refine (ImplCellOk_no _ _ _ _ HC.out).mono ?_
    rintro e w1 ⟨rfl, hb⟩
    obtain ⟨⟨c0, c1, c2⟩, ⟨d0, d1, d2⟩, ⟨f0, f1, f2⟩, B⟩ := HK.out w1 hb
    clear hb HK
    go_wp2_with fail
    refine bodyPost_ret (v := .agg #[.int .i64 0, .int .i64 0, .int .i64 0]) (by simp [results, Try.results97, go_sem, d0, d1, d2]) rfl ⟨rfl, ?_⟩
    refine Below.setCell (Below.setCell (Below.setCell B ?_ _) ?_ _) ?_ _ <;> (simp <;> omega)

end Go.Proofs.Ytbnokmlmajcibaa

namespace Go.Proofs.Ytbnokmlmajcibaa
open Go.ChangeShapes Go.WideShapes Go.ChangeAt Go.RowKit

/-- What the walk keeps: the cell's box, the answer's. -/
theorem SpecTurnCell_keep (s a b : Int) (w w1 : World) (hb : Below ((w.alloc (.cells #[.int .i64 s, .int .i64 a, .int .i64 b] 58)).alloc (.cells #[.int .i64 0, .int .i64 0, .int .i64 0] 58)).heap.size ((w.alloc (.cells #[.int .i64 s, .int .i64 a, .int .i64 b] 58)).alloc (.cells #[.int .i64 0, .int .i64 0, .int .i64 0] 58)) w1) :
    (w1.cell? ⟨w.heap.size, 0, none⟩ = some (.int .i64 s) ∧ w1.cell? ⟨w.heap.size, 1, none⟩ = some (.int .i64 a) ∧ w1.cell? ⟨w.heap.size, 2, none⟩ = some (.int .i64 b)) ∧
    (w1.cell? ⟨w.heap.size + 1, 0, none⟩ = some (.int .i64 0) ∧ w1.cell? ⟨w.heap.size + 1, 1, none⟩ = some (.int .i64 0) ∧ w1.cell? ⟨w.heap.size + 1, 2, none⟩ = some (.int .i64 0)) ∧
    (w1.frozen? ⟨w.heap.size + 1, 0, none⟩ = false ∧ w1.frozen? ⟨w.heap.size + 1, 1, none⟩ = false ∧ w1.frozen? ⟨w.heap.size + 1, 2, none⟩ = false) ∧ Below w.heap.size w w1 := by
  refine ⟨⟨kept hb ?_, kept hb ?_, kept hb ?_⟩, ⟨kept hb ?_, kept hb ?_, kept hb ?_⟩, ⟨keptF (x := .int .i64 0) hb ?_ ?_, keptF (x := .int .i64 0) hb ?_ ?_, keptF (x := .int .i64 0) hb ?_ ?_⟩, bel_c (bel_n (bel0 w _) (Nat.le_refl _) _) (Nat.le_refl _) hb⟩ <;> go_simp
theorem SpecTurnCell_any (s a b : Int) (w : World) :
    Calls Try.prog 74 #[.agg #[.int .i64 s, .int .i64 a, .int .i64 b]] w fun e w' => e = .returned (.agg #[.int .i64 (turnZ ⟨s, a, b⟩).s, .int .i64 (turnZ ⟨s, a, b⟩).a, .int .i64 (turnZ ⟨s, a, b⟩).b]) ∧ Below w.heap.size w w' := by
  have HK := Lib.hid (SpecTurnCell_keep s a b w)
  by_cases h : OkC s a b
  · have HC := Lib.hid h
    have hz : turnZ ⟨s, a, b⟩ = turnC ⟨s, a, b⟩ := if_pos h
    rw [hz]
    have hs : s = 0 ∨ s = 1 ∨ s = 2 := by unfold OkC at h; omega
    clear h hz
    rcases hs with rfl | rfl | rfl
    · have HZ : Hid (turnC ⟨0, a, b⟩ = ⟨0, a, b⟩) := Lib.hid (by simp [turnC])
      rw [HZ.out]
      clear HZ
      go_enter Try.func74, Try.ntmps74
      go_wp2_with fail
      refine (SpecOk_yes _ _ _ _ HC.out).mono ?_
      rintro e w1 ⟨rfl, hb⟩
      obtain ⟨⟨c0, c1, c2⟩, ⟨d0, d1, d2⟩, ⟨f0, f1, f2⟩, B⟩ := HK.out w1 hb
      clear hb HK
      go_wp2_with fail
      refine bodyPost_ret (v := .agg #[.int .i64 0, .int .i64 a, .int .i64 b]) (by simp [results, Try.results74, go_sem, d0, d1, d2]) rfl ⟨rfl, ?_⟩
      refine Below.setCell (Below.setCell (Below.setCell B ?_ _) ?_ _) ?_ _ <;> (simp <;> omega)
    · have HZ : Hid (turnC ⟨1, a, b⟩ = ⟨2, b, a⟩) := Lib.hid (by simp [turnC])
      rw [HZ.out]
      clear HZ
      go_enter Try.func74, Try.ntmps74
      go_wp2_with fail
      refine (SpecOk_yes _ _ _ _ HC.out).mono ?_
      rintro e w1 ⟨rfl, hb⟩
      obtain ⟨⟨c0, c1, c2⟩, ⟨d0, d1, d2⟩, ⟨f0, f1, f2⟩, B⟩ := HK.out w1 hb
      clear hb HK
      go_wp2_with fail
      refine bodyPost_ret (v := .agg #[.int .i64 2, .int .i64 b, .int .i64 a]) (by simp [results, Try.results74, go_sem, d0, d1, d2]) rfl ⟨rfl, ?_⟩
      refine Below.setCell (Below.setCell (Below.setCell B ?_ _) ?_ _) ?_ _ <;> (simp <;> omega)
    · have HZ : Hid (turnC ⟨2, a, b⟩ = ⟨1, a, b⟩) := Lib.hid (by simp [turnC])
      rw [HZ.out]
      clear HZ
      go_enter Try.func74, Try.ntmps74
      go_wp2_with fail
      refine (SpecOk_yes _ _ _ _ HC.out).mono ?_
      rintro e w1 ⟨rfl, hb⟩
      obtain ⟨⟨c0, c1, c2⟩, ⟨d0, d1, d2⟩, ⟨f0, f1, f2⟩, B⟩ := HK.out w1 hb
      clear hb HK
      go_wp2_with fail
      refine bodyPost_ret (v := .agg #[.int .i64 1, .int .i64 a, .int .i64 b]) (by simp [results, Try.results74, go_sem, d0, d1, d2]) rfl ⟨rfl, ?_⟩
      refine Below.setCell (Below.setCell (Below.setCell B ?_ _) ?_ _) ?_ _ <;> (simp <;> omega)
  · have HC := Lib.hid h
    have hz : turnZ ⟨s, a, b⟩ = ⟨0, 0, 0⟩ := if_neg h
    rw [hz]
    clear h hz
    go_enter Try.func74, Try.ntmps74
    go_wp2_with fail
    refine (SpecOk_no _ _ _ _ HC.out).mono ?_
    rintro e w1 ⟨rfl, hb⟩
    obtain ⟨⟨c0, c1, c2⟩, ⟨d0, d1, d2⟩, ⟨f0, f1, f2⟩, B⟩ := HK.out w1 hb
    clear hb HK
    go_wp2_with fail
    refine bodyPost_ret (v := .agg #[.int .i64 0, .int .i64 0, .int .i64 0]) (by simp [results, Try.results74, go_sem, d0, d1, d2]) rfl ⟨rfl, ?_⟩
    refine Below.setCell (Below.setCell (Below.setCell B ?_ _) ?_ _) ?_ _ <;> (simp <;> omega)
/-- What the walk keeps: the cell's box, the answer's. -/
theorem SpecMirrorCell_keep (s a b : Int) (w w1 : World) (hb : Below ((w.alloc (.cells #[.int .i64 s, .int .i64 a, .int .i64 b] 58)).alloc (.cells #[.int .i64 0, .int .i64 0, .int .i64 0] 58)).heap.size ((w.alloc (.cells #[.int .i64 s, .int .i64 a, .int .i64 b] 58)).alloc (.cells #[.int .i64 0, .int .i64 0, .int .i64 0] 58)) w1) :
    (w1.cell? ⟨w.heap.size, 0, none⟩ = some (.int .i64 s) ∧ w1.cell? ⟨w.heap.size, 1, none⟩ = some (.int .i64 a) ∧ w1.cell? ⟨w.heap.size, 2, none⟩ = some (.int .i64 b)) ∧
    (w1.cell? ⟨w.heap.size + 1, 0, none⟩ = some (.int .i64 0) ∧ w1.cell? ⟨w.heap.size + 1, 1, none⟩ = some (.int .i64 0) ∧ w1.cell? ⟨w.heap.size + 1, 2, none⟩ = some (.int .i64 0)) ∧
    (w1.frozen? ⟨w.heap.size + 1, 0, none⟩ = false ∧ w1.frozen? ⟨w.heap.size + 1, 1, none⟩ = false ∧ w1.frozen? ⟨w.heap.size + 1, 2, none⟩ = false) ∧ Below w.heap.size w w1 := by
  refine ⟨⟨kept hb ?_, kept hb ?_, kept hb ?_⟩, ⟨kept hb ?_, kept hb ?_, kept hb ?_⟩, ⟨keptF (x := .int .i64 0) hb ?_ ?_, keptF (x := .int .i64 0) hb ?_ ?_, keptF (x := .int .i64 0) hb ?_ ?_⟩, bel_c (bel_n (bel0 w _) (Nat.le_refl _) _) (Nat.le_refl _) hb⟩ <;> go_simp
theorem SpecMirrorCell_any (s a b : Int) (w : World) :
    Calls Try.prog 73 #[.agg #[.int .i64 s, .int .i64 a, .int .i64 b]] w fun e w' => e = .returned (.agg #[.int .i64 (mirZ ⟨s, a, b⟩).s, .int .i64 (mirZ ⟨s, a, b⟩).a, .int .i64 (mirZ ⟨s, a, b⟩).b]) ∧ Below w.heap.size w w' := by
  have HK := Lib.hid (SpecMirrorCell_keep s a b w)
  by_cases h : OkC s a b
  · have HC := Lib.hid h
    have hz : mirZ ⟨s, a, b⟩ = mirC ⟨s, a, b⟩ := if_pos h
    rw [hz]
    have hs : s = 0 ∨ s = 1 ∨ s = 2 := by unfold OkC at h; omega
    clear h hz
    rcases hs with rfl | rfl | rfl
    · have HZ : Hid (mirC ⟨0, a, b⟩ = ⟨0, a, b⟩) := Lib.hid (by simp [mirC])
      rw [HZ.out]
      clear HZ
      go_enter Try.func73, Try.ntmps73
      go_wp2_with fail
      refine (SpecOk_yes _ _ _ _ HC.out).mono ?_
      rintro e w1 ⟨rfl, hb⟩
      obtain ⟨⟨c0, c1, c2⟩, ⟨d0, d1, d2⟩, ⟨f0, f1, f2⟩, B⟩ := HK.out w1 hb
      clear hb HK
      go_wp2_with fail
      refine bodyPost_ret (v := .agg #[.int .i64 0, .int .i64 a, .int .i64 b]) (by simp [results, Try.results73, go_sem, d0, d1, d2]) rfl ⟨rfl, ?_⟩
      refine Below.setCell (Below.setCell (Below.setCell B ?_ _) ?_ _) ?_ _ <;> (simp <;> omega)
    · have HZ : Hid (mirC ⟨1, a, b⟩ = ⟨2, b, a⟩) := Lib.hid (by simp [mirC])
      rw [HZ.out]
      clear HZ
      go_enter Try.func73, Try.ntmps73
      go_wp2_with fail
      refine (SpecOk_yes _ _ _ _ HC.out).mono ?_
      rintro e w1 ⟨rfl, hb⟩
      obtain ⟨⟨c0, c1, c2⟩, ⟨d0, d1, d2⟩, ⟨f0, f1, f2⟩, B⟩ := HK.out w1 hb
      clear hb HK
      go_wp2_with fail
      refine bodyPost_ret (v := .agg #[.int .i64 2, .int .i64 b, .int .i64 a]) (by simp [results, Try.results73, go_sem, d0, d1, d2]) rfl ⟨rfl, ?_⟩
      refine Below.setCell (Below.setCell (Below.setCell B ?_ _) ?_ _) ?_ _ <;> (simp <;> omega)
    · have HZ : Hid (mirC ⟨2, a, b⟩ = ⟨1, b, a⟩) := Lib.hid (by simp [mirC])
      rw [HZ.out]
      clear HZ
      go_enter Try.func73, Try.ntmps73
      go_wp2_with fail
      refine (SpecOk_yes _ _ _ _ HC.out).mono ?_
      rintro e w1 ⟨rfl, hb⟩
      obtain ⟨⟨c0, c1, c2⟩, ⟨d0, d1, d2⟩, ⟨f0, f1, f2⟩, B⟩ := HK.out w1 hb
      clear hb HK
      go_wp2_with fail
      refine bodyPost_ret (v := .agg #[.int .i64 1, .int .i64 b, .int .i64 a]) (by simp [results, Try.results73, go_sem, d0, d1, d2]) rfl ⟨rfl, ?_⟩
      refine Below.setCell (Below.setCell (Below.setCell B ?_ _) ?_ _) ?_ _ <;> (simp <;> omega)
  · have HC := Lib.hid h
    have hz : mirZ ⟨s, a, b⟩ = ⟨0, 0, 0⟩ := if_neg h
    rw [hz]
    clear h hz
    go_enter Try.func73, Try.ntmps73
    go_wp2_with fail
    refine (SpecOk_no _ _ _ _ HC.out).mono ?_
    rintro e w1 ⟨rfl, hb⟩
    obtain ⟨⟨c0, c1, c2⟩, ⟨d0, d1, d2⟩, ⟨f0, f1, f2⟩, B⟩ := HK.out w1 hb
    clear hb HK
    go_wp2_with fail
    refine bodyPost_ret (v := .agg #[.int .i64 0, .int .i64 0, .int .i64 0]) (by simp [results, Try.results73, go_sem, d0, d1, d2]) rfl ⟨rfl, ?_⟩
    refine Below.setCell (Below.setCell (Below.setCell B ?_ _) ?_ _) ?_ _ <;> (simp <;> omega)

end Go.Proofs.Ytbnokmlmajcibaa

namespace Go.Proofs.Ytbnokmlmajcibaa

variable {P : Program} {md : Region.Mode} {l : List Oper} {Q : Exit → Act → World → Prop} {S : World → Prop}

/-- Operation number i is wanted and yields v in every world that meets S. -/
theorem reg_take (i : Nat) {oi : Oper} {v : Value} {fuel : Nat} {listed : Array Bool} {a : Act} {w : World} (hi : l[i]? = some oi)
    (hs : Region.noSelect l.toArray = true) (hf : Region.free md l.toArray listed i = true) (hr : (Region.ready md l.toArray listed).contains i = true)
    (hQ : ∀ c a w, Q (.panic c) (a.put oi.dst v) w → Q (.panic c) a w) (hw : Region.wanted oi (yielded l.toArray a.tmps) = true)
    (hy : ∀ w, S w → (execOp a.eval oi).run P w = .ok (.value v) w) (hS : S w)
    (h : wpAnyH P md l.toArray Q S fuel (listed.setIfInBounds i true) (a.put oi.dst v) w) : wpAnyH P md l.toArray Q S (fuel + 1) listed a w :=
  wpAnyH_take (by simpa using hi) hs hf hr hQ (Or.inl ⟨hw, hy⟩) hS h
/-- Operation number i is passed over by its guard. -/
theorem reg_skip (i : Nat) {oi : Oper} {fuel : Nat} {listed : Array Bool} {a : Act} {w : World} (hi : l[i]? = some oi)
    (hs : Region.noSelect l.toArray = true) (hf : Region.free md l.toArray listed i = true) (hr : (Region.ready md l.toArray listed).contains i = true)
    (hQ : ∀ c a w, Q (.panic c) (a.put oi.dst undef) w → Q (.panic c) a w) (hw : Region.wanted oi (yielded l.toArray a.tmps) = false) (hS : S w)
    (h : wpAnyH P md l.toArray Q S fuel (listed.setIfInBounds i true) (a.put oi.dst undef) w) : wpAnyH P md l.toArray Q S (fuel + 1) listed a w :=
  wpAnyH_take (by simpa using hi) hs hf hr hQ (Or.inr ⟨hw, rfl⟩) hS h
/-- Operation number i alone may come up, is wanted, and may write: S anew behind it. -/
theorem reg_call (i : Nat) {oi : Oper} {fuel : Nat} {listed : Array Bool} {a : Act} {w : World} (hi : l[i]? = some oi) (hr : Region.ready md l.toArray listed = [i])
    (hw : Region.wanted oi (yielded l.toArray a.tmps) = true)
    (h : ∀ K' : Act → World → Prop, Shut (∀ a w, S w → (S w → wpAnyH P md l.toArray Q S fuel (listed.setIfInBounds i true) a w) → K' a w) → Oper.wp P oi a w K' Q) :
    wpAnyH P md l.toArray Q S (fuel + 1) listed a w :=
  wpAnyH_ready hr (by simp) (AllReadyH.cons (by simpa using hi) (fun K hK => by rw [if_pos hw]; exact h K hK) AllReadyH.nil)
theorem reg_begin {id : Nat} {a : Act} {w : World} (S : World → Prop) (hm : P.follows .mixedOrders = true) (hS : S w.drew)
    (h : wpAnyH P .any l.toArray Q S l.length (Array.replicate l.length false) a w.drew) : (Code.region id l.toArray true).wp P Q a w :=
  wp_region_held_drew (S := S) hm hS (fun _ => by simpa using h)

end Go.Proofs.Ytbnokmlmajcibaa
