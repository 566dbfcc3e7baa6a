/- Blocks: the program's StarBlock. Rows of integers: searched, and compared, by the laws' own helpers. -/
import Derived.Test.YtbnokmlmajcibaaM05
import Derived.Test.YtbnokmlmajcibaaM16
import Derived.Great.Walk
import Derived.Great.BuildSlice
import Derived.Laws.CopyOwn
import Derived.Test.YtbnokmlmajcibaaM02
import Derived.ProofKit
import Derived.OpenShut
import Derived.WalkSmall
import Derived.BigQuiet
import Derived.Deep.QuietTactic
import Derived.Outline
import Derived.IntWalk

namespace Go.Proofs.Ytbnokmlmajcibaa
open Go.ChangeShapes Go.WideShapes Go.ChangeAt Go.RowKit

set_option maxHeartbeats 1000000 in
theorem ImplStar_any (w : World) : Calls Try.prog 23 #[] w (FreshB 3 starC w) := by
  have CW : ∀ w, Calls Try.prog 56 #[.int .i64 1] w fun e w' => e = .returned (.agg #[.int .i64 0, .int .i64 1, .int .i64 1]) ∧ Below w.heap.size w w' := fun w => by
    have := ImplWhole_any 1 w
    rw [wh_yes (by omega)] at this
    refine this.mono ?_
    rintro e w' ⟨rfl, rfl⟩
    exact ⟨rfl, bel0 _ _⟩
  have CS : ∀ s a b, a ≠ b → OkC s a b → ∀ w, Calls Try.prog 55 #[.int .i64 s, .int .i64 a, .int .i64 b] w fun e w' => e = .returned (.agg #[.int .i64 s, .int .i64 a, .int .i64 b]) ∧ Below w.heap.size w w' := fun s a b h k w => by
    have := ImplSplit_any s a b w
    obtain ⟨e1, e2, e3⟩ := sp_ok h k
    rw [e1, e2, e3] at this
    exact this
  have S1 := CS 1 0 1 (by decide) (by unfold OkC; decide)
  have S2 := CS 2 1 0 (by decide) (by unfold OkC; decide)
  have S3 := CS 2 0 1 (by decide) (by unfold OkC; decide)
  have S4 := CS 1 1 0 (by decide) (by unfold OkC; decide)
  clear CS
  have P : ∀ u v : World, Below u.heap.size u v → (u.cell? ⟨w.heap.size, 0, none⟩ = some (.int .i64 0) ∧ u.cell? ⟨w.heap.size, 1, none⟩ = some (.slice none 0 0) ∧ u.frozen? ⟨w.heap.size, 0, none⟩ = false ∧ u.frozen? ⟨w.heap.size, 1, none⟩ = false ∧ w.heap.size + 1 ≤ u.heap.size ∧ Below w.heap.size w u) → (v.cell? ⟨w.heap.size, 0, none⟩ = some (.int .i64 0) ∧ v.cell? ⟨w.heap.size, 1, none⟩ = some (.slice none 0 0) ∧ v.frozen? ⟨w.heap.size, 0, none⟩ = false ∧ v.frozen? ⟨w.heap.size, 1, none⟩ = false ∧ w.heap.size + 1 ≤ v.heap.size ∧ Below w.heap.size w v) :=
    fun u v hb h => ⟨kept hb h.1, kept hb h.2.1, keptF hb h.1 h.2.2.1, keptF hb h.2.1 h.2.2.2.1, Nat.le_trans h.2.2.2.2.1 hb.size, bel_c h.2.2.2.2.2 (Nat.le_refl _) hb⟩
  have HP := Lib.hid P
  clear P
  go_enter Try.func23, Try.ntmps23
  go_wp2_with fail
  refine (S1 _).mono ?_
  rintro e w1 ⟨rfl, hb⟩
  have q1 := HP.out _ _ hb ⟨by go_simp, by go_simp, by go_simp, by go_simp, by simp, bel0 _ _⟩
  clear hb
  go_wp2_with fail
  refine (CW _).mono ?_
  rintro e w2 ⟨rfl, hb⟩
  have q2 := HP.out _ _ hb q1
  clear hb q1
  go_wp2_with fail
  refine (S2 _).mono ?_
  rintro e w3 ⟨rfl, hb⟩
  have q1 := HP.out _ _ hb q2
  clear hb q2
  go_wp2_with fail
  refine (CW _).mono ?_
  rintro e w4 ⟨rfl, hb⟩
  have q2 := HP.out _ _ hb q1
  clear hb q1
  go_wp2_with fail
  refine (CW _).mono ?_
  rintro e w5 ⟨rfl, hb⟩
  have q1 := HP.out _ _ hb q2
  clear hb q2
  go_wp2_with fail
  refine (CW _).mono ?_
  rintro e w6 ⟨rfl, hb⟩
  have q2 := HP.out _ _ hb q1
  clear hb q1
  go_wp2_with fail
  refine (S3 _).mono ?_
  rintro e w7 ⟨rfl, hb⟩
  have q1 := HP.out _ _ hb q2
  clear hb q2
  go_wp2_with fail
  refine (CW _).mono ?_
  rintro e w8 ⟨rfl, hb⟩
  have q2 := HP.out _ _ hb q1
  clear hb q1
  go_wp2_with fail
  refine (S4 _).mono ?_
  rintro e w9 ⟨rfl, hb⟩
  have q1 := HP.out _ _ hb q2
  clear hb q2
  have hu : ∃ u : World, u = (w9.alloc (.cells (places (List.replicate 9 C3.zero)).toArray 64)).setRow w9.heap.size (places starC).toArray := ⟨_, rfl⟩
  obtain ⟨u, hu⟩ := hu
  have hh : u.heap[w9.heap.size]? = some (.cells (places starC).toArray 64 (0, 0)) := by
    rw [hu]
    exact setRow_heap _ _ _ _ _ _ (heap_alloc_new _ _)
  have hb : Below w9.heap.size w9 u := by
    rw [hu]
    exact below_setRow (bel0 _ _) (Nat.le_refl _) _
  have hsz : u.heap.size = w9.heap.size + 1 := by rw [hu]; simp
  obtain ⟨d0, d1, g0, g1, z1, B9⟩ := HP.out _ _ hb q1
  have HB := Lib.hid B9
  have HI := Lib.hid (CellIn.of_owns (xs := starC) (owns_whole (base := w.heap.size + 1) hh q1.2.2.2.2.1 (by decide)) (by decide))
  have HU := Lib.hid hu
  have hq9 : w.heap.size < w9.heap.size := q1.2.2.2.2.1
  clear q1 hb hu hh B9
  rename_i KK hKK
  refine hKK _ _ ?_
  refine wpList_buildTo rfl 64 _ rfl _ rfl (places starC).toArray (by kernel_rfl) ?_
  refine Great.wpList_allocTo rfl _ rfl (.pointer (some ⟨w9.heap.size, 0, none⟩)) (.cells (places (List.replicate 9 C3.zero)).toArray 64) (by kernel_rfl) ?_
  refine wpList_store_row rfl 64 _ _ rfl w9.heap.size (places starC).toArray rfl rfl 64 _ (heap_alloc_new _ _) (by kernel_rfl) (by rfl) (by kernel_rfl) ?_
  rw [← HU.out]
  go_wp2_with fail
  refine bodyPost_ret (v := .agg #[.int .i64 3, .slice (some ⟨w9.heap.size, 0, none⟩) 9 9]) (by simp [results, Try.results23, go_sem, d0, d1]) rfl ⟨.slice (some ⟨w9.heap.size, 0, none⟩) 9 9, rfl, ?_, ?_⟩
  · refine CellIn.wide (lo := w.heap.size + 1) (hi := u.heap.size) ?_ (by omega) (by simp [World.setCell])
    refine CellIn.set_far (CellIn.set_far ?_ ?_ _) ?_ _
    · exact HI.out
    · simp
    · simp
  · refine Below.setCell (Below.setCell HB.out ?_ _) ?_ _ <;> exact Nat.le_refl _

end Go.Proofs.Ytbnokmlmajcibaa

namespace Go.Proofs.Ytbnokmlmajcibaa
open Go.ChangeShapes Go.WideShapes Go.ChangeAt Go.RowKit

set_option maxHeartbeats 400000 in
theorem Has_yes (lo hi : Nat) (v : Value) (zs : List Int) (z : Int) (w : World) (r : IntIn lo hi w v zs) (hz : z ∈ zs) :
    Calls Try.prog 19 #[v, .int .i64 z] w fun e w' => e = .returned (.bool true) ∧ w' = w := by
  obtain ⟨a1, c1, rfl⟩ := r.form
  have R := Lib.hid r
  have HZ := Lib.hid hz
  have hl := r.1
  clear r hz
  go_enter Try.func19, Try.ntmps19
  go_wp2_with fail
  go_loop [5] (fun i => ∃ k : Nat, k ≤ zs.length ∧ i = .int .i64 k ∧ Hid (∀ j, j < k → ¬ zs.getD j 0 = z)) (fun i => zs.length - (intOf i).toNat)
  case atStart => exact ⟨0, Nat.zero_le _, rfl, fun j hj => by omega⟩
  case round =>
    obtain ⟨k, hk, rfl, hno⟩ := hrel
    by_cases hlt : k < zs.length
    · obtain ⟨g, rfl, _, _, e0, _⟩ := R.out.at (Below.refl _ _) hlt
      by_cases he : zs.getD k 0 = z
      · rw [he] at e0
        clear he
        go_wp2_with fail
        go_ret
        exact ⟨rfl, rfl⟩
      · have HN : Hid (∀ j, j < k + 1 → ¬ zs.getD j 0 = z) := Lib.hid (fun j hj => by
          rcases Nat.lt_succ_iff_lt_or_eq.1 hj with h | rfl
          · exact hno.out j h
          · exact he)
        have hb : (zs.getD k 0 == z) = false := by simpa using he
        generalize zs.getD k 0 = c at e0 hb
        clear he hno
        go_wp2_with fail
        go_round
        case rel => exact ⟨k + 1, by omega, by go_num, HN⟩
        case measure => simp [intOf] <;> omega
    · obtain rfl : k = zs.length := by omega
      obtain ⟨j, hj, hjz⟩ := List.getElem_of_mem HZ.out
      exact absurd (by simpa [List.getD, hj] using hjz) (hno.out j hj)

end Go.Proofs.Ytbnokmlmajcibaa
