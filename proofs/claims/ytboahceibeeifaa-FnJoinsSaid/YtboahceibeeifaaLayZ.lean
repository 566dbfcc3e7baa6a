/- Layouts: their size in the law; taken from the law's own type, compared, marked and held. -/
import Derived.Test.YtboahceibeeifaaPatE
import Derived.Test.YtboahceibeeifaaPatM

set_option linter.unusedSimpArgs false
set_option linter.unusedVariables false
namespace Go.Proofs.Ytboahceibeeifaa
open Go.ChangeShapes Go.WideShapes Go.ChangeAt Go.RowKit

theorem SzP_no (a : Option Addr) (len cap : Nat) (left : Int) (w : World) (h0 : 0 ≤ left) (h1 : left ≤ 1048576) (hm : len ≤ 9223372036854775807) (h : left < len) :
    Calls Try.prog 45 #[.slice a len cap, .int .i64 left] w fun e w' => e = .returned (.int .i64 (-1)) ∧ w' = w := by
  have h2 : left - (len : Int) < 0 := by omega
  go_enter Try.func45, Try.ntmps45
  go_wp2_with fail
  go_ret
  exact ⟨rfl, rfl⟩
theorem SzP_yes (a : Option Addr) (len cap : Nat) (left : Int) (w : World) (h1 : left ≤ 1048576) (h : (len : Int) ≤ left) :
    Calls Try.prog 45 #[.slice a len cap, .int .i64 left] w fun e w' => e = .returned (.int .i64 (left - len)) ∧ w' = w := by
  have h2 : ¬ left - (len : Int) < 0 := by omega
  go_enter Try.func45, Try.ntmps45
  go_wp2_with fail
  go_ret
  exact ⟨rfl, rfl⟩
theorem SzL_no (m n : Int) (a : Option Addr) (len cap : Nat) (left : Int) (w : World) (h0 : 0 ≤ left) (h1 : left ≤ 1048576) (hm : len ≤ 9223372036854775807) (h : left < len) :
    Calls Try.prog 17 #[.agg #[.int .i64 m, .int .i64 n, .slice a len cap], .int .i64 left] w fun e w' => e = .returned (.int .i64 (-1)) ∧ Below w.heap.size w w' := by
  go_enter Try.func17, Try.ntmps17
  go_wp2_with fail
  refine (SzP_no a len cap left _ h0 h1 hm h).mono ?_
  rintro e w' ⟨rfl, rfl⟩
  go_wp2_with fail
  go_ret
  exact ⟨rfl, bel0 _ _⟩
theorem SzL_yes (m n : Int) (a : Option Addr) (len cap : Nat) (left : Int) (w : World) (h1 : left ≤ 1048576) (h : (len : Int) ≤ left) :
    Calls Try.prog 17 #[.agg #[.int .i64 m, .int .i64 n, .slice a len cap], .int .i64 left] w fun e w' => e = .returned (.int .i64 (left - len)) ∧ Below w.heap.size w w' := by
  have h2 : ¬ left - (len : Int) < 0 := by omega
  go_enter Try.func17, Try.ntmps17
  go_wp2_with fail
  refine (SzP_yes a len cap left _ h1 h).mono ?_
  rintro e w' ⟨rfl, rfl⟩
  go_wp2_with fail
  go_ret
  exact ⟨rfl, bel0 _ _⟩

/-- A new layout is handed back. -/
def FreshL (m n : Int) (xs : List P5) (w : World) (e : Ending) (w' : World) : Prop := ∃ v, e = .returned (.agg #[.int .i64 m, .int .i64 n, v]) ∧ PatIn w.heap.size w'.heap.size w' v xs ∧ Below w.heap.size w w'

theorem ToLayout_any (m n : Int) (a : Option Addr) (len cap : Nat) (xs : List P5) (w : World) (r : ArgPat w a len xs) (hlen : len ≤ 1048576) :
    Calls Try.prog 19 #[.agg #[.int .i64 m, .int .i64 n, .slice a len cap]] w (FreshL m n xs w) := by
  have R : ∀ o1 o2 o3, Hid (ArgPat (((w.alloc o1).alloc o2).alloc o3) a len xs) := fun o1 o2 o3 => Lib.hid (r.below (bel_n (bel_n (bel0 w o1) (Nat.le_refl _) o2) (Nat.le_refl _) o3))
  clear r
  go_enter Try.func19, Try.ntmps19
  go_wp2_with fail
  refine (ToPatS_any a len cap xs _ (R _ _ _).out hlen).mono ?_
  rintro e w1 ⟨v, rfl, hin, hb1⟩
  obtain ⟨a', cap', rfl⟩ := hin.form
  have c0 := kept (p := ⟨w.heap.size + 1 + 1, 0, none⟩) (x := .int .i64 m) hb1 (by go_simp)
  have c1 := kept (p := ⟨w.heap.size + 1 + 1, 1, none⟩) (x := .int .i64 n) hb1 (by go_simp)
  have c2 := kept (p := ⟨w.heap.size + 1 + 1, 2, none⟩) (x := .slice none 0 0) hb1 (by go_simp)
  have f2 := keptF (p := ⟨w.heap.size + 1 + 1, 2, none⟩) (x := .slice none 0 0) hb1 (by go_simp) (by go_simp)
  have d0 := kept (p := ⟨w.heap.size + 1, 0, none⟩) (x := .int .i64 0) hb1 (by go_simp)
  have d1 := kept (p := ⟨w.heap.size + 1, 1, none⟩) (x := .int .i64 0) hb1 (by go_simp)
  have d2 := kept (p := ⟨w.heap.size + 1, 2, none⟩) (x := .slice none 0 0) hb1 (by go_simp)
  have g0 := keptF (p := ⟨w.heap.size + 1, 0, none⟩) (x := .int .i64 0) hb1 (by go_simp) (by go_simp)
  have g1 := keptF (p := ⟨w.heap.size + 1, 1, none⟩) (x := .int .i64 0) hb1 (by go_simp) (by go_simp)
  have g2 := keptF (p := ⟨w.heap.size + 1, 2, none⟩) (x := .slice none 0 0) hb1 (by go_simp) (by go_simp)
  have hB : Below w.heap.size w w1 := bel_c (bel_n (bel_n (bel0 w _) (Nat.le_refl _) _) (Nat.le_refl _) _) (Nat.le_refl _) hb1
  have hS := hb1.size
  simp at hS
  clear hb1
  go_wp2_with fail
  refine bodyPost_ret (v := .agg #[.int .i64 m, .int .i64 n, .slice a' xs.length cap']) (by simp [results, Try.results19, go_sem, d0, d1, d2]) rfl ⟨.slice a' xs.length cap', rfl, ?_, ?_⟩
  · refine PatIn.wide (lo := w.heap.size + 1 + 1 + 1) (hi := w1.heap.size) ?_ (by omega) (by simp [World.setCell])
    refine PatIn.set_far (PatIn.set_far (PatIn.set_far (PatIn.set_far (by simpa using hin) ?_ _) ?_ _) ?_ _) ?_ _ <;> (simp <;> omega)
  · refine Below.setCell (Below.setCell (Below.setCell (Below.setCell hB ?_ _) ?_ _) ?_ _) ?_ _ <;> (simp <;> omega)

theorem EqLayout_any (l1 h1 l2 h2 : Nat) (m n : Int) (v1 v2 : Value) (xs : List P5) (w : World) (r1 : PatIn l1 h1 w v1 xs) (r2 : PatIn l2 h2 w v2 xs) (hh1 : h1 ≤ w.heap.size) (hh2 : h2 ≤ w.heap.size) :
    Calls Try.prog 21 #[.agg #[.int .i64 m, .int .i64 n, v1], .agg #[.int .i64 m, .int .i64 n, v2]] w fun e w' => e = .returned (.bool true) ∧ Below w.heap.size w w' := by
  obtain ⟨a1, c1, rfl⟩ := r1.form
  obtain ⟨a2, c2, rfl⟩ := r2.form
  have R1 : ∀ o1 o2, Hid (PatIn l1 h1 ((w.alloc o1).alloc o2) (.slice a1 xs.length c1) xs) := fun o1 o2 => Lib.hid (r1.below ((bel_n (bel0 w o1) (Nat.le_refl _) o2).mono hh1))
  have R2 : ∀ o1 o2, Hid (PatIn l2 h2 ((w.alloc o1).alloc o2) (.slice a2 xs.length c2) xs) := fun o1 o2 => Lib.hid (r2.below ((bel_n (bel0 w o1) (Nat.le_refl _) o2).mono hh2))
  clear r1 r2
  go_enter Try.func21, Try.ntmps21
  go_wp2_with fail
  refine (EqPatS_any l1 h1 l2 h2 _ _ xs _ (R1 _ _).out (R2 _ _).out (by simp; omega) (by simp; omega)).mono ?_
  rintro e w1 ⟨rfl, hb1⟩
  go_wp2_with fail
  go_ret
  exact ⟨rfl, bel_c (bel_n (bel0 w _) (Nat.le_refl _) _) (Nat.le_refl _) hb1⟩

/-- The number behind the last mark. -/
def mkP (xs : List P5) : Int := ((1 + 5 * xs.length : Nat) : Int)
theorem mkP_pos (xs : List P5) : ¬ mkP xs < 0 := by unfold mkP; omega
theorem MarkLayout_any (lo hi : Nat) (m n : Int) (v : Value) (xs : List P5) (w : World) (r : PatIn lo hi w v xs) (hhi : hi ≤ w.heap.size) :
    Calls Try.prog 22 #[.agg #[.int .i64 m, .int .i64 n, v], .int .i64 1] w fun e w' => e = .returned (.int .i64 (mkP xs)) ∧ PatIn lo hi w' v (markPat 1 xs.length) ∧ Within lo hi w w' := by
  obtain ⟨a1, c1, rfl⟩ := r.form
  have R : ∀ o, Hid (PatIn lo hi (w.alloc o) (.slice a1 xs.length c1) xs) := fun o => Lib.hid (r.below ((bel0 w o).mono hhi))
  clear r
  go_enter Try.func22, Try.ntmps22
  go_wp2_with fail
  refine (MarkPatS_any lo hi _ xs 1 _ (R _).out (by omega)).mono ?_
  rintro e w1 ⟨rfl, hin, hb1⟩
  go_wp2_with fail
  go_ret
  exact ⟨rfl, hin, (Within.of_below (bel0 w _)).trans hb1⟩
end Go.Proofs.Ytboahceibeeifaa
