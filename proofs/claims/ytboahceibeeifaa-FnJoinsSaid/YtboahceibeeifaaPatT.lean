/- Rows of patchs: taken from the law's own type. -/
import Derived.Test.YtboahceibeeifaaPatR
import Derived.Test.YtboahceibeeifaaBlkT
import Derived.WalkSmall
import Derived.BigQuiet
import Derived.Outline
import Derived.IntWalk
import Derived.OwnWalk

set_option linter.unusedSimpArgs false
set_option linter.unusedVariables false
namespace Go.Proofs.Ytboahceibeeifaa
open Go.ChangeShapes Go.WideShapes Go.ChangeAt Go.RowKit

theorem ToPat_any (x0 : Int) (x1 : Int) (x2 : Int) (x3 : Int) (x4 : Int) (w : World) :
    Calls Try.prog 68 #[.agg #[.int .i64 x0, .int .i64 x1, .int .i64 x2, .int .i64 x3, .int .i64 x4]] w fun e w' => e = .returned (.agg #[.int .i64 x0, .int .i64 x1, .int .i64 x2, .int .i64 x3, .int .i64 x4]) ∧ Below w.heap.size w w' := by
  go_enter Try.func68, Try.ntmps68
  go_wp2
  exact bodyPost_ret (v := .agg #[.int .i64 x0, .int .i64 x1, .int .i64 x2, .int .i64 x3, .int .i64 x4]) (by simp [results, Try.results68, go_sem]) rfl ⟨rfl, (((Below.refl _ _).alloc (Nat.le_refl _) _).alloc (by simp) _).alloc (by simp; omega) _⟩

theorem info_Pat : (Try.prog.info? 34).map (fun i => (i.zero, i.size, i.bytes)) = some (some (.agg #[.int .i64 0, .int .i64 0, .int .i64 0, .int .i64 0, .int .i64 0]), 5, 40) := by kernel_rfl

/-- A slice of them that came in: its elements are read one by one, wherever they lie. -/
def ArgPat (w : World) (a : Option Addr) (len : Nat) (xs : List P5) : Prop :=
  xs.length = len ∧ len ≤ maxLen ∧ (len = 0 ∨ ∃ xb xo, a = some ⟨xb, xo, none⟩ ∧ xb < w.heap.size ∧ ∀ i, i < len →
    w.cell? ⟨xb, xo + i * 5, none⟩ = some (.int .i64 (xs.getD i P5.zero).x) ∧ w.cell? ⟨xb, xo + i * 5 + 1, none⟩ = some (.int .i64 (xs.getD i P5.zero).y) ∧ w.cell? ⟨xb, xo + i * 5 + 2, none⟩ = some (.int .i64 (xs.getD i P5.zero).w) ∧ w.cell? ⟨xb, xo + i * 5 + 3, none⟩ = some (.int .i64 (xs.getD i P5.zero).h) ∧ w.cell? ⟨xb, xo + i * 5 + 4, none⟩ = some (.int .i64 (xs.getD i P5.zero).c))
theorem ArgPat.below {w w' : World} {a : Option Addr} {len : Nat} {xs : List P5} (h : ArgPat w a len xs) (hb : Below w.heap.size w w') : ArgPat w' a len xs := by
  obtain ⟨h1, h2, h | ⟨xb, xo, ha, hlt, hc⟩⟩ := h
  · exact ⟨h1, h2, .inl h⟩
  · refine ⟨h1, h2, .inr ⟨xb, xo, ha, Nat.lt_of_lt_of_le hlt hb.size, fun i hi => ?_⟩⟩
    obtain ⟨c0, c1, c2, c3, c4⟩ := hc i hi
    exact ⟨(hb.cell (p := ⟨xb, _, none⟩) hlt).trans c0, (hb.cell (p := ⟨xb, _, none⟩) hlt).trans c1, (hb.cell (p := ⟨xb, _, none⟩) hlt).trans c2, (hb.cell (p := ⟨xb, _, none⟩) hlt).trans c3, (hb.cell (p := ⟨xb, _, none⟩) hlt).trans c4⟩

/-- A new row is handed back. -/
def FreshPat (xs : List P5) (w : World) (e : Ending) (w' : World) : Prop := ∃ v, e = .returned v ∧ PatIn w.heap.size w'.heap.size w' v xs ∧ Below w.heap.size w w'

/-- The first k elements are those of the list. -/
def UpPat (k : Nat) (xs ys : List P5) : Prop := ys.length = xs.length ∧ ∀ i, i < k → ys.getD i P5.zero = xs.getD i P5.zero
theorem UpPat.set {k : Nat} {xs ys : List P5} (h : UpPat k xs ys) (hk : k < xs.length) {c : P5} (hc : c = xs.getD k P5.zero) : UpPat (k + 1) xs (ys.set k c) := by
  obtain ⟨h1, h2⟩ := h
  refine ⟨by simpa using h1, fun i hi => ?_⟩
  by_cases e : i = k
  · subst e; simp [List.getD, h1, hk] at hc ⊢; exact hc
  · have := h2 i (by omega)
    simpa [List.getD, List.getElem?_set, e, Ne.symm e] using this
theorem UpPat.all {xs ys : List P5} (h : UpPat xs.length xs ys) : ys = xs := by
  obtain ⟨h1, h2⟩ := h
  apply List.ext_getElem h1
  intro i a b
  have := h2 i b
  simpa [List.getD, a, b] using this

set_option maxHeartbeats 800000 in
theorem ToPatS_any (a : Option Addr) (len cap : Nat) (xs : List P5) (w : World) (r : ArgPat w a len xs) (hlen : len ≤ 1048576) :
    Calls Try.prog 47 #[.slice a len cap] w (FreshPat xs w) := by
  obtain ⟨i0, hi, hz0, hz1, hz2⟩ := info_parts3 info_Pat
  have R := Lib.hid r
  obtain ⟨hxl, _, _⟩ := r
  subst hxl
  go_enter Try.func47, Try.ntmps47
  go_wp2_with (at_make; refine wpList_make_full _ rfl _ _ 24 rfl w.heap.size 34 i0 _ 5 Try.underlying24 hi hz0 hz1 .i64 .i64 _ _ xs.length rfl rfl rfl rfl (by rw [hz2]; omega) (by unfold maxLen; omega) (Nat.le_refl _) ?_; intro w0 hown0 hgrow0)
  have hb0 := own_none hgrow0
  rw [placesPat_zero] at hown0
  have hin0 := PatIn.of_owns (xs := List.replicate xs.length P5.zero) (by rw [List.length_replicate]; exact hown0) (by simpa using hlen)
  have HB := Lib.hid hb0
  have HW := Lib.hid hin0
  clear hb0 hown0 hgrow0 hin0
  go_loopw [4] (fun i wr => ∃ (k : Nat) (ys : List P5), k ≤ xs.length ∧ i = .int .i64 k ∧ Hid (UpPat k xs ys) ∧ Hid (PatIn w.heap.size w0.heap.size wr (.slice (some ⟨w.heap.size, 0, none⟩) xs.length xs.length) ys) ∧ Below w.heap.size w wr ∧ w0.heap.size ≤ wr.heap.size) (fun i _ => xs.length - (intOf i).toNat)
  case atStart => exact ⟨0, _, Nat.zero_le _, rfl, ⟨by simp, fun i hi => by omega⟩, HW.out, HB.out, Nat.le_refl _⟩
  case round =>
    obtain ⟨k, ys, hk, rfl, hup, hin, hbel, hsz⟩ := hrel
    by_cases hlt : k < xs.length
    · obtain ⟨_, _, h | ⟨xb, xo, rfl, hxb, hc⟩⟩ := (R.out.below hbel)
      · omega
      obtain ⟨c0, c1, c2, c3, c4⟩ := hc k hlt
      clear hc
      obtain ⟨c, hc⟩ : ∃ c, c = xs.getD k P5.zero := ⟨_, rfl⟩
      rw [← hc] at c0 c1 c2 c3 c4
      have HC := Lib.hid hc
      clear hc
      go_wp2_with fail
      refine (ToPat_any _ _ _ _ _ _).mono ?_
      rintro e w1 ⟨rfl, hb1⟩
      have hyl := hup.out.1
      have hin1 : Hid (PatIn w.heap.size w0.heap.size w1 (.slice (some ⟨w.heap.size, 0, none⟩) xs.length xs.length) ys) := Lib.hid (hin.out.below (hb1.mono hsz))
      obtain ⟨g, hg, _, _, ⟨e0, e1, e2, e3, e4⟩, f0, f1, f2, f3, f4⟩ := hin1.out.at (Below.refl _ _) (i := k) (by omega)
      obtain rfl : w.heap.size = g := by simpa using hg
      have HN := Lib.hid (hin1.out.set k (by omega) c.x c.y c.w c.h c.c)
      have HU := Lib.hid (hup.out.set (c := ⟨c.x, c.y, c.w, c.h, c.c⟩) hlt HC.out)
      have hbw : Below w.heap.size w w1 := hbel.trans (hb1.mono hbel.size)
      have HB1 := Lib.hid (Below.setCell (Below.setCell (Below.setCell (Below.setCell (Below.setCell hbw (p := ⟨w.heap.size, k * 5, none⟩) (Nat.le_refl _) (.int .i64 c.x)) (p := ⟨w.heap.size, k * 5 + 1, none⟩) (Nat.le_refl _) (.int .i64 c.y)) (p := ⟨w.heap.size, k * 5 + 2, none⟩) (Nat.le_refl _) (.int .i64 c.w)) (p := ⟨w.heap.size, k * 5 + 3, none⟩) (Nat.le_refl _) (.int .i64 c.h)) (p := ⟨w.heap.size, k * 5 + 4, none⟩) (Nat.le_refl _) (.int .i64 c.c))
      have hs1 : w0.heap.size ≤ w1.heap.size := by have := hb1.size; omega
      clear hg hin hup hbw hb1 hbel HC
      generalize ys.getD k P5.zero = y at e0 e1 e2 e3 e4
      go_wp2_with fail
      go_roundw
      case rel => exact ⟨k + 1, _, by omega, by go_num, HU, HN, HB1.out, by simp [World.setCell]; exact hs1⟩
      case measure => simp [intOf] <;> omega
    · obtain rfl : k = xs.length := by omega
      have hall := hup.out.all
      subst hall
      go_wp2_with fail
      go_ret
      exact ⟨_, rfl, hin.out.wide (Nat.le_refl _) hsz, hbel⟩

end Go.Proofs.Ytboahceibeeifaa
