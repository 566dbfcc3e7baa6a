/- SplitFields answers as its model: the walk of FnExactSplitFields. -/
import Derived.Test.YthnelahnlinbnaaSplitI
import Derived.Test.YthnelahnlinbnaaMarkS
namespace Go.Proofs.Ythnelahnlinbnaa
open Go.ChangeShapes Go.WideShapes Go.ChangeAt Go.RowKit

def Tag (s : ByteArray) (ok : Bool) (fs : List ByteArray) : Prop := (ok = true ∧ OkS s ∧ fs = allF s) ∨ (ok = false ∧ ¬ OkS s ∧ fs = [])
/-- SplitFields' answer as a row of strings. -/
def SplitRow (s : ByteArray) (w : World) (e : Ending) (w' : World) : Prop :=
  ∃ (v : Value) (fs : List ByteArray) (ok : Bool), e = .returned (.tuple #[v, .bool ok]) ∧ Tag s ok fs ∧ Hid (StrIn w.heap.size w'.heap.size w' v fs) ∧ fs.length ≤ 24 ∧ Below w.heap.size w w'
theorem SplitRow.of {s : ByteArray} {w : World} {e : Ending} {w' : World} (h : SplitPost 9 s w e w') : SplitRow s w e w' := by
  obtain ⟨v, fs, h1, h2, h3⟩ := h
  have hl : fs.length ≤ 24 := by
    rcases h1 with ⟨ho, hf, _⟩ | ⟨_, hf, _⟩
    · rw [hf]; exact ho.2.2
    · rw [hf]; simp
  rcases h1 with ⟨ho, hf, he⟩ | ⟨ho, hf, he⟩
  · exact ⟨v, fs, true, he, .inl ⟨rfl, ho, hf⟩, StrIn.of_owns h2 (by omega), hl, h3⟩
  · exact ⟨v, fs, false, he, .inr ⟨rfl, ho, hf⟩, StrIn.of_owns h2 (by omega), hl, h3⟩
theorem SplitRow.same {s : ByteArray} {f1 f2 : List ByteArray} {o1 o2 : Bool} (h1 : Tag s o1 f1) (h2 : Tag s o2 f2) : o2 = o1 ∧ f2 = f1 := by
  rcases h1 with ⟨a, b, c⟩ | ⟨a, b, c⟩ <;> rcases h2 with ⟨d, e, f⟩ | ⟨d, e, f⟩
  · exact ⟨by rw [a, d], by rw [c, f]⟩
  · exact absurd b e
  · exact absurd e b
  · exact ⟨by rw [a, d], by rw [c, f]⟩

set_option maxHeartbeats 400000 in
theorem ExactSplit_walk (s : ByteArray) (w : World) (hm : s.size ≤ maxLen) :
    Calls Try.prog 6 #[.string s] w fun e w' => e = .returned (.bool true) ∧ Below w.heap.size w w' := by
  have hl : s.size ≤ 9223372036854775807 := by unfold maxLen at hm; omega
  clear hm
  by_cases h1 : s.size ≤ 1048576
  · go_enter Try.func6, Try.ntmps6
    go_wp2_with fail
    refine (SpecSplit_any s w hl).mono ?_
    intro e w1 hp
    obtain ⟨v0, f0, o0, rfl, c0, r0, n0, hb1⟩ := SplitRow.of hp
    clear hp
    go_wp2_with fail
    refine (ImplSplit_any s w1 hl).mono ?_
    intro e w2 hp
    obtain ⟨v1, f1, o1, rfl, c1, r1, n1, hb2⟩ := SplitRow.of hp
    clear hp
    obtain ⟨rfl, rfl⟩ := SplitRow.same c0 c1
    have z1 := hb1.size
    have z2 := hb2.size
    go_wp2_with fail
    refine (EqS_any w1.heap.size w2.heap.size w.heap.size w1.heap.size v1 v0 f1 w2 r1.out (r0.out.below hb2)).mono ?_
    rintro e w3 ⟨rfl, hb3⟩
    have z3 := hb3.size
    cases o1
    all_goals
      go_wp2_with fail
      refine (MarkS_any w1.heap.size w2.heap.size v1 f1 1 w3 (r1.out.below hb3) (by omega) (by omega) (by omega) (by omega)).mono ?_
      rintro e w4 ⟨rfl, r4, hb4⟩
      have R4 := Lib.hid r4
      clear r4
      have z4 := hb4.size
      go_wp2_with fail
      refine (HeldS_any w1.heap.size w2.heap.size v1 f1.length 1 w4 R4.out (by omega) (by omega) (by omega)).mono ?_
      rintro e w5 ⟨rfl, hb5⟩
      have z5 := hb5.size
      go_wp2_with fail
      refine (ImplSplit_any s w5 hl).mono ?_
      intro e w6 hp
      obtain ⟨v2, f2, o2, rfl, c2, r2, n2, hb6⟩ := SplitRow.of hp
      clear hp
      obtain ⟨rfl, rfl⟩ := SplitRow.same c0 c2
      have z6 := hb6.size
      have r0' : StrIn w.heap.size w1.heap.size w6 v0 f2 := ((((r0.out.below hb2).below (hb3.mono (by omega))).below hb4).below (hb5.mono (by omega))).below (hb6.mono (by omega))
      have R0 := Lib.hid r0'
      clear r0'
      go_wp2_with fail
      refine (EqS_any w5.heap.size w6.heap.size w.heap.size w1.heap.size v2 v0 f2 w6 r2.out R0.out).mono ?_
      rintro e w7 ⟨rfl, hb7⟩
      have z7 := hb7.size
      have R7 := Lib.hid (((R4.out.below (hb5.mono (by omega))).below (hb6.mono (by omega))).below (hb7.mono (by omega)))
      go_wp2_with fail
      refine (HeldS_any w1.heap.size w2.heap.size v1 f2.length 1 w7 R7.out (by omega) (by omega) (by omega)).mono ?_
      rintro e w8 ⟨rfl, hb8⟩
      go_wp2_with fail
      go_ret
      exact ⟨rfl, ((((((hb1.trans (hb2.mono (by omega))).trans (hb3.mono (by omega))).trans (hb4.mono (by omega))).trans (hb5.mono (by omega))).trans (hb6.mono (by omega))).trans (hb7.mono (by omega))).trans (hb8.mono (by omega))⟩
  · go_enter Try.func6, Try.ntmps6
    go_wp2_with fail
    go_ret
    exact ⟨rfl, Below.refl _ _⟩
end Go.Proofs.Ythnelahnlinbnaa
