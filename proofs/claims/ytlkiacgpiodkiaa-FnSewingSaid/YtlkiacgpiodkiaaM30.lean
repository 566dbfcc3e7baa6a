/- Cuts: the model's CutsOf. Cuts: the program's isOnBothSides, endOf and hasCut. Cuts: a part; a patch is added; the program's partAt. -/
import Derived.Test.YtlkiacgpiodkiaaM28
import Derived.Test.YtlkiacgpiodkiaaM12
import Derived.Test.YtlkiacgpiodkiaaM10
import Derived.Test.YtlkiacgpiodkiaaM09
import Derived.Test.YtlkiacgpiodkiaaM11
import Derived.Test.YtlkiacgpiodkiaaM13
import Derived.Test.YtlkiacgpiodkiaaLayD
import Derived.Deep.RegionLaw
import Derived.Deep.RegionHeld3

set_option linter.unusedSimpArgs false
set_option linter.unusedVariables false
namespace Go.Proofs.Ytlkiacgpiodkiaa
open Go.ChangeShapes Go.WideShapes Go.ChangeAt Go.RowKit

theorem c24_v (k : Nat) : c24 k = ⟨decide ((k : Int) < 12), (k : Int) % 12⟩ := C2.ext' (by simp [c24]; omega) (by simp [c24])

set_option maxHeartbeats 6400000 in
set_option maxRecDepth 20000 in
theorem SpecCutsOf_any (lo hi : Nat) (m n : Int) (v : Value) (xs : List P5) (w : World) (r : PatIn lo hi w v xs) (hhi : hi ≤ w.heap.size) :
    Calls Try.prog 54 #[.agg #[.int .i64 m, .int .i64 n, v]] w (FreshCut (cutsB m n xs) w) := by
  obtain ⟨i0, hi0, hz0, hz1, hz2⟩ := info_parts3 info_Cut
  obtain ⟨b, cap, rfl⟩ := r.form
  have R := Lib.hid r
  have LK : Hid (∀ u : World, Below w.heap.size w u → Calls Try.prog 50 #[.agg #[.int .i64 m, .int .i64 n, .slice b xs.length cap]] u fun e w' => e = .returned (.bool (layB m n xs)) ∧ Below u.heap.size u w') := Lib.hid (fun u hb => SpecLayoutOk_any lo hi m n _ xs u (r.below (hb.mono hhi)) (Nat.le_trans hhi hb.size))
  have IC : Hid (∀ (k : Nat) (u : World), Below w.heap.size w u → Calls Try.prog 57 #[.agg #[.int .i64 m, .int .i64 n, .slice b xs.length cap], .agg #[.bool (decide ((k : Int) < 12)), .int .i64 ((k : Int) % 12)]] u fun e w' => e = .returned (.bool (cutB m n xs (c24 k))) ∧ Below u.heap.size u w') := Lib.hid (fun k u hb => by rw [c24_v]; exact SpecIsCut_any lo hi m n _ xs _ _ u (r.below (hb.mono hhi)) (Nat.le_trans hhi hb.size))
  clear r
  have HB0 : Hid (Below w.heap.size w ((w.alloc (.cells #[.int .i64 m, .int .i64 n, .slice b xs.length cap] 50)).alloc (.cells #[] 86))) := Lib.hid (bel_n (bel0 w _) (Nat.le_refl _) _)
  have HO0 : Hid (((w.alloc (.cells #[.int .i64 m, .int .i64 n, .slice b xs.length cap] 50)).alloc (.cells #[] 86)).ownsRow (w.heap.size + 1) 86 2 (.slice (some ⟨w.heap.size + 1, 0, none⟩) 0 0) 0 []) := Lib.hid (by
    have := World.ownsRow_lit (base := w.heap.size + 1) (e := 86) (size := 2) (w.alloc (.cells #[.int .i64 m, .int .i64 n, .slice b xs.length cap] 50)) #[] 0 (by simp) (by decide) rfl
    simpa using this)
  by_cases h : layB m n xs = false
  · rw [cuts_no h]
    rw [h] at LK
    clear h
    go_enter Try.func54, Try.ntmps54
    go_wp2_with fail
    refine (LK.out _ HB0.out).mono ?_
    rintro e w1 ⟨rfl, hb1⟩
    have HBZ := Lib.hid (bel_c HB0.out (Nat.le_refl _) hb1)
    clear hb1
    go_wp2_with fail
    go_ret
    exact ⟨_, rfl, ⟨by simp, .inl ⟨rfl, _, _, rfl⟩⟩, HBZ.out⟩
  · have h' : layB m n xs = true := by simpa using h
    obtain ⟨f, hf⟩ : ∃ f, f = hasC m n xs := ⟨_, rfl⟩
    have HE : Hid (cutsB m n xs = cutK f 24) := Lib.hid (by rw [cuts_yes h', hf]; rfl)
    have IC2 : Hid (∀ (k : Nat) (u : World), Below w.heap.size w u → Calls Try.prog 57 #[.agg #[.int .i64 m, .int .i64 n, .slice b xs.length cap], .agg #[.bool (decide ((k : Int) < 12)), .int .i64 ((k : Int) % 12)]] u fun e w' => e = .returned (.bool (f (c24 k))) ∧ Below u.heap.size u w') := Lib.hid (fun k u hb => by
      have := IC.out k u hb
      rwa [← cut_lay h', ← hf] at this)
    rw [HE.out]
    rw [h'] at LK
    clear h h' hf IC HE
    go_enter Try.func54, Try.ntmps54
    go_wp2_with fail
    refine (LK.out _ HB0.out).mono ?_
    rintro e w1 ⟨rfl, hb1⟩
    have b0 := kept (p := ⟨w.heap.size, 0, none⟩) (x := .int .i64 m) hb1 (by go_simp)
    have b1 := kept (p := ⟨w.heap.size, 1, none⟩) (x := .int .i64 n) hb1 (by go_simp)
    have b2 := kept (p := ⟨w.heap.size, 2, none⟩) (x := .slice b xs.length cap) hb1 (by go_simp)
    have HO1 := Lib.hid (owL HO0.out hb1)
    have HB1 := Lib.hid (bel_c HB0.out (Nat.le_refl _) hb1)
    have HBL : Hid (Below (w.heap.size + 1) (w.alloc (.cells #[.int .i64 m, .int .i64 n, .slice b xs.length cap] 50)) w1) := Lib.hid (by have h1 := bel0 (w.alloc (.cells #[.int .i64 m, .int .i64 n, .slice b xs.length cap] 50)) (.cells #[] 86); rw [show (w.alloc (.cells #[.int .i64 m, .int .i64 n, .slice b xs.length cap] 50)).heap.size = w.heap.size + 1 by simp] at h1; exact bel_c h1 (by simp) hb1)
    have hs1 := hb1.size
    simp at hs1
    clear hb1 HO0 HB0 LK
    go_wp2_with fail
    go_loopw [3, 4] (fun s i wr => ∃ (k : Nat) (v : Value), k ≤ 24 ∧ i = .int .i64 k ∧ v = s ∧ Hid (wr.ownsRow (w.heap.size + 1) 86 2 v (cutK f k).length (placesCut (cutK f k))) ∧ Below (w.heap.size + 1) (w.alloc (.cells #[.int .i64 m, .int .i64 n, .slice b xs.length cap] 50)) wr) (fun _ i _ => 24 - (intOf i).toNat)
    case atStart => exact ⟨0, _, by omega, rfl, rfl, HO1, HBL.out⟩
    case round =>
      obtain ⟨k, v, hk, rfl, rfl, hown, hbel⟩ := hrel
      have hsz := hbel.size
      simp at hsz
      have b0 : wr.cell? ⟨w.heap.size, 0, none⟩ = some (.int .i64 m) := (hbel.cell (p := ⟨w.heap.size, 0, none⟩) (Nat.lt_succ_self _)).trans (by simp)
      have b1 : wr.cell? ⟨w.heap.size, 1, none⟩ = some (.int .i64 n) := (hbel.cell (p := ⟨w.heap.size, 1, none⟩) (Nat.lt_succ_self _)).trans (by simp)
      have b2 : wr.cell? ⟨w.heap.size, 2, none⟩ = some (.slice b xs.length cap) := (hbel.cell (p := ⟨w.heap.size, 2, none⟩) (Nat.lt_succ_self _)).trans (by simp)
      by_cases hlt : k < 24
      · have hlt' : (k : Int) < 24 := by omega
        have HL : Hid ((cutK f k).length ≤ 24) := Lib.hid (by have := cutK_len f k; omega)
        have b0' := kept (bel0 wr (.cells #[.bool (decide ((k : Int) < 12)), .int .i64 ((k : Int) % 12)] 86)) b0
        have b1' := kept (bel0 wr (.cells #[.bool (decide ((k : Int) < 12)), .int .i64 ((k : Int) % 12)] 86)) b1
        have b2' := kept (bel0 wr (.cells #[.bool (decide ((k : Int) < 12)), .int .i64 ((k : Int) % 12)] 86)) b2
        have HW : Hid (Below (w.heap.size + 1) (w.alloc (.cells #[.int .i64 m, .int .i64 n, .slice b xs.length cap] 50)) (wr.alloc (.cells #[.bool (decide ((k : Int) < 12)), .int .i64 ((k : Int) % 12)] 86))) := Lib.hid (bel_n hbel (by simp) _)
        have HWW : Hid (Below w.heap.size w (wr.alloc (.cells #[.bool (decide ((k : Int) < 12)), .int .i64 ((k : Int) % 12)] 86))) := Lib.hid ((bel0 w _).trans (HW.out.mono (Nat.le_succ _)))
        have HO2 := Lib.hid (owL hown.out (bel0 wr (.cells #[.bool (decide ((k : Int) < 12)), .int .i64 ((k : Int) % 12)] 86)))
        have e24 := c24_v k
        clear hown hbel
        by_cases hz : f (c24 k) = true
        · have HY := Lib.hid (cutK_yes (f := f) (k := k) hz)
          rw [e24] at HY
          clear e24
          go_wp2_with fail
          refine (IC2.out k _ HWW.out).mono ?_
          rw [hz]
          rintro e w2 ⟨rfl, hb1⟩
          have c0 := kept (p := ⟨wr.heap.size, 0, none⟩) (x := .bool (decide ((k : Int) < 12))) hb1 (by go_simp)
          have c1 := kept (p := ⟨wr.heap.size, 1, none⟩) (x := .int .i64 ((k : Int) % 12)) hb1 (by go_simp)
          have HO3 := Lib.hid (owL HO2.out hb1)
          have HW2 := Lib.hid (bel_c HW.out (by simp) hb1)
          have hs2 := HW2.out.size
          simp at hs2
          clear hb1 HO2 HW HWW
          have HO4 := Lib.hid (owL HO3.out (bel0 w2 (.cells #[.bool (decide ((k : Int) < 12)), .int .i64 ((k : Int) % 12)] 86)))
          have HNW := Lib.hid (newsL w2 w2.heap.size #[.bool (decide ((k : Int) < 12)), .int .i64 ((k : Int) % 12)] 86 rfl)
          have HBS : Hid (w.heap.size + 1 ≤ (w2.alloc (.cells #[.bool (decide ((k : Int) < 12)), .int .i64 ((k : Int) % 12)] 86)).heap.size) := Lib.hid (by simp; omega)
          have HBE : Hid (Below (w.heap.size + 1) (w.alloc (.cells #[.int .i64 m, .int .i64 n, .slice b xs.length cap] 50)) (w2.alloc (.cells #[.bool (decide ((k : Int) < 12)), .int .i64 ((k : Int) % 12)] 86))) := Lib.hid (bel_n HW2.out (by simp) _)
          have hL := HL.out
          generalize (cutK f k).length = L at hL HO4 HL
          clear HO3 HW2
          go_wp2_with (at_builtin; refine wpList_append_lies _ rfl _ _ 81 rfl (w.heap.size + 1) 86 i0 _ 2 16 Try.underlying81 hi0 hz0 hz1 hz2 rfl (by decide) _ _ _ rfl HO4.out ⟨w2.heap.size, 0, none⟩ 1 1 [.bool (decide ((k : Int) < 12)), .int .i64 ((k : Int) % 12)] rfl rfl HNW.out (by simp [Value.oneCell']) (by omega) (by unfold maxLen; omega) (by omega) HBS.out (w2.heap.size + 1) (by simp) ?_; intro gg cc w5 hown5 hgrow hat hlt5; have hbw := (Below.refl (w.heap.size + 1) _).grown hgrow HBS.out (ogL HO4.out))
          have HN : Hid (w5.ownsRow (w.heap.size + 1) 86 2 (.slice (some ⟨gg, 0, none⟩) (L + 1) cc) (cutK f (k + 1)).length (placesCut (cutK f (k + 1)))) := Lib.hid (by
            rw [HY.out, placesCut_append, List.length_append]
            have hLL := HO4.out.1
            rw [placesCut_length] at hLL
            rw [show (cutK f k).length = L by omega]
            exact hown5)
          have HB6 := Lib.hid (HBE.out.trans hbw)
          clear hown5 hgrow hat hlt5 hbw HO4 HNW HBE HY
          go_wp2_with fail
          go_roundw
          case rel => exact ⟨k + 1, _, by omega, by go_num, rfl, HN, HB6.out⟩
          case measure => simp [intOf] <;> omega
        · have hz' : f (c24 k) = false := by simpa using hz
          have HY : Hid (cutK f (k + 1) = cutK f k) := Lib.hid (cutK_no hz')
          clear e24
          go_wp2_with fail
          refine (IC2.out k _ HWW.out).mono ?_
          rw [hz']
          rintro e w2 ⟨rfl, hb1⟩
          have HO3 : Hid (w2.ownsRow (w.heap.size + 1) 86 2 v (cutK f (k + 1)).length (placesCut (cutK f (k + 1)))) := Lib.hid (by rw [HY.out]; exact owL HO2.out hb1)
          have HW2 := Lib.hid (bel_c HW.out (by simp) hb1)
          clear hb1 HO2 HW HWW HY
          go_wp2_with fail
          go_roundw
          case rel => exact ⟨k + 1, _, by omega, by go_num, rfl, HO3, HW2.out⟩
          case measure => simp [intOf] <;> omega
      · obtain rfl : k = 24 := by omega
        have hin : CutIn (w.heap.size + 1) wr.heap.size wr v (cutK f 24) := CutIn.of_owns hown.out (by have := cutK_len f 24; omega)
        have HI := Lib.hid (hin.wide (lo' := w.heap.size) (hi' := wr.heap.size) (by omega) (Nat.le_refl _))
        have HBZ : Hid (Below w.heap.size w wr) := Lib.hid ((bel0 w _).trans (hbel.mono (by omega)))
        clear hin hown hbel
        go_wp2_with fail
        go_ret
        exact ⟨_, rfl, HI.out, HBZ.out⟩

end Go.Proofs.Ytlkiacgpiodkiaa

set_option linter.unusedSimpArgs false
set_option linter.unusedVariables false
namespace Go.Proofs.Ytlkiacgpiodkiaa
open Go.ChangeShapes Go.WideShapes Go.ChangeAt Go.RowKit

end Go.Proofs.Ytlkiacgpiodkiaa

set_option linter.unusedSimpArgs false
set_option linter.unusedVariables false
namespace Go.Proofs.Ytlkiacgpiodkiaa
open Go.ChangeShapes Go.WideShapes Go.ChangeAt Go.RowKit

/-- A part's box. -/
def BoxQ (p : Nat) (m n : Int) (v : Value) (l t : Int) (u : World) : Prop := (u.cell? ⟨p, 0, none⟩ = some (.int .i64 m) ∧ u.cell? ⟨p, 1, none⟩ = some (.int .i64 n) ∧ u.cell? ⟨p, 2, none⟩ = some (v) ∧ u.cell? ⟨p, 3, none⟩ = some (.int .i64 l) ∧ u.cell? ⟨p, 4, none⟩ = some (.int .i64 t)) ∧ u.frozen? ⟨p, 0, none⟩ = false ∧ u.frozen? ⟨p, 1, none⟩ = false ∧ u.frozen? ⟨p, 2, none⟩ = false ∧ u.frozen? ⟨p, 3, none⟩ = false ∧ u.frozen? ⟨p, 4, none⟩ = false
theorem BoxQ.lt {p : Nat} {m n : Int} {v : Value} {l t : Int} {u : World} (h : BoxQ p m n v l t u) : p < u.heap.size := lt_of_cell h.1.1
theorem BoxQ.new (w : World) (m n : Int) (v : Value) (l t : Int) (T : TypeId) : BoxQ w.heap.size m n v l t (w.alloc (.cells #[.int .i64 m, .int .i64 n, v, .int .i64 l, .int .i64 t] T)) := by
  unfold BoxQ; simp
theorem BoxQ.at {p : Nat} {m n : Int} {v : Value} {l t : Int} {u w : World} (h : BoxQ p m n v l t u) (hc : w.heap[p]? = u.heap[p]?) : BoxQ p m n v l t w := by
  obtain ⟨⟨h0, h1, h2, h3, h4⟩, f0, f1, f2, f3, f4⟩ := h
  exact ⟨⟨(World.cell?_of_block (w := u) hc).trans h0, (World.cell?_of_block (w := u) hc).trans h1, (World.cell?_of_block (w := u) hc).trans h2, (World.cell?_of_block (w := u) hc).trans h3, (World.cell?_of_block (w := u) hc).trans h4⟩, (World.frozen?_of_block (w := u) hc).trans f0, (World.frozen?_of_block (w := u) hc).trans f1, (World.frozen?_of_block (w := u) hc).trans f2, (World.frozen?_of_block (w := u) hc).trans f3, (World.frozen?_of_block (w := u) hc).trans f4⟩
theorem BoxQ.below {p B : Nat} {m n : Int} {v : Value} {l t : Int} {u w : World} (h : BoxQ p m n v l t u) (hb : Below B u w) (hp : p < B) : BoxQ p m n v l t w := h.at (hb.block p hp)
theorem BoxQ.far {p : Nat} {m n : Int} {v : Value} {l t : Int} {u : World} (h : BoxQ p m n v l t u) {q : Addr} (hq : q.block ≠ p) (x : Value) : BoxQ p m n v l t (u.setCell q x) := h.at (Below.heap_setCell _ _ _ _ (Ne.symm hq))
theorem BoxQ.store {p : Nat} {m n : Int} {v : Value} {l t : Int} {u : World} (h : BoxQ p m n v l t u) (x : Value) : BoxQ p m n x l t (u.setCell ⟨p, 2, none⟩ x) := by
  obtain ⟨⟨h0, h1, h2, h3, h4⟩, f0, f1, f2, f3, f4⟩ := h
  exact ⟨⟨(World.cell?_setCell_other _ _ _ _ (by simp)).trans h0, (World.cell?_setCell_other _ _ _ _ (by simp)).trans h1, World.cell?_setCell_same _ _ _ h2, (World.cell?_setCell_other _ _ _ _ (by simp)).trans h3, (World.cell?_setCell_other _ _ _ _ (by simp)).trans h4⟩, (World.frozen?_setCell _ _ _ _).trans f0, (World.frozen?_setCell _ _ _ _).trans f1, (World.frozen?_setCell _ _ _ _).trans f2, (World.frozen?_setCell _ _ _ _).trans f3, (World.frozen?_setCell _ _ _ _).trans f4⟩
/-- What adding keeps. -/
def AddIs (pb : Nat) (m n : Int) (l t : Int) (ys : List P5) (u : World) (e : Ending) (u' : World) : Prop :=
  e = .returned (.tuple #[]) ∧ ∃ v, BoxQ pb m n v l t u' ∧ u'.ownsRow (pb + 1) 73 5 v ys.length (placesPat ys) ∧ Below pb u u' ∧ u.heap.size ≤ u'.heap.size
/-- A part is handed back. -/
def PartIs (W H l t : Int) (xs : List P5) (w : World) (e : Ending) (w' : World) : Prop :=
  ∃ v, e = .returned (.agg #[.int .i64 W, .int .i64 H, v, .int .i64 l, .int .i64 t]) ∧ PatIn w.heap.size w'.heap.size w' v (restr l t W H xs) ∧ Below w.heap.size w w'
theorem restr_len (l t W H : Int) (xs : List P5) : (restr l t W H xs).length ≤ xs.length := by
  have := List.length_filter_le (fitB W H) (xs.map (mv l t))
  rw [List.length_map] at this
  unfold restr; omega
theorem restr_succ {l t W H : Int} {xs : List P5} {k : Nat} (hk : k < xs.length) {d : P5} (hd : d = pat xs k) : restr l t W H (xs.take (k + 1)) = if fitB W H (mv l t d) then restr l t W H (xs.take k) ++ [mv l t d] else restr l t W H (xs.take k) := by
  rw [List.take_succ_eq_append_getElem hk, ← pat_get hk, ← hd]
  unfold restr
  rw [List.map_append, List.filter_append]
  by_cases z : fitB W H (mv l t d) <;> simp [z]

end Go.Proofs.Ytlkiacgpiodkiaa
