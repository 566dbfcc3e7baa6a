/- Joins: the program's unitsOf. -/
import Derived.Test.YtboahceibeeifaaJnIf
import Derived.Test.YtboahceibeeifaaJnR
import Derived.Test.YtboahceibeeifaaLayIk
import Derived.Deep.RegionLaw
import Derived.Deep.RegionHeld3
set_option linter.unusedSimpArgs false
set_option linter.unusedVariables false
namespace Go.Proofs.Ytboahceibeeifaa
open Go.ChangeShapes Go.WideShapes Go.ChangeAt Go.RowKit

theorem info_Un : (Try.prog.info? 76).map (fun i => (i.zero, i.size, i.bytes)) = some (some (.agg #[.int .i64 0, .int .i64 0, .int .i64 0, .int .i64 0, .int .i64 0, .bool false]), 6, 48) := by kernel_rfl
/-- A row of units that is owned. -/
def OwnU (b : Nat) (w : World) (v : Value) (us : List U6) : Prop := w.ownsRow b 76 6 v us.length (placesUn us)
theorem OwnU.nil (b : Nat) (w : World) : OwnU b w (.slice none 0 0) [] := World.ownsRow_nil _ _ _ _
theorem OwnU.row {b : Nat} {w : World} {v : Value} {us : List U6} (h : OwnU b w v us) (hl : us.length ≤ 1048576) : UnIn b w.heap.size w v us := UnIn.of_owns h hl
theorem OwnU.below {b : Nat} {w w' : World} {v : Value} {us : List U6} (h : OwnU b w v us) (hb : Below w.heap.size w w') : OwnU b w' v us := owL h hb
theorem OwnU.more {b g n c : Nat} {w : World} {us : List U6} {u : U6} (h : w.ownsRow b 76 6 (.slice (some ⟨g, 0, none⟩) n c) n (placesUn us ++ [.int .i64 u.x, .int .i64 u.y, .int .i64 u.w, .int .i64 u.h, .int .i64 u.c, .bool u.j])) : OwnU b w (.slice (some ⟨g, 0, none⟩) n c) (us ++ [u]) := by
  have h1 := h.1
  simp [placesUn_length] at h1
  unfold OwnU
  rw [placesUn_append, show placesUn [u] = [.int .i64 u.x, .int .i64 u.y, .int .i64 u.w, .int .i64 u.h, .int .i64 u.c, .bool u.j] from rfl, show (us ++ [u]).length = n by simp; omega]
  exact h
theorem placesUn_use : ∀ (us : List U6) (A : Nat), A < us.length → placesUn (us.set A (un us A).u) = (placesUn us).set (A * 6 + 5) (.bool true)
  | [], A, h => by simp at h
  | u :: r, 0, _ => rfl
  | u :: r, A + 1, h => by
    have ih := placesUn_use r A (by simpa using h)
    have e : ∀ (x : U6) (s : List U6), placesUn (x :: s) = .int .i64 x.x :: .int .i64 x.y :: .int .i64 x.w :: .int .i64 x.h :: .int .i64 x.c :: .bool x.j :: placesUn s := fun _ _ => rfl
    rw [List.set_cons_succ, e, e, show (A + 1) * 6 + 5 = (A * 6 + 5) + 1 + 1 + 1 + 1 + 1 + 1 by omega]
    simp only [List.set_cons_succ]
    rw [← ih]; rfl
theorem OwnU.use {b g c : Nat} {w : World} {us : List U6} (h : OwnU b w (.slice (some ⟨g, 0, none⟩) us.length c) us) (A : Nat) (hA : A < us.length) : OwnU b (w.setCell ⟨g, A * 6 + 5, none⟩ (.bool true)) (.slice (some ⟨g, 0, none⟩) us.length c) (us.set A (un us A).u) := by
  unfold OwnU
  rw [List.length_set, placesUn_use us A hA]
  exact (World.ownsRow.stored h (A * 6 + 5) (.bool true)).1
theorem use_two {us : List U6} {up : Bool} {A B : Nat} (h : A ≠ B) : (us.set A (un us A).u).set B (un (us.set A (un us A).u) B).u = useJ us ⟨up, A, B⟩ := by
  have e : un (us.set A (un us A).u) B = un us B := by
    unfold un; rw [List.getD_eq_getElem?_getD, List.getElem?_set_ne h, ← List.getD_eq_getElem?_getD]
  rw [e]; simp [useJ]
theorem useP {us : List U6} {j : J3} (h : FitJ us j) (i : Nat) : (un (useJ us j) i).p = (un us i).p := by
  rw [un_use h]; split <;> rfl
theorem OwnU.patch {b g n c : Nat} {w : World} {us : List U6} {j : J3} (h : OwnU b w (.slice (some ⟨g, 0, none⟩) n c) (useJ us j)) (hf : FitJ us j) (hl : us.length ≤ 24) {A : Nat} (hA : A < us.length) {p : P5} (hp : p = (un us A).p) :
    w.cell? ⟨g, A * 6, none⟩ = some (.int .i64 p.x) ∧ w.cell? ⟨g, A * 6 + 1, none⟩ = some (.int .i64 p.y) ∧ w.cell? ⟨g, A * 6 + 2, none⟩ = some (.int .i64 p.w) ∧ w.cell? ⟨g, A * 6 + 3, none⟩ = some (.int .i64 p.h) ∧ w.cell? ⟨g, A * 6 + 4, none⟩ = some (.int .i64 p.c) := by
  obtain ⟨g', hg, _, _, ⟨q0, q1, q2, q3, q4, _⟩, _⟩ := (h.row (by rw [useJ_len]; omega)).at (Below.refl _ _) (i := A) (by rw [useJ_len]; exact hA)
  obtain rfl : g = g' := by simpa using hg
  rw [hp, ← useP hf A]
  exact ⟨q0, q1, q2, q3, q4⟩
/-- A new row of units is handed back. -/
def FreshUn (us : List U6) (w : World) (e : Ending) (w' : World) : Prop := ∃ v, e = .returned v ∧ UnIn w.heap.size w'.heap.size w' v us ∧ Below w.heap.size w w'
theorem mapU_succ {xs : List P5} {k : Nat} (hk : k < xs.length) : (xs.take (k + 1)).map mkU = (xs.take k).map mkU ++ [mkU (pat xs k)] := by
  rw [List.take_succ_eq_append_getElem hk, List.map_append, pat_get hk]; rfl

set_option maxHeartbeats 6400000 in
set_option maxRecDepth 20000 in
theorem ImplUnits_any (lo hi : Nat) (m n : Int) (v : Value) (xs : List P5) (lo2 hi2 : Nat) (v2 : Value) (js : List J3) (wf : ∀ c ∈ xs, c.Wf) (w : World) (r : PatIn lo hi w v xs) (hhi : hi ≤ w.heap.size) (r2 : JnIn lo2 hi2 w v2 js) (hhi2 : hi2 ≤ w.heap.size) :
    Calls Try.prog 41 #[.agg #[.int .i64 m, .int .i64 n, v], v2] w (FreshUn (unL m n xs js) w) := by
  obtain ⟨i0, hi0, hz0, hz1, hz2⟩ := info_parts3 info_Un
  obtain ⟨b, cap, rfl⟩ := r.form
  obtain ⟨b2, cap2, rfl⟩ := r2.form
  have R := Lib.hid r
  have R2 := Lib.hid r2
  have hl := r.1
  have hl2 := r2.1
  have LK : Hid (∀ u : World, Below w.heap.size w u → Calls Try.prog 40 #[.agg #[.int .i64 m, .int .i64 n, .slice b xs.length cap]] u fun e w' => e = .returned (.bool (layB m n xs)) ∧ Below u.heap.size u w') := Lib.hid (fun u hb => ImplLayoutOk_any lo hi m n _ xs u (r.below (hb.mono hhi)) (Nat.le_trans hhi hb.size) wf)
  have HB0 : Hid (Below w.heap.size w (w.alloc (.cells #[.int .i64 m, .int .i64 n, .slice b xs.length cap] 26))) := Lib.hid (bel0 w _)
  clear r r2 wf
  by_cases hlay : layB m n xs = true
  · rw [hlay] at LK
    have HU : Hid (unF (xs.map mkU) js = unL m n xs js) := Lib.hid (unL_yes hlay).symm
    have HL := Lib.hid (lay_of hlay)
    have hx12 := (lay_of hlay).2.2.1.2
    have hm12 := (lay_of hlay).1.2
    have hn12 := (lay_of hlay).2.1.2
    clear hlay
    generalize unL m n xs js = U at HU
    go_enter Try.func41, Try.ntmps41
    go_wp2_with fail
    refine (LK.out _ HB0.out).mono ?_
    rintro e w1 ⟨rfl, hb1⟩
    have a2 := kept (p := ⟨w.heap.size, 2, none⟩) (x := .slice b xs.length cap) hb1 (by go_simp)
    have HB1 := Lib.hid (bel_c HB0.out (Nat.le_refl _) hb1)
    clear hb1 HB0 LK
    go_wp2_with fail
    clear a2
    go_loopw [5, 18] (fun q i wr => ∃ k : Nat, k ≤ xs.length ∧ i = .int .i64 k ∧ Hid (OwnU w.heap.size wr q ((xs.take k).map mkU)) ∧ Hid (Below w.heap.size w wr)) (fun _ i _ => xs.length - (intOf i).toNat)
    case atStart => exact ⟨0, Nat.zero_le _, rfl, Lib.hid (OwnU.nil _ _), HB1⟩
    case round =>
      clear HB1
      obtain ⟨k, hk, rfl, hown, hbel⟩ := hrel
      by_cases hlt : k < xs.length
      · obtain ⟨g, rfl, hg, hg1, ⟨q0, q1, q2, q3, q4⟩, _⟩ := R.out.at (hbel.out.mono hhi) hlt
        have HN := Lib.hid (mapU_succ hlt)
        obtain ⟨d, hd⟩ : ∃ d, d = pat xs k := ⟨_, rfl⟩
        rw [show xs.getD k P5.zero = d from hd.symm] at q0 q1 q2 q3 q4
        rw [← hd] at HN
        have BX := bel_n (bel0 wr (.cells #[.int .i64 d.x, .int .i64 d.y, .int .i64 d.w, .int .i64 d.h, .int .i64 d.c] 34)) (Nat.le_refl _) (.cells #[.int .i64 d.x, .int .i64 d.y, .int .i64 d.w, .int .i64 d.h, .int .i64 d.c, .bool false] 76)
        have HO := Lib.hid (hown.out.below BX)
        have HBB := Lib.hid (bel_c hbel.out (Nat.le_refl _) BX)
        have HS := Lib.hid HBB.out.size
        have HNW : Hid (∀ (j : Nat) u, ([.int .i64 d.x, .int .i64 d.y, .int .i64 d.w, .int .i64 d.h, .int .i64 d.c, .bool false] : List Value)[j]? = some u → ((wr.alloc (.cells #[.int .i64 d.x, .int .i64 d.y, .int .i64 d.w, .int .i64 d.h, .int .i64 d.c] 34)).alloc (.cells #[.int .i64 d.x, .int .i64 d.y, .int .i64 d.w, .int .i64 d.h, .int .i64 d.c, .bool false] 76)).cell? ((⟨wr.heap.size + 1, 0, none⟩ : Addr).add j) = some u) := Lib.hid (newsL (wr.alloc (.cells #[.int .i64 d.x, .int .i64 d.y, .int .i64 d.w, .int .i64 d.h, .int .i64 d.c] 34)) (wr.heap.size + 1) #[.int .i64 d.x, .int .i64 d.y, .int .i64 d.w, .int .i64 d.h, .int .i64 d.c, .bool false] 76 (by simp))
        have hL1 : ((xs.take k).map mkU).length = k := by simp; omega
        have HL1 := Lib.hid hL1
        have HO' : Hid (((wr.alloc (.cells #[.int .i64 d.x, .int .i64 d.y, .int .i64 d.w, .int .i64 d.h, .int .i64 d.c] 34)).alloc (.cells #[.int .i64 d.x, .int .i64 d.y, .int .i64 d.w, .int .i64 d.h, .int .i64 d.c, .bool false] 76)).ownsRow w.heap.size 76 6 u5 k (placesUn ((xs.take k).map mkU))) := Lib.hid (by have := HO.out; unfold OwnU at this; rwa [HL1.out] at this)
        clear hd BX hown hbel HO hL1
        go_wp2_with (at_builtin; refine wpList_append_lies _ rfl _ _ 72 rfl w.heap.size 76 i0 _ 6 48 Try.underlying72 hi0 hz0 hz1 hz2 rfl (by decide) _ _ _ rfl HO'.out ⟨wr.heap.size + 1, 0, none⟩ 1 1 [.int .i64 d.x, .int .i64 d.y, .int .i64 d.w, .int .i64 d.h, .int .i64 d.c, .bool false] rfl rfl HNW.out (by simp [Value.oneCell']) (by omega) (by unfold maxLen; omega) (by omega) HS.out (wr.heap.size + 1 + 1) (by simp) ?_; intro gg cc w5 hown5 hgrow hat hlt5; have hbw := (Below.refl w.heap.size _).grown hgrow HS.out (ogL HO'.out))
        have HN5 : Hid (OwnU w.heap.size w5 (.slice (some ⟨gg, 0, none⟩) (k + 1) cc) ((xs.take (k + 1)).map mkU)) := Lib.hid (by rw [HN.out]; exact OwnU.more (u := mkU d) hown5)
        have HB5 := Lib.hid (HBB.out.trans hbw)
        clear hown5 hgrow hat hlt5 hbw HO' HNW HS HBB HN
        go_wp2_with fail
        go_roundw
        case rel => exact ⟨k + 1, by omega, by go_num, HN5, HB5⟩
        case measure => simp [intOf] <;> omega
      · obtain rfl : k = xs.length := by omega
        have HO : Hid (OwnU w.heap.size wr u5 (xs.map mkU)) := Lib.hid (by have := hown.out; rwa [List.take_length] at this)
        have HUK := Lib.hid (UOk.start HL.out)
        have HB2 := hbel
        clear hown hbel hlt hk
        go_wp2_with fail
        go_loopw [5, 30] (fun q i wz => ∃ (k : Nat) (us : List U6), k ≤ js.length ∧ i = .int .i64 k ∧ Hid (OwnU w.heap.size wz q us) ∧ Hid (UOk m n xs.length us) ∧ Hid (unF us (js.drop k) = U) ∧ Hid (Below w.heap.size w wz)) (fun _ i _ => js.length - (intOf i).toNat)
        case atStart => exact ⟨0, _, Nat.zero_le _, rfl, HO, HUK, HU, HB2⟩
        case round =>
          clear HO HUK HU HB2
          obtain ⟨k, us, hk, rfl, hown, huk, hun, hbel⟩ := hrel
          have hu24 := huk.out.le hx12
          have hin := hown.out.row (by omega)
          obtain ⟨aq, cq, rfl⟩ := hin.form
          by_cases hlt : k < js.length
          · obtain ⟨g, rfl, hg, hg1, ⟨e0, e1, e2⟩, _⟩ := R2.out.at (hbel.out.mono hhi2) hlt
            have HN := Lib.hid (fun hf => unF_yes hlt hun.out hf)
            have HM := Lib.hid (fun hf => unF_no hlt hun.out hf)
            obtain ⟨j, hj⟩ : ∃ j, j = jn js k := ⟨_, rfl⟩
            rw [show js.getD k J3.zero = j from hj.symm] at e0 e1 e2
            rw [show jn js k = j from hj.symm] at HN HM
            obtain ⟨up, a, b⟩ := j
            simp only at e0 e1 e2
            clear hj hun
            have BA := bel0 wr (.cells #[.bool up, .int .i64 a, .int .i64 b] 40)
            have HO1 := Lib.hid (hown.out.below BA)
            have HI1 := Lib.hid (hin.below BA)
            have HB1 := Lib.hid (bel_n hbel.out (Nat.le_refl _) (.cells #[.bool up, .int .i64 a, .int .i64 b] 40))
            have hs1 := hbel.out.size
            have HF := Lib.hid (Fits_any _ _ m n xs.length _ us up a b _ hm12 hn12 HI1.out (by simp) huk.out)
            clear hown hbel BA
            by_cases hok : FitJ us ⟨up, a, b⟩
            · rw [show decide (FitJ us ⟨up, a, b⟩) = true from decide_eq_true hok] at HF
              go_wp2_with fail
              refine HF.out.mono ?_
              rintro e w2 ⟨rfl, hb2⟩
              have HY := Lib.hid (HN.out hok)
              have HUK2 := Lib.hid (huk.out.put hok)
              have HFJ := Lib.hid hok
              obtain ⟨⟨a0, a1⟩, ⟨b0, b1⟩, hne, hja, hjb, hsd⟩ := hok
              simp only at a0 a1 b0 b1 hne hja hjb hsd
              obtain ⟨A, rfl⟩ : ∃ A : Nat, a = A := ⟨a.toNat, by omega⟩
              obtain ⟨B, rfl⟩ : ∃ B : Nat, b = B := ⟨b.toNat, by omega⟩
              simp only [Int.toNat_natCast] at hja hjb hsd
              have a2 : A < us.length := by omega
              have b2' : B < us.length := by omega
              have hAB : A ≠ B := by omega
              have HO2 := Lib.hid (HO1.out.below hb2)
              have HB2 := Lib.hid (bel_c HB1.out (Nat.le_refl _) hb2)
              have hi2 := HO2.out.row (by omega)
              obtain ⟨gu, hgu, gu0, gu1, q, _⟩ := hi2.at (Below.refl _ _) a2
              obtain ⟨gu', hgu', _, _, q', _⟩ := hi2.at (Below.refl _ _) b2'
              obtain rfl : gu = gu' := by rw [hgu] at hgu'; simpa using hgu'
              obtain rfl : aq = some ⟨gu, 0, none⟩ := hgu
              have c0 := kept (p := ⟨wr.heap.size, 0, none⟩) (x := .bool up) hb2 (by go_simp)
              have c1 := kept (p := ⟨wr.heap.size, 1, none⟩) (x := .int .i64 A) hb2 (by go_simp)
              have c2 := kept (p := ⟨wr.heap.size, 2, none⟩) (x := .int .i64 B) hb2 (by go_simp)
              obtain ⟨gu2, hgu2, _, gu3, _⟩ := hin.at (Below.refl _ _) a2
              obtain rfl : gu = gu2 := by simpa using hgu2
              have hwr2 : wr.heap.size < w2.heap.size := lt_of_cell c0
              obtain ⟨_, _, _, _, _, q5⟩ := q
              obtain ⟨_, _, _, _, _, p5⟩ := q'
              have HFR := fun j => World.ownsRow.frozenAt HO2.out j
              have fq := HFR (A * 6 + 5)
              have fp := HFR (B * 6 + 5)
              obtain ⟨U1, hU1⟩ : ∃ U, w2.drew.setCell ⟨gu, A * 6 + 5, none⟩ (.bool true) = U := ⟨_, rfl⟩
              have hD : Below w2.heap.size w2 w2.drew := ⟨rfl, rfl, rfl, Nat.le_refl _, fun _ _ => rfl⟩
              have HO3 : Hid (OwnU w.heap.size U1 (.slice (some ⟨gu, 0, none⟩) us.length cq) (us.set A (un us A).u)) := Lib.hid (by rw [← hU1]; exact (HO2.out.below hD).use A a2)
              have hl3 : (us.set A (un us A).u).length = us.length := List.length_set
              have HU3 := Lib.hid hl3
              have p5' : U1.cell? ⟨gu, B * 6 + 5, none⟩ = some (.bool (un us B).j) := by
                rw [← hU1, World.cell?_setCell_other _ _ _ _ (by simp <;> omega)]; exact p5
              have fp' : U1.frozen? ⟨gu, B * 6 + 5, none⟩ = false := by rw [← hU1, World.frozen?_setCell]; exact fp
              obtain ⟨U2, hU2⟩ : ∃ U, U1.setCell ⟨gu, B * 6 + 5, none⟩ (.bool true) = U := ⟨_, rfl⟩
              have HO4 : Hid (OwnU w.heap.size U2 (.slice (some ⟨gu, 0, none⟩) us.length cq) (useJ us ⟨up, A, B⟩)) := Lib.hid (by
                rw [← hU2, ← use_two hAB]
                have h3 := HO3.out
                rw [show us.length = (us.set A (un us A).u).length from HU3.out.symm] at h3 ⊢
                exact h3.use B (by rw [HU3.out]; exact b2'))
              have HBU : Hid (Below w.heap.size w U2) := Lib.hid (by rw [← hU2, ← hU1]; exact Below.setCell (Below.setCell (bel_dr9 HB2.out) (p := ⟨gu, A * 6 + 5, none⟩) gu0 _) (p := ⟨gu, B * 6 + 5, none⟩) gu0 _)
              have HSU : Hid (w2.heap.size ≤ U2.heap.size) := Lib.hid (by rw [← hU2, ← hU1]; simp [World.setCell])
              have k0 : U2.cell? ⟨wr.heap.size, 0, none⟩ = some (.bool up) := by
                rw [← hU2, ← hU1, World.cell?_setCell_other _ _ _ _ (by simp <;> omega), World.cell?_setCell_other _ _ _ _ (by simp <;> omega)]; exact c0
              clear hb2 HO1 HI1 HB1 HF HN HM hi2 hgu' a0 b0 hne e0 e1 e2 hl3 HU3 HO3 hD fp p5 HO2 HB2 hin hgu2 HFR
              go_wp2_with fail
              go_region
              rw [hja] at q5
              rw [hjb] at p5'
              go_wp2_with fail
              clear c0 c1 c2 q5 p5' fq fp' hU1 hU2
              obtain ⟨pa, hpa⟩ : ∃ p, p = (un us A).p := ⟨_, rfl⟩
              obtain ⟨pb, hpb⟩ : ∃ p, p = (un us B).p := ⟨_, rfl⟩
              obtain ⟨q0, q1, q2, q3, q4⟩ := HO4.out.patch HFJ.out hu24 a2 hpa
              obtain ⟨p0, p1, p2, p3, p4⟩ := HO4.out.patch HFJ.out hu24 b2' hpb
              obtain ⟨sp, hsp⟩ : ∃ s, s = sewP up pa pb := ⟨_, rfl⟩
              have HSW : Hid (∀ u : World, Calls Try.prog 67 #[.bool up, .agg #[.int .i64 pa.x, .int .i64 pa.y, .int .i64 pa.w, .int .i64 pa.h, .int .i64 pa.c], .agg #[.int .i64 pb.x, .int .i64 pb.y, .int .i64 pb.w, .int .i64 pb.h, .int .i64 pb.c]] u fun e w' => e = .returned (.agg #[.int .i64 sp.x, .int .i64 sp.y, .int .i64 sp.w, .int .i64 sp.h, .int .i64 sp.c]) ∧ Below u.heap.size u w') := Lib.hid (fun u => by rw [hsp]; exact Sewn_any m n up pa pb u hm12 hn12 (by rw [hpa]; exact huk.out.1 A a2) (by rw [hpb]; exact huk.out.1 B b2'))
              have HPU : Hid (putJ us ⟨up, A, B⟩ = useJ us ⟨up, A, B⟩ ++ [mkU sp]) := Lib.hid (by rw [hsp, hpa, hpb]; simp [putJ])
              have HLU : Hid ((useJ us ⟨up, A, B⟩).length = us.length) := Lib.hid (useJ_len _ _)
              have HO5 : Hid (U2.ownsRow w.heap.size 76 6 (.slice (some ⟨gu, 0, none⟩) us.length cq) us.length (placesUn (useJ us ⟨up, A, B⟩))) := Lib.hid (by have := HO4.out; unfold OwnU at this; rwa [HLU.out] at this)
              have D0 : Below U2.heap.size U2 U2.drew := ⟨rfl, rfl, rfl, Nat.le_refl _, fun _ _ => rfl⟩
              have HD0 := Lib.hid D0
              clear hsp hpa hpb hsd hja hjb HO4 huk D0
              go_region_law (first
                | (go_simp; go_at_call 67; refine (args_eqL (HSW.out _) (by with_reducible rfl)).mono ?_; rintro e y ⟨rfl, hb⟩; have BY := Lib.hid (bel_n (bel_c HD0.out (Nat.le_refl _) hb) (Nat.le_refl _) (.cells #[.int .i64 sp.x, .int .i64 sp.y, .int .i64 sp.w, .int .i64 sp.h, .int .i64 sp.c, .bool false] 76)); have HO6 := Lib.hid (owL HO5.out BY.out); have HNW := Lib.hid (newsL y y.heap.size #[.int .i64 sp.x, .int .i64 sp.y, .int .i64 sp.w, .int .i64 sp.h, .int .i64 sp.c, .bool false] 76 rfl); have HB6 := Lib.hid (bel_c HBU.out (Nat.le_refl _) BY.out); have HS6 := Lib.hid HB6.out.size; clear hb)
                | (refine step_append_lies _ (by rfl) _ _ _ (by rfl) w.heap.size 76 i0 _ 6 48 Try.underlying72 hi0 hz0 hz1 hz2 rfl (by omega) _ us.length _ (by rfl) HO6.out ⟨y.heap.size, 0, none⟩ 1 1 [.int .i64 sp.x, .int .i64 sp.y, .int .i64 sp.w, .int .i64 sp.h, .int .i64 sp.c, .bool false] (by rfl) (by rfl) HNW.out (by simp [Value.oneCell']) (by omega) (by unfold maxLen; omega) (by omega) HS6.out (y.heap.size + 1) (by simp) ?_; intro gg cc w5 hown5 hgrow hat hlt5; have hbw := (Below.refl w.heap.size _).grown hgrow HS6.out (ogL HO6.out)))
              all_goals
                have HN5 : Hid (OwnU w.heap.size w5 (.slice (some ⟨gg, 0, none⟩) (us.length + 1) cc) (putJ us ⟨up, A, B⟩)) := Lib.hid (by rw [HPU.out]; exact OwnU.more (u := mkU sp) hown5)
                have HB7 := Lib.hid (HB6.out.trans hbw)
                clear hown5 hgrow hat hlt5 hbw HO6 HNW HS6 HB6 BY
                go_wp2_with fail
                go_roundw
                case rel => exact ⟨k + 1, _, by omega, by go_num, HN5, HUK2, HY, HB7⟩
                case measure => simp [intOf] <;> omega
            · rw [show decide (FitJ us ⟨up, a, b⟩) = false from decide_eq_false hok] at HF
              have HE := Lib.hid (HM.out hok)
              clear hok HN HM
              go_wp2_with fail
              refine HF.out.mono ?_
              rintro e w2 ⟨rfl, hb2⟩
              have HI2 := Lib.hid ((HO1.out.below hb2).row (by omega))
              have HB2 := Lib.hid (bel_c HB1.out (Nat.le_refl _) hb2)
              clear hb2 HO1 HI1 HB1 HF hin
              go_wp2_with fail
              go_ret
              exact ⟨_, rfl, by rw [← HE.out]; exact HI2.out, HB2.out⟩
          · obtain rfl : k = js.length := by omega
            have HE := Lib.hid (unF_all hun.out)
            have HI := Lib.hid hin
            clear hin hun
            go_wp2_with fail
            go_ret
            exact ⟨_, rfl, by rw [← HE.out]; exact HI.out, hbel.out⟩
  · have hlay' : layB m n xs = false := by simpa using hlay
    rw [hlay'] at LK
    rw [unL_no hlay']
    clear hlay hlay'
    go_enter Try.func41, Try.ntmps41
    go_wp2_with fail
    refine (LK.out _ HB0.out).mono ?_
    rintro e w1 ⟨rfl, hb1⟩
    have HB1 := Lib.hid (bel_c HB0.out (Nat.le_refl _) hb1)
    clear hb1 HB0 LK
    go_wp2_with fail
    go_ret
    exact ⟨_, rfl, ⟨by simp, .inl ⟨rfl, _, _, rfl⟩⟩, HB1.out⟩

end Go.Proofs.Ytboahceibeeifaa
