/- Orders of sewing: areTree of the program. Orders of sewing: CountSewOrders of the program. Joins: DepthOf of the model. -/
import Derived.Test.YtlkiacgpiodkiaaM11
import Derived.Test.YtlkiacgpiodkiaaM12
import Derived.Test.YtlkiacgpiodkiaaM13
import Derived.Deep.RegionLaw
import Derived.Test.YtlkiacgpiodkiaaM00

set_option linter.unusedSimpArgs false
set_option linter.unusedVariables false
namespace Go.Proofs.Ytlkiacgpiodkiaa
open Go.ChangeShapes Go.WideShapes Go.ChangeAt Go.RowKit

theorem info_boolJ : (Try.prog.info? 4).map (fun i => (i.zero, i.size, i.bytes)) = some (some (.bool false), 1, 1) := by kernel_rfl
theorem rowB_cell {lo hi : Nat} {w : World} {a : Option Addr} {n cap M : Nat} {U : Nat → Bool} (h : BoolIn lo hi w (.slice a n cap) (rowB M U)) {i : Nat} (hi' : i < M) {u : Bool} (hu : U i = u) :
    ∃ g, a = some ⟨g, 0, none⟩ ∧ lo ≤ g ∧ g < hi ∧ w.cell? ⟨g, i, none⟩ = some (.bool u) ∧ w.frozen? ⟨g, i, none⟩ = false := by
  obtain ⟨g, h1, h2, h3, h4, h5⟩ := h.at (Below.refl _ _) (i := i) (by rw [rowB_len]; exact hi')
  rw [rowB_get hi', hu] at h4
  exact ⟨g, h1, h2, h3, h4, h5⟩
theorem set_two {l : List Bool} (a b : Nat) : (l.set b true).set a true = (l.set a true).set b true := by
  by_cases e : a = b
  · subst e; rfl
  · exact (List.set_comm true true (Ne.symm e))
set_option maxHeartbeats 6400000 in
set_option maxRecDepth 20000 in
theorem ImplAreTree_any (lo hi : Nat) (v : Value) (js : List J3) (n : Int) (wn : (Lit.int .i64 n).wf = true) (w : World) (r : JnIn lo hi w v js) (hhi : hi ≤ w.heap.size) :
    Calls Try.prog 36 #[v, .int .i64 n] w fun e w' => e = .returned (.bool (treeB js n)) ∧ Below w.heap.size w w' := by
  obtain ⟨i0, hi0, hz0, hz1, hz2⟩ := info_parts3 info_boolJ
  obtain ⟨av, cv, rfl⟩ := r.form
  have R := Lib.hid r
  have CD := Lib.hid (ImplDepthOf_any lo hi _ js n wn w r hhi)
  clear r
  by_cases hd : 0 ≤ depJ js n
  · obtain ⟨⟨n0, n1⟩, hl⟩ := dep_n hd
    obtain ⟨N, rfl⟩ : ∃ N : Nat, n = N := ⟨n.toNat, by omega⟩
    have HR := Lib.hid (fun k hk => dep_rng hd (k := k) hk)
    have HT := Lib.hid (fun h => tree_yes hd h)
    have HF := Lib.hid (fun k hk h => tree_no (n := (N : Int)) (js := js) (k := k) hk h)
    have hdl : ¬ depJ js N < 0 := by omega
    obtain ⟨M, hM⟩ : ∃ M : Nat, M = N + js.length := ⟨_, rfl⟩
    have hwM : IntKind.i64.wrap ((N : Int) + (js.length : Int)) = (M : Int) := by simp [IntKind.wrap, IntKind.bits, IntKind.signed]; omega
    have hM23 : M ≤ 23 := by omega
    have hlM : js.length ≤ 11 := by omega
    have HM := Lib.hid hM
    clear hM hl
    generalize depJ js N = d at CD hd hdl
    generalize treeB js N = tb at HT HF ⊢
    clear wn
    go_enter Try.func36, Try.ntmps36
    go_wp2_with fail
    refine (args_eqL CD.out (by with_reducible rfl)).mono ?_
    rintro e w1 ⟨rfl, hb1⟩
    have hs1 := hb1.size
    have HB1 := Lib.hid hb1
    clear hb1 CD
    go_wp2_with (at_make; refine wpList_make_full _ rfl _ _ 55 rfl w1.heap.size 4 i0 _ 1 Try.underlying55 hi0 hz0 hz1 .i64 .i64 _ _ M rfl rfl rfl rfl (by rw [hz2]; omega) (by unfold maxLen; omega) (Nat.le_refl _) ?_; intro w0 hown0 hgrow0)
    have hw0 := own_none hgrow0
    have HO := Lib.hid (BoolIn.zero hown0 (by omega))
    have HW := Lib.hid (bel_c HB1.out (Nat.le_refl _) hw0)
    have hs0 := hw0.size
    clear hw0 hown0 hgrow0
    go_loopw [19] (fun i wr => ∃ (k : Nat), k ≤ js.length ∧ i = .int .i64 k ∧ Hid (BoolIn w1.heap.size w0.heap.size wr (.slice (some ⟨w1.heap.size, 0, none⟩) M M) (rowB M (usedJ js k))) ∧ Hid (Aps js k) ∧ Hid (Below w.heap.size w wr) ∧ w0.heap.size ≤ wr.heap.size) (fun i _ => js.length - (intOf i).toNat)
    case atStart => exact ⟨0, Nat.zero_le _, rfl, Lib.hid (by rw [show usedJ js 0 = fun _ => false from funext fun i => usedJ_zero js i, rowB_false]; exact HO.out), Lib.hid (Aps.zero js), HW, Nat.le_refl _⟩
    case round =>
      clear HO HB1 HW
      obtain ⟨k, hk, rfl, hin, hap, hbel, hsz⟩ := hrel
      by_cases hlt : k < js.length
      · obtain ⟨g, rfl, hg, hg1, ⟨e0, e1, e2⟩, _⟩ := R.out.at (hbel.out.mono hhi) hlt
        have HU := Lib.hid (used_put hlt M)
        have HN := Lib.hid (fun h => HF.out k hlt h)
        have HY := Lib.hid (fun h => hap.out.succ (k := k) h)
        have hrg := HR.out k hlt
        unfold ApJ at HN HY
        obtain ⟨j, hj⟩ : ∃ j, j = jn js k := ⟨_, rfl⟩
        rw [show js.getD k J3.zero = j from hj.symm] at e0 e1 e2
        rw [show jn js k = j from hj.symm] at HN HY HU hrg
        obtain ⟨up, a, b⟩ := j
        simp only at e0 e1 e2 hrg
        obtain ⟨⟨a0, a1⟩, b0, b1⟩ := hrg
        obtain ⟨A, rfl⟩ : ∃ A : Nat, a = A := ⟨a.toNat, by omega⟩
        obtain ⟨B, rfl⟩ : ∃ B : Nat, b = B := ⟨b.toNat, by omega⟩
        simp only [Int.toNat_natCast] at HN HY HU
        clear hj
        have a2 : A < M := by have := HM.out; omega
        have b2 : B < M := by have := HM.out; omega
        obtain ⟨ua, hua⟩ : ∃ u, usedJ js k A = u := ⟨_, rfl⟩
        obtain ⟨ub, hub⟩ : ∃ u, usedJ js k B = u := ⟨_, rfl⟩
        rw [hua, hub] at HN HY
        obtain ⟨gb, hgb, hgb0, hgb1, r1, f1⟩ := rowB_cell hin.out a2 hua
        obtain ⟨gb', hgb', _, _, r2, f2⟩ := rowB_cell hin.out b2 hub
        simp only [Option.some.injEq, Addr.mk.injEq, and_true] at hgb hgb'
        subst hgb
        subst hgb'
        clear hua hub
        have BA := bel0 wr (.cells #[.bool up, .int .i64 A, .int .i64 B] 34)
        have HB1 := Lib.hid (bel_n hbel.out (Nat.le_refl _) (.cells #[.bool up, .int .i64 A, .int .i64 B] 34))
        have HI1 := Lib.hid (hin.out.below (w' := wr.alloc (.cells #[.bool up, .int .i64 A, .int .i64 B] 34)) (BA.mono (by omega)))
        have s1 := kept BA r1
        have s2 := kept BA r2
        have hfr : ∀ p : Addr, p.block < wr.heap.size → wr.frozen? p = false → (wr.alloc (.cells #[.bool up, .int .i64 A, .int .i64 B] 34)).frozen? p = false := fun p hp h => (BA.frozen hp).trans h
        have f1 := hfr ⟨w1.heap.size, A, none⟩ (by simp only; omega) f1
        have f2 := hfr ⟨w1.heap.size, B, none⟩ (by simp only; omega) f2
        have hin' := hin
        clear hin BA hfr hbel r1 r2 R HR
        by_cases hab : A = B
        · have hab' : ((A : Int) == (B : Int)) = true := by simp [hab]
          have HE := Lib.hid (HN.out (fun h => h.1 (by rw [hab])))
          clear hab HN HY HI1 hap hin'
          go_wp2_with fail
          go_ret
          exact ⟨by rw [HE.out]; rfl, HB1.out⟩
        · have hab' : ((A : Int) == (B : Int)) = false := by simp; omega
          by_cases hu : ua = true
          · subst hu
            have HE := Lib.hid (HN.out (fun h => by simp at h))
            clear hab HN HY HI1 hap hin'
            go_wp2_with fail
            go_ret
            exact ⟨by rw [HE.out]; rfl, HB1.out⟩
          · obtain rfl : ua = false := by simpa using hu
            by_cases hv : ub = true
            · subst hv
              have HE := Lib.hid (HN.out (fun h => by simp at h))
              clear hab HN HY HI1 hap hin'
              go_wp2_with fail
              go_ret
              exact ⟨by rw [HE.out]; rfl, HB1.out⟩
            · obtain rfl : ub = false := by simpa using hv
              have HY' := Lib.hid (HY.out ⟨by omega, rfl, rfl⟩)
              have HP : Hid (∀ Z : World, Z = ((wr.alloc (.cells #[.bool up, .int .i64 A, .int .i64 B] 34)).setCell ⟨w1.heap.size, A, none⟩ (.bool true)).setCell ⟨w1.heap.size, B, none⟩ (.bool true) ∨
                  Z = ((wr.alloc (.cells #[.bool up, .int .i64 A, .int .i64 B] 34)).setCell ⟨w1.heap.size, B, none⟩ (.bool true)).setCell ⟨w1.heap.size, A, none⟩ (.bool true) →
                  BoolIn w1.heap.size w0.heap.size Z.drew (.slice (some ⟨w1.heap.size, 0, none⟩) M M) (rowB M (usedJ js (k + 1))) ∧ Below w.heap.size w Z.drew ∧ w0.heap.size ≤ Z.drew.heap.size) := Lib.hid (fun Z hZ => by
                rw [← HU.out]
                have hla : A < (rowB M (usedJ js k)).length := by rw [rowB_len]; exact a2
                have hlb : B < (rowB M (usedJ js k)).length := by rw [rowB_len]; exact b2
                have hsa : wr.heap.size ≤ (wr.alloc (.cells #[.bool up, .int .i64 A, .int .i64 B] 34)).heap.size := by simp
                rcases hZ with rfl | rfl
                · refine ⟨((HI1.out.set A hla true).set B (by rw [List.length_set]; exact hlb) true).below ⟨rfl, rfl, rfl, Nat.le_refl _, fun _ _ => rfl⟩, bel_dr9 (Below.setCell (Below.setCell HB1.out (by simp only; omega) _) (by simp only; omega) _), by simp [World.setCell]; omega⟩
                · rw [← set_two]
                  refine ⟨((HI1.out.set B hlb true).set A (by rw [List.length_set]; exact hla) true).below ⟨rfl, rfl, rfl, Nat.le_refl _, fun _ _ => rfl⟩, bel_dr9 (Below.setCell (Below.setCell HB1.out (by simp only; omega) _) (by simp only; omega) _), by simp [World.setCell]; omega⟩)
              clear hap hin' HY HN hu hv HI1 HB1 HU
              go_wp2_with fail
              go_region_law (fail)
              all_goals
                go_wp2_with fail
                obtain ⟨g1, g2, g3⟩ := HP.out _ (by first | exact .inl rfl | exact .inr rfl)
                have HG1 := Lib.hid g1
                have HG2 := Lib.hid g2
                clear g1 g2 HP
                go_roundw
                case rel => exact ⟨k + 1, by omega, by go_num, HG1, HY', HG2, g3⟩
                case measure => simp [intOf] <;> omega
      · obtain rfl : k = js.length := by omega
        have HE := Lib.hid (HT.out hap.out)
        clear hin hap
        go_wp2_with fail
        go_ret
        exact ⟨by rw [HE.out]; rfl, hbel.out⟩
  · have HF := Lib.hid (tree_dep (js := js) (n := n) (by omega))
    have hdl : depJ js n < 0 := by omega
    generalize depJ js n = d at CD hd hdl
    clear wn R
    go_enter Try.func36, Try.ntmps36
    go_wp2_with fail
    refine (args_eqL CD.out (by with_reducible rfl)).mono ?_
    rintro e w1 ⟨rfl, hb1⟩
    go_wp2_with fail
    go_ret
    exact ⟨by rw [HF.out]; rfl, hb1⟩
end Go.Proofs.Ytlkiacgpiodkiaa

set_option linter.unusedSimpArgs false
set_option linter.unusedVariables false
namespace Go.Proofs.Ytlkiacgpiodkiaa
open Go.ChangeShapes Go.WideShapes Go.ChangeAt Go.RowKit

theorem fac_next {js : List J3} {N k : Nat} (h : TreeJ js N) (hk : k < js.length) : ∃ F F' p p' s : Int, facN k = F ∧ facN (k + 1) = F' ∧ prdN js N k = p ∧ prdN js N (k + 1) = p' ∧ szJ (grow szJ js N k) (jn js k) = s ∧
    IntKind.i64.wrap (F * ((k : Int) + 1)) = F' ∧ IntKind.i64.wrap (p * s) = p' ∧ 1 ≤ s ∧ s ≤ 12 := by
  refine ⟨_, _, _, _, _, rfl, rfl, rfl, rfl, rfl, ?_, ?_, ?_, ?_⟩
  · have := fac_bd (k + 1) (by have := h.len; have := h.n12; omega)
    have e : facN (k + 1) = facN k * ((k : Int) + 1) := rfl
    rw [← e]
    generalize facN (k + 1) = z at this
    simp [IntKind.wrap, IntKind.bits, IntKind.signed]; omega
  · have h1 := fac_bd (k + 1) (by have := h.len; have := h.n12; omega)
    have h2 := prd_bd h (k + 1) (by omega)
    have e : prdN js N (k + 1) = prdN js N k * szJ (grow szJ js N k) (jn js k) := rfl
    rw [← e]
    generalize prdN js N (k + 1) = z at h2
    simp [IntKind.wrap, IntKind.bits, IntKind.signed]; omega
  · exact (sz_le h hk).1
  · have := (sz_le h hk).2.1
    have := h.len; have := h.n12; omega
set_option maxHeartbeats 6400000 in
set_option maxRecDepth 20000 in
theorem ImplCount_any (lo hi : Nat) (v : Value) (js : List J3) (n : Int) (wn : (Lit.int .i64 n).wf = true) (w : World) (r : JnIn lo hi w v js) (hhi : hi ≤ w.heap.size) :
    Calls Try.prog 11 #[v, .int .i64 n] w fun e w' => e = .returned (.int .i64 (cntB js n)) ∧ Below w.heap.size w w' := by
  obtain ⟨i0, hi0, hz0, hz1, hz2⟩ := info_parts3 info_intJ
  obtain ⟨av, cv, rfl⟩ := r.form
  have R := Lib.hid r
  have CT := Lib.hid (ImplAreTree_any lo hi _ js n wn w r hhi)
  clear r
  by_cases hd : treeB js n = true
  · obtain ⟨N, rfl, hT⟩ := tree_is hd
    have HC : Hid ((facN js.length).tdiv (prdN js N js.length) = cntB js N) := Lib.hid (by unfold cntB; rw [if_pos hd]; rfl)
    generalize cntB js N = c at HC ⊢
    rw [hd] at CT
    have hN : N ≤ 12 := hT.n12
    have hlM : js.length ≤ 11 := by have := hT.len; omega
    have HT := Lib.hid hT
    clear hd hT wn
    go_enter Try.func11, Try.ntmps11
    go_wp2_with fail
    refine (args_eqL CT.out (by with_reducible rfl)).mono ?_
    rintro e w1 ⟨rfl, hb1⟩
    have hs1 := hb1.size
    have HB1 := Lib.hid hb1
    clear hb1 CT
    go_wp2_with (at_make; refine wpList_make_full _ rfl _ _ 28 rfl w1.heap.size 3 i0 _ 1 Try.underlying28 hi0 hz0 hz1 .i64 .i64 _ _ N rfl rfl rfl rfl (by rw [hz2]; omega) (by unfold maxLen; omega) (Nat.le_refl _) ?_; intro w0 hown0 hgrow0)
    have hw0 := own_none hgrow0
    have HO := Lib.hid (OwnD.zero hown0)
    have HW := Lib.hid (bel_c HB1.out (Nat.le_refl _) hw0)
    have hs0 := hw0.size
    clear hw0 hown0 hgrow0
    go_loopw [5, 6, 7, 19] (fun q f p i wr => ∃ (k : Nat), k ≤ js.length ∧ i = .int .i64 k ∧ f = .int .i64 (facN k) ∧ p = .int .i64 (prdN js N k) ∧ Hid (OwnD w1.heap.size wr q (grow szJ js N k)) ∧ Hid (Below w.heap.size w wr) ∧ w1.heap.size ≤ wr.heap.size) (fun _ _ _ i _ => js.length - (intOf i).toNat)
    case atStart => exact ⟨0, Nat.zero_le _, rfl, rfl, rfl, HO, HW, hs0⟩
    case round =>
      clear HO HB1 HW
      obtain ⟨k, hk, rfl, rfl, rfl, ho, hbel, hsz⟩ := hrel
      have hin := ho.out.row (by rw [grow_len]; omega)
      obtain ⟨aq, cq, rfl⟩ := hin.form
      have hgl := grow_len (f := szJ) (js := js) (N := N) k
      by_cases hlt : k < js.length
      · obtain ⟨g, rfl, hg, hg1, ⟨e0, e1, e2⟩, _⟩ := R.out.at (hbel.out.mono hhi) hlt
        obtain ⟨A, B, ha, hb, la, lb, _⟩ := HT.out.nat hlt
        obtain ⟨F, F', p, p', s, hF, hF', hp, hp', hs, hwF, hwp, hs0', hs12⟩ := fac_next HT.out hlt
        have hxy := (sz_le HT.out hlt).2.2
        have hgn : grow szJ js N (k + 1) = grow szJ js N k ++ [s] := by rw [← hs]; rfl
        rw [hF, hp]
        obtain ⟨j, hj⟩ : ∃ j, j = jn js k := ⟨_, rfl⟩
        rw [show js.getD k J3.zero = j from hj.symm] at e0 e1 e2
        rw [show jn js k = j from hj.symm] at ha hb hs
        obtain ⟨up, a, b⟩ := j
        simp only at e0 e1 e2 ha hb
        subst ha
        subst hb
        clear hj
        obtain ⟨gd, hgd, hgd0, hgd1, r1, _⟩ := hin.at (Below.refl _ _) (i := A) (by omega)
        obtain ⟨gd', hgd', _, _, r2, _⟩ := hin.at (Below.refl _ _) (i := B) (by omega)
        obtain rfl : gd = gd' := by rw [hgd] at hgd'; simpa using hgd'
        obtain rfl : aq = some ⟨gd, 0, none⟩ := hgd
        rw [szJ_eq] at hs
        simp only [Int.toNat_natCast] at hs
        have la' : A < (grow szJ js N k).length := by omega
        have lb' : B < (grow szJ js N k).length := by omega
        have hx := hxy A
        have hy := hxy B
        obtain ⟨x, hxx⟩ : ∃ x, x = dp (grow szJ js N k) A := ⟨_, rfl⟩
        obtain ⟨y, hyy⟩ : ∃ y, y = dp (grow szJ js N k) B := ⟨_, rfl⟩
        rw [show (grow szJ js N k).getD A 0 = x from hxx.symm] at r1
        rw [show (grow szJ js N k).getD B 0 = y from hyy.symm] at r2
        rw [← hxx] at hx hs
        rw [← hyy] at hy hs
        have HGN := Lib.hid hgn
        have HF' := Lib.hid hF'
        have HP' := Lib.hid hp'
        have hws : IntKind.i64.wrap (IntKind.i64.wrap (x + y) + 1) = s := by
          rw [← hs]; simp [IntKind.wrap, IntKind.bits, IntKind.signed]; omega
        have hwxy : IntKind.i64.wrap (x + y) = x + y := by simp [IntKind.wrap, IntKind.bits, IntKind.signed]; omega
        rw [hwxy] at hws
        have BA := bel0 wr (.cells #[.bool up, .int .i64 A, .int .i64 B] 34)
        have HO1 := Lib.hid (owL ho.out BA)
        have HB1 := Lib.hid (bel_n hbel.out (Nat.le_refl _) (.cells #[.bool up, .int .i64 A, .int .i64 B] 34))
        have s1 := kept BA r1
        have s2 := kept BA r2
        clear hgd' hxx hyy hx hy hxy hin hgn hF' hp' hF hp ho hbel BA r1 r2 la lb hs
        obtain ⟨W1, hW1⟩ : ∃ W1, W1 = wr.alloc (.cells #[.bool up, .int .i64 A, .int .i64 B] 34) := ⟨_, rfl⟩
        have HWS := Lib.hid (show W1.heap.size = wr.heap.size + 1 by rw [hW1]; simp)
        have BX : Below W1.heap.size W1 ((W1.drew).alloc (.cells #[.int .i64 s] 3)) := (bel_dr9 (Below.refl _ _)).alloc (Nat.le_refl _) _
        have HO3 : Hid (OwnD w1.heap.size ((W1.drew).alloc (.cells #[.int .i64 s] 3)) (.slice (some ⟨gd, 0, none⟩) (grow szJ js N k).length cq) (grow szJ js N k)) := Lib.hid (by rw [← hW1] at HO1; exact owL HO1.out BX)
        have HB3 : Hid (Below w.heap.size w ((W1.drew).alloc (.cells #[.int .i64 s] 3))) := Lib.hid (by rw [← hW1] at HB1; exact bel_c HB1.out (Nat.le_refl _) BX)
        have HNW : Hid (∀ (j : Nat) u, ([.int .i64 s] : List Value)[j]? = some u → ((W1.drew).alloc (.cells #[.int .i64 s] 3)).cell? ((⟨wr.heap.size + 1, 0, none⟩ : Addr).add j) = some u) := Lib.hid (fun j u hu => newsL W1.drew (wr.heap.size + 1) #[.int .i64 s] 3 HWS.out j u hu)
        have HS3 : Hid (w1.heap.size ≤ ((W1.drew).alloc (.cells #[.int .i64 s] 3)).heap.size) := Lib.hid (by have := HWS.out; simp; omega)
        have HH3 : Hid (((W1.drew).alloc (.cells #[.int .i64 s] 3)).heap.size = wr.heap.size + 2) := Lib.hid (by have := HWS.out; simp; omega)
        rw [hW1] at HO3 HB3 HNW HS3 HH3
        clear hW1 HWS BX HO1 HB1
        go_wp2_with fail
        go_region
        go_wp2_with (at_builtin; refine wpList_append_lies _ rfl _ _ 28 rfl w1.heap.size 3 i0 (.int .i64 0) 1 8 Try.underlying28 hi0 hz0 hz1 hz2 rfl (by decide) _ _ _ rfl HO3.out ⟨wr.heap.size + 1, 0, none⟩ 1 1 [.int .i64 s] rfl rfl HNW.out (by simp [Value.oneCell']) (by omega) (by unfold maxLen; omega) (by omega) HS3.out (wr.heap.size + 2) HH3.out ?_; intro gg cc w5 hown5 hgrow hat hlt5; have hbw := (Below.refl w1.heap.size _).grown hgrow HS3.out (ogL HO3.out))
        have HN5 : Hid (OwnD w1.heap.size w5 (.slice (some ⟨gg, 0, none⟩) ((grow szJ js N k).length + 1) cc) (grow szJ js N (k + 1))) := Lib.hid (by rw [HGN.out]; exact OwnD.more hown5)
        have HB5 := Lib.hid (HB3.out.trans (hbw.mono hs1))
        have HS5 := Lib.hid (Nat.le_trans HS3.out hbw.size)
        clear hown5 hgrow hat hlt5 hbw HO3 HNW HS3 HB3
        go_wp2_with fail
        go_roundw
        case rel => exact ⟨k + 1, by omega, by go_num, by rw [HF'.out], by rw [HP'.out], by rw [← hgl]; exact HN5, HB5, HS5.out⟩
        case measure => simp [intOf] <;> omega
      · obtain rfl : k = js.length := by omega
        have hc := HC.out
        have hp1 := (prd_bd HT.out js.length (Nat.le_refl _))
        have hf1 := fac_bd js.length (by omega)
        generalize facN js.length = F at hc hp1 hf1
        generalize prdN js N js.length = p at hc hp1
        have HCC := Lib.hid hc
        have hpp : ¬ p = 0 := by omega
        clear hc ho
        go_wp2_with fail
        go_ret
        exact ⟨by rw [← HCC.out, Int.tdiv_eq_ediv_of_nonneg (by omega)]; rfl, hbel.out⟩
  · have hd' : treeB js n = false := by simpa using hd
    rw [hd'] at CT
    have HC : Hid (-1 = cntB js n) := Lib.hid (by unfold cntB; rw [hd']; rfl)
    clear wn R hd hd'
    go_enter Try.func11, Try.ntmps11
    go_wp2_with fail
    refine (args_eqL CT.out (by with_reducible rfl)).mono ?_
    rintro e w1 ⟨rfl, hb1⟩
    go_wp2_with fail
    go_ret
    exact ⟨by rw [← HC.out]; rfl, hb1⟩
end Go.Proofs.Ytlkiacgpiodkiaa

set_option linter.unusedSimpArgs false
set_option linter.unusedVariables false
namespace Go.Proofs.Ytlkiacgpiodkiaa
open Go.ChangeShapes Go.WideShapes Go.ChangeAt Go.RowKit

set_option maxHeartbeats 6400000 in
set_option maxRecDepth 20000 in
theorem SpecDepthOf_any (lo hi : Nat) (v : Value) (js : List J3) (n : Int) (wn : (Lit.int .i64 n).wf = true) (w : World) (r : JnIn lo hi w v js) (hhi : hi ≤ w.heap.size) :
    Calls Try.prog 15 #[v, .int .i64 n] w fun e w' => e = .returned (.int .i64 (depJ js n)) ∧ Below w.heap.size w w' := by
  obtain ⟨i0, hi0, hz0, hz1, hz2⟩ := info_parts3 info_intJ
  obtain ⟨av, cv, rfl⟩ := r.form
  have R := Lib.hid r
  have hl := r.1
  clear r
  by_cases h0 : 1 ≤ n ∧ n ≤ 12
  · obtain ⟨n0, n1⟩ := h0
    by_cases h1 : (js.length : Int) = n - 1
    · have HD : Hid (dpF (List.replicate n.toNat 0) js = depJ js n) := Lib.hid (by unfold depJ; rw [if_pos ⟨⟨n0, n1⟩, h1⟩])
      obtain ⟨N, rfl⟩ : ∃ N : Nat, n = N := ⟨n.toNat, by omega⟩
      have hjl : js.length ≤ 11 := by omega
      have h2 : ((js.length : Int) == (N : Int) - 1) = true := by rw [h1]; exact beq_self_eq_true _
      have h3 : ((js.length : Int) != (N : Int) - 1) = false := by rw [h1]; exact bne_self_eq_false _
      have hJ := Lib.hid h1
      simp only [Int.toNat_natCast] at HD
      have HB := Lib.hid (DpB.start N)
      clear h1 wn
      generalize depJ js N = d at HD
      go_enter Try.func15, Try.ntmps15
      go_wp2_with fail
      refine (In_yes _ _ _ _ (by omega) (by omega)).mono ?_
      rintro e w' ⟨rfl, hw⟩
      have hw' := hw.symm
      subst hw'
      clear hw
      go_wp2_with (at_make; refine wpList_make_full _ rfl _ _ 28 rfl w.heap.size 3 i0 _ 1 Try.underlying28 hi0 hz0 hz1 .i64 .i64 _ _ N rfl rfl rfl rfl (by rw [hz2]; omega) (by unfold maxLen; omega) (Nat.le_refl _) ?_; intro w0 hown0 hgrow0)
      have hw0 := own_none hgrow0
      have HO := Lib.hid (OwnD.zero hown0)
      have HW := Lib.hid hw0
      clear hw0 hown0 hgrow0
      go_loopw [5, 6] (fun q i wr => ∃ (k : Nat) (ds : List Int), k ≤ js.length ∧ i = .int .i64 k ∧ Hid (ds.length = N + k) ∧ Hid (OwnD w.heap.size wr q ds) ∧ Hid (DpB k ds) ∧ Hid (dpF ds (js.drop k) = d) ∧ Hid (Below w.heap.size w wr)) (fun _ i _ => js.length - (intOf i).toNat)
      case atStart => exact ⟨0, _, Nat.zero_le _, rfl, Lib.hid (by simp), HO, HB, HD, HW⟩
      case round =>
        clear HO HB HD HW
        obtain ⟨k, ds, hk, rfl, hdl, ho, hdb, hdf, hbel⟩ := hrel
        have hdl12 : ds.length ≤ 24 := by have := hdl.out; omega
        have hdl0 : 1 ≤ ds.length := by have := hdl.out; omega
        have hin := ho.out.row (by omega)
        obtain ⟨aq, cq, rfl⟩ := hin.form
        by_cases hlt : k < js.length
        · obtain ⟨g, rfl, hg, hg1, ⟨e0, e1, e2⟩, _⟩ := R.out.at (hbel.out.mono hhi) hlt
          have HN := Lib.hid (fun hf => dpF_yes hlt hdf.out hf)
          have HM := Lib.hid (fun hf => dpF_no hlt hdf.out hf)
          obtain ⟨j, hj⟩ : ∃ j, j = jn js k := ⟨_, rfl⟩
          rw [show js.getD k J3.zero = j from hj.symm] at e0 e1 e2
          rw [show jn js k = j from hj.symm] at HN HM
          obtain ⟨up, a, b⟩ := j
          simp only at e0 e1 e2
          clear hj hdf
          have BA := bel0 wr (.cells #[.bool up, .int .i64 a, .int .i64 b] 34)
          have HO1 := Lib.hid (owL ho.out BA)
          have HO1 := Lib.hid (owL ho.out BA)
          have HB1 := Lib.hid (bel_n hbel.out (Nat.le_refl _) (.cells #[.bool up, .int .i64 a, .int .i64 b] 34))
          have hs1 := hbel.out.size
          clear ho hbel BA
          by_cases hok : DpOk ds ⟨up, a, b⟩
          · have HY := Lib.hid (HN.out hok)
            obtain ⟨⟨a0, a1⟩, b0, b1⟩ := hok
            simp only at a0 a1 b0 b1
            obtain ⟨A, rfl⟩ : ∃ A : Nat, a = A := ⟨a.toNat, by omega⟩
            obtain ⟨B, rfl⟩ : ∃ B : Nat, b = B := ⟨b.toNat, by omega⟩
            have a2 : A < ds.length := by omega
            have b2 : B < ds.length := by omega
            obtain ⟨gd, hgd, hgd0, hgd1, r1, _⟩ := hin.at (Below.refl _ _) a2
            obtain ⟨gd', hgd', _, _, r2, _⟩ := hin.at (Below.refl _ _) b2
            obtain rfl : gd = gd' := by rw [hgd] at hgd'; simpa using hgd'
            have hx := hdb.out.at A
            have hy := hdb.out.at B
            have HV : Hid (dpJ ds ⟨up, A, B⟩ = 1 + max (dp ds A) (dp ds B)) := Lib.hid (by simp [dpJ])
            have HB2 := Lib.hid (hdb.out.put ⟨up, A, B⟩)
            rw [HV.out] at HB2 HY
            obtain ⟨x, hxx⟩ : ∃ x, x = dp ds A := ⟨_, rfl⟩
            obtain ⟨y, hyy⟩ : ∃ y, y = dp ds B := ⟨_, rfl⟩
            rw [show ds.getD A 0 = x from hxx.symm] at r1
            rw [show ds.getD B 0 = y from hyy.symm] at r2
            rw [← hxx] at hx HB2 HY
            rw [← hyy] at hy HB2 HY
            clear hxx hyy HV hin HN HM hdb hgd'
            obtain rfl : aq = some ⟨gd, 0, none⟩ := hgd
            go_wp2_with fail
            refine (In_yes _ _ _ _ (by omega) (by omega)).mono ?_
            rintro e w' ⟨rfl, hw⟩
            have hw' := hw.symm
            subst hw'
            clear hw
            go_wp2_with fail
            refine (In_yes _ _ _ _ (by omega) (by omega)).mono ?_
            rintro e w' ⟨rfl, hw⟩
            have hw' := hw.symm
            subst hw'
            clear hw
            have hb1 := Below.refl (wr.alloc (.cells #[.bool up, .int .i64 A, .int .i64 B] 34)).heap.size (wr.alloc (.cells #[.bool up, .int .i64 A, .int .i64 B] 34))
            have hWX : ∃ W1, W1 = wr.alloc (.cells #[.bool up, .int .i64 A, .int .i64 B] 34) := ⟨_, rfl⟩
            obtain ⟨w1, hW1⟩ := hWX
            rw [← hW1] at hb1 HO1 HB1 ⊢
            have c0 : w1.cell? ⟨wr.heap.size, 0, none⟩ = some (.bool up) := by rw [hW1]; go_simp
            have c1 : w1.cell? ⟨wr.heap.size, 1, none⟩ = some (.int .i64 A) := by rw [hW1]; go_simp
            have c2 : w1.cell? ⟨wr.heap.size, 2, none⟩ = some (.int .i64 B) := by rw [hW1]; go_simp
            have s1 : w1.cell? ⟨gd, A, none⟩ = some (.int .i64 x) := by rw [hW1]; exact kept (bel0 wr _) r1
            have s2 : w1.cell? ⟨gd, B, none⟩ = some (.int .i64 y) := by rw [hW1]; exact kept (bel0 wr _) r2
            clear hW1
            have HO2 := Lib.hid (owL HO1.out hb1)
            have HB3 := Lib.hid (bel_c HB1.out (Nat.le_refl _) hb1)
            have hs2 := HB3.out.size
            clear hb1 HO1 HB1 r1 r2 e0 e1 e2
            obtain ⟨M, hM⟩ : ∃ M, (if x < y then y else x) = M := ⟨_, rfl⟩
            have hMM : 1 + max x y = 1 + M := by rw [← hM]; split <;> omega
            rw [hMM] at HB2 HY
            have hM0 : 0 ≤ M ∧ M ≤ 12 := by omega
            obtain ⟨hM0, hM1⟩ := hM0
            clear hMM hx hy
            have hwM : IntKind.i64.wrap (1 + M) = 1 + M := by simp [IntKind.wrap, IntKind.bits, IntKind.signed]; omega
            have BX : Below w1.heap.size w1 ((w1.alloc (.cells #[.int .i64 (1 + M)] 3)).drew) := bel_dr9 (bel0 w1 _)
            have HO3 := Lib.hid (owL HO2.out BX)
            have HB4 := Lib.hid (bel_c HB3.out (Nat.le_refl _) BX)
            have HS3 := Lib.hid HB4.out.size
            have HNW : Hid (∀ (j : Nat) u, ([.int .i64 (1 + M)] : List Value)[j]? = some u → ((w1.alloc (.cells #[.int .i64 (1 + M)] 3)).drew).cell? ((⟨w1.heap.size, 0, none⟩ : Addr).add j) = some u) := Lib.hid (fun j u hu => newsL w1 w1.heap.size #[.int .i64 (1 + M)] 3 rfl j u hu)
            clear BX HO2 HB3
            go_wp2_with fail
            go_region_law (first
              | (refine step_append_lies _ (by rfl) _ _ _ (by rfl) w.heap.size 3 i0 _ 1 8 Try.underlying28 hi0 hz0 hz1 hz2 rfl (by omega) _ ds.length _ (by rfl) HO3.out ⟨w1.heap.size, 0, none⟩ 1 1 [.int .i64 (1 + M)] (by rfl) (by rfl) HNW.out (by simp [Value.oneCell']) (by omega) (by unfold maxLen; omega) (by omega) HS3.out (w1.heap.size + 1) (by simp) ?_; intro gg cc w5 hown5 hgrow hat hlt5; have hbw := (Below.refl w.heap.size _).grown hgrow HS3.out (ogL HO3.out)))
            all_goals
              have HN5 : Hid (OwnD w.heap.size w5 (.slice (some ⟨gg, 0, none⟩) (ds.length + 1) cc) (ds ++ [1 + M])) := Lib.hid (OwnD.more hown5)
              have HB5 := Lib.hid (HB4.out.trans hbw)
              have HL5 : Hid ((ds ++ [1 + M]).length = N + (k + 1)) := Lib.hid (by have := hdl.out; simp; omega)
              clear hown5 hgrow hat hlt5 hbw HO3 HNW HS3 HB4
              go_wp2_with fail
              go_roundw
              case rel => exact ⟨k + 1, _, by omega, by go_num, HL5, HN5, HB2, HY, HB5⟩
              case measure => simp [intOf] <;> omega
          · have HY := Lib.hid (HM.out hok)
            clear HN HM hdb hin
            by_cases z : InU ds.length a
            · have z2 : ¬ InU ds.length b := fun k => hok ⟨z, k⟩
              unfold InU at z z2
              obtain ⟨z0, z1⟩ := z
              have z3 : b < 0 ∨ (ds.length : Int) - 1 < b := by omega
              clear hok z2
              go_wp2_with fail
              refine (In_yes _ _ _ _ (by omega) (by omega)).mono ?_
              rintro e w' ⟨rfl, hw⟩
              have hw' := hw.symm
              subst hw'
              clear hw
              go_wp2_with fail
              refine (In_no _ _ _ _ z3).mono ?_
              rintro e w' ⟨rfl, hw⟩
              have hw' := hw.symm
              subst hw'
              clear hw
              go_wp2_with fail
              go_ret
              exact ⟨ret_int HY.out, HB1.out⟩
            · unfold InU at z
              have z3 : a < 0 ∨ (ds.length : Int) - 1 < a := by omega
              clear hok z
              go_wp2_with fail
              refine (In_no _ _ _ _ z3).mono ?_
              rintro e w' ⟨rfl, hw⟩
              have hw' := hw.symm
              subst hw'
              clear hw
              go_wp2_with fail
              go_ret
              exact ⟨ret_int HY.out, HB1.out⟩
        · obtain rfl : k = js.length := by omega
          have hjj := hJ.out
          have HE := Lib.hid (dpF_all hdf.out)
          have hq : ds.length - 1 < ds.length := by omega
          obtain ⟨gd, hgd, hgd0, hgd1, r1, _⟩ := hin.at (Below.refl _ _) hq
          rw [show ds.getD (ds.length - 1) 0 = d from HE.out] at r1
          obtain rfl : aq = some ⟨gd, 0, none⟩ := hgd
          obtain ⟨L, hL⟩ : ∃ L, L = ds.length := ⟨_, rfl⟩
          rw [← hL] at r1 hdl0 hdl12 ⊢
          have hL1 : ((L - 1 : Nat) : Int) = (L : Int) - 1 := by omega
          have hL2 := Lib.hid hL
          clear hL hin ho hdb hdf hq
          obtain ⟨K, rfl⟩ : ∃ K, L = K + 1 := ⟨L - 1, by omega⟩
          simp only [Nat.add_sub_cancel] at r1
          clear hL1
          clear hjj hdl
          go_wp2_with fail
          go_ret
          exact ⟨rfl, hbel.out⟩
    · have h2 : ((js.length : Int) == n - 1) = false := by simpa using h1
      have h3 : ((js.length : Int) != n - 1) = true := by simpa using h1
      rw [show depJ js n = -1 by unfold depJ; rw [if_neg (fun k => h1 k.2)]]
      clear h1
      go_enter Try.func15, Try.ntmps15
      go_wp2_with fail
      refine (In_yes _ _ _ _ (by omega) (by omega)).mono ?_
      rintro e w' ⟨rfl, hw⟩
      have hw' := hw.symm
      subst hw'
      clear hw
      go_wp2_with fail
      go_ret
      exact ⟨rfl, Below.refl _ _⟩
  · rw [show depJ js n = -1 by unfold depJ; rw [if_neg (fun k => h0 k.1)]]
    have h1 : n < 1 ∨ 12 < n := by omega
    clear h0
    go_enter Try.func15, Try.ntmps15
    go_wp2_with fail
    refine (In_no _ _ _ _ h1).mono ?_
    rintro e w' ⟨rfl, hw⟩
    have hw' := hw.symm
    subst hw'
    clear hw
    go_wp2_with fail
    go_ret
    exact ⟨rfl, Below.refl _ _⟩

end Go.Proofs.Ytlkiacgpiodkiaa
