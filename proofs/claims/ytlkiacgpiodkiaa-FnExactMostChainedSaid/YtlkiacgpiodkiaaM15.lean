/- Orders of sewing: l12Ok of the model. Orders of sewing: CountSewOrders of the model. Orders of sewing: orders and rounds. -/
import Derived.Test.YtlkiacgpiodkiaaM11
import Derived.Test.YtlkiacgpiodkiaaM12
import Derived.Test.YtlkiacgpiodkiaaM14
import Derived.Deep.RegionLaw

set_option linter.unusedSimpArgs false
set_option linter.unusedVariables false
namespace Go.Proofs.Ytlkiacgpiodkiaa
open Go.ChangeShapes Go.WideShapes Go.ChangeAt Go.RowKit

set_option maxHeartbeats 6400000 in
set_option maxRecDepth 20000 in
theorem SpecTree_any (lo hi : Nat) (v : Value) (js : List J3) (n : Int) (wn : (Lit.int .i64 n).wf = true) (w : World) (r : JnIn lo hi w v js) (hhi : hi ≤ w.heap.size) :
    Calls Try.prog 44 #[v, .int .i64 n] w fun e w' => e = .returned (.bool (treeB js n)) ∧ Below w.heap.size w w' := by
  obtain ⟨i0, hi0, hz0, hz1, hz2⟩ := info_parts3 info_boolJ
  obtain ⟨av, cv, rfl⟩ := r.form
  have R := Lib.hid r
  have CD := Lib.hid (SpecDepthOf_any lo hi _ js n wn w r hhi)
  clear r
  by_cases hd : 0 ≤ depJ js n
  · obtain ⟨⟨n0, n1⟩, hl⟩ := dep_n hd
    obtain ⟨N, rfl⟩ : ∃ N : Nat, n = N := ⟨n.toNat, by omega⟩
    have HR := Lib.hid (fun k hk => dep_rng hd (k := k) hk)
    have HT := Lib.hid (fun h => tree_yes hd h)
    have HF := Lib.hid (fun k hk h => tree_no (n := (N : Int)) (js := js) (k := k) hk h)
    have hdl : ¬ depJ js N < 0 := by omega
    obtain ⟨M, hM⟩ : ∃ M : Nat, M = 2 * N := ⟨_, rfl⟩
    have hwM : IntKind.i64.wrap (2 * (N : Int)) = (M : Int) := by simp [IntKind.wrap, IntKind.bits, IntKind.signed]; omega
    have hM23 : M ≤ 24 := by omega
    have HLN : Hid (js.length + 1 = N) := Lib.hid (by omega)
    have hlM : js.length ≤ 11 := by omega
    have HM := Lib.hid hM
    clear hM hl
    generalize depJ js N = d at CD hd hdl
    generalize treeB js N = tb at HT HF ⊢
    clear wn
    go_enter Try.func44, Try.ntmps44
    go_wp2_with fail
    refine (args_eqL CD.out (by with_reducible rfl)).mono ?_
    rintro e w1 ⟨rfl, hb1⟩
    have hs1 := hb1.size
    have HB1 := Lib.hid hb1
    clear hb1 CD
    go_wp2_with (at_make; refine wpList_make_full _ rfl _ _ 55 rfl w1.heap.size 4 i0 _ 1 Try.underlying55 hi0 hz0 hz1 .i64 .i64 _ _ M rfl rfl rfl rfl (by rw [hz2]; omega) (by unfold maxLen; omega) (Nat.le_refl _) ?_; intro w0 hown0 hgrow0)
    have hw0 := own_none hgrow0
    have HO := Lib.hid (BoolIn.zero hown0 (by omega))
    have HW := Lib.hid (bel_c HB1.out (Nat.le_refl _) hw0)
    have hs0 := hw0.size
    clear hw0 hown0 hgrow0
    go_loopw [6] (fun i wr => ∃ (k : Nat), k ≤ js.length ∧ i = .int .i64 k ∧ Hid (BoolIn w1.heap.size w0.heap.size wr (.slice (some ⟨w1.heap.size, 0, none⟩) M M) (rowB M (usedJ js k))) ∧ Hid (Aps js k) ∧ Hid (Below w.heap.size w wr) ∧ w0.heap.size ≤ wr.heap.size) (fun i _ => js.length - (intOf i).toNat)
    case atStart => exact ⟨0, Nat.zero_le _, rfl, Lib.hid (by rw [show usedJ js 0 = fun _ => false from funext fun i => usedJ_zero js i, rowB_false]; exact HO.out), Lib.hid (Aps.zero js), HW, Nat.le_refl _⟩
    case round =>
      clear HO HB1 HW
      obtain ⟨k, hk, rfl, hin, hap, hbel, hsz⟩ := hrel
      by_cases hlt : k < js.length
      · obtain ⟨g, rfl, hg, hg1, ⟨e0, e1, e2⟩, _⟩ := R.out.at (hbel.out.mono hhi) hlt
        have HU := Lib.hid (used_put hlt M)
        have HN := Lib.hid (fun h => HF.out k hlt h)
        have HY := Lib.hid (fun h => hap.out.succ (k := k) h)
        have hrg := HR.out k hlt
        unfold ApJ at HN HY
        obtain ⟨j, hj⟩ : ∃ j, j = jn js k := ⟨_, rfl⟩
        rw [show js.getD k J3.zero = j from hj.symm] at e0 e1 e2
        rw [show jn js k = j from hj.symm] at HN HY HU hrg
        obtain ⟨up, a, b⟩ := j
        simp only at e0 e1 e2 hrg
        obtain ⟨⟨a0, a1⟩, b0, b1⟩ := hrg
        obtain ⟨A, rfl⟩ : ∃ A : Nat, a = A := ⟨a.toNat, by omega⟩
        obtain ⟨B, rfl⟩ : ∃ B : Nat, b = B := ⟨b.toNat, by omega⟩
        simp only [Int.toNat_natCast] at HN HY HU
        clear hj
        have a2 : A < M := by have := HM.out; have := HLN.out; omega
        have b2 : B < M := by have := HM.out; have := HLN.out; omega
        obtain ⟨ua, hua⟩ : ∃ u, usedJ js k A = u := ⟨_, rfl⟩
        obtain ⟨ub, hub⟩ : ∃ u, usedJ js k B = u := ⟨_, rfl⟩
        rw [hua, hub] at HN HY
        obtain ⟨gb, hgb, hgb0, hgb1, r1, f1⟩ := rowB_cell hin.out a2 hua
        obtain ⟨gb', hgb', _, _, r2, f2⟩ := rowB_cell hin.out b2 hub
        simp only [Option.some.injEq, Addr.mk.injEq, and_true] at hgb hgb'
        subst hgb
        subst hgb'
        clear hua hub
        have BA := bel0 wr (.cells #[.bool up, .int .i64 A, .int .i64 B] 34)
        have HB1 := Lib.hid (bel_n hbel.out (Nat.le_refl _) (.cells #[.bool up, .int .i64 A, .int .i64 B] 34))
        have HI1 := Lib.hid (hin.out.below (w' := wr.alloc (.cells #[.bool up, .int .i64 A, .int .i64 B] 34)) (BA.mono (by omega)))
        have s1 := kept BA r1
        have s2 := kept BA r2
        have hfr : ∀ p : Addr, p.block < wr.heap.size → wr.frozen? p = false → (wr.alloc (.cells #[.bool up, .int .i64 A, .int .i64 B] 34)).frozen? p = false := fun p hp h => (BA.frozen hp).trans h
        have f1 := hfr ⟨w1.heap.size, A, none⟩ (by simp only; omega) f1
        have f2 := hfr ⟨w1.heap.size, B, none⟩ (by simp only; omega) f2
        have hin' := hin
        clear hin BA hfr hbel r1 r2 R HR
        by_cases hab : A = B
        · have hab' : ((A : Int) == (B : Int)) = true := by simp [hab]
          have HE := Lib.hid (HN.out (fun h => h.1 (by rw [hab])))
          clear hab HN HY HI1 hap hin'
          go_wp2_with fail
          go_ret
          exact ⟨by rw [HE.out]; rfl, HB1.out⟩
        · have hab' : ((A : Int) == (B : Int)) = false := by simp; omega
          by_cases hu : ua = true
          · subst hu
            have HE := Lib.hid (HN.out (fun h => by simp at h))
            clear hab HN HY HI1 hap hin'
            go_wp2_with fail
            go_ret
            exact ⟨by rw [HE.out]; rfl, HB1.out⟩
          · obtain rfl : ua = false := by simpa using hu
            by_cases hv : ub = true
            · subst hv
              have HE := Lib.hid (HN.out (fun h => by simp at h))
              clear hab HN HY HI1 hap hin'
              go_wp2_with fail
              go_ret
              exact ⟨by rw [HE.out]; rfl, HB1.out⟩
            · obtain rfl : ub = false := by simpa using hv
              have HY' := Lib.hid (HY.out ⟨by omega, rfl, rfl⟩)
              have HP : Hid (∀ Z : World, Z = ((wr.alloc (.cells #[.bool up, .int .i64 A, .int .i64 B] 34)).setCell ⟨w1.heap.size, A, none⟩ (.bool true)).setCell ⟨w1.heap.size, B, none⟩ (.bool true) ∨
                  Z = ((wr.alloc (.cells #[.bool up, .int .i64 A, .int .i64 B] 34)).setCell ⟨w1.heap.size, B, none⟩ (.bool true)).setCell ⟨w1.heap.size, A, none⟩ (.bool true) →
                  BoolIn w1.heap.size w0.heap.size Z (.slice (some ⟨w1.heap.size, 0, none⟩) M M) (rowB M (usedJ js (k + 1))) ∧ Below w.heap.size w Z ∧ w0.heap.size ≤ Z.heap.size) := Lib.hid (fun Z hZ => by
                rw [← HU.out]
                have hla : A < (rowB M (usedJ js k)).length := by rw [rowB_len]; exact a2
                have hlb : B < (rowB M (usedJ js k)).length := by rw [rowB_len]; exact b2
                have hsa : wr.heap.size ≤ (wr.alloc (.cells #[.bool up, .int .i64 A, .int .i64 B] 34)).heap.size := by simp
                rcases hZ with rfl | rfl
                · refine ⟨((HI1.out.set A hla true).set B (by rw [List.length_set]; exact hlb) true), Below.setCell (Below.setCell HB1.out (by simp only; omega) _) (by simp only; omega) _, by simp [World.setCell]; omega⟩
                · rw [← set_two]
                  refine ⟨((HI1.out.set B hlb true).set A (by rw [List.length_set]; exact hla) true), Below.setCell (Below.setCell HB1.out (by simp only; omega) _) (by simp only; omega) _, by simp [World.setCell]; omega⟩)
              clear hap hin' HY HN hu hv HI1 HB1 HU
              go_wp2_with fail
              obtain ⟨g1, g2, g3⟩ := HP.out _ (.inl rfl)
              have HG1 := Lib.hid g1
              have HG2 := Lib.hid g2
              clear g1 g2 HP
              go_roundw
              case rel => exact ⟨k + 1, by omega, by go_num, HG1, HY', HG2, g3⟩
              case measure => simp [intOf] <;> omega
      · obtain rfl : k = js.length := by omega
        have HE := Lib.hid (HT.out hap.out)
        clear hin hap
        go_wp2_with fail
        go_ret
        exact ⟨by rw [HE.out]; rfl, hbel.out⟩
  · have HF := Lib.hid (tree_dep (js := js) (n := n) (by omega))
    have hdl : depJ js n < 0 := by omega
    generalize depJ js n = d at CD hd hdl
    clear wn R
    go_enter Try.func44, Try.ntmps44
    go_wp2_with fail
    refine (args_eqL CD.out (by with_reducible rfl)).mono ?_
    rintro e w1 ⟨rfl, hb1⟩
    go_wp2_with fail
    go_ret
    exact ⟨by rw [HF.out]; rfl, hb1⟩
end Go.Proofs.Ytlkiacgpiodkiaa

set_option linter.unusedSimpArgs false
set_option linter.unusedVariables false
namespace Go.Proofs.Ytlkiacgpiodkiaa
open Go.ChangeShapes Go.WideShapes Go.ChangeAt Go.RowKit

set_option maxHeartbeats 6400000 in
set_option maxRecDepth 20000 in
theorem SpecCount_any (lo hi : Nat) (v : Value) (js : List J3) (n : Int) (wn : (Lit.int .i64 n).wf = true) (w : World) (r : JnIn lo hi w v js) (hhi : hi ≤ w.heap.size) :
    Calls Try.prog 18 #[v, .int .i64 n] w fun e w' => e = .returned (.int .i64 (cntB js n)) ∧ Below w.heap.size w w' := by
  obtain ⟨i0, hi0, hz0, hz1, hz2⟩ := info_parts3 info_intJ
  obtain ⟨av, cv, rfl⟩ := r.form
  have R := Lib.hid r
  have CT := Lib.hid (SpecTree_any lo hi _ js n wn w r hhi)
  clear r
  by_cases hd : treeB js n = true
  · obtain ⟨N, rfl, hT⟩ := tree_is hd
    have HC : Hid ((facN js.length).tdiv (prdN js N js.length) = cntB js N) := Lib.hid (by unfold cntB; rw [if_pos hd]; rfl)
    generalize cntB js N = c at HC ⊢
    rw [hd] at CT
    have hN : N ≤ 12 := hT.n12
    have hlM : js.length ≤ 11 := by have := hT.len; omega
    have HT := Lib.hid hT
    clear hd hT wn
    go_enter Try.func18, Try.ntmps18
    go_wp2_with fail
    refine (args_eqL CT.out (by with_reducible rfl)).mono ?_
    rintro e w1 ⟨rfl, hb1⟩
    have hs1 := hb1.size
    have HB1 := Lib.hid hb1
    clear hb1 CT
    go_wp2_with (at_make; refine wpList_make_full _ rfl _ _ 28 rfl w1.heap.size 3 i0 _ 1 Try.underlying28 hi0 hz0 hz1 .i64 .i64 _ _ N rfl rfl rfl rfl (by rw [hz2]; omega) (by unfold maxLen; omega) (Nat.le_refl _) ?_; intro w0 hown0 hgrow0)
    have hw0 := own_none hgrow0
    have HO := Lib.hid (OwnD.zero hown0)
    have HW := Lib.hid (bel_c HB1.out (Nat.le_refl _) hw0)
    have hs0 := hw0.size
    clear hw0 hown0 hgrow0
    go_loopw [5, 6, 7, 8] (fun q f p i wr => ∃ (k : Nat), k ≤ js.length ∧ i = .int .i64 k ∧ f = .int .i64 (facN k) ∧ p = .int .i64 (prdN js N k) ∧ Hid (OwnD w1.heap.size wr q (grow szJ js N k)) ∧ Hid (Below w.heap.size w wr) ∧ w1.heap.size ≤ wr.heap.size) (fun _ _ _ i _ => js.length - (intOf i).toNat)
    case atStart => exact ⟨0, Nat.zero_le _, rfl, rfl, rfl, HO, HW, hs0⟩
    case round =>
      clear HO HB1 HW
      obtain ⟨k, hk, rfl, rfl, rfl, ho, hbel, hsz⟩ := hrel
      have hin := ho.out.row (by rw [grow_len]; omega)
      obtain ⟨aq, cq, rfl⟩ := hin.form
      have hgl := grow_len (f := szJ) (js := js) (N := N) k
      by_cases hlt : k < js.length
      · obtain ⟨g, rfl, hg, hg1, ⟨e0, e1, e2⟩, _⟩ := R.out.at (hbel.out.mono hhi) hlt
        obtain ⟨A, B, ha, hb, la, lb, _⟩ := HT.out.nat hlt
        obtain ⟨F, F', p, p', s, hF, hF', hp, hp', hs, hwF, hwp, hs0', hs12⟩ := fac_next HT.out hlt
        have hxy := (sz_le HT.out hlt).2.2
        have hgn : grow szJ js N (k + 1) = grow szJ js N k ++ [s] := by rw [← hs]; rfl
        rw [hF, hp]
        obtain ⟨j, hj⟩ : ∃ j, j = jn js k := ⟨_, rfl⟩
        rw [show js.getD k J3.zero = j from hj.symm] at e0 e1 e2
        rw [show jn js k = j from hj.symm] at ha hb hs
        obtain ⟨up, a, b⟩ := j
        simp only at e0 e1 e2 ha hb
        subst ha
        subst hb
        clear hj
        obtain ⟨gd, hgd, hgd0, hgd1, r1, _⟩ := hin.at (Below.refl _ _) (i := A) (by omega)
        obtain ⟨gd', hgd', _, _, r2, _⟩ := hin.at (Below.refl _ _) (i := B) (by omega)
        obtain rfl : gd = gd' := by rw [hgd] at hgd'; simpa using hgd'
        obtain rfl : aq = some ⟨gd, 0, none⟩ := hgd
        rw [szJ_eq] at hs
        simp only [Int.toNat_natCast] at hs
        have la' : A < (grow szJ js N k).length := by omega
        have lb' : B < (grow szJ js N k).length := by omega
        have hx := hxy A
        have hy := hxy B
        obtain ⟨x, hxx⟩ : ∃ x, x = dp (grow szJ js N k) A := ⟨_, rfl⟩
        obtain ⟨y, hyy⟩ : ∃ y, y = dp (grow szJ js N k) B := ⟨_, rfl⟩
        rw [show (grow szJ js N k).getD A 0 = x from hxx.symm] at r1
        rw [show (grow szJ js N k).getD B 0 = y from hyy.symm] at r2
        rw [← hxx] at hx hs
        rw [← hyy] at hy hs
        have HGN := Lib.hid hgn
        have HF' := Lib.hid hF'
        have HP' := Lib.hid hp'
        have hws : IntKind.i64.wrap (1 + x + y) = s := by
          rw [← hs]; simp [IntKind.wrap, IntKind.bits, IntKind.signed]; omega
        have hwx : IntKind.i64.wrap (1 + x) = 1 + x := by simp [IntKind.wrap, IntKind.bits, IntKind.signed]; omega
        clear hgd' hxx hyy hx hy hxy hin hgn hF' hp' hF hp la lb hs
        have BX : Below wr.heap.size wr ((wr.drew).alloc (.cells #[.int .i64 s] 3)) := (bel_dr9 (Below.refl _ _)).alloc (Nat.le_refl _) _
        have HO3 : Hid (OwnD w1.heap.size ((wr.drew).alloc (.cells #[.int .i64 s] 3)) (.slice (some ⟨gd, 0, none⟩) (grow szJ js N k).length cq) (grow szJ js N k)) := Lib.hid (owL ho.out BX)
        have HB3 : Hid (Below w.heap.size w ((wr.drew).alloc (.cells #[.int .i64 s] 3))) := Lib.hid (bel_c hbel.out (Nat.le_refl _) BX)
        have HNW : Hid (∀ (j : Nat) u, ([.int .i64 s] : List Value)[j]? = some u → ((wr.drew).alloc (.cells #[.int .i64 s] 3)).cell? ((⟨wr.heap.size, 0, none⟩ : Addr).add j) = some u) := Lib.hid (fun j u hu => newsL wr.drew wr.heap.size #[.int .i64 s] 3 rfl j u hu)
        have HS3 : Hid (w1.heap.size ≤ ((wr.drew).alloc (.cells #[.int .i64 s] 3)).heap.size) := Lib.hid (by simp; omega)
        have HH3 : Hid (((wr.drew).alloc (.cells #[.int .i64 s] 3)).heap.size = wr.heap.size + 1) := Lib.hid (by simp)
        clear BX ho hbel
        go_wp2_with fail
        go_region
        go_wp2_with (at_builtin; refine wpList_append_lies _ rfl _ _ 28 rfl w1.heap.size 3 i0 (.int .i64 0) 1 8 Try.underlying28 hi0 hz0 hz1 hz2 rfl (by decide) _ _ _ rfl HO3.out ⟨wr.heap.size, 0, none⟩ 1 1 [.int .i64 s] rfl rfl HNW.out (by simp [Value.oneCell']) (by omega) (by unfold maxLen; omega) (by omega) HS3.out (wr.heap.size + 1) HH3.out ?_; intro gg cc w5 hown5 hgrow hat hlt5; have hbw := (Below.refl w1.heap.size _).grown hgrow HS3.out (ogL HO3.out))
        have HN5 : Hid (OwnD w1.heap.size w5 (.slice (some ⟨gg, 0, none⟩) ((grow szJ js N k).length + 1) cc) (grow szJ js N (k + 1))) := Lib.hid (by rw [HGN.out]; exact OwnD.more hown5)
        have HB5 := Lib.hid (HB3.out.trans (hbw.mono hs1))
        have HS5 := Lib.hid (Nat.le_trans HS3.out hbw.size)
        clear hown5 hgrow hat hlt5 hbw HO3 HNW HS3 HB3
        go_wp2_with fail
        go_roundw
        case rel => exact ⟨k + 1, by omega, by go_num, by rw [HF'.out], by rw [HP'.out], by rw [← hgl]; exact HN5, HB5, HS5.out⟩
        case measure => simp [intOf] <;> omega
      · obtain rfl : k = js.length := by omega
        have hc := HC.out
        have hp1 := (prd_bd HT.out js.length (Nat.le_refl _))
        have hf1 := fac_bd js.length (by omega)
        generalize facN js.length = F at hc hp1 hf1
        generalize prdN js N js.length = p at hc hp1
        have HCC := Lib.hid hc
        have hpp : ¬ p = 0 := by omega
        clear hc ho
        go_wp2_with fail
        go_ret
        exact ⟨by rw [← HCC.out, Int.tdiv_eq_ediv_of_nonneg (by omega)]; rfl, hbel.out⟩
  · have hd' : treeB js n = false := by simpa using hd
    rw [hd'] at CT
    have HC : Hid (-1 = cntB js n) := Lib.hid (by unfold cntB; rw [hd']; rfl)
    clear wn R hd hd'
    go_enter Try.func18, Try.ntmps18
    go_wp2_with fail
    refine (args_eqL CT.out (by with_reducible rfl)).mono ?_
    rintro e w1 ⟨rfl, hb1⟩
    go_wp2_with fail
    go_ret
    exact ⟨by rw [← HC.out]; rfl, hb1⟩
end Go.Proofs.Ytlkiacgpiodkiaa

set_option linter.unusedSimpArgs false
set_option linter.unusedVariables false
namespace Go.Proofs.Ytlkiacgpiodkiaa

/-- A join can be sewn. -/
def canB (js : List J3) (N : Nat) (U : Nat → Bool) (k : Nat) : Bool := !(U (N + k)) && U (jn js k).a.toNat && U (jn js k).b.toNat
theorem canB_eq {js : List J3} {N : Nat} (U : Nat → Bool) {k a b : Nat} (ha : (jn js k).a = a) (hb : (jn js k).b = b) : canB js N U k = (!(U (N + k)) && U a && U b) := by
  unfold canB; rw [ha, hb]; rfl
/-- What is made with these joins too. -/
def putU (N : Nat) (U : Nat → Bool) (os : List Int) (i : Nat) : Bool := U i || os.any fun o => N + o.toNat == i
def iniU (N : Nat) (i : Nat) : Bool := decide (i < N)
theorem putU_nil (N : Nat) (U : Nat → Bool) : putU N U [] = U := by funext i; simp [putU]
theorem putU_app (N : Nat) (U : Nat → Bool) (xs ys : List Int) : putU N (putU N U xs) ys = putU N U (xs ++ ys) := by
  funext i; simp [putU, Bool.or_assoc]
theorem rowB_putU (N M : Nat) (U : Nat → Bool) (xs : List Int) (o : Int) : (rowB M (putU N U xs)).set (N + o.toNat) true = rowB M (putU N U (xs ++ [o])) := by
  rw [rowB_set]
  apply rowB_ext
  intro i _
  rw [← putU_app]
  by_cases h : i = N + o.toNat
  · subst h; simp [putU]
  · have : (N + o.toNat == i) = false := by simpa using fun e => h e.symm
    simp [putU, h, this]
/-- A join of an order. -/
def ordS (js : List J3) (N : Nat) (U : Nat → Bool) (o : Int) : Bool := decide (InU js.length o) && canB js N U o.toNat
def ordF (js : List J3) (N : Nat) : (Nat → Bool) → List Int → Bool
  | _, [] => true
  | U, o :: r => ordS js N U o && ordF js N (putU N U [o]) r
def ordB (js : List J3) (n : Int) (os : List Int) : Bool := treeB js n && decide (os.length = js.length) && ordF js n.toNat (iniU n.toNat) os
section
variable {js : List J3} {N : Nat}
theorem ordF_app : ∀ (xs ys : List Int) (U : Nat → Bool), ordF js N U (xs ++ ys) = (ordF js N U xs && ordF js N (putU N U xs) ys)
  | [], ys, U => by simp [ordF, putU_nil]
  | o :: xs, ys, U => by
    rw [List.cons_append, ordF, ordF, ordF_app xs ys, putU_app, Bool.and_assoc]; rfl
theorem drop_int {os : List Int} {k : Nat} (h : k < os.length) : os.drop k = os.getD k 0 :: os.drop (k + 1) := by
  rw [List.getD_eq_getElem?_getD, List.getElem?_eq_getElem h]; exact List.drop_eq_getElem_cons h
theorem ordF_step {os : List Int} {U : Nat → Bool} {k : Nat} {b : Bool} (hk : k < os.length) (h : ordF js N U (os.drop k) = b) : (ordS js N U (os.getD k 0) && ordF js N (putU N U [os.getD k 0]) (os.drop (k + 1))) = b := by
  rw [drop_int hk, ordF] at h; exact h
theorem ordF_all {os : List Int} {U : Nat → Bool} {b : Bool} (h : ordF js N U (os.drop os.length) = b) : true = b := by
  rw [List.drop_length, ordF] at h; exact h
/-- 0, 1, .. -/
def idxL (m : Nat) : List Int := (List.range m).map fun (k : Nat) => (k : Int)
theorem idxL_len (m : Nat) : (idxL m).length = m := by simp [idxL]
theorem idxL_get {m k : Nat} (h : k < m) : (idxL m).getD k 0 = k := by simp [idxL, h]
theorem idxL_succ (m : Nat) : idxL (m + 1) = idxL m ++ [(m : Int)] := by simp [idxL, List.range_succ]
/-- The first order. -/
theorem put_next (k : Nat) : putU N (fun i => decide (i < N + k)) [(k : Int)] = fun i => decide (i < N + (k + 1)) := by
  funext i
  simp only [putU, List.any_cons, List.any_nil, Bool.or_false, Int.toNat_natCast]
  by_cases h1 : i < N + k
  · simp [h1]; omega
  · by_cases h2 : N + k = i
    · simp [h2]; omega
    · have h3 : ¬ i < N + (k + 1) := by omega
      simp [h1, h2, h3]
theorem first_from (h : TreeJ js N) : ∀ m k, k + m = js.length → ordF js N (fun i => decide (i < N + k)) ((idxL js.length).drop k) = true
  | 0, k, hk => by
    rw [List.drop_eq_nil_of_le (by rw [idxL_len]; omega)]; rfl
  | m + 1, k, hk => by
    rw [drop_int (by rw [idxL_len]; omega), ordF, idxL_get (by omega), put_next, first_from h m (k + 1) (by omega), Bool.and_true]
    obtain ⟨a, b, ha, hb, la, lb, _⟩ := h.nat (k := k) (by omega)
    unfold ordS
    rw [Int.toNat_natCast, canB_eq _ ha hb]
    simp [InU, la, lb]; omega
theorem first_ok (h : TreeJ js N) : ordF js N (iniU N) (idxL js.length) = true := by
  have := first_from h js.length 0 (by omega)
  exact this
/-- The first two changed. -/
theorem swap_ok (h : TreeJ js N) (hl : 2 ≤ js.length) : ordF js N (iniU N) (((idxL js.length).set 0 1).set 1 0) = (decide ((jn js 1).a ≠ N) && decide ((jn js 1).b ≠ N)) := by
  have e : ((idxL js.length).set 0 1).set 1 0 = 1 :: 0 :: (idxL js.length).drop 2 := by
    have h0 := drop_int (os := idxL js.length) (k := 0) (by rw [idxL_len]; omega)
    have h1 := drop_int (os := idxL js.length) (k := 1) (by rw [idxL_len]; omega)
    rw [List.drop_zero] at h0
    simp only [Nat.zero_add] at h0 h1
    generalize (idxL js.length).drop 2 = r at h1 ⊢
    rw [h0, h1]; rfl
  obtain ⟨a, b, ha, hb, la, lb, _⟩ := h.nat (k := 1) (by omega)
  obtain ⟨a0, b0, ha0, hb0, la0, lb0, _⟩ := h.nat (k := 0) (by omega)
  rw [e, ordF, ordF, putU_app]
  have hU : putU N (iniU N) ([1] ++ [0]) = fun i => decide (i < N + 2) := by
    funext i
    simp only [putU, iniU, List.cons_append, List.nil_append, List.any_cons, List.any_nil, Bool.or_false]
    by_cases h1 : i < N
    · simp [h1]; omega
    · by_cases h2 : i = N
      · subst h2; simp
      · by_cases h3 : i = N + 1
        · subst h3; simp
        · have h4 : ¬ i < N + 2 := by omega
          simp [h1, h4]; omega
  rw [hU, first_from h (js.length - 2) 2 (by omega), Bool.and_true]
  have h0 : ordS js N (putU N (iniU N) [1]) 0 = true := by
    unfold ordS
    rw [show (0 : Int).toNat = 0 from rfl, canB_eq _ ha0 hb0]
    simp [InU, putU, iniU]
    omega
  rw [h0, Bool.and_true]
  unfold ordS
  rw [show (1 : Int).toNat = 1 from rfl, canB_eq _ ha hb, ha, hb]
  simp [InU, iniU]
  have e1 : decide (a < N) = !decide (a = N) := by by_cases h : a = N <;> simp [h]; omega
  have e2 : decide (b < N) = !decide (b = N) := by by_cases h : b = N <;> simp [h]; omega
  rw [e1, e2]
  have e3 : (1 : Int) < js.length := by omega
  have e4 : ¬ N + 1 < N := by omega
  have e5 : decide ((a : Int) = N) = decide (a = N) := by by_cases h : a = N <;> simp [h]; omega
  have e6 : decide ((b : Int) = N) = decide (b = N) := by by_cases h : b = N <;> simp [h]; omega
  simp [e3, e4, e5, e6]

/-! Rounds. -/
/-- The joins of a depth, of the first m. -/
def rndM (js : List J3) (N m : Nat) (r : Int) : List Int := ((List.range m).filter fun k => dpK js N k == r).map fun (k : Nat) => (k : Int)
/-- Those that wait behind a round. -/
def waitM (js : List J3) (N m : Nat) (r : Int) : List Int := ((List.range m).filter fun k => decide (r < dpK js N k)).map fun (k : Nat) => (k : Int)
def depU (js : List J3) (N : Nat) (r : Int) (i : Nat) : Bool := decide (dp (grow dpJ js N js.length) i ≤ r)
def roundsN (js : List J3) (N : Nat) (d : Nat) : List (List Int) := (List.range d).map fun (r : Nat) => rndM js N js.length ((r : Int) + 1)
def roundsB (js : List J3) (n : Int) : List (List Int) := if treeB js n then roundsN js n.toNat (depJ js n).toNat else []
theorem roundsN_len (d : Nat) : (roundsN js N d).length = d := by simp [roundsN]
theorem roundsN_get {d r : Nat} (h : r < d) : (roundsN js N d).getD r [] = rndM js N js.length (r + 1) := by simp [roundsN, h]
theorem roundsN_succ (d : Nat) : roundsN js N (d + 1) = roundsN js N d ++ [rndM js N js.length (d + 1)] := by simp [roundsN, List.range_succ]
theorem dep_bd (h : TreeJ js N) : 0 ≤ depJ js N ∧ depJ js N ≤ 11 ∧ depJ js N ≤ js.length := by
  have := dp_nn (js := js) (N := N) js.length (N + js.length - 1)
  have := h.len
  have := h.n12
  rw [h.dep]; omega
theorem can_dep (h : TreeJ js N) {k : Nat} (hk : k < js.length) {r : Int} (hr : r - 1 < dpK js N k) : canB js N (depU js N (r - 1)) k = (dpK js N k == r) := by
  have h1 := dpK_is h hk
  have h2 : dp (grow dpJ js N js.length) (N + k) = dpK js N k := rfl
  unfold canB depU
  rw [h2]
  generalize dp (grow dpJ js N js.length) (jn js k).a.toNat = x at h1 ⊢
  generalize dp (grow dpJ js N js.length) (jn js k).b.toNat = y at h1 ⊢
  by_cases e : dpK js N k = r
  · have e1 : x ≤ r - 1 := by omega
    have e2 : y ≤ r - 1 := by omega
    have e3 : ¬ dpK js N k ≤ r - 1 := by omega
    have e4 : (dpK js N k == r) = true := by simp [e]
    rw [e4]; simp [e1, e2, e3]
  · have e3 : (dpK js N k == r) = false := by simp [e]
    rw [e3]
    have : ¬ (x ≤ r - 1 ∧ y ≤ r - 1) := by omega
    simp only [Bool.and_eq_false_iff, decide_eq_false_iff_not]
    omega
theorem ini_dep (h : TreeJ js N) : rowB (N + js.length) (iniU N) = rowB (N + js.length) (depU js N 0) := by
  apply rowB_ext
  intro i hi
  unfold iniU depU
  by_cases e : i < N
  · rw [grow_zero e]; simp [e]
  · obtain ⟨k, rfl⟩ : ∃ k, i = N + k := ⟨i - N, by omega⟩
    have := dpK_pos h (k := k) (by omega)
    unfold dpK at this
    have e2 : ¬ dp (grow dpJ js N js.length) (N + k) ≤ 0 := by omega
    rw [decide_eq_false e, decide_eq_false e2]
theorem mem_rnd {m : Nat} {r o : Int} : o ∈ rndM js N m r ↔ ∃ k : Nat, k < m ∧ dpK js N k = r ∧ o = k := by
  simp only [rndM, List.mem_map, List.mem_filter, List.mem_range, beq_iff_eq]
  constructor
  · rintro ⟨k, ⟨h1, h2⟩, rfl⟩; exact ⟨k, h1, h2, rfl⟩
  · rintro ⟨k, h1, h2, rfl⟩; exact ⟨k, ⟨h1, h2⟩, rfl⟩
theorem put_dep (h : TreeJ js N) {r : Int} (hr1 : 1 ≤ r) : rowB (N + js.length) (putU N (depU js N (r - 1)) (rndM js N js.length r)) = rowB (N + js.length) (depU js N r) := by
  apply rowB_ext
  intro i hi
  unfold putU depU
  by_cases e : i < N
  · rw [grow_zero e]
    have : (rndM js N js.length r).any (fun o => N + o.toNat == i) = decide (False) := by
      rw [decide_false, List.any_eq_false]
      intro o ho
      obtain ⟨k, _, _, rfl⟩ := mem_rnd.1 ho
      simp; omega
    rw [this]
    have e1 : (0 : Int) ≤ r - 1 := by omega
    have e2 : (0 : Int) ≤ r := by omega
    simp [e1, e2, hr1]
  · obtain ⟨k, rfl⟩ : ∃ k, i = N + k := ⟨i - N, by omega⟩
    have h2 : dp (grow dpJ js N js.length) (N + k) = dpK js N k := rfl
    rw [h2]
    by_cases hr : dpK js N k = r
    · have : (rndM js N js.length r).any (fun o => N + o.toNat == N + k) = true := by
        rw [List.any_eq_true]
        exact ⟨k, mem_rnd.2 ⟨k, by omega, hr, rfl⟩, by simp⟩
      rw [this, hr]; simp
    · have : (rndM js N js.length r).any (fun o => N + o.toNat == N + k) = false := by
        rw [List.any_eq_false]
        intro o ho
        obtain ⟨k', _, h3, rfl⟩ := mem_rnd.1 ho
        simp only [Int.toNat_natCast, beq_iff_eq]
        intro h4
        obtain rfl : k' = k := by omega
        exact hr h3
      rw [this, Bool.or_false]
      by_cases e1 : dpK js N k ≤ r - 1
      · have e2 : dpK js N k ≤ r := by omega
        simp [e1, e2]
      · have e2 : ¬ dpK js N k ≤ r := by omega
        simp [e1, e2]
end
end Go.Proofs.Ytlkiacgpiodkiaa
