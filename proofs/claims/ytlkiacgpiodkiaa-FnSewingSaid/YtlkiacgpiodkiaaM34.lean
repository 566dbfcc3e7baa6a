/- Joins: the model's JoinsOf. Orders of sewing: DrawJoins. Orders of sewing: what the walk of FnSewing asks. -/
import Derived.Test.YtlkiacgpiodkiaaJnSj
import Derived.Test.YtlkiacgpiodkiaaM28
import Derived.Test.YtlkiacgpiodkiaaM25
import Derived.Test.YtlkiacgpiodkiaaM11
import Derived.Test.YtlkiacgpiodkiaaM18
import Derived.Test.YtlkiacgpiodkiaaM16
import Derived.Test.YtlkiacgpiodkiaaM21
import Derived.Test.YtlkiacgpiodkiaaM14
import Derived.Test.YtlkiacgpiodkiaaM22

set_option linter.unusedSimpArgs false
set_option linter.unusedVariables false
namespace Go.Proofs.Ytlkiacgpiodkiaa
open Go.ChangeShapes Go.WideShapes Go.ChangeAt Go.RowKit

set_option maxHeartbeats 3200000 in
set_option maxRecDepth 20000 in
theorem SpecJoinsOf_any (lo hi : Nat) (m n : Int) (v : Value) (xs : List P5) (w : World) (r : PatIn lo hi w v xs) (hhi : hi ≤ w.heap.size) :
    Calls Try.prog 35 #[.agg #[.int .i64 m, .int .i64 n, v]] w (JoinsV (joinsL m n xs) (sewB m n xs) w) := by
  obtain ⟨ii, hii, iz0, iz1, iz2⟩ := info_parts3 info_intJ
  obtain ⟨b, cap, rfl⟩ := r.form
  have R := Lib.hid r
  have hl := r.1
  have LK : Hid (∀ u : World, Below w.heap.size w u → Calls Try.prog 50 #[.agg #[.int .i64 m, .int .i64 n, .slice b xs.length cap]] u fun e w' => e = .returned (.bool (layB m n xs)) ∧ Below u.heap.size u w') := Lib.hid (fun u hb => SpecLayoutOk_any lo hi m n _ xs u (r.below (hb.mono hhi)) (Nat.le_trans hhi hb.size))
  have HB0 : Hid (Below w.heap.size w (w.alloc (.cells #[.int .i64 m, .int .i64 n, .slice b xs.length cap] 50))) := Lib.hid (bel0 w _)
  clear r
  by_cases h0 : layB m n xs = true
  · rw [h0] at LK
    have hx12 := (lay_of h0).2.2.1.2
    have hx1 := (lay_of h0).2.2.1.1
    have TI := SpecTree_is (treeR_is h0)
    have HSW := Lib.hid (treeR_sew h0)
    have HJL : Hid ((treeR m n xs).2.2 = true → (treeR m n xs).1 = joinsL m n xs) := Lib.hid (fun h => (joins_yes (by rw [← treeR_sew h0]; exact h)).symm)
    have HJN : Hid ((treeR m n xs).2.2 = false → joinsL m n xs = []) := Lib.hid (fun h => joins_no (by rw [← treeR_sew h0]; exact h))
    obtain ⟨jr, hjr⟩ : ∃ j, j = (treeR m n xs).1 := ⟨_, rfl⟩
    obtain ⟨ur, hur⟩ : ∃ j, j = (treeR m n xs).2.1 := ⟨_, rfl⟩
    obtain ⟨br, hbr⟩ : ∃ j, j = (treeR m n xs).2.2 := ⟨_, rfl⟩
    rw [← hjr, ← hur, ← hbr] at TI
    rw [← hbr] at HSW
    rw [← hbr, ← hjr] at HJL
    rw [← hbr] at HJN
    have HTI := Lib.hid TI
    clear hjr hur hbr TI h0
    generalize joinsL m n xs = JL at HJL HJN
    generalize sewB m n xs = SB at HSW
    have hsb := HSW.out
    subst hsb
    go_enter Try.func35, Try.ntmps35
    go_wp2_with fail
    refine (args_eqL (LK.out _ HB0.out) (by with_reducible rfl)).mono ?_
    rintro e w0 ⟨rfl, hb0⟩
    have a0 := kept (p := ⟨w.heap.size, 0, none⟩) (x := .int .i64 m) hb0 (by go_simp)
    have a1 := kept (p := ⟨w.heap.size, 1, none⟩) (x := .int .i64 n) hb0 (by go_simp)
    have a2 := kept (p := ⟨w.heap.size, 2, none⟩) (x := .slice b xs.length cap) hb0 (by go_simp)
    have HB1 := Lib.hid (bel_c HB0.out (Nat.le_refl _) hb0)
    clear hb0 HB0 LK
    have HO0 : Hid (OwnD w0.heap.size (w0.alloc (.cells #[] 3)) (.slice (some ⟨w0.heap.size, 0, none⟩) 0 0) (numsN 0)) := Lib.hid (by
      have := World.ownsRow_lit (base := w0.heap.size) (e := 3) (size := 1) w0 #[] 0 (Nat.le_refl _) (by decide) rfl
      simpa [OwnD, numsN, ivals] using this)
    have HBX := Lib.hid (bel0 w0 (.cells #[] 3))
    go_wp2_with fail
    go_loopw [4, 5] (fun q i wr => ∃ k : Nat, k ≤ xs.length ∧ i = .int .i64 k ∧ Hid (OwnD w0.heap.size wr q (numsN k)) ∧ Hid (Below w0.heap.size w0 wr)) (fun _ i _ => xs.length - (intOf i).toNat)
    case atStart => exact ⟨0, Nat.zero_le _, rfl, HO0, HBX⟩
    case round =>
      clear HO0 HBX
      obtain ⟨k, hk, rfl, hown, hbel⟩ := hrel
      have c0 := kept hbel.out a0
      have c1 := kept hbel.out a1
      have c2 := kept hbel.out a2
      have hsw := hbel.out.size
      have hkl := numsN_len k
      by_cases hlt : k < xs.length
      · have HN : Hid (numsN (k + 1) = numsN k ++ [(k : Int)]) := Lib.hid (numsN_succ k)
        obtain ⟨N, hN⟩ : ∃ N, N = numsN k := ⟨_, rfl⟩
        rw [← hN] at hown hkl HN
        have BW := bel0 wr (.cells #[.int .i64 k] 3)
        have HQ : Hid ((wr.alloc (.cells #[.int .i64 k] 3)).ownsRow w0.heap.size 3 1 u4 N.length (ivals N)) := Lib.hid (owL hown.out BW)
        have HBD := Lib.hid (bel_c hbel.out (Nat.le_refl _) BW)
        have HSX := Lib.hid HBD.out.size
        have HNW := Lib.hid (newsL wr wr.heap.size #[.int .i64 k] 3 rfl)
        have hkl' : N.length ≤ 12 := by omega
        have HKL := Lib.hid hkl
        clear hN hown hbel BW hkl
        go_wp2_with (at_builtin; refine wpList_append_lies _ rfl _ _ 28 rfl w0.heap.size 3 ii _ 1 8 Try.underlying28 hii iz0 iz1 iz2 rfl (by decide) _ _ _ rfl HQ.out ⟨wr.heap.size, 0, none⟩ 1 1 [.int .i64 k] rfl rfl HNW.out (by simp [Value.oneCell']) (by omega) (by unfold maxLen; omega) (by omega) HSX.out (wr.heap.size + 1) (by simp) ?_; intro gg c5 w5 hown5 hgrow hat hlt5; have hbw := (Below.refl w0.heap.size _).grown hgrow HSX.out (ogL HQ.out))
        have HP5 : Hid (OwnD w0.heap.size w5 (.slice (some ⟨gg, 0, none⟩) (N.length + 1) c5) (numsN (k + 1))) := Lib.hid (by rw [HN.out]; exact OwnD.more hown5)
        have HB5 := Lib.hid (HBD.out.trans hbw)
        clear hown5 hgrow hat hlt5 hbw HQ HNW HSX HBD
        go_wp2_with fail
        go_roundw
        case rel => exact ⟨k + 1, by omega, by go_num, HP5, HB5⟩
        case measure => simp [intOf] <;> omega
      · obtain rfl : k = xs.length := by omega
        have HI := Lib.hid (hown.out.row (by omega))
        obtain ⟨aq, cq, hq⟩ := HI.out.form
        rw [hkl] at hq
        subst hq
        have HBZ := Lib.hid (bel_c HB1.out (Nat.le_refl _) hbel.out)
        clear hown hbel hkl
        go_wp2_with fail
        refine (args_eqL (HTI.out _ _ _ _ _ _ _ (R.out.below (HBZ.out.mono hhi)) (Nat.le_trans hhi HBZ.out.size) HI.out (Nat.le_refl _) (by omega) (by omega)) (by with_reducible rfl)).mono ?_
        rintro e Z ⟨vj, rfl, RJ, hbz⟩
        obtain ⟨aj, cj, rfl⟩ := RJ.form
        have HJ := Lib.hid RJ
        have HBE := Lib.hid (bel_c HBZ.out (Nat.le_refl _) hbz)
        have hwz := HBZ.out.size
        clear RJ hbz c0 c1 c2
        rcases br with _ | _
        · have e1 := HJN.out rfl
          subst e1
          clear HJL HJN
          go_wp2_with fail
          refine bodyPost_ret (v := .tuple #[.slice (some ⟨Z.heap.size, 0, none⟩) 0 0, .bool false]) (by simp [results, Try.results35, go_sem]) rfl ⟨_, rfl, ⟨by simp, .inl ⟨rfl, _, _, rfl⟩⟩, ?_⟩
          exact bel_n HBE.out (Nat.le_refl _) _
        · have e1 := HJL.out rfl
          subst e1
          clear HJL HJN
          go_wp2_with fail
          refine bodyPost_ret (v := .tuple #[.slice aj jr.length cj, .bool true]) (by simp [results, Try.results35, go_sem]) rfl ⟨_, rfl, HJ.out.wide hwz (Nat.le_refl _), HBE.out⟩
  · have h' : layB m n xs = false := by simpa using h0
    rw [h'] at LK
    have hs : sewB m n xs = false := (sew_no_lay h').symm
    rw [joins_no hs, hs]
    clear h0 h' hs
    go_enter Try.func35, Try.ntmps35
    go_wp2_with fail
    refine (args_eqL (LK.out _ HB0.out) (by with_reducible rfl)).mono ?_
    rintro e w0 ⟨rfl, hb0⟩
    have HB1 := Lib.hid (bel_c HB0.out (Nat.le_refl _) hb0)
    clear hb0 HB0 LK
    go_wp2_with fail
    refine bodyPost_ret (v := .tuple #[.slice (some ⟨w0.heap.size, 0, none⟩) 0 0, .bool false]) (by simp [results, Try.results35, go_sem]) rfl ⟨_, rfl, ⟨by simp, .inl ⟨rfl, _, _, rfl⟩⟩, ?_⟩
    exact bel_n HB1.out (Nat.le_refl _) _

end Go.Proofs.Ytlkiacgpiodkiaa

set_option linter.unusedSimpArgs false
set_option linter.unusedVariables false
namespace Go.Proofs.Ytlkiacgpiodkiaa
open Go.ChangeShapes Go.WideShapes Go.ChangeAt Go.RowKit

/-- Joins that make a tree are handed back. -/
def GivenJ (w : World) (e : Ending) (w' : World) : Prop :=
  ∃ (v : Value) (js : List J3) (N : Nat), treeB js N = true ∧ e = .returned (.tuple #[v, .int .i64 N]) ∧ JnIn w.heap.size w'.heap.size w' v js ∧ Below w.heap.size w w'
set_option maxHeartbeats 800000 in
theorem DrawJoins_any (a : Option Addr) (len cap : Nat) (w : World) (hs : Src w w.heap.size a len) (hlen : len ≤ 1048576) :
    Calls Try.prog 10 #[.slice a len cap] w (GivenJ w) := by
  have HS := Lib.hid hs
  clear hs
  go_enter Try.func10, Try.ntmps10
  go_wp2_with fail
  refine (New_any a len cap _ HS.out hlen).mono ?_
  rintro e w1 ⟨rfl, hc1, hb1⟩
  have hlt := hc1.lt
  go_wp2_with fail
  refine (LayoutDraw_any _ a len cap _ hc1).mono ?_
  rintro e w2 ⟨m, n, v, xs, hv, rfl, hin, hc2, hb2⟩
  obtain ⟨av, cv, rfl⟩ := hin.form
  have hx0 := hv.2.2.1
  have HB2 : Hid (Below w.heap.size w w2) := Lib.hid (hb1.trans (hb2.below (Nat.le_refl _) (Nat.le_of_lt hlt)))
  obtain ⟨W3, hW3⟩ : ∃ W3, W3 = w2.alloc (.cells #[.int .i64 m, .int .i64 n, .slice av xs.length cv] 50) := ⟨_, rfl⟩
  have NB : Below w2.heap.size w2 W3 := by rw [hW3]; exact bel0 _ _
  have P0 : BoxL w2.heap.size (.int .i64 m) (.int .i64 n) (.slice av xs.length cv) W3 := by rw [hW3]; exact BoxL.new w2 _ _ _ _
  have HP := Lib.hid P0
  have HI3 := Lib.hid (hin.below NB)
  have HB3 := Lib.hid (bel_c HB2.out (Nat.le_refl _) NB)
  have hs3 : W3.heap.size = w2.heap.size + 1 := by rw [hW3]; simp
  have JO := Lib.hid (SpecJoinsOf_any _ _ m n (.slice av xs.length cv) xs W3 HI3.out (by omega))
  have J1 : Hid (sewB m n xs = true → treeB (joinsL m n xs) xs.length = true) := Lib.hid (fun h => joins_make h)
  generalize joinsL m n xs = js at JO J1
  clear hb1 hb2 hc1 hc2 hin hv P0 NB HB2 HI3 HS
  go_wp2_with fail
  rw [← hW3]
  clear hW3
  refine (args_eqL JO.out (by with_reducible rfl)).mono ?_
  rintro e w4 ⟨vj, rfl, hj, hb4⟩
  obtain ⟨aj, cj, rfl⟩ := hj.form
  obtain ⟨p0, p1, p2, f0, f1, f2⟩ := HP.out.below hb4 (by omega)
  have HJ := Lib.hid hj
  have HB4 := Lib.hid (bel_c HB3.out (Nat.le_refl _) hb4)
  have hs4 := HB3.out.size
  clear hj hb4 HP JO HB3
  cases hs : sewB m n xs with
  | true =>
    have HT := Lib.hid (J1.out hs)
    clear J1 hs
    go_wp2_with fail
    go_region
    go_wp2_with fail
    refine bodyPost_ret (v := .tuple #[.slice aj js.length cj, .int .i64 xs.length]) (by simp [results, Try.results10, go_sem]) rfl ⟨_, js, xs.length, HT.out, rfl, ?_, bel_dr9 HB4.out⟩
    exact (HJ.out.below (w' := w4.drew) ⟨rfl, rfl, rfl, Nat.le_refl _, fun _ _ => rfl⟩).wide (by omega) (Nat.le_refl _)
  | false =>
    clear J1 hs
    go_wp2_with fail
    exact bodyPost_ret (v := .tuple #[.slice (some ⟨w4.heap.size, 0, none⟩) 0 0, .int .i64 1]) (by simp [results, Try.results10, go_sem]) rfl ⟨_, [], 1, one_tree, rfl, ⟨by simp, .inl ⟨rfl, _, _, rfl⟩⟩, bel_n HB4.out (Nat.le_refl _) _⟩
end Go.Proofs.Ytlkiacgpiodkiaa

set_option linter.unusedSimpArgs false
set_option linter.unusedVariables false
namespace Go.Proofs.Ytlkiacgpiodkiaa
open Go.ChangeShapes Go.WideShapes Go.ChangeAt Go.RowKit

theorem IntIn.rowOf {lo hi : Nat} {w w' : World} {v : Value} {zs : List Int} (h : IntIn lo hi w v zs) (hb : Below hi w w') : RowOf w' v zs.length (ivals zs) := by
  obtain ⟨_, ⟨rfl, a, c, hv⟩ | ⟨g, cap, hv, hg, hlt, hc⟩⟩ := h
  · exact .inl ⟨rfl, a, c, hv⟩
  · refine .inr ⟨_, _, hv, fun j u hu => ?_⟩
    have hj : j < zs.length := by
      rcases Nat.lt_or_ge j zs.length with h | h
      · exact h
      · rw [List.getElem?_eq_none (by simp [ivals]; exact h)] at hu; cases hu
    have h1 := (hb.cell (p := ⟨g, j, Option.none⟩) hlt).trans (hc j hj).1
    have h2 : u = .int .i64 (zs.getD j 0) := by
      simp [ivals, hj] at hu
      simp [List.getD, hj, ← hu]
    rw [h2]
    by_cases hj0 : j = 0
    · subst hj0; simpa [Addr.add] using h1
    · simpa [Addr.add, hj0] using h1
theorem oneI (zs : List Int) : ∀ u ∈ ivals zs, u.oneCell' = true := by
  intro u hu
  simp only [ivals, List.mem_map] at hu
  obtain ⟨z, _, rfl⟩ := hu
  rfl
theorem ivals_app (xs ys : List Int) : ivals (xs ++ ys) = ivals xs ++ ivals ys := by simp [ivals]
theorem ivals_len (xs : List Int) : (ivals xs).length = xs.length := by simp [ivals]
theorem OwnD.put {b g n c : Nat} {w : World} {zs : List Int} (h : OwnD b w (.slice (some ⟨g, 0, none⟩) n c) zs) (hn : n = zs.length) (i : Nat) (z : Int) :
    OwnD b (w.setCell ⟨g, i, none⟩ (.int .i64 z)) (.slice (some ⟨g, 0, none⟩) n c) (zs.set i z) := by
  subst hn
  unfold OwnD at *
  rw [List.length_set]
  have := (World.ownsRow.stored h i (.int .i64 z)).1
  have e : ivals (zs.set i z) = (ivals zs).set i (.int .i64 z) := by simp [ivals]
  rw [e]; exact this
theorem OwnD.empty (w : World) (b : Nat) (hb : b ≤ w.heap.size) : OwnD b (w.alloc (.cells #[] 3)) (.slice (some ⟨w.heap.size, 0, none⟩) 0 0) [] := by
  have := World.ownsRow_lit (base := b) (e := 3) (size := 1) w #[] 0 hb (by decide) rfl
  simpa [OwnD, ivals] using this
theorem row_form {w : World} {b e size n : Nat} {v : Value} {xs : List Value} (h : w.ownsRow b e size v (0 + n) xs) (hn : 0 < n) : ∃ g c, v = .slice (some ⟨g, 0, none⟩) n c ∧ b ≤ g ∧ w.ownsRow b e size (.slice (some ⟨g, 0, none⟩) n c) n xs := by
  rw [Nat.zero_add] at h
  have h0 := h
  obtain ⟨_, ⟨_, he⟩ | ⟨g, cap, cur, hv, hg, _⟩⟩ := h
  · omega
  · subst hv
    exact ⟨g, cap, rfl, hg, h0⟩
/-- Three joins by hand. -/
def lit3 : List J3 := [⟨false, 0, 1⟩, ⟨false, 2, 3⟩, ⟨false, 4, 5⟩]
theorem lit_row (w : World) : JnIn w.heap.size (w.heap.size + 1) (w.alloc (.cells #[.bool false, .int .i64 0, .int .i64 1, .bool false, .int .i64 2, .int .i64 3, .bool false, .int .i64 4, .int .i64 5] 34)) (.slice (some ⟨w.heap.size, 0, none⟩) 3 3) lit3 := by
  refine ⟨by decide, .inr ⟨w.heap.size, 3, rfl, by decide, Nat.le_refl _, Nat.lt_succ_self _, fun i hi => ?_⟩⟩
  have : i = 0 ∨ i = 1 ∨ i = 2 := by simp [lit3] at hi; omega
  rcases this with rfl | rfl | rfl <;> exact ⟨⟨by simp [lit3], by simp [lit3], by simp [lit3]⟩, by simp, by simp, by simp⟩
theorem first_is {js : List J3} {n : Int} (h : treeB js n = true) : firstB js n = idxL js.length ∧ ordB js n (idxL js.length) = true := by
  obtain ⟨N, rfl, hT⟩ := tree_is h
  refine ⟨by unfold firstB; rw [if_pos h], ?_⟩
  unfold ordB
  rw [h, Int.toNat_natCast, first_ok hT, idxL_len]; simp
theorem swap_is {js : List J3} {N : Nat} (h : treeB js N = true) (hl : 2 ≤ js.length) : ordB js N (((idxL js.length).set 0 1).set 1 0) = (decide ((jn js 1).a ≠ N) && decide ((jn js 1).b ≠ N)) := by
  obtain ⟨N', e, hT⟩ := tree_is h
  obtain rfl : N = N' := by omega
  unfold ordB
  rw [h, Int.toNat_natCast, swap_ok hT hl]; simp [idxL_len]
theorem catF_le {L : List (List Int)} (h : ∀ i, i < L.length → (lat L i).length ≤ 11) : ∀ k, k ≤ L.length → (catF L k).length ≤ 11 * k
  | 0, _ => by simp [catF]
  | k + 1, hk => by
    have := catF_le h k (by omega)
    have := h k (by omega)
    simp only [catF, List.length_append]
    unfold lat at this
    omega
end Go.Proofs.Ytlkiacgpiodkiaa
