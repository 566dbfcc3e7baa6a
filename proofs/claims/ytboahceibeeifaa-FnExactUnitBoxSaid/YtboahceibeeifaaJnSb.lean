/- Joins: the model's l11Boxes. -/
import Derived.Test.YtboahceibeeifaaJnSa
import Derived.Test.YtboahceibeeifaaPatT
import Derived.Test.YtboahceibeeifaaJnR
import Derived.Test.YtboahceibeeifaaJnF
import Derived.Test.YtboahceibeeifaaCellS
import Derived.Deep.RegionLaw
set_option linter.unusedSimpArgs false
set_option linter.unusedVariables false
namespace Go.Proofs.Ytboahceibeeifaa
open Go.ChangeShapes Go.WideShapes Go.ChangeAt Go.RowKit

theorem dis_next {v : Value} {gg gb H l c : Nat} (h1 : v.ownBlock ≠ some gb) (hat : v.ownBlock = some gg ∨ gg = H) (hH : gb < H) : (Value.slice (some ⟨gg, 0, none⟩) l c).ownBlock ≠ some gb := by
  rcases hat with h | h
  · rw [h] at h1
    intro k
    exact h1 (by simpa [Value.ownBlock] using k)
  · intro k
    simp [Value.ownBlock] at k
    omega
theorem fit_mk {us : List U6} {up : Bool} {A B : Nat} (a2 : A < us.length) (b2 : B < us.length) (h : A ≠ B) (ha : (un us A).j = false) (hb : (un us B).j = false) (hs : Side up (un us A).p (un us B).p) : FitJ us ⟨up, A, B⟩ := by
  unfold FitJ InU
  simp only [Int.toNat_natCast]
  exact ⟨by omega, by omega, by omega, ha, hb, hs⟩
theorem fit_same' {us : List U6} {up : Bool} {A : Nat} : decide (FitJ us ⟨up, A, A⟩) = false := decide_eq_false (fun k => k.2.2.1 rfl)
set_option maxHeartbeats 9600000 in
set_option maxRecDepth 20000 in
theorem SpecBoxes_any (lo hi : Nat) (m n : Int) (v : Value) (xs : List P5) (lo2 hi2 : Nat) (v2 : Value) (js : List J3) (lay : LayOk m n xs) (w : World) (r : PatIn lo hi w v xs) (hhi : hi ≤ w.heap.size) (r2 : JnIn lo2 hi2 w v2 js) (hhi2 : hi2 ≤ w.heap.size) :
    Calls Try.prog 51 #[.agg #[.int .i64 m, .int .i64 n, v], v2] w (FreshPat ((unF (xs.map mkU) js).map U6.p) w) := by
  obtain ⟨i0, hi0, hz0, hz1, hz2⟩ := info_parts3 info_Pat
  obtain ⟨i1, hi1, hy0, hy1, hy2⟩ := info_parts3 info_boolJ
  obtain ⟨b, cap, rfl⟩ := r.form
  obtain ⟨b2, cap2, rfl⟩ := r2.form
  have R2 := Lib.hid r2
  have hl := r.1
  have hl2 := r2.1
  have h0 := lay.2.2.1.1
  have hx12 := lay.2.2.1.2
  have hm12 := lay.1.2
  have hn12 := lay.2.1.2
  have HUK := Lib.hid (UOk.start lay)
  obtain ⟨g, rfl, hg, hg1, hn⟩ := r.newsP h0
  have BG : Below w.heap.size w ((w.alloc (.cells #[.int .i64 m, .int .i64 n, .slice (some ⟨g, 0, none⟩) xs.length cap] 26)).alloc (.cells #[] 34)) := bel_n (bel0 w _) (Nat.le_refl _) _
  have HN0 : Hid (∀ (j : Nat) u, (placesPat xs)[j]? = some u → (((w.alloc (.cells #[.int .i64 m, .int .i64 n, .slice (some ⟨g, 0, none⟩) xs.length cap] 26)).alloc (.cells #[] 34))).cell? ((⟨g, 0, none⟩ : Addr).add j) = some u) := Lib.hid (hn _ (BG.mono hhi))
  have HO0 : Hid ((((w.alloc (.cells #[.int .i64 m, .int .i64 n, .slice (some ⟨g, 0, none⟩) xs.length cap] 26)).alloc (.cells #[] 34))).ownsRow (w.heap.size + 1) 34 5 (.slice (some ⟨w.heap.size + 1, 0, none⟩) 0 0) 0 []) := Lib.hid (by
    have := World.ownsRow_lit (base := w.heap.size + 1) (e := 34) (size := 5) (w.alloc (.cells #[.int .i64 m, .int .i64 n, .slice (some ⟨g, 0, none⟩) xs.length cap] 26)) #[] 0 (by simp) (by decide) rfl
    simpa using this)
  have HB0 := Lib.hid BG
  have HB0' : Hid (Below (w.heap.size + 1) (((w.alloc (.cells #[.int .i64 m, .int .i64 n, .slice (some ⟨g, 0, none⟩) xs.length cap] 26)).alloc (.cells #[] 34))) (((w.alloc (.cells #[.int .i64 m, .int .i64 n, .slice (some ⟨g, 0, none⟩) xs.length cap] 26)).alloc (.cells #[] 34)))) := Lib.hid (Below.refl _ _)
  obtain ⟨NB, hNB0⟩ : ∃ NB, NB = xs.length + js.length := ⟨_, rfl⟩
  have hNB : (xs.length : Int) + (js.length : Int) = (NB : Int) := by omega
  have hNB1 : NB ≤ 1048576 + 12 := by omega
  have HNB := Lib.hid hNB0
  have hone := onePl xs
  have hpl := placesPat_length xs
  obtain ⟨U, hUU⟩ : ∃ U, unF (xs.map mkU) js = U := ⟨_, rfl⟩
  rw [hUU]
  have HUN := Lib.hid hUU
  clear hUU r r2 lay hn BG hNB0
  go_enter Try.func51, Try.ntmps51
  go_wp2_with (first
    | (at_builtin; refine wpList_append_lies _ rfl _ _ 24 rfl (w.heap.size + 1) 34 i0 _ 5 40 Try.underlying24 hi0 hz0 hz1 hz2 rfl (by decide) _ _ _ rfl HO0.out ⟨g, 0, none⟩ xs.length cap (placesPat xs) rfl hpl HN0.out hone h0 (by unfold maxLen; omega) (by omega) (by simp) (w.heap.size + 1 + 1) (by simp) ?_; intro gg cc w1 hown1 hgrow1 hat1 hlt1; have hbw1 := (Below.refl (w.heap.size + 1) _).grown hgrow1 (by simp) (ogL HO0.out); have HO1 : Hid (OwnP (w.heap.size + 1) w1 (.slice (some ⟨gg, 0, none⟩) xs.length cc) ((xs.map mkU).map U6.p)) := Lib.hid (by rw [map_mkU]; unfold OwnP; simpa using hown1); have HD1 : Hid ((Value.slice (some ⟨gg, 0, none⟩) xs.length cc).ownBlock ≠ some w1.heap.size) := Lib.hid (by simp [Value.ownBlock]; omega); have b2x : w1.cell? ⟨w.heap.size, 2, none⟩ = some (.slice (some ⟨g, 0, none⟩) xs.length cap) := (hbw1.cell (p := ⟨w.heap.size, 2, none⟩) (by simp)).trans (by simp); have HB1 := Lib.hid hbw1; have hs1 := hbw1.size; simp at hs1; clear hown1 hgrow1 hat1 hlt1 hbw1)
    | (at_make; refine wpList_make_full _ rfl _ _ 111 rfl w1.heap.size 4 i1 _ 1 Try.underlying111 hi1 hy0 hy1 .i64 .i64 _ _ NB rfl rfl rfl rfl (by rw [hy2]; omega) (by unfold maxLen; omega) (Nat.le_refl _) ?_; intro w2 hown2 hgrow2))
  clear HO0 HN0 HB0' hpl hone
  have hb2 := own_none hgrow2
  have HF2 := Lib.hid (OwnF.zero hown2)
  have HO2 := Lib.hid (HO1.out.below hb2)
  have HB2 := Lib.hid (bel_c HB1.out (by simp) hb2)
  have hs2 : w1.heap.size < w2.heap.size := HF2.out.lt.1
  clear hb2 hown2 hgrow2 HO1 HB1 b2x
  go_loopw [5, 7] (fun q i wr => ∃ (k : Nat) (us : List U6) (bs : List Bool), k ≤ js.length ∧ i = .int .i64 k ∧ Hid (OwnP (w.heap.size + 1) wr q (us.map U6.p)) ∧ Hid (q.ownBlock ≠ some w1.heap.size) ∧ Hid (OwnF w1.heap.size wr (.slice (some ⟨w1.heap.size, 0, none⟩) NB NB) bs) ∧ Hid (bs.length = NB) ∧ Hid (UsedIs us bs) ∧ Hid (us.length = xs.length + k) ∧ Hid (UOk m n xs.length us) ∧ Hid (unF us (js.drop k) = U) ∧ Hid (Below (w.heap.size + 1) (((w.alloc (.cells #[.int .i64 m, .int .i64 n, .slice (some ⟨g, 0, none⟩) xs.length cap] 26)).alloc (.cells #[] 34))) wr) ∧ w1.heap.size < wr.heap.size) (fun _ i _ => js.length - (intOf i).toNat)
  case atStart => exact ⟨0, _, _, Nat.zero_le _, rfl, HO2, HD1, HF2, Lib.hid List.length_replicate, Lib.hid (UsedIs.start xs NB), Lib.hid (by simp), HUK, HUN, HB2, hs2⟩
  case round =>
    clear HO2 HD1 HF2 HUK HUN HB2 hs2
    obtain ⟨k, us, bs, hk, rfl, hown, hdis, huse, hbl, hui, hul, huk, hun, hbel, hsw⟩ := hrel
    have hu24 := huk.out.le hx12
    have hml : (us.map U6.p).length = us.length := by simp
    have hin := hown.out.row (by omega)
    obtain ⟨aq, cq, hq⟩ := hin.form
    rw [hml] at hq
    subst hq
    have hu1 : 1 ≤ us.length := by have := hul.out; omega
    have HBW : Hid (Below w.heap.size w wr) := Lib.hid (HB0.out.trans (hbel.out.mono (Nat.le_succ _)))
    by_cases hlt : k < js.length
    · obtain ⟨gj, rfl, hgj, hgj1, ⟨e0, e1, e2⟩, _⟩ := R2.out.at (HBW.out.mono hhi2) hlt
      have HN := Lib.hid (fun hf => unF_yes hlt hun.out hf)
      have HM := Lib.hid (fun hf => unF_no hlt hun.out hf)
      obtain ⟨j, hj⟩ : ∃ j, j = jn js k := ⟨_, rfl⟩
      rw [show js.getD k J3.zero = j from hj.symm] at e0 e1 e2
      rw [show jn js k = j from hj.symm] at HN HM
      obtain ⟨up, a, b⟩ := j
      simp only at e0 e1 e2
      clear hj hun
      have BA := bel0 wr (.cells #[.bool up, .int .i64 a, .int .i64 b] 40)
      have hij := hin.below BA
      have HIR : Hid (PatIn w.heap.size (wr.alloc (.cells #[.bool up, .int .i64 a, .int .i64 b] 40)).heap.size (wr.alloc (.cells #[.bool up, .int .i64 a, .int .i64 b] 40)) (.slice aq us.length cq) (us.map U6.p)) := Lib.hid (hij.wide (Nat.le_succ _) (by simp))
      have HBJ := Lib.hid (bel_n HBW.out (Nat.le_refl _) (.cells #[.bool up, .int .i64 a, .int .i64 b] 40))
      have HBK := Lib.hid (bel_n hbel.out (by simp) (.cells #[.bool up, .int .i64 a, .int .i64 b] 40))
      have HOJ := Lib.hid (hown.out.below BA)
      have HFJ := Lib.hid (huse.out.below BA)
      have hsj : (wr.alloc (.cells #[.bool up, .int .i64 a, .int .i64 b] 40)).heap.size = wr.heap.size + 1 := by simp
      have HSJ := Lib.hid hsj
      clear BA hown huse hbel hin hml HBW hsj
      by_cases hA : InU us.length a
      · by_cases hB : InU us.length b
        · obtain ⟨a0, a1⟩ := hA
          obtain ⟨b0, b1⟩ := hB
          obtain ⟨A, rfl⟩ : ∃ A : Nat, a = A := ⟨a.toNat, by omega⟩
          obtain ⟨B, rfl⟩ : ∃ B : Nat, b = B := ⟨b.toNat, by omega⟩
          have hA2 : A < us.length := by omega
          have hB2 : B < us.length := by omega
          have hbn := hbl.out
          have hA3 : A < bs.length := by have := hul.out; have := HNB.out; omega
          have hB3 : B < bs.length := by have := hul.out; have := HNB.out; omega
          have hA4 : A < NB := by omega
          have hB4 : B < NB := by omega
          by_cases hAB : A = B
          · subst hAB
            have HE := Lib.hid (HM.out (of_decide_eq_false fit_same'))
            have hd : ((A : Int) == (A : Int)) = true := by simp
            clear HN HM
            go_wp2_with fail
            refine (In_yes _ _ _ _ (by omega) (by omega)).mono ?_
            rintro e w' ⟨rfl, hw⟩
            have hw' := hw.symm
            subst hw'
            clear hw
            go_wp2_with fail
            refine (In_yes _ _ _ _ (by omega) (by omega)).mono ?_
            rintro e w' ⟨rfl, hw⟩
            have hw' := hw.symm
            subst hw'
            clear hw
            go_wp2_with fail
            go_ret
            exact ⟨_, rfl, by rw [← HE.out]; exact HIR.out, HBJ.out⟩
          · have hd : ((A : Int) == (B : Int)) = false := by simp; omega
            have hf1 := HFJ.out
            rw [← hbn] at hf1
            have u1 := (hf1.at hA3).1
            have u2 := (hf1.at hB3).1
            rw [hui.out] at u1 u2
            clear hf1
            by_cases hja : (un us A).j = true
            · rw [hja] at u1
              have HE := Lib.hid (HM.out (fun k => by have := k.2.2.2.1; simp only [Int.toNat_natCast] at this; rw [hja] at this; cases this))
              clear HN HM u2 hja hbn
              go_wp2_with fail
              refine (In_yes _ _ _ _ (by omega) (by omega)).mono ?_
              rintro e w' ⟨rfl, hw⟩
              have hw' := hw.symm
              subst hw'
              clear hw
              go_wp2_with fail
              refine (In_yes _ _ _ _ (by omega) (by omega)).mono ?_
              rintro e w' ⟨rfl, hw⟩
              have hw' := hw.symm
              subst hw'
              clear hw
              go_wp2_with fail
              go_ret
              exact ⟨_, rfl, by rw [← HE.out]; exact HIR.out, HBJ.out⟩
            · have hja' : (un us A).j = false := by simpa using hja
              rw [hja'] at u1
              by_cases hjb : (un us B).j = true
              · rw [hjb] at u2
                have HE := Lib.hid (HM.out (fun k => by have := k.2.2.2.2.1; simp only [Int.toNat_natCast] at this; rw [hjb] at this; cases this))
                clear HN HM hja hja' hjb hbn
                go_wp2_with fail
                refine (In_yes _ _ _ _ (by omega) (by omega)).mono ?_
                rintro e w' ⟨rfl, hw⟩
                have hw' := hw.symm
                subst hw'
                clear hw
                go_wp2_with fail
                refine (In_yes _ _ _ _ (by omega) (by omega)).mono ?_
                rintro e w' ⟨rfl, hw⟩
                have hw' := hw.symm
                subst hw'
                clear hw
                go_wp2_with fail
                go_ret
                exact ⟨_, rfl, by rw [← HE.out]; exact HIR.out, HBJ.out⟩
              · have hjb' : (un us B).j = false := by simpa using hjb
                rw [hjb'] at u2
                clear hja hjb
                have FA := huk.out.1 A hA2
                have FB := huk.out.1 B hB2
                obtain ⟨go, hgo, go0, go1, q, _⟩ := hij.at (Below.refl _ _) (i := A) (by simpa using hA2)
                obtain ⟨go', hgo', _, _, q', _⟩ := hij.at (Below.refl _ _) (i := B) (by simpa using hB2)
                obtain rfl : go = go' := by rw [hgo] at hgo'; simpa using hgo'
                obtain rfl : aq = some ⟨go, 0, none⟩ := hgo
                have hgw : go < wr.heap.size := go1
                rw [show (us.map U6.p).getD A P5.zero = (un us A).p from pat_map hA2] at q
                rw [show (us.map U6.p).getD B P5.zero = (un us B).p from pat_map hB2] at q'
                have HPU : Hid (∀ (hf : FitJ us ⟨up, A, B⟩), (putJ us ⟨up, A, B⟩).map U6.p = us.map U6.p ++ [sewP up (un us A).p (un us B).p]) := Lib.hid (fun hf => map_putJ hf)
                have HFM : Hid (Side up (un us A).p (un us B).p → FitJ us ⟨up, A, B⟩) := Lib.hid (fun h => fit_mk hA2 hB2 hAB hja' hjb' h)
                obtain ⟨pa, hpa⟩ : ∃ p, p = (un us A).p := ⟨_, rfl⟩
                obtain ⟨pb, hpb⟩ : ∃ p, p = (un us B).p := ⟨_, rfl⟩
                have HNF : Hid (¬ Side up pa pb → us = U) := Lib.hid (fun h => HM.out (fun k => h (by have := k.2.2.2.2.2; simp only [Int.toNat_natCast] at this; rwa [hpa, hpb])))
                rw [← hpa] at FA q HPU HFM
                rw [← hpb] at FB q' HPU HFM
                obtain ⟨ax, ay, aw, ah, ac⟩ := pa
                obtain ⟨bx, bY, bw, bh, bc⟩ := pb
                obtain ⟨⟨f00, f01⟩, ⟨f10, f11⟩, ⟨f20, f21⟩, ⟨f30, f31⟩, _⟩ := FA
                obtain ⟨⟨g00, g01⟩, ⟨g10, g11⟩, ⟨g20, g21⟩, ⟨g30, g31⟩, _⟩ := FB
                simp only at f00 f01 f10 f11 f20 f21 f30 f31 g00 g01 g10 g11 g20 g21 g30 g31
                obtain ⟨q0, q1, q2, q3, q4⟩ := q
                obtain ⟨p0, p1, p2, p3, p4⟩ := q'
                simp only at q0 q1 q2 q3 q4 p0 p1 p2 p3 p4
                have BPA := bel0 (wr.alloc (.cells #[.bool up, .int .i64 A, .int .i64 B] 40)) (.cells #[.int .i64 ax, .int .i64 ay, .int .i64 aw, .int .i64 ah, .int .i64 ac] 34)
                have s0 := kept BPA p0
                have s1 := kept BPA p1
                have s2 := kept BPA p2
                have s3 := kept BPA p3
                have s4 := kept BPA p4
                have BPB : Below (wr.alloc (.cells #[.bool up, .int .i64 A, .int .i64 B] 40)).heap.size (wr.alloc (.cells #[.bool up, .int .i64 A, .int .i64 B] 40)) (((wr.alloc (.cells #[.bool up, .int .i64 A, .int .i64 B] 40)).alloc (.cells #[.int .i64 ax, .int .i64 ay, .int .i64 aw, .int .i64 ah, .int .i64 ac] 34)).alloc (.cells #[.int .i64 bx, .int .i64 bY, .int .i64 bw, .int .i64 bh, .int .i64 bc] 34)) := bel_n BPA (Nat.le_refl _) _
                clear hpa hpb hgo' hij
                by_cases hsd : Side up ⟨ax, ay, aw, ah, ac⟩ ⟨bx, bY, bw, bh, bc⟩
                · skip
                  have hok := HFM.out hsd
                  have HPM := Lib.hid (HPU.out hok)
                  have HY := Lib.hid (HN.out hok)
                  have HUK2 := Lib.hid (huk.out.put hok)
                  have HUI2 := Lib.hid (hui.out.put hok (by have := hul.out; have := HNB.out; omega))
                  have HSD := Lib.hid hsd
                  have HUL2 : Hid ((putJ us ⟨up, A, B⟩).length = xs.length + (k + 1)) := Lib.hid (by rw [putJ_len, hul.out]; omega)
                  have HBL2 : Hid (((bs.set A true).set B true).length = NB) := Lib.hid (by simp [hbl.out])
                  clear HNF HFM HPU HN HM hok hsd HIR hui huk hul BPA
                  cases up
                  · skip
                    have hS3 : ay + ah = bY ∧ ax = bx ∧ aw = bw := by have := HSD.out; simpa [Side] using this
                    obtain ⟨h31, h32, h33⟩ := hS3
                    have hd1 : (ay + ah != bY) = false := by rw [h31]; exact bne_self_eq_false _
                    have hd2 : (ax != bx) = false := by rw [h32]; exact bne_self_eq_false _
                    have hd3 : (aw != bw) = false := by rw [h33]; exact bne_self_eq_false _
                    have HH := Lib.hid (And.intro h31 (And.intro h32 h33))
                    clear h31 h32 h33
                    have hG0 : ((((wr.alloc (.cells #[.bool false, .int .i64 A, .int .i64 B] 40)).alloc (.cells #[.int .i64 ax, .int .i64 ay, .int .i64 aw, .int .i64 ah, .int .i64 ac] 34)).alloc (.cells #[.int .i64 bx, .int .i64 bY, .int .i64 bw, .int .i64 bh, .int .i64 bc] 34))).heap.size = wr.heap.size + 1 + 1 + 1 := by simp
                    have c0 : (((wr.alloc (.cells #[.bool false, .int .i64 A, .int .i64 B] 40)).alloc (.cells #[.int .i64 ax, .int .i64 ay, .int .i64 aw, .int .i64 ah, .int .i64 ac] 34)).alloc (.cells #[.int .i64 bx, .int .i64 bY, .int .i64 bw, .int .i64 bh, .int .i64 bc] 34)).cell? ⟨wr.heap.size, 0, none⟩ = some (.bool false) := by go_simp
                    have c1 : (((wr.alloc (.cells #[.bool false, .int .i64 A, .int .i64 B] 40)).alloc (.cells #[.int .i64 ax, .int .i64 ay, .int .i64 aw, .int .i64 ah, .int .i64 ac] 34)).alloc (.cells #[.int .i64 bx, .int .i64 bY, .int .i64 bw, .int .i64 bh, .int .i64 bc] 34)).cell? ⟨wr.heap.size, 1, none⟩ = some (.int .i64 A) := by go_simp
                    have c2 : (((wr.alloc (.cells #[.bool false, .int .i64 A, .int .i64 B] 40)).alloc (.cells #[.int .i64 ax, .int .i64 ay, .int .i64 aw, .int .i64 ah, .int .i64 ac] 34)).alloc (.cells #[.int .i64 bx, .int .i64 bY, .int .i64 bw, .int .i64 bh, .int .i64 bc] 34)).cell? ⟨wr.heap.size, 2, none⟩ = some (.int .i64 B) := by go_simp
                    have ca0 : (((wr.alloc (.cells #[.bool false, .int .i64 A, .int .i64 B] 40)).alloc (.cells #[.int .i64 ax, .int .i64 ay, .int .i64 aw, .int .i64 ah, .int .i64 ac] 34)).alloc (.cells #[.int .i64 bx, .int .i64 bY, .int .i64 bw, .int .i64 bh, .int .i64 bc] 34)).cell? ⟨wr.heap.size + 1, 0, none⟩ = some (.int .i64 ax) := by go_simp
                    have ca1 : (((wr.alloc (.cells #[.bool false, .int .i64 A, .int .i64 B] 40)).alloc (.cells #[.int .i64 ax, .int .i64 ay, .int .i64 aw, .int .i64 ah, .int .i64 ac] 34)).alloc (.cells #[.int .i64 bx, .int .i64 bY, .int .i64 bw, .int .i64 bh, .int .i64 bc] 34)).cell? ⟨wr.heap.size + 1, 1, none⟩ = some (.int .i64 ay) := by go_simp
                    have ca2 : (((wr.alloc (.cells #[.bool false, .int .i64 A, .int .i64 B] 40)).alloc (.cells #[.int .i64 ax, .int .i64 ay, .int .i64 aw, .int .i64 ah, .int .i64 ac] 34)).alloc (.cells #[.int .i64 bx, .int .i64 bY, .int .i64 bw, .int .i64 bh, .int .i64 bc] 34)).cell? ⟨wr.heap.size + 1, 2, none⟩ = some (.int .i64 aw) := by go_simp
                    have ca3 : (((wr.alloc (.cells #[.bool false, .int .i64 A, .int .i64 B] 40)).alloc (.cells #[.int .i64 ax, .int .i64 ay, .int .i64 aw, .int .i64 ah, .int .i64 ac] 34)).alloc (.cells #[.int .i64 bx, .int .i64 bY, .int .i64 bw, .int .i64 bh, .int .i64 bc] 34)).cell? ⟨wr.heap.size + 1, 3, none⟩ = some (.int .i64 ah) := by go_simp
                    have ca4 : (((wr.alloc (.cells #[.bool false, .int .i64 A, .int .i64 B] 40)).alloc (.cells #[.int .i64 ax, .int .i64 ay, .int .i64 aw, .int .i64 ah, .int .i64 ac] 34)).alloc (.cells #[.int .i64 bx, .int .i64 bY, .int .i64 bw, .int .i64 bh, .int .i64 bc] 34)).cell? ⟨wr.heap.size + 1, 4, none⟩ = some (.int .i64 ac) := by go_simp
                    have cb0 : (((wr.alloc (.cells #[.bool false, .int .i64 A, .int .i64 B] 40)).alloc (.cells #[.int .i64 ax, .int .i64 ay, .int .i64 aw, .int .i64 ah, .int .i64 ac] 34)).alloc (.cells #[.int .i64 bx, .int .i64 bY, .int .i64 bw, .int .i64 bh, .int .i64 bc] 34)).cell? ⟨wr.heap.size + 1 + 1, 0, none⟩ = some (.int .i64 bx) := by go_simp
                    have cb1 : (((wr.alloc (.cells #[.bool false, .int .i64 A, .int .i64 B] 40)).alloc (.cells #[.int .i64 ax, .int .i64 ay, .int .i64 aw, .int .i64 ah, .int .i64 ac] 34)).alloc (.cells #[.int .i64 bx, .int .i64 bY, .int .i64 bw, .int .i64 bh, .int .i64 bc] 34)).cell? ⟨wr.heap.size + 1 + 1, 1, none⟩ = some (.int .i64 bY) := by go_simp
                    have cb2 : (((wr.alloc (.cells #[.bool false, .int .i64 A, .int .i64 B] 40)).alloc (.cells #[.int .i64 ax, .int .i64 ay, .int .i64 aw, .int .i64 ah, .int .i64 ac] 34)).alloc (.cells #[.int .i64 bx, .int .i64 bY, .int .i64 bw, .int .i64 bh, .int .i64 bc] 34)).cell? ⟨wr.heap.size + 1 + 1, 2, none⟩ = some (.int .i64 bw) := by go_simp
                    have cb3 : (((wr.alloc (.cells #[.bool false, .int .i64 A, .int .i64 B] 40)).alloc (.cells #[.int .i64 ax, .int .i64 ay, .int .i64 aw, .int .i64 ah, .int .i64 ac] 34)).alloc (.cells #[.int .i64 bx, .int .i64 bY, .int .i64 bw, .int .i64 bh, .int .i64 bc] 34)).cell? ⟨wr.heap.size + 1 + 1, 3, none⟩ = some (.int .i64 bh) := by go_simp
                    have cb4 : (((wr.alloc (.cells #[.bool false, .int .i64 A, .int .i64 B] 40)).alloc (.cells #[.int .i64 ax, .int .i64 ay, .int .i64 aw, .int .i64 ah, .int .i64 ac] 34)).alloc (.cells #[.int .i64 bx, .int .i64 bY, .int .i64 bw, .int .i64 bh, .int .i64 bc] 34)).cell? ⟨wr.heap.size + 1 + 1, 4, none⟩ = some (.int .i64 bc) := by go_simp
                    have fa : (((wr.alloc (.cells #[.bool false, .int .i64 A, .int .i64 B] 40)).alloc (.cells #[.int .i64 ax, .int .i64 ay, .int .i64 aw, .int .i64 ah, .int .i64 ac] 34)).alloc (.cells #[.int .i64 bx, .int .i64 bY, .int .i64 bw, .int .i64 bh, .int .i64 bc] 34)).frozen? ⟨wr.heap.size + 1, 3, none⟩ = false := by go_simp
                    obtain ⟨G, hG⟩ : ∃ G, (((wr.alloc (.cells #[.bool false, .int .i64 A, .int .i64 B] 40)).alloc (.cells #[.int .i64 ax, .int .i64 ay, .int .i64 aw, .int .i64 ah, .int .i64 ac] 34)).alloc (.cells #[.int .i64 bx, .int .i64 bY, .int .i64 bw, .int .i64 bh, .int .i64 bc] 34)) = G := ⟨_, rfl⟩
                    rw [hG] at c0 c1 c2 ca0 ca1 ca2 ca3 ca4 cb0 cb1 cb2 cb3 cb4 fa
                    rw [hG] at BPB hG0
                    have HOG := Lib.hid (HOJ.out.below BPB)
                    have HFG := Lib.hid (HFJ.out.below BPB)
                    have HBG := Lib.hid (bel_c HBK.out (by simp) BPB)
                    have hf1 := HFG.out
                    rw [← hbn] at hf1
                    obtain ⟨v1, fv1⟩ := hf1.at hA3
                    have ⟨v2, fv2⟩ := hf1.at hB3
                    obtain ⟨U1, hU1⟩ : ∃ U, G.setCell ⟨w1.heap.size, A, none⟩ (.bool true) = U := ⟨_, rfl⟩
                    have HF1 : Hid (OwnF w1.heap.size U1 (.slice (some ⟨w1.heap.size, 0, none⟩) bs.length NB) (bs.set A true)) := Lib.hid (by rw [← hU1]; have := hf1.set A; rwa [hbn] at this ⊢)
                    have v2' : U1.cell? ⟨w1.heap.size, B, none⟩ = some (.bool (bs.getD B false)) := by rw [← hU1, World.cell?_setCell_other _ _ _ _ (by simp <;> omega)]; exact v2
                    have fv2' : U1.frozen? ⟨w1.heap.size, B, none⟩ = false := by rw [← hU1, World.frozen?_setCell]; exact fv2
                    have d2 : U1.cell? ⟨wr.heap.size, 2, none⟩ = some (.int .i64 B) := by rw [← hU1, World.cell?_setCell_other _ _ _ _ (by simp <;> omega)]; exact c2
                    obtain ⟨U2, hU2⟩ : ∃ U, U1.setCell ⟨w1.heap.size, B, none⟩ (.bool true) = U := ⟨_, rfl⟩
                    have HF2 : Hid (OwnF w1.heap.size U2 (.slice (some ⟨w1.heap.size, 0, none⟩) NB NB) ((bs.set A true).set B true)) := Lib.hid (by rw [← hU2]; have h9 := HF1.out; rw [show bs.length = (bs.set A true).length by simp] at h9; have := h9.set B; rw [List.length_set, hbl.out] at this; exact this)
                    have k0 : U2.cell? ⟨wr.heap.size, 0, none⟩ = some (.bool false) := by rw [← hU2, ← hU1, World.cell?_setCell_other _ _ _ _ (by simp <;> omega), World.cell?_setCell_other _ _ _ _ (by simp <;> omega)]; exact c0
                    have ka0 : U2.cell? ⟨wr.heap.size + 1, 0, none⟩ = some (.int .i64 ax) := by rw [← hU2, ← hU1, World.cell?_setCell_other _ _ _ _ (by simp <;> omega), World.cell?_setCell_other _ _ _ _ (by simp <;> omega)]; exact ca0
                    have ka1 : U2.cell? ⟨wr.heap.size + 1, 1, none⟩ = some (.int .i64 ay) := by rw [← hU2, ← hU1, World.cell?_setCell_other _ _ _ _ (by simp <;> omega), World.cell?_setCell_other _ _ _ _ (by simp <;> omega)]; exact ca1
                    have ka2 : U2.cell? ⟨wr.heap.size + 1, 2, none⟩ = some (.int .i64 aw) := by rw [← hU2, ← hU1, World.cell?_setCell_other _ _ _ _ (by simp <;> omega), World.cell?_setCell_other _ _ _ _ (by simp <;> omega)]; exact ca2
                    have ka3 : U2.cell? ⟨wr.heap.size + 1, 3, none⟩ = some (.int .i64 ah) := by rw [← hU2, ← hU1, World.cell?_setCell_other _ _ _ _ (by simp <;> omega), World.cell?_setCell_other _ _ _ _ (by simp <;> omega)]; exact ca3
                    have ka4 : U2.cell? ⟨wr.heap.size + 1, 4, none⟩ = some (.int .i64 ac) := by rw [← hU2, ← hU1, World.cell?_setCell_other _ _ _ _ (by simp <;> omega), World.cell?_setCell_other _ _ _ _ (by simp <;> omega)]; exact ca4
                    have kb0 : U2.cell? ⟨wr.heap.size + 1 + 1, 0, none⟩ = some (.int .i64 bx) := by rw [← hU2, ← hU1, World.cell?_setCell_other _ _ _ _ (by simp <;> omega), World.cell?_setCell_other _ _ _ _ (by simp <;> omega)]; exact cb0
                    have kb1 : U2.cell? ⟨wr.heap.size + 1 + 1, 1, none⟩ = some (.int .i64 bY) := by rw [← hU2, ← hU1, World.cell?_setCell_other _ _ _ _ (by simp <;> omega), World.cell?_setCell_other _ _ _ _ (by simp <;> omega)]; exact cb1
                    have kb2 : U2.cell? ⟨wr.heap.size + 1 + 1, 2, none⟩ = some (.int .i64 bw) := by rw [← hU2, ← hU1, World.cell?_setCell_other _ _ _ _ (by simp <;> omega), World.cell?_setCell_other _ _ _ _ (by simp <;> omega)]; exact cb2
                    have kb3 : U2.cell? ⟨wr.heap.size + 1 + 1, 3, none⟩ = some (.int .i64 bh) := by rw [← hU2, ← hU1, World.cell?_setCell_other _ _ _ _ (by simp <;> omega), World.cell?_setCell_other _ _ _ _ (by simp <;> omega)]; exact cb3
                    have kb4 : U2.cell? ⟨wr.heap.size + 1 + 1, 4, none⟩ = some (.int .i64 bc) := by rw [← hU2, ← hU1, World.cell?_setCell_other _ _ _ _ (by simp <;> omega), World.cell?_setCell_other _ _ _ _ (by simp <;> omega)]; exact cb4
                    have fa2 : U2.frozen? ⟨wr.heap.size + 1, 3, none⟩ = false := by rw [← hU2, ← hU1, World.frozen?_setCell, World.frozen?_setCell]; exact fa
                    obtain ⟨U3, hU3⟩ : ∃ U, U2.setCell ⟨wr.heap.size + 1, 3, none⟩ (.int .i64 (ah + bh)) = U := ⟨_, rfl⟩
                    have m0 : U3.cell? ⟨wr.heap.size + 1, 0, none⟩ = some (.int .i64 ax) := by rw [← hU3, World.cell?_setCell_other _ _ _ _ (by simp)]; exact ka0
                    have m1 : U3.cell? ⟨wr.heap.size + 1, 1, none⟩ = some (.int .i64 ay) := by rw [← hU3, World.cell?_setCell_other _ _ _ _ (by simp)]; exact ka1
                    have m2 : U3.cell? ⟨wr.heap.size + 1, 2, none⟩ = some (.int .i64 aw) := by rw [← hU3, World.cell?_setCell_other _ _ _ _ (by simp)]; exact ka2
                    have m3 : U3.cell? ⟨wr.heap.size + 1, 3, none⟩ = some (.int .i64 (ah + bh)) := by rw [← hU3]; exact World.cell?_setCell_same _ _ _ ka3
                    have m4 : U3.cell? ⟨wr.heap.size + 1, 4, none⟩ = some (.int .i64 ac) := by rw [← hU3, World.cell?_setCell_other _ _ _ _ (by simp)]; exact ka4
                    have HO3 : Hid (OwnP (w.heap.size + 1) U3 (.slice (some ⟨go, 0, none⟩) us.length cq) (us.map U6.p)) := Lib.hid (by rw [← hU3, ← hU2, ← hU1]; exact ((HOG.out.far hdis.out _).far hdis.out _).far (by simp [Value.ownBlock] <;> omega) _)
                    have HF3 : Hid (OwnF w1.heap.size U3 (.slice (some ⟨w1.heap.size, 0, none⟩) NB NB) ((bs.set A true).set B true)) := Lib.hid (by rw [← hU3]; exact HF2.out.far (by simp [Value.ownBlock] <;> omega) _)
                    have HB3 : Hid (Below (w.heap.size + 1) (((w.alloc (.cells #[.int .i64 m, .int .i64 n, .slice (some ⟨g, 0, none⟩) xs.length cap] 26)).alloc (.cells #[] 34))) U3) := Lib.hid (by rw [← hU3, ← hU2, ← hU1]; exact Below.setCell (Below.setCell (Below.setCell HBG.out (p := ⟨w1.heap.size, A, none⟩) (by simp <;> omega) _) (p := ⟨w1.heap.size, B, none⟩) (by simp <;> omega) _) (p := ⟨wr.heap.size + 1, 3, none⟩) (by simp <;> omega) _)
                    have hs3 : U3.heap.size = wr.heap.size + 1 + 1 + 1 := by rw [← hU3, ← hU2, ← hU1]; simp [World.setCell]; omega
                    have BX := bel0 U3 (.cells #[.int .i64 ax, .int .i64 ay, .int .i64 aw, .int .i64 (ah + bh), .int .i64 ac] 34)
                    have HO4 : Hid ((U3.alloc (.cells #[.int .i64 ax, .int .i64 ay, .int .i64 aw, .int .i64 (ah + bh), .int .i64 ac] 34)).ownsRow (w.heap.size + 1) 34 5 (.slice (some ⟨go, 0, none⟩) us.length cq) us.length (placesPat (us.map U6.p))) := Lib.hid (by have := HO3.out.below BX; unfold OwnP at this; simpa using this)
                    have HF4 := Lib.hid (HF3.out.below BX)
                    have HB4 := Lib.hid (bel_c HB3.out (by simp) BX)
                    have HNW := Lib.hid (newsL U3 U3.heap.size #[.int .i64 ax, .int .i64 ay, .int .i64 aw, .int .i64 (ah + bh), .int .i64 ac] 34 rfl)
                    have HS4 : Hid (w.heap.size + 1 ≤ (U3.alloc (.cells #[.int .i64 ax, .int .i64 ay, .int .i64 aw, .int .i64 (ah + bh), .int .i64 ac] 34)).heap.size) := Lib.hid (by simp; omega)
                    have hU24 : us.length + 1 ≤ 100 := by omega
                    have HX := Lib.hid hs3
                    have HG0 := Lib.hid hG0
                    clear hf1 BX HO3 HF3 HB3 HF1 HF2 HOG HFG HBG BPB hs3 hG0 fv2 v2
                    go_wp2_with fail
                    refine (In_yes _ _ _ _ (by omega) (by omega)).mono ?_
                    rintro e w' ⟨rfl, hw⟩
                    have hw' := hw.symm
                    subst hw'
                    clear hw
                    go_wp2_with fail
                    refine (In_yes _ _ _ _ (by omega) (by omega)).mono ?_
                    rintro e w' ⟨rfl, hw⟩
                    have hw' := hw.symm
                    subst hw'
                    clear hw
                    go_wp2_with (at_builtin; refine wpList_append_lies _ rfl _ _ 24 rfl (w.heap.size + 1) 34 i0 _ 5 40 Try.underlying24 hi0 hz0 hz1 hz2 rfl (by decide) _ _ _ rfl HO4.out ⟨U3.heap.size, 0, none⟩ 1 1 [.int .i64 ax, .int .i64 ay, .int .i64 aw, .int .i64 (ah + bh), .int .i64 ac] rfl rfl HNW.out (by simp [Value.oneCell']) (by omega) (by unfold maxLen; omega) (by omega) HS4.out (U3.heap.size + 1) (by simp) ?_; intro gg5 cc5 w5 hown5 hgrow hat hlt5; have hbw := (Below.refl (w.heap.size + 1) _).grown hgrow HS4.out (ogL HO4.out))
                    have HN5 : Hid (OwnP (w.heap.size + 1) w5 (.slice (some ⟨gg5, 0, none⟩) (us.length + 1) cc5) ((putJ us ⟨false, A, B⟩).map U6.p)) := Lib.hid (by rw [HPM.out]; have := OwnP.more (ps := us.map U6.p) (p := ⟨ax, ay, aw, (ah + bh), ac⟩) hown5; simpa [sewP] using this)
                    have HD5 : Hid ((Value.slice (some ⟨gg5, 0, none⟩) (us.length + 1) cc5).ownBlock ≠ some w1.heap.size) := Lib.hid (dis_next hdis.out hat (by have h2 := HX.out; omega))
                    have HF5 := Lib.hid (HF4.out.grown hgrow hdis.out)
                    have HB5 := Lib.hid (HB4.out.trans hbw)
                    have hs5 : w1.heap.size < w5.heap.size := HF5.out.lt.1
                    clear hown5 hgrow hat hlt5 hbw HO4 HNW HS4 HB4 HF4
                    go_wp2_with fail
                    go_roundw
                    case rel => exact ⟨k + 1, _, _, by omega, by go_num, HN5, HD5, HF5, HBL2, HUI2, HUL2, HUK2, HY, HB5, hs5⟩
                    case measure => simp [intOf] <;> omega
                  · skip
                    have hS3 : ax + aw = bx ∧ ay = bY ∧ ah = bh := by have := HSD.out; simpa [Side] using this
                    obtain ⟨h31, h32, h33⟩ := hS3
                    have hd1 : (ax + aw != bx) = false := by rw [h31]; exact bne_self_eq_false _
                    have hd2 : (ay != bY) = false := by rw [h32]; exact bne_self_eq_false _
                    have hd3 : (ah != bh) = false := by rw [h33]; exact bne_self_eq_false _
                    have HH := Lib.hid (And.intro h31 (And.intro h32 h33))
                    clear h31 h32 h33
                    have hG0 : ((((wr.alloc (.cells #[.bool true, .int .i64 A, .int .i64 B] 40)).alloc (.cells #[.int .i64 ax, .int .i64 ay, .int .i64 aw, .int .i64 ah, .int .i64 ac] 34)).alloc (.cells #[.int .i64 bx, .int .i64 bY, .int .i64 bw, .int .i64 bh, .int .i64 bc] 34))).heap.size = wr.heap.size + 1 + 1 + 1 := by simp
                    have c0 : (((wr.alloc (.cells #[.bool true, .int .i64 A, .int .i64 B] 40)).alloc (.cells #[.int .i64 ax, .int .i64 ay, .int .i64 aw, .int .i64 ah, .int .i64 ac] 34)).alloc (.cells #[.int .i64 bx, .int .i64 bY, .int .i64 bw, .int .i64 bh, .int .i64 bc] 34)).cell? ⟨wr.heap.size, 0, none⟩ = some (.bool true) := by go_simp
                    have c1 : (((wr.alloc (.cells #[.bool true, .int .i64 A, .int .i64 B] 40)).alloc (.cells #[.int .i64 ax, .int .i64 ay, .int .i64 aw, .int .i64 ah, .int .i64 ac] 34)).alloc (.cells #[.int .i64 bx, .int .i64 bY, .int .i64 bw, .int .i64 bh, .int .i64 bc] 34)).cell? ⟨wr.heap.size, 1, none⟩ = some (.int .i64 A) := by go_simp
                    have c2 : (((wr.alloc (.cells #[.bool true, .int .i64 A, .int .i64 B] 40)).alloc (.cells #[.int .i64 ax, .int .i64 ay, .int .i64 aw, .int .i64 ah, .int .i64 ac] 34)).alloc (.cells #[.int .i64 bx, .int .i64 bY, .int .i64 bw, .int .i64 bh, .int .i64 bc] 34)).cell? ⟨wr.heap.size, 2, none⟩ = some (.int .i64 B) := by go_simp
                    have ca0 : (((wr.alloc (.cells #[.bool true, .int .i64 A, .int .i64 B] 40)).alloc (.cells #[.int .i64 ax, .int .i64 ay, .int .i64 aw, .int .i64 ah, .int .i64 ac] 34)).alloc (.cells #[.int .i64 bx, .int .i64 bY, .int .i64 bw, .int .i64 bh, .int .i64 bc] 34)).cell? ⟨wr.heap.size + 1, 0, none⟩ = some (.int .i64 ax) := by go_simp
                    have ca1 : (((wr.alloc (.cells #[.bool true, .int .i64 A, .int .i64 B] 40)).alloc (.cells #[.int .i64 ax, .int .i64 ay, .int .i64 aw, .int .i64 ah, .int .i64 ac] 34)).alloc (.cells #[.int .i64 bx, .int .i64 bY, .int .i64 bw, .int .i64 bh, .int .i64 bc] 34)).cell? ⟨wr.heap.size + 1, 1, none⟩ = some (.int .i64 ay) := by go_simp
                    have ca2 : (((wr.alloc (.cells #[.bool true, .int .i64 A, .int .i64 B] 40)).alloc (.cells #[.int .i64 ax, .int .i64 ay, .int .i64 aw, .int .i64 ah, .int .i64 ac] 34)).alloc (.cells #[.int .i64 bx, .int .i64 bY, .int .i64 bw, .int .i64 bh, .int .i64 bc] 34)).cell? ⟨wr.heap.size + 1, 2, none⟩ = some (.int .i64 aw) := by go_simp
                    have ca3 : (((wr.alloc (.cells #[.bool true, .int .i64 A, .int .i64 B] 40)).alloc (.cells #[.int .i64 ax, .int .i64 ay, .int .i64 aw, .int .i64 ah, .int .i64 ac] 34)).alloc (.cells #[.int .i64 bx, .int .i64 bY, .int .i64 bw, .int .i64 bh, .int .i64 bc] 34)).cell? ⟨wr.heap.size + 1, 3, none⟩ = some (.int .i64 ah) := by go_simp
                    have ca4 : (((wr.alloc (.cells #[.bool true, .int .i64 A, .int .i64 B] 40)).alloc (.cells #[.int .i64 ax, .int .i64 ay, .int .i64 aw, .int .i64 ah, .int .i64 ac] 34)).alloc (.cells #[.int .i64 bx, .int .i64 bY, .int .i64 bw, .int .i64 bh, .int .i64 bc] 34)).cell? ⟨wr.heap.size + 1, 4, none⟩ = some (.int .i64 ac) := by go_simp
                    have cb0 : (((wr.alloc (.cells #[.bool true, .int .i64 A, .int .i64 B] 40)).alloc (.cells #[.int .i64 ax, .int .i64 ay, .int .i64 aw, .int .i64 ah, .int .i64 ac] 34)).alloc (.cells #[.int .i64 bx, .int .i64 bY, .int .i64 bw, .int .i64 bh, .int .i64 bc] 34)).cell? ⟨wr.heap.size + 1 + 1, 0, none⟩ = some (.int .i64 bx) := by go_simp
                    have cb1 : (((wr.alloc (.cells #[.bool true, .int .i64 A, .int .i64 B] 40)).alloc (.cells #[.int .i64 ax, .int .i64 ay, .int .i64 aw, .int .i64 ah, .int .i64 ac] 34)).alloc (.cells #[.int .i64 bx, .int .i64 bY, .int .i64 bw, .int .i64 bh, .int .i64 bc] 34)).cell? ⟨wr.heap.size + 1 + 1, 1, none⟩ = some (.int .i64 bY) := by go_simp
                    have cb2 : (((wr.alloc (.cells #[.bool true, .int .i64 A, .int .i64 B] 40)).alloc (.cells #[.int .i64 ax, .int .i64 ay, .int .i64 aw, .int .i64 ah, .int .i64 ac] 34)).alloc (.cells #[.int .i64 bx, .int .i64 bY, .int .i64 bw, .int .i64 bh, .int .i64 bc] 34)).cell? ⟨wr.heap.size + 1 + 1, 2, none⟩ = some (.int .i64 bw) := by go_simp
                    have cb3 : (((wr.alloc (.cells #[.bool true, .int .i64 A, .int .i64 B] 40)).alloc (.cells #[.int .i64 ax, .int .i64 ay, .int .i64 aw, .int .i64 ah, .int .i64 ac] 34)).alloc (.cells #[.int .i64 bx, .int .i64 bY, .int .i64 bw, .int .i64 bh, .int .i64 bc] 34)).cell? ⟨wr.heap.size + 1 + 1, 3, none⟩ = some (.int .i64 bh) := by go_simp
                    have cb4 : (((wr.alloc (.cells #[.bool true, .int .i64 A, .int .i64 B] 40)).alloc (.cells #[.int .i64 ax, .int .i64 ay, .int .i64 aw, .int .i64 ah, .int .i64 ac] 34)).alloc (.cells #[.int .i64 bx, .int .i64 bY, .int .i64 bw, .int .i64 bh, .int .i64 bc] 34)).cell? ⟨wr.heap.size + 1 + 1, 4, none⟩ = some (.int .i64 bc) := by go_simp
                    have fa : (((wr.alloc (.cells #[.bool true, .int .i64 A, .int .i64 B] 40)).alloc (.cells #[.int .i64 ax, .int .i64 ay, .int .i64 aw, .int .i64 ah, .int .i64 ac] 34)).alloc (.cells #[.int .i64 bx, .int .i64 bY, .int .i64 bw, .int .i64 bh, .int .i64 bc] 34)).frozen? ⟨wr.heap.size + 1, 2, none⟩ = false := by go_simp
                    obtain ⟨G, hG⟩ : ∃ G, (((wr.alloc (.cells #[.bool true, .int .i64 A, .int .i64 B] 40)).alloc (.cells #[.int .i64 ax, .int .i64 ay, .int .i64 aw, .int .i64 ah, .int .i64 ac] 34)).alloc (.cells #[.int .i64 bx, .int .i64 bY, .int .i64 bw, .int .i64 bh, .int .i64 bc] 34)) = G := ⟨_, rfl⟩
                    rw [hG] at c0 c1 c2 ca0 ca1 ca2 ca3 ca4 cb0 cb1 cb2 cb3 cb4 fa
                    rw [hG] at BPB hG0
                    have HOG := Lib.hid (HOJ.out.below BPB)
                    have HFG := Lib.hid (HFJ.out.below BPB)
                    have HBG := Lib.hid (bel_c HBK.out (by simp) BPB)
                    have hf1 := HFG.out
                    rw [← hbn] at hf1
                    obtain ⟨v1, fv1⟩ := hf1.at hA3
                    have ⟨v2, fv2⟩ := hf1.at hB3
                    obtain ⟨U1, hU1⟩ : ∃ U, G.setCell ⟨w1.heap.size, A, none⟩ (.bool true) = U := ⟨_, rfl⟩
                    have HF1 : Hid (OwnF w1.heap.size U1 (.slice (some ⟨w1.heap.size, 0, none⟩) bs.length NB) (bs.set A true)) := Lib.hid (by rw [← hU1]; have := hf1.set A; rwa [hbn] at this ⊢)
                    have v2' : U1.cell? ⟨w1.heap.size, B, none⟩ = some (.bool (bs.getD B false)) := by rw [← hU1, World.cell?_setCell_other _ _ _ _ (by simp <;> omega)]; exact v2
                    have fv2' : U1.frozen? ⟨w1.heap.size, B, none⟩ = false := by rw [← hU1, World.frozen?_setCell]; exact fv2
                    have d2 : U1.cell? ⟨wr.heap.size, 2, none⟩ = some (.int .i64 B) := by rw [← hU1, World.cell?_setCell_other _ _ _ _ (by simp <;> omega)]; exact c2
                    obtain ⟨U2, hU2⟩ : ∃ U, U1.setCell ⟨w1.heap.size, B, none⟩ (.bool true) = U := ⟨_, rfl⟩
                    have HF2 : Hid (OwnF w1.heap.size U2 (.slice (some ⟨w1.heap.size, 0, none⟩) NB NB) ((bs.set A true).set B true)) := Lib.hid (by rw [← hU2]; have h9 := HF1.out; rw [show bs.length = (bs.set A true).length by simp] at h9; have := h9.set B; rw [List.length_set, hbl.out] at this; exact this)
                    have k0 : U2.cell? ⟨wr.heap.size, 0, none⟩ = some (.bool true) := by rw [← hU2, ← hU1, World.cell?_setCell_other _ _ _ _ (by simp <;> omega), World.cell?_setCell_other _ _ _ _ (by simp <;> omega)]; exact c0
                    have ka0 : U2.cell? ⟨wr.heap.size + 1, 0, none⟩ = some (.int .i64 ax) := by rw [← hU2, ← hU1, World.cell?_setCell_other _ _ _ _ (by simp <;> omega), World.cell?_setCell_other _ _ _ _ (by simp <;> omega)]; exact ca0
                    have ka1 : U2.cell? ⟨wr.heap.size + 1, 1, none⟩ = some (.int .i64 ay) := by rw [← hU2, ← hU1, World.cell?_setCell_other _ _ _ _ (by simp <;> omega), World.cell?_setCell_other _ _ _ _ (by simp <;> omega)]; exact ca1
                    have ka2 : U2.cell? ⟨wr.heap.size + 1, 2, none⟩ = some (.int .i64 aw) := by rw [← hU2, ← hU1, World.cell?_setCell_other _ _ _ _ (by simp <;> omega), World.cell?_setCell_other _ _ _ _ (by simp <;> omega)]; exact ca2
                    have ka3 : U2.cell? ⟨wr.heap.size + 1, 3, none⟩ = some (.int .i64 ah) := by rw [← hU2, ← hU1, World.cell?_setCell_other _ _ _ _ (by simp <;> omega), World.cell?_setCell_other _ _ _ _ (by simp <;> omega)]; exact ca3
                    have ka4 : U2.cell? ⟨wr.heap.size + 1, 4, none⟩ = some (.int .i64 ac) := by rw [← hU2, ← hU1, World.cell?_setCell_other _ _ _ _ (by simp <;> omega), World.cell?_setCell_other _ _ _ _ (by simp <;> omega)]; exact ca4
                    have kb0 : U2.cell? ⟨wr.heap.size + 1 + 1, 0, none⟩ = some (.int .i64 bx) := by rw [← hU2, ← hU1, World.cell?_setCell_other _ _ _ _ (by simp <;> omega), World.cell?_setCell_other _ _ _ _ (by simp <;> omega)]; exact cb0
                    have kb1 : U2.cell? ⟨wr.heap.size + 1 + 1, 1, none⟩ = some (.int .i64 bY) := by rw [← hU2, ← hU1, World.cell?_setCell_other _ _ _ _ (by simp <;> omega), World.cell?_setCell_other _ _ _ _ (by simp <;> omega)]; exact cb1
                    have kb2 : U2.cell? ⟨wr.heap.size + 1 + 1, 2, none⟩ = some (.int .i64 bw) := by rw [← hU2, ← hU1, World.cell?_setCell_other _ _ _ _ (by simp <;> omega), World.cell?_setCell_other _ _ _ _ (by simp <;> omega)]; exact cb2
                    have kb3 : U2.cell? ⟨wr.heap.size + 1 + 1, 3, none⟩ = some (.int .i64 bh) := by rw [← hU2, ← hU1, World.cell?_setCell_other _ _ _ _ (by simp <;> omega), World.cell?_setCell_other _ _ _ _ (by simp <;> omega)]; exact cb3
                    have kb4 : U2.cell? ⟨wr.heap.size + 1 + 1, 4, none⟩ = some (.int .i64 bc) := by rw [← hU2, ← hU1, World.cell?_setCell_other _ _ _ _ (by simp <;> omega), World.cell?_setCell_other _ _ _ _ (by simp <;> omega)]; exact cb4
                    have fa2 : U2.frozen? ⟨wr.heap.size + 1, 2, none⟩ = false := by rw [← hU2, ← hU1, World.frozen?_setCell, World.frozen?_setCell]; exact fa
                    obtain ⟨U3, hU3⟩ : ∃ U, U2.setCell ⟨wr.heap.size + 1, 2, none⟩ (.int .i64 (aw + bw)) = U := ⟨_, rfl⟩
                    have m0 : U3.cell? ⟨wr.heap.size + 1, 0, none⟩ = some (.int .i64 ax) := by rw [← hU3, World.cell?_setCell_other _ _ _ _ (by simp)]; exact ka0
                    have m1 : U3.cell? ⟨wr.heap.size + 1, 1, none⟩ = some (.int .i64 ay) := by rw [← hU3, World.cell?_setCell_other _ _ _ _ (by simp)]; exact ka1
                    have m2 : U3.cell? ⟨wr.heap.size + 1, 2, none⟩ = some (.int .i64 (aw + bw)) := by rw [← hU3]; exact World.cell?_setCell_same _ _ _ ka2
                    have m3 : U3.cell? ⟨wr.heap.size + 1, 3, none⟩ = some (.int .i64 ah) := by rw [← hU3, World.cell?_setCell_other _ _ _ _ (by simp)]; exact ka3
                    have m4 : U3.cell? ⟨wr.heap.size + 1, 4, none⟩ = some (.int .i64 ac) := by rw [← hU3, World.cell?_setCell_other _ _ _ _ (by simp)]; exact ka4
                    have HO3 : Hid (OwnP (w.heap.size + 1) U3 (.slice (some ⟨go, 0, none⟩) us.length cq) (us.map U6.p)) := Lib.hid (by rw [← hU3, ← hU2, ← hU1]; exact ((HOG.out.far hdis.out _).far hdis.out _).far (by simp [Value.ownBlock] <;> omega) _)
                    have HF3 : Hid (OwnF w1.heap.size U3 (.slice (some ⟨w1.heap.size, 0, none⟩) NB NB) ((bs.set A true).set B true)) := Lib.hid (by rw [← hU3]; exact HF2.out.far (by simp [Value.ownBlock] <;> omega) _)
                    have HB3 : Hid (Below (w.heap.size + 1) (((w.alloc (.cells #[.int .i64 m, .int .i64 n, .slice (some ⟨g, 0, none⟩) xs.length cap] 26)).alloc (.cells #[] 34))) U3) := Lib.hid (by rw [← hU3, ← hU2, ← hU1]; exact Below.setCell (Below.setCell (Below.setCell HBG.out (p := ⟨w1.heap.size, A, none⟩) (by simp <;> omega) _) (p := ⟨w1.heap.size, B, none⟩) (by simp <;> omega) _) (p := ⟨wr.heap.size + 1, 2, none⟩) (by simp <;> omega) _)
                    have hs3 : U3.heap.size = wr.heap.size + 1 + 1 + 1 := by rw [← hU3, ← hU2, ← hU1]; simp [World.setCell]; omega
                    have BX := bel0 U3 (.cells #[.int .i64 ax, .int .i64 ay, .int .i64 (aw + bw), .int .i64 ah, .int .i64 ac] 34)
                    have HO4 : Hid ((U3.alloc (.cells #[.int .i64 ax, .int .i64 ay, .int .i64 (aw + bw), .int .i64 ah, .int .i64 ac] 34)).ownsRow (w.heap.size + 1) 34 5 (.slice (some ⟨go, 0, none⟩) us.length cq) us.length (placesPat (us.map U6.p))) := Lib.hid (by have := HO3.out.below BX; unfold OwnP at this; simpa using this)
                    have HF4 := Lib.hid (HF3.out.below BX)
                    have HB4 := Lib.hid (bel_c HB3.out (by simp) BX)
                    have HNW := Lib.hid (newsL U3 U3.heap.size #[.int .i64 ax, .int .i64 ay, .int .i64 (aw + bw), .int .i64 ah, .int .i64 ac] 34 rfl)
                    have HS4 : Hid (w.heap.size + 1 ≤ (U3.alloc (.cells #[.int .i64 ax, .int .i64 ay, .int .i64 (aw + bw), .int .i64 ah, .int .i64 ac] 34)).heap.size) := Lib.hid (by simp; omega)
                    have hU24 : us.length + 1 ≤ 100 := by omega
                    have HX := Lib.hid hs3
                    have HG0 := Lib.hid hG0
                    clear hf1 BX HO3 HF3 HB3 HF1 HF2 HOG HFG HBG BPB hs3 hG0 fv2 v2
                    go_wp2_with fail
                    refine (In_yes _ _ _ _ (by omega) (by omega)).mono ?_
                    rintro e w' ⟨rfl, hw⟩
                    have hw' := hw.symm
                    subst hw'
                    clear hw
                    go_wp2_with fail
                    refine (In_yes _ _ _ _ (by omega) (by omega)).mono ?_
                    rintro e w' ⟨rfl, hw⟩
                    have hw' := hw.symm
                    subst hw'
                    clear hw
                    go_wp2_with (at_builtin; refine wpList_append_lies _ rfl _ _ 24 rfl (w.heap.size + 1) 34 i0 _ 5 40 Try.underlying24 hi0 hz0 hz1 hz2 rfl (by decide) _ _ _ rfl HO4.out ⟨U3.heap.size, 0, none⟩ 1 1 [.int .i64 ax, .int .i64 ay, .int .i64 (aw + bw), .int .i64 ah, .int .i64 ac] rfl rfl HNW.out (by simp [Value.oneCell']) (by omega) (by unfold maxLen; omega) (by omega) HS4.out (U3.heap.size + 1) (by simp) ?_; intro gg5 cc5 w5 hown5 hgrow hat hlt5; have hbw := (Below.refl (w.heap.size + 1) _).grown hgrow HS4.out (ogL HO4.out))
                    have HN5 : Hid (OwnP (w.heap.size + 1) w5 (.slice (some ⟨gg5, 0, none⟩) (us.length + 1) cc5) ((putJ us ⟨true, A, B⟩).map U6.p)) := Lib.hid (by rw [HPM.out]; have := OwnP.more (ps := us.map U6.p) (p := ⟨ax, ay, (aw + bw), ah, ac⟩) hown5; simpa [sewP] using this)
                    have HD5 : Hid ((Value.slice (some ⟨gg5, 0, none⟩) (us.length + 1) cc5).ownBlock ≠ some w1.heap.size) := Lib.hid (dis_next hdis.out hat (by have h2 := HX.out; omega))
                    have HF5 := Lib.hid (HF4.out.grown hgrow hdis.out)
                    have HB5 := Lib.hid (HB4.out.trans hbw)
                    have hs5 : w1.heap.size < w5.heap.size := HF5.out.lt.1
                    clear hown5 hgrow hat hlt5 hbw HO4 HNW HS4 HB4 HF4
                    go_wp2_with fail
                    go_roundw
                    case rel => exact ⟨k + 1, _, _, by omega, by go_num, HN5, HD5, HF5, HBL2, HUI2, HUL2, HUK2, HY, HB5, hs5⟩
                    case measure => simp [intOf] <;> omega
                · skip
                  have HE := Lib.hid (HNF.out hsd)
                  have HIZ := Lib.hid (HIR.out.below BPB)
                  have HBZ := Lib.hid (bel_c HBJ.out (Nat.le_refl _) BPB)
                  have HIZ2 : Hid (PatIn w.heap.size (((wr.alloc (.cells #[.bool up, .int .i64 A, .int .i64 B] 40)).alloc (.cells #[.int .i64 ax, .int .i64 ay, .int .i64 aw, .int .i64 ah, .int .i64 ac] 34)).alloc (.cells #[.int .i64 bx, .int .i64 bY, .int .i64 bw, .int .i64 bh, .int .i64 bc] 34)).heap.size (((wr.alloc (.cells #[.bool up, .int .i64 A, .int .i64 B] 40)).alloc (.cells #[.int .i64 ax, .int .i64 ay, .int .i64 aw, .int .i64 ah, .int .i64 ac] 34)).alloc (.cells #[.int .i64 bx, .int .i64 bY, .int .i64 bw, .int .i64 bh, .int .i64 bc] 34)) (.slice (some ⟨go, 0, none⟩) us.length cq) (us.map U6.p)) := Lib.hid (HIZ.out.wide (Nat.le_refl _) (by simp))
                  clear HNF HFM HPU HN HM hja' hjb' hbn HIZ BPA BPB
                  cases up
                  · skip
                    obtain ⟨d1, hd1⟩ : ∃ d, (ay + ah != bY) = d := ⟨_, rfl⟩
                    obtain ⟨d2, hd2⟩ : ∃ d, (ax != bx) = d := ⟨_, rfl⟩
                    obtain ⟨d3, hd3⟩ : ∃ d, (aw != bw) = d := ⟨_, rfl⟩
                    have hno : ¬ (d1 = false ∧ d2 = false ∧ d3 = false) := by
                      rintro ⟨rfl, rfl, rfl⟩
                      apply hsd
                      simp only [bne_eq_false_iff_eq] at hd1 hd2 hd3
                      simp [Side]; omega
                    have hsd0 := Lib.hid hsd
                    clear hsd
                    cases d1
                    all_goals cases d2
                    all_goals cases d3
                    all_goals first | (exfalso; exact hno ⟨rfl, rfl, rfl⟩) | skip
                    all_goals
                      clear hno
                      go_wp2_with fail
                      refine (In_yes _ _ _ _ (by omega) (by omega)).mono ?_
                      rintro e w' ⟨rfl, hw⟩
                      have hw' := hw.symm
                      subst hw'
                      clear hw
                      go_wp2_with fail
                      refine (In_yes _ _ _ _ (by omega) (by omega)).mono ?_
                      rintro e w' ⟨rfl, hw⟩
                      have hw' := hw.symm
                      subst hw'
                      clear hw
                      go_wp2_with fail
                      go_ret
                      exact ⟨_, rfl, by rw [← HE.out]; exact HIZ2.out, HBZ.out⟩
                  · skip
                    obtain ⟨d1, hd1⟩ : ∃ d, (ax + aw != bx) = d := ⟨_, rfl⟩
                    obtain ⟨d2, hd2⟩ : ∃ d, (ay != bY) = d := ⟨_, rfl⟩
                    obtain ⟨d3, hd3⟩ : ∃ d, (ah != bh) = d := ⟨_, rfl⟩
                    have hno : ¬ (d1 = false ∧ d2 = false ∧ d3 = false) := by
                      rintro ⟨rfl, rfl, rfl⟩
                      apply hsd
                      simp only [bne_eq_false_iff_eq] at hd1 hd2 hd3
                      simp [Side]; omega
                    have hsd0 := Lib.hid hsd
                    clear hsd
                    cases d1
                    all_goals cases d2
                    all_goals cases d3
                    all_goals first | (exfalso; exact hno ⟨rfl, rfl, rfl⟩) | skip
                    all_goals
                      clear hno
                      go_wp2_with fail
                      refine (In_yes _ _ _ _ (by omega) (by omega)).mono ?_
                      rintro e w' ⟨rfl, hw⟩
                      have hw' := hw.symm
                      subst hw'
                      clear hw
                      go_wp2_with fail
                      refine (In_yes _ _ _ _ (by omega) (by omega)).mono ?_
                      rintro e w' ⟨rfl, hw⟩
                      have hw' := hw.symm
                      subst hw'
                      clear hw
                      go_wp2_with fail
                      go_ret
                      exact ⟨_, rfl, by rw [← HE.out]; exact HIZ2.out, HBZ.out⟩
        · have HE := Lib.hid (HM.out (fun k => hB k.2.1))
          have z3 : b < 0 ∨ (us.length : Int) - 1 < b := by unfold InU at hB; omega
          obtain ⟨a0, a1⟩ := hA
          clear HN HM hB
          go_wp2_with fail
          refine (In_yes _ _ _ _ (by omega) (by omega)).mono ?_
          rintro e w' ⟨rfl, hw⟩
          have hw' := hw.symm
          subst hw'
          clear hw
          go_wp2_with fail
          refine (In_no _ _ _ _ z3).mono ?_
          rintro e w' ⟨rfl, hw⟩
          have hw' := hw.symm
          subst hw'
          clear hw
          go_wp2_with fail
          go_ret
          exact ⟨_, rfl, by rw [← HE.out]; exact HIR.out, HBJ.out⟩
      · have HE := Lib.hid (HM.out (fun k => hA k.1))
        have z3 : a < 0 ∨ (us.length : Int) - 1 < a := by unfold InU at hA; omega
        clear HN HM hA
        go_wp2_with fail
        refine (In_no _ _ _ _ z3).mono ?_
        rintro e w' ⟨rfl, hw⟩
        have hw' := hw.symm
        subst hw'
        clear hw
        go_wp2_with fail
        go_ret
        exact ⟨_, rfl, by rw [← HE.out]; exact HIR.out, HBJ.out⟩
    · obtain rfl : k = js.length := by omega
      have HE := Lib.hid (unF_all hun.out)
      have HI := Lib.hid (hin.wide (lo' := w.heap.size) (hi' := wr.heap.size) (Nat.le_succ _) (Nat.le_refl _))
      clear hin hun
      go_wp2_with fail
      go_ret
      exact ⟨_, rfl, by rw [← HE.out]; exact HI.out, HBW.out⟩

end Go.Proofs.Ytboahceibeeifaa
