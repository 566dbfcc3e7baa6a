/- Exchanges: the model's FirstUse. -/
import Derived.Test.YtndffjphdlncpaaMExs
import Derived.Test.YtndffjphdlncpaaMBlm

namespace Go.Proofs.Ytndffjphdlncpaa
open Go.ChangeShapes Go.WideShapes Go.ChangeAt Go.RowKit

theorem fu_n : ∀ (t : List Int) (st : List Int × Int), 0 ≤ st.2 → 0 ≤ (t.foldl fuStep st).2 ∧ (t.foldl fuStep st).2 ≤ st.2 + t.length
  | [], st, h => by simp [h]
  | a :: t, st, h => by
    have h1 : 0 ≤ (fuStep st a).2 ∧ (fuStep st a).2 ≤ st.2 + 1 := by unfold fuStep; split <;> (constructor <;> (try simp only) <;> omega)
    have ih := fu_n t (fuStep st a) h1.1
    rw [List.foldl_cons, List.length_cons]
    omega
theorem fu_nb (t : List Int) : 0 ≤ (fuFold t).2 ∧ (fuFold t).2 ≤ t.length := by
  have := fu_n t ([-1, -1, -1, -1, -1, -1], 0) (by decide)
  simpa [fuFold] using this
theorem fu_l : ∀ (t : List Int) (st : List Int × Int), (t.foldl fuStep st).1.length = st.1.length
  | [], _ => rfl
  | a :: t, st => by
    rw [List.foldl_cons, fu_l t]
    unfold fuStep
    split <;> simp
theorem fu_len (t : List Int) : (fuFold t).1.length = 6 := fu_l t _
theorem seq_length (xs : List C3) : (fuSeq xs).length = 2 * xs.length := by
  induction xs with
  | nil => rfl
  | cons c r ih =>
    unfold fuSeq at ih ⊢
    simp only [List.flatMap_cons, List.length_append, List.length_cons, List.length_nil]
    omega
theorem seq_at : ∀ (xs : List C3) (j : Nat), j < xs.length → (fuSeq xs)[2 * j]? = some (xs.getD j C3.zero).a ∧ (fuSeq xs)[2 * j + 1]? = some (xs.getD j C3.zero).b
  | [], j, h => by simp at h
  | c :: r, 0, _ => by simp [fuSeq]
  | c :: r, j + 1, h => by
    have ih := seq_at r j (by simpa using h)
    have e : fuSeq (c :: r) = c.a :: c.b :: fuSeq r := by simp [fuSeq]
    rw [e, show 2 * (j + 1) = 2 * j + 1 + 1 by omega]
    simpa [List.getD] using ih
theorem seq_next {xs : List C3} {k : Nat} {a : Int} (h : (fuSeq xs)[k]? = some a) : (fuSeq xs).take (k + 1) = (fuSeq xs).take k ++ [a] := by
  have hk : k < (fuSeq xs).length := by
    rcases Nat.lt_or_ge k (fuSeq xs).length with h1 | h1
    · exact h1
    · rw [List.getElem?_eq_none h1] at h; cases h
  rw [List.take_succ_eq_append_getElem hk]
  rw [List.getElem?_eq_getElem hk] at h
  rw [Option.some.inj h]
theorem fu_more (t : List Int) {i : Nat} (h : ¬ (fuFold t).1.getD i 0 < 0) : fuFold (t ++ [(i : Int)]) = fuFold t := by
  rw [fuFold_snoc]
  unfold fuStep atL
  rw [Int.toNat_natCast, if_neg h]
theorem fu_new (t : List Int) {i : Nat} (h : (fuFold t).1.getD i 0 < 0) : fuFold (t ++ [(i : Int)]) = ((fuFold t).1.set i (fuFold t).2, (fuFold t).2 + 1) := by
  rw [fuFold_snoc]
  unfold fuStep atL
  rw [Int.toNat_natCast, if_pos h]
/-- What FirstUse answers. -/
noncomputable def fuAns (n : Int) (xs : List C3) : List Int := @ite _ (BlkOk n xs) (Classical.propDecidable _) (fuL xs) []
theorem fu_yes {n : Int} {xs : List C3} (h : BlkOk n xs) : fuAns n xs = fuL xs := if_pos h
theorem fu_no {n : Int} {xs : List C3} (h : ¬ BlkOk n xs) : fuAns n xs = [] := if_neg h
theorem rep_more (k : Nat) : List.replicate (k + 1) (-1 : Int) = List.replicate k (-1) ++ [-1] := List.replicate_succ'

set_option maxRecDepth 100000 in
set_option maxHeartbeats 4000000 in
theorem SpecFirstUse_any (lo hi : Nat) (n : Int) (v : Value) (xs : List C3) (w : World) (r : CellIn lo hi w v xs) (hhi : hi ≤ w.heap.size) :
    Calls Try.prog 26 #[.agg #[.int .i64 n, v]] w (FreshI (fuAns n xs) w) := by
  obtain ⟨i0, hi0, hz0, hz1', hz2⟩ : ∃ i, Try.prog.info? 3 = some i ∧ i.zero = some (.int .i64 0) ∧ i.size = 1 ∧ i.bytes = 8 := info_parts3 info_int6
  obtain ⟨a, cap, rfl⟩ := r.form
  have hl := r.1
  have HR := Lib.hid (fun W (hb : Below w.heap.size w W) => r.below (hb.mono hhi))
  clear r
  by_cases hb : BlkOk n xs
  · rw [fu_yes hb]
    have HB := Lib.hid hb
    have hx16 := (blk_len hb).2
    clear hb
    go_enter Try.func26, Try.ntmps26
    go_wp2_with fail
    refine (SpecBlockOk_yes lo hi n _ xs _ (HR.out _ (bel0 _ _)) (by simp; omega) HB.out).mono ?_
    rintro e w1 ⟨rfl, hb1⟩
    have hz1 : w.heap.size + 1 ≤ w1.heap.size := by have := hb1.size; simpa using this
    have HP1 := Lib.hid (kept (p := ⟨w.heap.size, 1, none⟩) (x := .slice a xs.length cap) hb1 (by go_simp))
    have HB1 := Lib.hid (bel_c (bel0 w _) (Nat.le_refl _) hb1)
    have HPN := Lib.hid (kept (bel0 w1 (.cells #[] 3)) HP1.out)
    clear hb1
    go_wp2_with fail
    go_loopw [3, 4] (fun q i wr => ∃ k : Nat, k ≤ 6 ∧ i = .int .i64 k ∧ Hid (wr.ownsRow w1.heap.size 3 1 q k (ivals (List.replicate k (-1)))) ∧ Hid (wr.cell? ⟨w.heap.size, 1, none⟩ = some (.slice a xs.length cap)) ∧ Hid (Below w.heap.size w wr) ∧ w1.heap.size ≤ wr.heap.size) (fun _ i _ => 6 - (intOf i).toNat)
    case atStart => exact ⟨0, Nat.zero_le _, rfl, Lib.hid (own_fresh w1 3), HPN, Lib.hid (bel_n HB1.out (Nat.le_refl _) _), by simp⟩
    case round =>
      obtain ⟨k, hk, rfl, hown, hp, hbel, hsz⟩ := hrel
      by_cases hlt : k < 6
      · have HO1 := Lib.hid (owns_bel6 hown.out (bel0 wr (.cells #[.int .i64 (-1)] 3)))
        have HNW := Lib.hid (news1 wr (.int .i64 (-1)) 3)
        have HB1' := Lib.hid (bel_n hbel.out (Nat.le_refl _) (.cells #[.int .i64 (-1)] 3))
        have HB2 : Hid (w1.heap.size ≤ (wr.alloc (.cells #[.int .i64 (-1)] 3)).heap.size) := Lib.hid (by simp; omega)
        have HP2 := Lib.hid (kept (bel0 wr (.cells #[.int .i64 (-1)] 3)) hp.out)
        clear hown hbel hp
        go_wp2_with (at_builtin; refine wpList_append_lies _ rfl _ _ 27 rfl w1.heap.size 3 i0 (.int .i64 0) 1 8 Try.underlying27 hi0 hz0 hz1' hz2 rfl (by decide) _ _ _ rfl HO1.out ⟨wr.heap.size, 0, none⟩ 1 1 [.int .i64 (-1)] rfl rfl HNW.out (by simp [Value.oneCell']) (by omega) (by unfold maxLen; omega) (by omega) HB2.out (wr.heap.size + 1) (by simp) ?_; intro gg cc w2 hown2 hgrow hat hlt2)
        have hbw := (Below.refl w1.heap.size _).grown hgrow HB2.out (own_ge6 HO1.out)
        have HN2 : Hid (w2.ownsRow w1.heap.size 3 1 (.slice (some ⟨gg, 0, none⟩) (k + 1) cc) (k + 1) (ivals (List.replicate (k + 1) (-1)))) := Lib.hid (by rw [rep_more]; unfold ivals at hown2 ⊢; rw [List.map_append]; exact hown2)
        have HB4 := Lib.hid (HB1'.out.trans (hbw.mono (by omega)))
        have HP3 := Lib.hid ((hbw.cell (p := ⟨w.heap.size, 1, none⟩) hz1).trans HP2.out)
        have hs4 : w1.heap.size ≤ w2.heap.size := Nat.le_trans HB2.out hbw.size
        clear hown2 hgrow hat hlt2 hbw HO1 HNW
        go_wp2_with fail
        go_roundw
        case rel => exact ⟨k + 1, by omega, by go_num, HN2, HP3, HB4, hs4⟩
        case measure => simp [intOf] <;> omega
      · obtain rfl : k = 6 := by omega
        have hin := IntIn.of_owns (zs := List.replicate 6 (-1)) hown.out (by decide)
        obtain ⟨av, c3, hv⟩ := hin.form
        obtain ⟨g3, hg3, hg31, hg32, _, _⟩ := (by rw [hv] at hin; exact hin.at (Below.refl _ _) (i := 0) (by decide) : ∃ g, av = some ⟨g, 0, none⟩ ∧ _ ≤ g ∧ g < _ ∧ _ ∧ _)
        subst hg3
        subst hv
        obtain ⟨h3, hh3⟩ : ∃ h, h = wr.heap.size := ⟨_, rfl⟩
        rw [← hh3] at hin hg32
        have HI : Hid (IntIn w1.heap.size h3 wr (.slice (some ⟨g3, 0, none⟩) 6 c3) (fuFold ((fuSeq xs).take 0)).1) := Lib.hid hin
        have hsz3 : h3 ≤ wr.heap.size := by omega
        clear hin hown hsz hh3
        obtain ⟨wo, rfl⟩ : ∃ wo : World, wo = wr := ⟨_, rfl⟩
        go_wp2_with fail
        go_loopw [5, 6] (fun q i wr => ∃ k : Nat, k ≤ 2 * xs.length ∧ i = .int .i64 k ∧ q = .int .i64 (fuFold ((fuSeq xs).take k)).2 ∧ Hid (IntIn w1.heap.size h3 wr (.slice (some ⟨g3, 0, none⟩) 6 c3) (fuFold ((fuSeq xs).take k)).1) ∧ Hid (wr.cell? ⟨w.heap.size, 1, none⟩ = some (.slice a xs.length cap)) ∧ Hid (Below w.heap.size w wr) ∧ h3 ≤ wr.heap.size) (fun _ i _ => 2 * xs.length - (intOf i).toNat)
        case atStart => exact ⟨0, Nat.zero_le _, rfl, rfl, HI, hp, hbel, hsz3⟩
        case round =>
          clear hp hbel HI hsz3
          obtain ⟨k, hk, rfl, rfl, hin, hp, hbel, hsz⟩ := hrel
          have p1 := hp.out
          by_cases hlt2 : k < 2 * xs.length
          · have htl : ((fuSeq xs).take k).length ≤ 32 := by rw [List.length_take, seq_length]; omega
            rcases Nat.mod_two_eq_zero_or_one k with hm | hm
            · obtain ⟨j, hk2⟩ : ∃ j, k = 2 * j := ⟨k / 2, by omega⟩
              have hq : (k : Int) / 2 = (j : Int) := by omega
              have hr : (k : Int) % 2 = 0 := by omega
              have hjl : j < xs.length := by omega
              have hji : (j : Int) < (xs.length : Int) := by omega
              obtain ⟨g, hag, _, _, ⟨e0, e1, e2⟩, _⟩ := (HR.out _ hbel.out).at (Below.refl _ _) hjl
              have hok := okC_col (blk_at HB.out hjl)
              unfold Col at hok
              have HSE := (seq_at xs j hjl).1
              obtain ⟨i, hi⟩ : ∃ i : Nat, (xs.getD j C3.zero).a = i := ⟨(xs.getD j C3.zero).a.toNat, by omega⟩
              rw [hi] at HSE e1
              have HSQ : Hid ((fuSeq xs).take (k + 1) = (fuSeq xs).take k ++ [(i : Int)]) := Lib.hid (seq_next (by rw [hk2]; exact HSE))
              have hi5 : i ≤ 5 := by omega
              generalize (xs.getD j C3.zero).s = cs at e0
              generalize (xs.getD j C3.zero).b = cb at e2
              have hag' := hag
              clear HSE hi hok hk2
              subst hag'
              obtain ⟨gq, hgq, hq1, _, f0, f1⟩ := hin.out.at (Below.refl _ _) (i := i) (by rw [fu_len]; omega)
              simp only [Option.some.injEq, Addr.mk.injEq, and_true] at hgq
              subst hgq
              obtain ⟨n0, n1⟩ := fu_nb ((fuSeq xs).take k)
              have hi6 : (i : Int) < 6 := by omega
              by_cases hlt3 : (fuFold ((fuSeq xs).take k)).1.getD i 0 < 0
              · have HN : Hid (fuFold ((fuSeq xs).take (k + 1)) = ((fuFold ((fuSeq xs).take k)).1.set i (fuFold ((fuSeq xs).take k)).2, (fuFold ((fuSeq xs).take k)).2 + 1)) := Lib.hid (by rw [HSQ.out]; exact fu_new _ hlt3)
                have HIN := Lib.hid (hin.out.set i (by rw [fu_len]; omega) (fuFold ((fuSeq xs).take k)).2)
                have HB2 := Lib.hid (Below.setCell hbel.out (p := ⟨g3, i, none⟩) (by show _ ≤ g3; omega) (.int .i64 (fuFold ((fuSeq xs).take k)).2))
                have HP2 : Hid ((wr.setCell ⟨g3, i, none⟩ (.int .i64 (fuFold ((fuSeq xs).take k)).2)).cell? ⟨w.heap.size, 1, none⟩ = some (.slice (some ⟨g, 0, none⟩) xs.length cap)) := Lib.hid ((World.cell?_setCell_other _ _ _ _ (by intro e; injection e with e1; omega)).trans hp.out)
                generalize (fuFold ((fuSeq xs).take k)).1.getD i 0 = y at f0 hlt3
                generalize hnn : (fuFold ((fuSeq xs).take k)).2 = nn at n0 n1 HN HIN HB2 HP2 ⊢
                have hp1 := hp.out
                clear hin hbel hp hnn
                go_wp2_with fail
                go_roundw
                case rel => exact ⟨k + 1, by omega, by go_num, by rw [HN.out], by rw [HN.out]; exact HIN, HP2, HB2, by simp [World.setCell]; exact hsz⟩
                case measure => simp [intOf] <;> omega
              · have HN : Hid (fuFold ((fuSeq xs).take (k + 1)) = fuFold ((fuSeq xs).take k)) := Lib.hid (by rw [HSQ.out]; exact fu_more _ hlt3)
                generalize (fuFold ((fuSeq xs).take k)).1.getD i 0 = y at f0 hlt3
                have hp1 := hp.out
                go_wp2_with fail
                go_roundw
                case rel => exact ⟨k + 1, by omega, by go_num, by rw [HN.out], by rw [HN.out]; exact hin, hp, hbel, hsz⟩
                case measure => simp [intOf] <;> omega
            · obtain ⟨j, hk2⟩ : ∃ j, k = 2 * j + 1 := ⟨k / 2, by omega⟩
              have hq : (k : Int) / 2 = (j : Int) := by omega
              have hr : (k : Int) % 2 = 1 := by omega
              have hjl : j < xs.length := by omega
              have hji : (j : Int) < (xs.length : Int) := by omega
              obtain ⟨g, hag, _, _, ⟨e0, e1, e2⟩, _⟩ := (HR.out _ hbel.out).at (Below.refl _ _) hjl
              have hok := okC_col (blk_at HB.out hjl)
              unfold Col at hok
              have HSE := (seq_at xs j hjl).2
              obtain ⟨i, hi⟩ : ∃ i : Nat, (xs.getD j C3.zero).b = i := ⟨(xs.getD j C3.zero).b.toNat, by omega⟩
              rw [hi] at HSE e2
              have HSQ : Hid ((fuSeq xs).take (k + 1) = (fuSeq xs).take k ++ [(i : Int)]) := Lib.hid (seq_next (by rw [hk2]; exact HSE))
              have hi5 : i ≤ 5 := by omega
              generalize (xs.getD j C3.zero).s = cs at e0
              generalize (xs.getD j C3.zero).a = ca at e1
              have hag' := hag
              clear HSE hi hok hk2
              subst hag'
              obtain ⟨gq, hgq, hq1, _, f0, f1⟩ := hin.out.at (Below.refl _ _) (i := i) (by rw [fu_len]; omega)
              simp only [Option.some.injEq, Addr.mk.injEq, and_true] at hgq
              subst hgq
              obtain ⟨n0, n1⟩ := fu_nb ((fuSeq xs).take k)
              have hi6 : (i : Int) < 6 := by omega
              by_cases hlt3 : (fuFold ((fuSeq xs).take k)).1.getD i 0 < 0
              · have HN : Hid (fuFold ((fuSeq xs).take (k + 1)) = ((fuFold ((fuSeq xs).take k)).1.set i (fuFold ((fuSeq xs).take k)).2, (fuFold ((fuSeq xs).take k)).2 + 1)) := Lib.hid (by rw [HSQ.out]; exact fu_new _ hlt3)
                have HIN := Lib.hid (hin.out.set i (by rw [fu_len]; omega) (fuFold ((fuSeq xs).take k)).2)
                have HB2 := Lib.hid (Below.setCell hbel.out (p := ⟨g3, i, none⟩) (by show _ ≤ g3; omega) (.int .i64 (fuFold ((fuSeq xs).take k)).2))
                have HP2 : Hid ((wr.setCell ⟨g3, i, none⟩ (.int .i64 (fuFold ((fuSeq xs).take k)).2)).cell? ⟨w.heap.size, 1, none⟩ = some (.slice (some ⟨g, 0, none⟩) xs.length cap)) := Lib.hid ((World.cell?_setCell_other _ _ _ _ (by intro e; injection e with e1; omega)).trans hp.out)
                generalize (fuFold ((fuSeq xs).take k)).1.getD i 0 = y at f0 hlt3
                generalize hnn : (fuFold ((fuSeq xs).take k)).2 = nn at n0 n1 HN HIN HB2 HP2 ⊢
                have hp1 := hp.out
                clear hin hbel hp hnn
                go_wp2_with fail
                go_roundw
                case rel => exact ⟨k + 1, by omega, by go_num, by rw [HN.out], by rw [HN.out]; exact HIN, HP2, HB2, by simp [World.setCell]; exact hsz⟩
                case measure => simp [intOf] <;> omega
              · have HN : Hid (fuFold ((fuSeq xs).take (k + 1)) = fuFold ((fuSeq xs).take k)) := Lib.hid (by rw [HSQ.out]; exact fu_more _ hlt3)
                generalize (fuFold ((fuSeq xs).take k)).1.getD i 0 = y at f0 hlt3
                have hp1 := hp.out
                go_wp2_with fail
                go_roundw
                case rel => exact ⟨k + 1, by omega, by go_num, by rw [HN.out], by rw [HN.out]; exact hin, hp, hbel, hsz⟩
                case measure => simp [intOf] <;> omega
          · obtain rfl : k = 2 * xs.length := by omega
            have HTK : Hid ((fuSeq xs).take (2 * xs.length) = fuSeq xs ++ idL.take 0) := Lib.hid (by rw [← seq_length, List.take_length]; simp)
            rw [HTK.out] at hin ⊢
            obtain ⟨wo2, rfl⟩ : ∃ wo2 : World, wo2 = wr := ⟨_, rfl⟩
            go_wp2_with fail
            go_loopw [5, 8] (fun q i wr => ∃ k : Nat, k ≤ 6 ∧ i = .int .i64 k ∧ q = .int .i64 (fuFold (fuSeq xs ++ idL.take k)).2 ∧ Hid (IntIn w1.heap.size h3 wr (.slice (some ⟨g3, 0, none⟩) 6 c3) (fuFold (fuSeq xs ++ idL.take k)).1) ∧ Hid (wr.cell? ⟨w.heap.size, 1, none⟩ = some (.slice a xs.length cap)) ∧ Hid (Below w.heap.size w wr) ∧ h3 ≤ wr.heap.size) (fun _ i _ => 6 - (intOf i).toNat)
            case atStart => exact ⟨0, Nat.zero_le _, rfl, rfl, hin, hp, hbel, hsz⟩
            case round =>
              clear hp hbel hin hsz p1
              obtain ⟨i, hi, rfl, rfl, hin, hp, hbel, hsz⟩ := hrel
              by_cases hlt4 : i < 6
              · have HSQ : Hid (fuSeq xs ++ idL.take (i + 1) = fuSeq xs ++ idL.take i ++ [(i : Int)]) := Lib.hid (by rw [show idL.take (i + 1) = idL.take i ++ [(i : Int)] from idL_take ⟨i, hlt4⟩, List.append_assoc])
                have htl : (fuSeq xs ++ idL.take i).length ≤ 100 := by rw [List.length_append, seq_length, List.length_take]; omega
                obtain ⟨gq, hgq, hq1, _, f0, f1⟩ := hin.out.at (Below.refl _ _) (i := i) (by rw [fu_len]; omega)
                simp only [Option.some.injEq, Addr.mk.injEq, and_true] at hgq
                subst hgq
                obtain ⟨n0, n1⟩ := fu_nb (fuSeq xs ++ idL.take i)
                have hi6 : (i : Int) < 6 := by omega
                by_cases hlt3 : (fuFold (fuSeq xs ++ idL.take i)).1.getD i 0 < 0
                · have HN : Hid (fuFold (fuSeq xs ++ idL.take (i + 1)) = ((fuFold (fuSeq xs ++ idL.take i)).1.set i (fuFold (fuSeq xs ++ idL.take i)).2, (fuFold (fuSeq xs ++ idL.take i)).2 + 1)) := Lib.hid (by rw [HSQ.out]; exact fu_new _ hlt3)
                  have HIN := Lib.hid (hin.out.set i (by rw [fu_len]; omega) (fuFold (fuSeq xs ++ idL.take i)).2)
                  have HB2 := Lib.hid (Below.setCell hbel.out (p := ⟨g3, i, none⟩) (by show _ ≤ g3; omega) (.int .i64 (fuFold (fuSeq xs ++ idL.take i)).2))
                  have HP2 : Hid ((wr.setCell ⟨g3, i, none⟩ (.int .i64 (fuFold (fuSeq xs ++ idL.take i)).2)).cell? ⟨w.heap.size, 1, none⟩ = some (.slice a xs.length cap)) := Lib.hid ((World.cell?_setCell_other _ _ _ _ (by intro e; injection e with e1; omega)).trans hp.out)
                  generalize (fuFold (fuSeq xs ++ idL.take i)).1.getD i 0 = y at f0 hlt3
                  generalize hnn : (fuFold (fuSeq xs ++ idL.take i)).2 = nn at n0 n1 HN HIN HB2 HP2 ⊢
                  have hp1 := hp.out
                  clear hin hbel hp hnn
                  go_wp2_with fail
                  go_roundw
                  case rel => exact ⟨i + 1, by omega, by go_num, by rw [HN.out], by rw [HN.out]; exact HIN, HP2, HB2, by simp [World.setCell]; exact hsz⟩
                  case measure => simp [intOf] <;> omega
                · have HN : Hid (fuFold (fuSeq xs ++ idL.take (i + 1)) = fuFold (fuSeq xs ++ idL.take i)) := Lib.hid (by rw [HSQ.out]; exact fu_more _ hlt3)
                  generalize (fuFold (fuSeq xs ++ idL.take i)).1.getD i 0 = y at f0 hlt3
                  have hp1 := hp.out
                  go_wp2_with fail
                  go_roundw
                  case rel => exact ⟨i + 1, by omega, by go_num, by rw [HN.out], by rw [HN.out]; exact hin, hp, hbel, hsz⟩
                  case measure => simp [intOf] <;> omega
              · obtain rfl : i = 6 := by omega
                have HF : Hid (IntIn w.heap.size wr.heap.size wr (.slice (some ⟨g3, 0, none⟩) 6 c3) (fuL xs)) := Lib.hid (hin.out.wide (by omega) hsz)
                clear hin
                go_wp2_with fail
                go_ret
                exact ⟨_, rfl, HF.out, hbel.out⟩
  · rw [fu_no hb]
    have HB := Lib.hid hb
    clear hb
    go_enter Try.func26, Try.ntmps26
    go_wp2_with fail
    refine (SpecBlockOk_no lo hi n _ xs _ (HR.out _ (bel0 _ _)) (by simp; omega) HB.out).mono ?_
    rintro e w1 ⟨rfl, hb1⟩
    go_wp2_with fail
    go_ret
    exact ⟨_, rfl, ⟨by simp, .inl ⟨rfl, _, _, rfl⟩⟩, bel_n (bel_c (bel0 w _) (Nat.le_refl _) hb1) (Nat.le_refl _) _⟩

end Go.Proofs.Ytndffjphdlncpaa
