/- Exchanges: the model's FirstUse. Exchanges: a drawn list: what it is. Exchanges: a drawn cell, valid or not. Exchanges: a drawn block, valid or not. -/
import Derived.Test.YtbnokmlmajcibaaM06
import Derived.Test.YtbnokmlmajcibaaM02
import Derived.Test.YtbnokmlmajcibaaM09
import Derived.Deep.RegionHeld3

namespace Go.Proofs.Ytbnokmlmajcibaa
open Go.ChangeShapes Go.WideShapes Go.ChangeAt Go.RowKit

theorem fu_n : ∀ (t : List Int) (st : List Int × Int), 0 ≤ st.2 → 0 ≤ (t.foldl fuStep st).2 ∧ (t.foldl fuStep st).2 ≤ st.2 + t.length
  | [], st, h => by simp [h]
  | a :: t, st, h => by
    have h1 : 0 ≤ (fuStep st a).2 ∧ (fuStep st a).2 ≤ st.2 + 1 := by unfold fuStep; split <;> (constructor <;> (try simp only) <;> omega)
    have ih := fu_n t (fuStep st a) h1.1
    rw [List.foldl_cons, List.length_cons]
    omega
theorem fu_nb (t : List Int) : 0 ≤ (fuFold t).2 ∧ (fuFold t).2 ≤ t.length := by
  have := fu_n t ([-1, -1, -1, -1, -1, -1], 0) (by decide)
  simpa [fuFold] using this
theorem fu_l : ∀ (t : List Int) (st : List Int × Int), (t.foldl fuStep st).1.length = st.1.length
  | [], _ => rfl
  | a :: t, st => by
    rw [List.foldl_cons, fu_l t]
    unfold fuStep
    split <;> simp
theorem fu_len (t : List Int) : (fuFold t).1.length = 6 := fu_l t _
theorem seq_length (xs : List C3) : (fuSeq xs).length = 2 * xs.length := by
  induction xs with
  | nil => rfl
  | cons c r ih =>
    unfold fuSeq at ih ⊢
    simp only [List.flatMap_cons, List.length_append, List.length_cons, List.length_nil]
    omega
theorem seq_at : ∀ (xs : List C3) (j : Nat), j < xs.length → (fuSeq xs)[2 * j]? = some (xs.getD j C3.zero).a ∧ (fuSeq xs)[2 * j + 1]? = some (xs.getD j C3.zero).b
  | [], j, h => by simp at h
  | c :: r, 0, _ => by simp [fuSeq]
  | c :: r, j + 1, h => by
    have ih := seq_at r j (by simpa using h)
    have e : fuSeq (c :: r) = c.a :: c.b :: fuSeq r := by simp [fuSeq]
    rw [e, show 2 * (j + 1) = 2 * j + 1 + 1 by omega]
    simpa [List.getD] using ih
theorem seq_next {xs : List C3} {k : Nat} {a : Int} (h : (fuSeq xs)[k]? = some a) : (fuSeq xs).take (k + 1) = (fuSeq xs).take k ++ [a] := by
  have hk : k < (fuSeq xs).length := by
    rcases Nat.lt_or_ge k (fuSeq xs).length with h1 | h1
    · exact h1
    · rw [List.getElem?_eq_none h1] at h; cases h
  rw [List.take_succ_eq_append_getElem hk]
  rw [List.getElem?_eq_getElem hk] at h
  rw [Option.some.inj h]
theorem fu_more (t : List Int) {i : Nat} (h : ¬ (fuFold t).1.getD i 0 < 0) : fuFold (t ++ [(i : Int)]) = fuFold t := by
  rw [fuFold_snoc]
  unfold fuStep atL
  rw [Int.toNat_natCast, if_neg h]
theorem fu_new (t : List Int) {i : Nat} (h : (fuFold t).1.getD i 0 < 0) : fuFold (t ++ [(i : Int)]) = ((fuFold t).1.set i (fuFold t).2, (fuFold t).2 + 1) := by
  rw [fuFold_snoc]
  unfold fuStep atL
  rw [Int.toNat_natCast, if_pos h]
/-- What FirstUse answers. -/
noncomputable def fuAns (n : Int) (xs : List C3) : List Int := @ite _ (BlkOk n xs) (Classical.propDecidable _) (fuL xs) []
theorem fu_yes {n : Int} {xs : List C3} (h : BlkOk n xs) : fuAns n xs = fuL xs := if_pos h
theorem fu_no {n : Int} {xs : List C3} (h : ¬ BlkOk n xs) : fuAns n xs = [] := if_neg h
theorem rep_more (k : Nat) : List.replicate (k + 1) (-1 : Int) = List.replicate k (-1) ++ [-1] := List.replicate_succ'

set_option maxRecDepth 100000 in
set_option maxHeartbeats 4000000 in
theorem SpecFirstUse_any (lo hi : Nat) (n : Int) (v : Value) (xs : List C3) (w : World) (r : CellIn lo hi w v xs) (hhi : hi ≤ w.heap.size) :
    Calls Try.prog 82 #[.agg #[.int .i64 n, v]] w (FreshI (fuAns n xs) w) := by
  obtain ⟨i0, hi0, hz0, hz1', hz2⟩ : ∃ i, Try.prog.info? 3 = some i ∧ i.zero = some (.int .i64 0) ∧ i.size = 1 ∧ i.bytes = 8 := info_parts3 info_int6
  obtain ⟨a, cap, rfl⟩ := r.form
  have hl := r.1
  have HR := Lib.hid (fun W (hb : Below w.heap.size w W) => r.below (hb.mono hhi))
  clear r
  by_cases hb : BlkOk n xs
  · rw [fu_yes hb]
    have HB := Lib.hid hb
    have hx16 := (blk_len hb).2
    clear hb
    go_enter Try.func82, Try.ntmps82
    go_wp2_with fail
    refine (SpecBlockOk_yes lo hi n _ xs _ (HR.out _ (bel0 _ _)) (by simp; omega) HB.out).mono ?_
    rintro e w1 ⟨rfl, hb1⟩
    have hz1 : w.heap.size + 1 ≤ w1.heap.size := by have := hb1.size; simpa using this
    have HP1 := Lib.hid (kept (p := ⟨w.heap.size, 1, none⟩) (x := .slice a xs.length cap) hb1 (by go_simp))
    have HB1 := Lib.hid (bel_c (bel0 w _) (Nat.le_refl _) hb1)
    have HPN := Lib.hid (kept (bel0 w1 (.cells #[] 3)) HP1.out)
    clear hb1
    go_wp2_with fail
    go_loopw [3, 4] (fun q i wr => ∃ k : Nat, k ≤ 6 ∧ i = .int .i64 k ∧ Hid (wr.ownsRow w1.heap.size 3 1 q k (ivals (List.replicate k (-1)))) ∧ Hid (wr.cell? ⟨w.heap.size, 1, none⟩ = some (.slice a xs.length cap)) ∧ Hid (Below w.heap.size w wr) ∧ w1.heap.size ≤ wr.heap.size) (fun _ i _ => 6 - (intOf i).toNat)
    case atStart => exact ⟨0, Nat.zero_le _, rfl, Lib.hid (own_fresh w1 3), HPN, Lib.hid (bel_n HB1.out (Nat.le_refl _) _), by simp⟩
    case round =>
      obtain ⟨k, hk, rfl, hown, hp, hbel, hsz⟩ := hrel
      by_cases hlt : k < 6
      · have HO1 := Lib.hid (owns_bel6 hown.out (bel0 wr (.cells #[.int .i64 (-1)] 3)))
        have HNW := Lib.hid (news1 wr (.int .i64 (-1)) 3)
        have HB1' := Lib.hid (bel_n hbel.out (Nat.le_refl _) (.cells #[.int .i64 (-1)] 3))
        have HB2 : Hid (w1.heap.size ≤ (wr.alloc (.cells #[.int .i64 (-1)] 3)).heap.size) := Lib.hid (by simp; omega)
        have HP2 := Lib.hid (kept (bel0 wr (.cells #[.int .i64 (-1)] 3)) hp.out)
        clear hown hbel hp
        go_wp2_with (at_builtin; refine wpList_append_lies _ rfl _ _ 28 rfl w1.heap.size 3 i0 (.int .i64 0) 1 8 Try.underlying28 hi0 hz0 hz1' hz2 rfl (by decide) _ _ _ rfl HO1.out ⟨wr.heap.size, 0, none⟩ 1 1 [.int .i64 (-1)] rfl rfl HNW.out (by simp [Value.oneCell']) (by omega) (by unfold maxLen; omega) (by omega) HB2.out (wr.heap.size + 1) (by simp) ?_; intro gg cc w2 hown2 hgrow hat hlt2)
        have hbw := (Below.refl w1.heap.size _).grown hgrow HB2.out (own_ge6 HO1.out)
        have HN2 : Hid (w2.ownsRow w1.heap.size 3 1 (.slice (some ⟨gg, 0, none⟩) (k + 1) cc) (k + 1) (ivals (List.replicate (k + 1) (-1)))) := Lib.hid (by rw [rep_more]; unfold ivals at hown2 ⊢; rw [List.map_append]; exact hown2)
        have HB4 := Lib.hid (HB1'.out.trans (hbw.mono (by omega)))
        have HP3 := Lib.hid ((hbw.cell (p := ⟨w.heap.size, 1, none⟩) hz1).trans HP2.out)
        have hs4 : w1.heap.size ≤ w2.heap.size := Nat.le_trans HB2.out hbw.size
        clear hown2 hgrow hat hlt2 hbw HO1 HNW
        go_wp2_with fail
        go_roundw
        case rel => exact ⟨k + 1, by omega, by go_num, HN2, HP3, HB4, hs4⟩
        case measure => simp [intOf] <;> omega
      · obtain rfl : k = 6 := by omega
        have hin := IntIn.of_owns (zs := List.replicate 6 (-1)) hown.out (by decide)
        obtain ⟨av, c3, hv⟩ := hin.form
        obtain ⟨g3, hg3, hg31, hg32, _, _⟩ := (by rw [hv] at hin; exact hin.at (Below.refl _ _) (i := 0) (by decide) : ∃ g, av = some ⟨g, 0, none⟩ ∧ _ ≤ g ∧ g < _ ∧ _ ∧ _)
        subst hg3
        subst hv
        obtain ⟨h3, hh3⟩ : ∃ h, h = wr.heap.size := ⟨_, rfl⟩
        rw [← hh3] at hin hg32
        have HI : Hid (IntIn w1.heap.size h3 wr (.slice (some ⟨g3, 0, none⟩) 6 c3) (fuFold ((fuSeq xs).take 0)).1) := Lib.hid hin
        have hsz3 : h3 ≤ wr.heap.size := by omega
        clear hin hown hsz hh3
        obtain ⟨wo, rfl⟩ : ∃ wo : World, wo = wr := ⟨_, rfl⟩
        go_wp2_with fail
        go_loopw [5, 6] (fun q i wr => ∃ k : Nat, k ≤ 2 * xs.length ∧ i = .int .i64 k ∧ q = .int .i64 (fuFold ((fuSeq xs).take k)).2 ∧ Hid (IntIn w1.heap.size h3 wr (.slice (some ⟨g3, 0, none⟩) 6 c3) (fuFold ((fuSeq xs).take k)).1) ∧ Hid (wr.cell? ⟨w.heap.size, 1, none⟩ = some (.slice a xs.length cap)) ∧ Hid (Below w.heap.size w wr) ∧ h3 ≤ wr.heap.size) (fun _ i _ => 2 * xs.length - (intOf i).toNat)
        case atStart => exact ⟨0, Nat.zero_le _, rfl, rfl, HI, hp, hbel, hsz3⟩
        case round =>
          clear hp hbel HI hsz3
          obtain ⟨k, hk, rfl, rfl, hin, hp, hbel, hsz⟩ := hrel
          have p1 := hp.out
          by_cases hlt2 : k < 2 * xs.length
          · have htl : ((fuSeq xs).take k).length ≤ 32 := by rw [List.length_take, seq_length]; omega
            rcases Nat.mod_two_eq_zero_or_one k with hm | hm
            · obtain ⟨j, hk2⟩ : ∃ j, k = 2 * j := ⟨k / 2, by omega⟩
              have hq : (k : Int) / 2 = (j : Int) := by omega
              have hr : (k : Int) % 2 = 0 := by omega
              have hjl : j < xs.length := by omega
              have hji : (j : Int) < (xs.length : Int) := by omega
              obtain ⟨g, hag, _, _, ⟨e0, e1, e2⟩, _⟩ := (HR.out _ hbel.out).at (Below.refl _ _) hjl
              have hok := okC_col (blk_at HB.out hjl)
              unfold Col at hok
              have HSE := (seq_at xs j hjl).1
              obtain ⟨i, hi⟩ : ∃ i : Nat, (xs.getD j C3.zero).a = i := ⟨(xs.getD j C3.zero).a.toNat, by omega⟩
              rw [hi] at HSE e1
              have HSQ : Hid ((fuSeq xs).take (k + 1) = (fuSeq xs).take k ++ [(i : Int)]) := Lib.hid (seq_next (by rw [hk2]; exact HSE))
              have hi5 : i ≤ 5 := by omega
              generalize (xs.getD j C3.zero).s = cs at e0
              generalize (xs.getD j C3.zero).b = cb at e2
              have hag' := hag
              clear HSE hi hok hk2
              subst hag'
              obtain ⟨gq, hgq, hq1, _, f0, f1⟩ := hin.out.at (Below.refl _ _) (i := i) (by rw [fu_len]; omega)
              simp only [Option.some.injEq, Addr.mk.injEq, and_true] at hgq
              subst hgq
              obtain ⟨n0, n1⟩ := fu_nb ((fuSeq xs).take k)
              have hi6 : (i : Int) < 6 := by omega
              by_cases hlt3 : (fuFold ((fuSeq xs).take k)).1.getD i 0 < 0
              · have HN : Hid (fuFold ((fuSeq xs).take (k + 1)) = ((fuFold ((fuSeq xs).take k)).1.set i (fuFold ((fuSeq xs).take k)).2, (fuFold ((fuSeq xs).take k)).2 + 1)) := Lib.hid (by rw [HSQ.out]; exact fu_new _ hlt3)
                have HIN := Lib.hid (hin.out.set i (by rw [fu_len]; omega) (fuFold ((fuSeq xs).take k)).2)
                have HB2 := Lib.hid (Below.setCell hbel.out (p := ⟨g3, i, none⟩) (by show _ ≤ g3; omega) (.int .i64 (fuFold ((fuSeq xs).take k)).2))
                have HP2 : Hid ((wr.setCell ⟨g3, i, none⟩ (.int .i64 (fuFold ((fuSeq xs).take k)).2)).cell? ⟨w.heap.size, 1, none⟩ = some (.slice (some ⟨g, 0, none⟩) xs.length cap)) := Lib.hid ((World.cell?_setCell_other _ _ _ _ (by intro e; injection e with e1; omega)).trans hp.out)
                generalize (fuFold ((fuSeq xs).take k)).1.getD i 0 = y at f0 hlt3
                generalize hnn : (fuFold ((fuSeq xs).take k)).2 = nn at n0 n1 HN HIN HB2 HP2 ⊢
                have hp1 := hp.out
                clear hin hbel hp hnn
                go_wp2_with fail
                go_roundw
                case rel => exact ⟨k + 1, by omega, by go_num, by rw [HN.out], by rw [HN.out]; exact HIN, HP2, HB2, by simp [World.setCell]; exact hsz⟩
                case measure => simp [intOf] <;> omega
              · have HN : Hid (fuFold ((fuSeq xs).take (k + 1)) = fuFold ((fuSeq xs).take k)) := Lib.hid (by rw [HSQ.out]; exact fu_more _ hlt3)
                generalize (fuFold ((fuSeq xs).take k)).1.getD i 0 = y at f0 hlt3
                have hp1 := hp.out
                go_wp2_with fail
                go_roundw
                case rel => exact ⟨k + 1, by omega, by go_num, by rw [HN.out], by rw [HN.out]; exact hin, hp, hbel, hsz⟩
                case measure => simp [intOf] <;> omega
            · obtain ⟨j, hk2⟩ : ∃ j, k = 2 * j + 1 := ⟨k / 2, by omega⟩
              have hq : (k : Int) / 2 = (j : Int) := by omega
              have hr : (k : Int) % 2 = 1 := by omega
              have hjl : j < xs.length := by omega
              have hji : (j : Int) < (xs.length : Int) := by omega
              obtain ⟨g, hag, _, _, ⟨e0, e1, e2⟩, _⟩ := (HR.out _ hbel.out).at (Below.refl _ _) hjl
              have hok := okC_col (blk_at HB.out hjl)
              unfold Col at hok
              have HSE := (seq_at xs j hjl).2
              obtain ⟨i, hi⟩ : ∃ i : Nat, (xs.getD j C3.zero).b = i := ⟨(xs.getD j C3.zero).b.toNat, by omega⟩
              rw [hi] at HSE e2
              have HSQ : Hid ((fuSeq xs).take (k + 1) = (fuSeq xs).take k ++ [(i : Int)]) := Lib.hid (seq_next (by rw [hk2]; exact HSE))
              have hi5 : i ≤ 5 := by omega
              generalize (xs.getD j C3.zero).s = cs at e0
              generalize (xs.getD j C3.zero).a = ca at e1
              have hag' := hag
              clear HSE hi hok hk2
              subst hag'
              obtain ⟨gq, hgq, hq1, _, f0, f1⟩ := hin.out.at (Below.refl _ _) (i := i) (by rw [fu_len]; omega)
              simp only [Option.some.injEq, Addr.mk.injEq, and_true] at hgq
              subst hgq
              obtain ⟨n0, n1⟩ := fu_nb ((fuSeq xs).take k)
              have hi6 : (i : Int) < 6 := by omega
              by_cases hlt3 : (fuFold ((fuSeq xs).take k)).1.getD i 0 < 0
              · have HN : Hid (fuFold ((fuSeq xs).take (k + 1)) = ((fuFold ((fuSeq xs).take k)).1.set i (fuFold ((fuSeq xs).take k)).2, (fuFold ((fuSeq xs).take k)).2 + 1)) := Lib.hid (by rw [HSQ.out]; exact fu_new _ hlt3)
                have HIN := Lib.hid (hin.out.set i (by rw [fu_len]; omega) (fuFold ((fuSeq xs).take k)).2)
                have HB2 := Lib.hid (Below.setCell hbel.out (p := ⟨g3, i, none⟩) (by show _ ≤ g3; omega) (.int .i64 (fuFold ((fuSeq xs).take k)).2))
                have HP2 : Hid ((wr.setCell ⟨g3, i, none⟩ (.int .i64 (fuFold ((fuSeq xs).take k)).2)).cell? ⟨w.heap.size, 1, none⟩ = some (.slice (some ⟨g, 0, none⟩) xs.length cap)) := Lib.hid ((World.cell?_setCell_other _ _ _ _ (by intro e; injection e with e1; omega)).trans hp.out)
                generalize (fuFold ((fuSeq xs).take k)).1.getD i 0 = y at f0 hlt3
                generalize hnn : (fuFold ((fuSeq xs).take k)).2 = nn at n0 n1 HN HIN HB2 HP2 ⊢
                have hp1 := hp.out
                clear hin hbel hp hnn
                go_wp2_with fail
                go_roundw
                case rel => exact ⟨k + 1, by omega, by go_num, by rw [HN.out], by rw [HN.out]; exact HIN, HP2, HB2, by simp [World.setCell]; exact hsz⟩
                case measure => simp [intOf] <;> omega
              · have HN : Hid (fuFold ((fuSeq xs).take (k + 1)) = fuFold ((fuSeq xs).take k)) := Lib.hid (by rw [HSQ.out]; exact fu_more _ hlt3)
                generalize (fuFold ((fuSeq xs).take k)).1.getD i 0 = y at f0 hlt3
                have hp1 := hp.out
                go_wp2_with fail
                go_roundw
                case rel => exact ⟨k + 1, by omega, by go_num, by rw [HN.out], by rw [HN.out]; exact hin, hp, hbel, hsz⟩
                case measure => simp [intOf] <;> omega
          · obtain rfl : k = 2 * xs.length := by omega
            have HTK : Hid ((fuSeq xs).take (2 * xs.length) = fuSeq xs ++ idL.take 0) := Lib.hid (by rw [← seq_length, List.take_length]; simp)
            rw [HTK.out] at hin ⊢
            obtain ⟨wo2, rfl⟩ : ∃ wo2 : World, wo2 = wr := ⟨_, rfl⟩
            go_wp2_with fail
            go_loopw [5, 8] (fun q i wr => ∃ k : Nat, k ≤ 6 ∧ i = .int .i64 k ∧ q = .int .i64 (fuFold (fuSeq xs ++ idL.take k)).2 ∧ Hid (IntIn w1.heap.size h3 wr (.slice (some ⟨g3, 0, none⟩) 6 c3) (fuFold (fuSeq xs ++ idL.take k)).1) ∧ Hid (wr.cell? ⟨w.heap.size, 1, none⟩ = some (.slice a xs.length cap)) ∧ Hid (Below w.heap.size w wr) ∧ h3 ≤ wr.heap.size) (fun _ i _ => 6 - (intOf i).toNat)
            case atStart => exact ⟨0, Nat.zero_le _, rfl, rfl, hin, hp, hbel, hsz⟩
            case round =>
              clear hp hbel hin hsz p1
              obtain ⟨i, hi, rfl, rfl, hin, hp, hbel, hsz⟩ := hrel
              by_cases hlt4 : i < 6
              · have HSQ : Hid (fuSeq xs ++ idL.take (i + 1) = fuSeq xs ++ idL.take i ++ [(i : Int)]) := Lib.hid (by rw [show idL.take (i + 1) = idL.take i ++ [(i : Int)] from idL_take ⟨i, hlt4⟩, List.append_assoc])
                have htl : (fuSeq xs ++ idL.take i).length ≤ 100 := by rw [List.length_append, seq_length, List.length_take]; omega
                obtain ⟨gq, hgq, hq1, _, f0, f1⟩ := hin.out.at (Below.refl _ _) (i := i) (by rw [fu_len]; omega)
                simp only [Option.some.injEq, Addr.mk.injEq, and_true] at hgq
                subst hgq
                obtain ⟨n0, n1⟩ := fu_nb (fuSeq xs ++ idL.take i)
                have hi6 : (i : Int) < 6 := by omega
                by_cases hlt3 : (fuFold (fuSeq xs ++ idL.take i)).1.getD i 0 < 0
                · have HN : Hid (fuFold (fuSeq xs ++ idL.take (i + 1)) = ((fuFold (fuSeq xs ++ idL.take i)).1.set i (fuFold (fuSeq xs ++ idL.take i)).2, (fuFold (fuSeq xs ++ idL.take i)).2 + 1)) := Lib.hid (by rw [HSQ.out]; exact fu_new _ hlt3)
                  have HIN := Lib.hid (hin.out.set i (by rw [fu_len]; omega) (fuFold (fuSeq xs ++ idL.take i)).2)
                  have HB2 := Lib.hid (Below.setCell hbel.out (p := ⟨g3, i, none⟩) (by show _ ≤ g3; omega) (.int .i64 (fuFold (fuSeq xs ++ idL.take i)).2))
                  have HP2 : Hid ((wr.setCell ⟨g3, i, none⟩ (.int .i64 (fuFold (fuSeq xs ++ idL.take i)).2)).cell? ⟨w.heap.size, 1, none⟩ = some (.slice a xs.length cap)) := Lib.hid ((World.cell?_setCell_other _ _ _ _ (by intro e; injection e with e1; omega)).trans hp.out)
                  generalize (fuFold (fuSeq xs ++ idL.take i)).1.getD i 0 = y at f0 hlt3
                  generalize hnn : (fuFold (fuSeq xs ++ idL.take i)).2 = nn at n0 n1 HN HIN HB2 HP2 ⊢
                  have hp1 := hp.out
                  clear hin hbel hp hnn
                  go_wp2_with fail
                  go_roundw
                  case rel => exact ⟨i + 1, by omega, by go_num, by rw [HN.out], by rw [HN.out]; exact HIN, HP2, HB2, by simp [World.setCell]; exact hsz⟩
                  case measure => simp [intOf] <;> omega
                · have HN : Hid (fuFold (fuSeq xs ++ idL.take (i + 1)) = fuFold (fuSeq xs ++ idL.take i)) := Lib.hid (by rw [HSQ.out]; exact fu_more _ hlt3)
                  generalize (fuFold (fuSeq xs ++ idL.take i)).1.getD i 0 = y at f0 hlt3
                  have hp1 := hp.out
                  go_wp2_with fail
                  go_roundw
                  case rel => exact ⟨i + 1, by omega, by go_num, by rw [HN.out], by rw [HN.out]; exact hin, hp, hbel, hsz⟩
                  case measure => simp [intOf] <;> omega
              · obtain rfl : i = 6 := by omega
                have HF : Hid (IntIn w.heap.size wr.heap.size wr (.slice (some ⟨g3, 0, none⟩) 6 c3) (fuL xs)) := Lib.hid (hin.out.wide (by omega) hsz)
                clear hin
                go_wp2_with fail
                go_ret
                exact ⟨_, rfl, HF.out, hbel.out⟩
  · rw [fu_no hb]
    have HB := Lib.hid hb
    clear hb
    go_enter Try.func82, Try.ntmps82
    go_wp2_with fail
    refine (SpecBlockOk_no lo hi n _ xs _ (HR.out _ (bel0 _ _)) (by simp; omega) HB.out).mono ?_
    rintro e w1 ⟨rfl, hb1⟩
    go_wp2_with fail
    go_ret
    exact ⟨_, rfl, ⟨by simp, .inl ⟨rfl, _, _, rfl⟩⟩, bel_n (bel_c (bel0 w _) (Nat.le_refl _) hb1) (Nat.le_refl _) _⟩

end Go.Proofs.Ytbnokmlmajcibaa

namespace Go.Proofs.Ytbnokmlmajcibaa
open Go.ChangeShapes Go.WideShapes Go.ChangeAt Go.RowKit

theorem IntIn.but {lo hi b : Nat} {w w' : World} {v : Value} {zs : List Int} (h : IntIn lo hi w v zs) (hb : But b w w') (hl : b < lo) (hh : hi ≤ w.heap.size) : IntIn lo hi w' v zs := by
  obtain ⟨hl', h | ⟨g, cap, hv, hg, hlt, hc⟩⟩ := h
  · exact ⟨hl', .inl h⟩
  · refine ⟨hl', .inr ⟨g, cap, hv, hg, hlt, fun i hi => ?_⟩⟩
    have hg1 : g < w.heap.size := by omega
    have hg2 : g ≠ b := by omega
    exact ⟨(hb.cell (p := ⟨g, _, none⟩) hg1 hg2).trans (hc i hi).1, (hb.frozen (p := ⟨g, _, none⟩) hg1 hg2).trans (hc i hi).2⟩
theorem IntO.but {lo hi b : Nat} {w w' : World} {v : Value} {zs : List Int} (h : IntO lo hi w v zs) (hb : But b w w') (hl : b < lo) (hh : hi ≤ w.heap.size) : IntO lo hi w' v zs := by
  obtain ⟨hl', h | ⟨g, o, cap, hv, hg, hlt, hc⟩⟩ := h
  · exact ⟨hl', .inl h⟩
  · refine ⟨hl', .inr ⟨g, o, cap, hv, hg, hlt, fun i hi => ?_⟩⟩
    have hg1 : g < w.heap.size := by omega
    have hg2 : g ≠ b := by omega
    exact ⟨(hb.cell (p := ⟨g, _, none⟩) hg1 hg2).trans (hc i hi).1, (hb.frozen (p := ⟨g, _, none⟩) hg1 hg2).trans (hc i hi).2⟩
theorem lit4 (W : World) (x0 x1 x2 x3 : Int) (T : TypeId) : IntIn W.heap.size (W.heap.size + 1) (W.alloc (.cells #[.int .i64 x0, .int .i64 x1, .int .i64 x2, .int .i64 x3] T)) (.slice (some ⟨W.heap.size, 0, none⟩) 4 4) [x0, x1, x2, x3] :=
  ⟨by simp, .inr ⟨W.heap.size, 4, rfl, Nat.le_refl _, Nat.lt_succ_self _, fun i hi => by
    have : i = 0 ∨ i = 1 ∨ i = 2 ∨ i = 3 := by simp at hi; omega
    rcases this with rfl | rfl | rfl | rfl <;> exact ⟨by simp, by simp⟩⟩⟩
/-- A list as drawn: near a list of colors. -/
def NearL (zs : List Int) : Prop := 5 ≤ zs.length ∧ zs.length ≤ 6 ∧ ∀ i, i < zs.length → -1 ≤ zs.getD i 0 ∧ zs.getD i 0 ≤ 6
theorem near_id : NearL idL := ⟨by decide, by decide, by decide⟩
theorem NearL.set {zs : List Int} (h : NearL zs) (j : Nat) {z : Int} (hz : -1 ≤ z ∧ z ≤ 6) : NearL (zs.set j z) := by
  obtain ⟨h5, h6, hc⟩ := h
  refine ⟨by simpa using h5, by simpa using h6, fun i hi => ?_⟩
  rw [List.length_set] at hi
  by_cases e : j = i
  · subst e
    simp [List.getD, hi]; exact hz
  · have := hc i hi
    simpa [List.getD, List.getElem?_set, e] using this
theorem NearL.cut {zs : List Int} (h : NearL zs) (h6 : zs.length = 6) : NearL (zs.drop 1) := by
  obtain ⟨_, _, hc⟩ := h
  refine ⟨by simp; omega, by simp; omega, fun i hi => ?_⟩
  rw [List.length_drop] at hi
  have := hc (1 + i) (by omega)
  simpa [List.getD, List.getElem?_drop, Nat.add_comm 1 i] using this
theorem IntIn.cut {lo hi g n cap : Nat} {w : World} {zs : List Int} (h : IntIn lo hi w (.slice (some ⟨g, 0, none⟩) n cap) zs) (m c : Nat) (h1 : 1 ≤ zs.length) (hm : m = zs.length - 1) : IntO lo hi w (.slice (some ⟨g, 1, none⟩) m c) (zs.drop 1) := by
  obtain ⟨hl, ⟨h, _⟩ | ⟨g', cap', hv, hg, hlt, hc⟩⟩ := h
  · subst h; simp at h1
  · simp only [Value.slice.injEq, Option.some.injEq, Addr.mk.injEq, and_true] at hv
    obtain ⟨rfl, rfl, rfl⟩ := hv
    refine ⟨by simp; omega, .inr ⟨g, 1, c, by simp [hm], hg, hlt, fun i hi => ?_⟩⟩
    rw [List.length_drop] at hi
    have := hc (1 + i) (by omega)
    simpa [List.getD, List.getElem?_drop, Nat.add_comm 1 i] using this
theorem pick4 {x : Int} (h : ∃ i, i < ([-1, 0, 5, 6] : List Int).length ∧ x = ([-1, 0, 5, 6] : List Int).getD i 0) : -1 ≤ x ∧ x ≤ 6 := by
  obtain ⟨i, hi, rfl⟩ := h
  have : i = 0 ∨ i = 1 ∨ i = 2 ∨ i = 3 := by simp at hi; omega
  rcases this with rfl | rfl | rfl | rfl <;> decide
/-- A list is handed back, in a block of its own; the cursor goes on. -/
def DrawnL (b : Nat) (a : Option Addr) (len cap : Nat) (w : World) (e : Ending) (w' : World) : Prop :=
  ∃ (v : Value) (zs : List Int), NearL zs ∧ e = .returned v ∧ IntO w.heap.size w'.heap.size w' v zs ∧ Cur w' b a len cap ∧ But b w w'
end Go.Proofs.Ytbnokmlmajcibaa

namespace Go.Proofs.Ytbnokmlmajcibaa
open Go.ChangeShapes Go.WideShapes Go.ChangeAt Go.RowKit

/-- A cell's three places: what they hold, and that they may be written. -/
def BoxC (p : Nat) (x y z : Value) (u : World) : Prop :=
  (u.cell? ⟨p, 0, none⟩ = some x ∧ u.cell? ⟨p, 1, none⟩ = some y ∧ u.cell? ⟨p, 2, none⟩ = some z) ∧ u.frozen? ⟨p, 0, none⟩ = false ∧ u.frozen? ⟨p, 1, none⟩ = false ∧ u.frozen? ⟨p, 2, none⟩ = false
theorem BoxC.lt {p : Nat} {x y z : Value} {u : World} (h : BoxC p x y z u) : p < u.heap.size := lt_of_cell h.1.1
theorem BoxC.but {p b : Nat} {x y z : Value} {u w : World} (h : BoxC p x y z u) (hb : But b u w) (hp : p ≠ b) : BoxC p x y z w := by
  have hl := h.lt
  obtain ⟨⟨h0, h1, h2⟩, f0, f1, f2⟩ := h
  exact ⟨⟨(hb.cell (p := ⟨p, 0, none⟩) hl hp).trans h0, (hb.cell (p := ⟨p, 1, none⟩) hl hp).trans h1, (hb.cell (p := ⟨p, 2, none⟩) hl hp).trans h2⟩,
    (hb.frozen (p := ⟨p, 0, none⟩) hl hp).trans f0, (hb.frozen (p := ⟨p, 1, none⟩) hl hp).trans f1, (hb.frozen (p := ⟨p, 2, none⟩) hl hp).trans f2⟩
theorem BoxC.below {p B : Nat} {x y z : Value} {u w : World} (h : BoxC p x y z u) (hb : Below B u w) (hp : p < B) : BoxC p x y z w := by
  obtain ⟨⟨h0, h1, h2⟩, f0, f1, f2⟩ := h
  exact ⟨⟨(hb.cell (p := ⟨p, 0, none⟩) hp).trans h0, (hb.cell (p := ⟨p, 1, none⟩) hp).trans h1, (hb.cell (p := ⟨p, 2, none⟩) hp).trans h2⟩,
    (hb.frozen (p := ⟨p, 0, none⟩) hp).trans f0, (hb.frozen (p := ⟨p, 1, none⟩) hp).trans f1, (hb.frozen (p := ⟨p, 2, none⟩) hp).trans f2⟩
theorem BoxC.new (w : World) (x y z : Value) (T : TypeId) : BoxC w.heap.size x y z (w.alloc (.cells #[x, y, z] T)) := ⟨⟨by simp, by simp, by simp⟩, by simp, by simp, by simp⟩

/-- A cell is handed back; the cursor goes on. -/
def DrawnC2 (b : Nat) (a : Option Addr) (len cap : Nat) (w : World) (e : Ending) (w' : World) : Prop :=
  ∃ s x y : Int, e = .returned (.agg #[.int .i64 s, .int .i64 x, .int .i64 y]) ∧ Cur w' b a len cap ∧ But b w w'

end Go.Proofs.Ytbnokmlmajcibaa

namespace Go.Proofs.Ytbnokmlmajcibaa
open Go.ChangeShapes Go.WideShapes Go.ChangeAt Go.RowKit

/-- A slice of cells in a block from lo on, below hi, from some cell on. -/
def CellO (lo hi : Nat) (w : World) (v : Value) (xs : List C3) : Prop :=
  xs.length ≤ 1048576 ∧ ((xs = [] ∧ ∃ a c, v = .slice a 0 c) ∨
    ∃ g k cap, v = .slice (some ⟨g, k * 3, none⟩) xs.length cap ∧ lo ≤ g ∧ g < hi ∧ ∀ i, i < xs.length → El w g (k + i) (xs.getD i C3.zero) ∧ Soft w g (k + i))
theorem CellO.below {lo hi : Nat} {w w' : World} {v : Value} {xs : List C3} (h : CellO lo hi w v xs) (hb : Below hi w w') : CellO lo hi w' v xs := by
  obtain ⟨hl, h | ⟨g, k, cap, hv, hg, hlt, hc⟩⟩ := h
  · exact ⟨hl, .inl h⟩
  · exact ⟨hl, .inr ⟨g, k, cap, hv, hg, hlt, fun i hi => ⟨(hc i hi).1.below hb hlt, (hc i hi).2.below hb hlt⟩⟩⟩
theorem CellO.wide {lo hi lo' hi' : Nat} {w : World} {v : Value} {xs : List C3} (h : CellO lo hi w v xs) (h1 : lo' ≤ lo) (h2 : hi ≤ hi') : CellO lo' hi' w v xs := by
  obtain ⟨hl, h | ⟨g, k, cap, hv, hg, hlt, hc⟩⟩ := h
  · exact ⟨hl, .inl h⟩
  · exact ⟨hl, .inr ⟨g, k, cap, hv, by omega, by omega, hc⟩⟩
theorem CellO.form {lo hi : Nat} {w : World} {v : Value} {xs : List C3} (h : CellO lo hi w v xs) : ∃ a cap, v = .slice a xs.length cap := by
  obtain ⟨_, ⟨rfl, a, c, hv⟩ | ⟨g, k, cap, hv, _⟩⟩ := h
  · exact ⟨a, c, hv⟩
  · exact ⟨_, _, hv⟩
theorem CellO.set_far {lo hi : Nat} {w : World} {v : Value} {xs : List C3} (h : CellO lo hi w v xs) {p : Addr} (hp : p.block < lo ∨ hi ≤ p.block) (x : Value) : CellO lo hi (w.setCell p x) v xs := by
  obtain ⟨hl, h | ⟨g, k, cap, hv, hg, hlt, hc⟩⟩ := h
  · exact ⟨hl, .inl h⟩
  · exact ⟨hl, .inr ⟨g, k, cap, hv, hg, hlt, fun i hi => ⟨(hc i hi).1.set_far (by omega) x, (hc i hi).2.set_far p x⟩⟩⟩
theorem CellIn.o {lo hi : Nat} {w : World} {v : Value} {xs : List C3} (h : CellIn lo hi w v xs) : CellO lo hi w v xs := by
  obtain ⟨hl, h | ⟨g, cap, hv, hg, hlt, hc⟩⟩ := h
  · exact ⟨hl, .inl h⟩
  · exact ⟨hl, .inr ⟨g, 0, cap, by simpa using hv, hg, hlt, fun i hi => by rw [Nat.zero_add]; exact hc i hi⟩⟩
/-- The row without its first cell. -/
theorem CellIn.cut {lo hi g n cap : Nat} {w : World} {xs : List C3} (h : CellIn lo hi w (.slice (some ⟨g, 0, none⟩) n cap) xs) (m c : Nat) (h1 : 1 ≤ xs.length) (hm : m = xs.length - 1) : CellO lo hi w (.slice (some ⟨g, 3, none⟩) m c) (xs.drop 1) := by
  obtain ⟨hl, ⟨h, _⟩ | ⟨g', cap', hv, hg, hlt, hc⟩⟩ := h
  · subst h; simp at h1
  · simp only [Value.slice.injEq, Option.some.injEq, Addr.mk.injEq, and_true] at hv
    obtain ⟨rfl, rfl, rfl⟩ := hv
    refine ⟨by simp; omega, .inr ⟨g, 1, c, by simp [hm], hg, hlt, fun i hi => ?_⟩⟩
    rw [List.length_drop] at hi
    have := hc (1 + i) (by omega)
    simpa [List.getD, List.getElem?_drop, Nat.add_comm 1 i] using this
/-- The row without its last cell. -/
theorem CellIn.short {lo hi g n cap : Nat} {w : World} {xs : List C3} (h : CellIn lo hi w (.slice (some ⟨g, 0, none⟩) n cap) xs) (m c : Nat) (h1 : 1 ≤ xs.length) (hm : m = xs.length - 1) : CellO lo hi w (.slice (some ⟨g, 0, none⟩) m c) (xs.take m) := by
  obtain ⟨hl, ⟨h, _⟩ | ⟨g', cap', hv, hg, hlt, hc⟩⟩ := h
  · subst h; simp at h1
  · simp only [Value.slice.injEq, Option.some.injEq, Addr.mk.injEq, and_true] at hv
    obtain ⟨rfl, rfl, rfl⟩ := hv
    have hlen : (xs.take m).length = m := by rw [List.length_take]; omega
    refine ⟨by omega, .inr ⟨g, 0, c, by simp [hlen], hg, hlt, fun i hi => ?_⟩⟩
    rw [hlen] at hi
    have := hc i (by omega)
    rw [Nat.zero_add, show (xs.take m).getD i C3.zero = xs.getD i C3.zero by simp [List.getD, hi]]
    exact this

theorem CellIn.set_out {lo hi : Nat} {w : World} {v : Value} {xs : List C3} (h : CellIn lo hi w v xs) {p : Addr} (hp : p.block < lo ∨ hi ≤ p.block) (x : Value) : CellIn lo hi (w.setCell p x) v xs := by
  obtain ⟨hl, h | ⟨g, cap, hv, hg, hlt, hc⟩⟩ := h
  · exact ⟨hl, .inl h⟩
  · exact ⟨hl, .inr ⟨g, cap, hv, hg, hlt, fun i hi => ⟨(hc i hi).1.set_far (by omega) x, (hc i hi).2.set_far p x⟩⟩⟩
/-- A block is handed back: a row of as many cells as it has places, or of one fewer; the cursor goes on. -/
def DrawnB3 (b : Nat) (a : Option Addr) (len cap : Nat) (w : World) (e : Ending) (w' : World) : Prop :=
  ∃ (n : Int) (v : Value) (xs : List C3), xs.length ≤ 16 ∧ e = .returned (.agg #[.int .i64 n, v]) ∧
    (CellIn w.heap.size w'.heap.size w' v xs ∨ ((1 ≤ n ∧ n ≤ 4 ∧ (xs.length : Int) + 1 = n * n) ∧ CellO w.heap.size w'.heap.size w' v xs)) ∧ Cur w' b a len cap ∧ But b w w'

/-- What stays while a cell is drawn. -/
def AnyK (b : Nat) (a : Option Addr) (len cap : Nat) (w : World) (p g : Nat) (n : Int) (cv m : Nat) (u : World) : Prop :=
  ∃ xs : List C3, xs.length = m ∧ Cur u b a len cap ∧ But b w u ∧ BoxB w.heap.size (.int .i64 0) (.slice none 0 0) u ∧ BoxB p (.int .i64 n) (.slice (some ⟨g, 0, none⟩) m cv) u ∧ CellIn (w.heap.size + 1) p u (.slice (some ⟨g, 0, none⟩) m cv) xs ∧ p < u.heap.size
theorem AnyK.but {b : Nat} {a : Option Addr} {len cap : Nat} {w : World} {p g : Nat} {n : Int} {cv m : Nat} {u v : World} (h : AnyK b a len cap w p g n cv m u) (hb : b < w.heap.size) (hp : w.heap.size < p) (hB : But b u v) (hC : Cur v b a len cap) : AnyK b a len cap w p g n cv m v := by
  obtain ⟨xs, hx, _, B, P, Q, I, hs⟩ := h
  exact ⟨xs, hx, hC, B.trans hB, P.but hB (by omega), Q.but hB (by omega), I.but hB (by omega) (by omega), Nat.lt_of_lt_of_le hs hB.size⟩
theorem AnyK.at {b : Nat} {a : Option Addr} {len cap : Nat} {w : World} {p g : Nat} {n : Int} {cv m : Nat} {u : World} (h : AnyK b a len cap w p g n cv m u) {i : Nat} (hi : i < m) : (∃ c, El u g i c) ∧ Soft u g i := by
  obtain ⟨xs, rfl, _, _, _, _, I, _⟩ := h
  obtain ⟨_, hg, _, _, r⟩ := I.at (Below.refl _ _) hi
  simp only [Option.some.injEq, Addr.mk.injEq, and_true] at hg
  subst hg
  exact ⟨⟨_, r.1⟩, r.2⟩
theorem AnyK.set {b : Nat} {a : Option Addr} {len cap : Nat} {w : World} {p g : Nat} {n : Int} {cv m : Nat} {u : World} (h : AnyK b a len cap w p g n cv m u) (hb : b < w.heap.size) (hg : w.heap.size < g) (hp : g < p) {i : Nat} (hi : i < m) (s x y : Int) : AnyK b a len cap w p g n cv m (setEl u g i s x y) := by
  obtain ⟨xs, rfl, C, B, P, Q, I, hs⟩ := h
  refine ⟨xs.set i ⟨s, x, y⟩, by simp, ?_, ?_, ?_, ?_, I.set i hi s x y, by simpa [World.setCell] using hs⟩
  · refine C.below (B := w.heap.size) (Below.setCell (Below.setCell (Below.setCell (Below.refl _ _) ?_ _) ?_ _) ?_ _) hb <;> exact Nat.le_of_lt hg
  · refine But.setCell (But.setCell (But.setCell B (.inr ?_) _) (.inr ?_) _) (.inr ?_) _ <;> exact Nat.le_of_lt hg
  · refine BoxB.set_far (BoxB.set_far (BoxB.set_far P ?_ _) ?_ _) ?_ _ <;> omega
  · refine BoxB.set_far (BoxB.set_far (BoxB.set_far Q ?_ _) ?_ _) ?_ _ <;> omega
theorem AnyK.box {b : Nat} {a : Option Addr} {len cap : Nat} {w : World} {p g : Nat} {n : Int} {cv m : Nat} {u : World} (h : AnyK b a len cap w p g n cv m u) : u.cell? ⟨p, 0, none⟩ = some (.int .i64 n) ∧ u.cell? ⟨p, 1, none⟩ = some (.slice (some ⟨g, 0, none⟩) m cv) ∧ u.cell? ⟨w.heap.size, 0, none⟩ = some (.int .i64 0) ∧ u.cell? ⟨w.heap.size, 1, none⟩ = some (.slice none 0 0) ∧ u.frozen? ⟨w.heap.size, 0, none⟩ = false ∧ u.frozen? ⟨w.heap.size, 1, none⟩ = false := by
  obtain ⟨xs, _, _, _, P, Q, _, _⟩ := h
  exact ⟨Q.1, Q.2.1, P.1, P.2.1, P.2.2.1, P.2.2.2⟩

end Go.Proofs.Ytbnokmlmajcibaa
