/- The fields of a line, joined by single spaces, have the same fields: the walk of FnFieldsAgain. -/
import Derived.Test.YthnelahnlinbnaaDoorDrawSplit
import Derived.Test.YthnelahnlinbnaaDoorSplitI
import Derived.Test.YthnelahnlinbnaaDoorTokF
import Derived.Test.YthnelahnlinbnaaDoorStrIn
import Derived.Test.YthnelahnlinbnaaDoorFmtLawI
import Derived.BigQuiet
import Derived.Deep.QuietTactic
namespace Go.Proofs.YthnelahnlinbnaaDoor
open Go.ChangeShapes Go.WideShapes Go.ChangeAt Go.RowKit

theorem joinT_snoc (fs : List (List UInt8)) (f : List UInt8) : joinT (fs ++ [f]) = joinT fs ++ f ++ [32] := by
  induction fs with
  | nil => simp [joinT]
  | cons a r ih => simp [joinT, ih]
theorem joinT_length (fs : List ByteArray) (h : ∀ f ∈ fs, f.size ≤ 600) : (joinT (texts fs)).length ≤ 601 * fs.length := by
  induction fs with
  | nil => simp [texts, joinT]
  | cons a r ih =>
    have h1 := ih (fun f hf => h f (List.mem_cons_of_mem _ hf))
    have h2 := h a (List.mem_cons_self ..)
    simp only [texts, List.map_cons, joinT, List.length_append, List.length_cons] at h1 ⊢
    have h3 : a.data.toList.length = a.size := by simp
    omega

set_option maxHeartbeats 400000 in
theorem SameT_any (l1 h1 l2 h2 : Nat) (v1 v2 : Value) (fs : List ByteArray) (w : World) (r1 : StrIn l1 h1 w v1 fs) (r2 : StrIn l2 h2 w v2 fs) :
    Calls Tryd.prog 18 #[v1, v2] w fun e w' => e = .returned (.bool true) ∧ Below w.heap.size w w' := by
  obtain ⟨hl, ⟨rfl, a1, c1, rfl⟩ | ⟨g1, cap1, rfl, _, _, hc1⟩⟩ := r1
  · obtain ⟨_, ⟨_, a2, c2, rfl⟩ | ⟨g2, cap2, rfl, _⟩⟩ := r2
    all_goals
      go_enter Tryd.func18, Tryd.ntmps18
      go_wp2_with fail
      refine wp_loop_rounds 1 ?_
      rw [rounds_succ]
      go_wp2_with fail
      go_ret
      exact ⟨rfl, Below.refl _ _⟩
  · obtain ⟨_, ⟨hn, a2, c2, rfl⟩ | ⟨g2, cap2, rfl, _, _, hc2⟩⟩ := r2
    · subst hn
      go_enter Tryd.func18, Tryd.ntmps18
      go_wp2_with fail
      refine wp_loop_rounds 1 ?_
      rw [rounds_succ]
      go_wp2_with fail
      go_ret
      exact ⟨rfl, Below.refl _ _⟩
    · have H1 := Lib.hid hc1
      have H2 := Lib.hid hc2
      clear hc1 hc2
      go_enter Tryd.func18, Tryd.ntmps18
      go_wp2_with fail
      go_loopw [5] (fun i wr => ∃ k : Nat, k ≤ fs.length ∧ i = .int .i64 k ∧ Below w.heap.size w wr) (fun i _ => fs.length - (intOf i).toNat)
      case atStart => exact ⟨0, Nat.zero_le _, rfl, Below.refl _ _⟩
      case round =>
        obtain ⟨k, hk, rfl, hbel⟩ := hrel
        by_cases hlt : k < fs.length
        · have k1 : wr.cell? ⟨g1, k, none⟩ = some (.string (fs.getD k ⟨#[]⟩)) := by
            have h := (H1.out k hlt).1
            rw [hbel.cell (lt_of_cell h)]; exact h
          have k2 : wr.cell? ⟨g2, k, none⟩ = some (.string (fs.getD k ⟨#[]⟩)) := by
            have h := (H2.out k hlt).1
            rw [hbel.cell (lt_of_cell h)]; exact h
          obtain ⟨t, ht⟩ : ∃ t, t = fs.getD k ⟨#[]⟩ := ⟨_, rfl⟩
          rw [← ht] at k1 k2
          clear ht
          go_wp2_with fail
          go_quiet (fail)
          go_wp2_with fail
          go_roundw
          case rel => exact ⟨k + 1, by omega, by go_num, below_drewN hbel _⟩
          case measure => simp [intOf]; omega
        · go_wp2_with fail
          go_ret
          exact ⟨rfl, hbel⟩

theorem tok_len : ∀ (l cur f : List UInt8), f ∈ tok cur l → f.length ≤ cur.length + l.length
  | [], cur, f, h => by
    rw [tok] at h
    split at h
    · simp at h
    · simp only [List.mem_singleton] at h
      subst h
      simp
  | a :: r, cur, f, h => by
    rw [tok] at h
    split at h
    · split at h
      · have := tok_len r [] f h
        simp at this ⊢
        omega
      · rcases List.mem_cons.1 h with h | h
        · subst h
          simp
        · have := tok_len r [] f h
          simp at this ⊢
          omega
    · have := tok_len r (cur ++ [a]) f h
      simp at this ⊢
      omega
theorem allF_size (s : ByteArray) (h : s.size ≤ 600) : ∀ f ∈ allF s, f.size ≤ 600 := by
  intro f hf
  have h1 : f.data.toList ∈ texts (allF s) := List.mem_map_of_mem (f := fun f : ByteArray => f.data.toList) hf
  rw [texts_allF] at h1
  have h2 := tok_len _ [] _ h1
  simp at h2
  omega

theorem FieldsAgain_walk (a : Option Addr) (len cap : Nat) (w : World) (hs : Src w w.heap.size a len) (ht : Lib.TabIs Tryd.prog w "internal/strconv.uint64pow10" .u64 Lib.pow10Tab) :
    Calls Tryd.prog 5 #[.slice a len cap] w fun e w' => e = .returned (.bool true) ∧ Below w.heap.size w w' := by
  have HS := Lib.hid hs
  have HT := Lib.hid ht
  clear ht
  obtain ⟨hm, _⟩ := hs
  have hl : len ≤ 9223372036854775807 := by unfold maxLen at hm; omega
  clear hm
  by_cases hb : len ≤ 1048576
  · go_enter Tryd.func5, Tryd.ntmps5
    go_wp2_with fail
    refine (Big_no a len cap w hb).mono ?_
    rintro e w' ⟨rfl, rfl⟩
    go_wp2_with fail
    refine (DrawSplit_any a len cap w HS.out hb).mono ?_
    rintro e w1 ⟨s, hq, rfl, hb1⟩
    have z1 := hb1.size
    go_wp2_with fail
    refine (ImplSplit_any s w1 (by omega)).mono ?_
    intro e w2 hp
    obtain ⟨v1, f1, o1, rfl, c1, r1, n1, hb2⟩ := SplitRow.of hp
    clear hp
    have z2 := hb2.size
    go_wp2_with fail
    refine (SpecSplit_any s w2 (by omega)).mono ?_
    intro e w3 hp
    obtain ⟨v2, f2, o2, rfl, c2, r2, n2, hb3⟩ := SplitRow.of hp
    clear hp
    have z3 := hb3.size
    obtain ⟨rfl, rfl⟩ := SplitRow.same c1 c2
    have hb13 := (hb1.trans (hb2.mono z1)).trans (hb3.mono (Nat.le_trans z1 z2))
    cases o2
    · have hf : f2 = [] := by
        rcases c1 with ⟨h, _⟩ | ⟨_, _, h⟩
        · cases h
        · exact h
      obtain ⟨va, vc, rfl⟩ : ∃ va vc, v1 = .slice va 0 vc := by
        obtain ⟨_, ⟨_, a, c, h⟩ | ⟨g, c, h, _⟩⟩ := r1.out
        · exact ⟨a, c, h⟩
        · exact ⟨_, c, by rw [h, hf]; rfl⟩
      clear hf c1 c2 r1 r2 n1 n2
      go_wp2_with fail
      refine (ImplFormat_any (-3) _ (by omega) (by omega) (tab_kept HT.out hb13)).mono ?_
      rintro e w4 ⟨rfl, hb4⟩
      have q : (Lib.itoa (-3) == [45, 51]) = true := by
        have e1 : Lib.itoa (-3) = 45 :: Lib.decDigits 3 := rfl
        rw [e1, Lib.decDigits, dif_pos (by omega)]
        rfl
      go_wp2_with fail
      go_ret
      exact ⟨rfl, hb13.trans (hb4.mono (Nat.le_trans z1 (Nat.le_trans z2 z3)))⟩
    · have ho : OkS s ∧ f2 = allF s := by
        rcases c1 with ⟨_, h1, h2⟩ | ⟨h, _⟩
        · exact ⟨h1, h2⟩
        · cases h
      obtain ⟨hok, hfs⟩ := ho
      have hz := allF_size s hok.1
      rw [← hfs] at hz
      have HZ := Lib.hid hz
      have HOK := Lib.hid hok
      have HFS := Lib.hid hfs
      have r13 := Lib.hid (r1.out.below hb3)
      clear hz hok hfs c1 c2 r1 r2
      have hcells : (∃ va vc, v1 = .slice va f2.length vc) ∧ Hid (∀ i, i < f2.length → ∀ va vc, v1 = .slice va f2.length vc → ∃ g, va = some ⟨g, 0, none⟩ ∧ w3.cell? ⟨g, i, none⟩ = some (.string (f2.getD i ⟨#[]⟩))) := by
        obtain ⟨_, ⟨hn, a, c, h⟩ | ⟨g, c, h, _, _, hc⟩⟩ := r13.out
        · subst hn
          exact ⟨⟨a, c, h⟩, fun i hi => by simp at hi⟩
        · refine ⟨⟨_, c, h⟩, fun i hi va vc hv => ?_⟩
          rw [h] at hv
          simp only [Value.slice.injEq] at hv
          exact ⟨g, hv.1.symm, (hc i hi).1⟩
      obtain ⟨⟨va, vc, rfl⟩, hcells⟩ := hcells
      go_wp2_with fail
      go_loop [8, 9] (fun t8 i => ∃ (k : Nat) (t : ByteArray), k ≤ f2.length ∧ i = .int .i64 k ∧ t8 = .string t ∧ t.size ≤ 601 * k ∧ Hid (t.data.toList = joinT (texts (f2.take k)))) (fun _ i => f2.length - (intOf i).toNat)
      case atStart => exact ⟨0, _, Nat.zero_le _, rfl, rfl, Nat.le_refl 0, rfl⟩
      case round =>
        obtain ⟨k, t, hk, rfl, rfl, hts, htl⟩ := hrel
        by_cases hlt : k < f2.length
        · obtain ⟨g, rfl, hc⟩ := hcells.out k hlt va vc rfl
          have hfm : f2.getD k ⟨#[]⟩ = f2[k] := by simp [List.getD, hlt]
          have hfz := HZ.out _ (List.getElem_mem hlt)
          have htk : Hid (f2.take (k + 1) = f2.take k ++ [f2[k]]) := List.take_succ_eq_append_getElem hlt
          rw [hfm] at hc
          generalize f2[k] = f at hc hfz htk
          clear hfm
          go_wp2_with fail
          have hsz2 : (t ++ f ++ (⟨#[32]⟩ : ByteArray)).size ≤ 601 * (k + 1) := by
            rw [ByteArray.size_append, ByteArray.size_append]
            show t.size + f.size + 1 ≤ _
            omega
          have htl2 : Hid ((t ++ f ++ (⟨#[32]⟩ : ByteArray)).data.toList = joinT (texts (f2.take (k + 1)))) := by
            have e1 : texts (f2.take k ++ [f]) = texts (f2.take k) ++ [f.data.toList] := by simp [texts]
            have h1 := htl.out
            have h2 := htk.out
            show _ = _
            rw [h2, e1, joinT_snoc, ← h1]
            simp
          generalize t ++ f ++ (⟨#[32]⟩ : ByteArray) = t2 at hsz2 htl2 ⊢
          go_round
          case rel => exact ⟨k + 1, t2, by omega, by go_num, rfl, hsz2, htl2⟩
          case measure => simp [intOf] <;> omega
        · obtain rfl : k = f2.length := by omega
          go_wp2_with fail
          refine (ImplSplit_any t w3 (by omega)).mono ?_
          intro e w4 hp
          obtain ⟨v3, f3, o3, rfl, c3, r3, n3, hb4⟩ := SplitRow.of hp
          clear hp
          have z4 := hb4.size
          by_cases h6 : t.size ≤ 600
          · have hag := again (s := s) (t := t) HOK.out (by rw [← HFS.out]; have := htl.out; rwa [List.take_length] at this) h6
            have hof : o3 = true ∧ f3 = f2 := by
              rcases c3 with ⟨h1, _, h2⟩ | ⟨_, h1, _⟩
              · exact ⟨h1, by rw [h2, hag.2, ← HFS.out]⟩
              · exact absurd hag.1 h1
            obtain ⟨rfl, rfl⟩ := hof
            have R1 := Lib.hid (r13.out.below (hb4.mono z3))
            clear hag c3
            go_wp2_with fail
            refine (SameT_any _ _ _ _ _ _ f3 w4 R1.out r3.out).mono ?_
            rintro e w5 ⟨rfl, hb5⟩
            go_wp2_with fail
            go_ret
            exact ⟨rfl, (hb13.trans (hb4.mono (by omega))).trans (hb5.mono (by omega))⟩
          · go_wp2_with fail
            go_ret
            exact ⟨rfl, hb13.trans (hb4.mono (by omega))⟩
  · go_enter Tryd.func5, Tryd.ntmps5
    go_wp2_with fail
    refine (Big_yes a len cap w hl (by omega)).mono ?_
    rintro e w' ⟨rfl, rfl⟩
    go_wp2_with fail
    go_ret
    exact ⟨rfl, Below.refl _ _⟩
end Go.Proofs.YthnelahnlinbnaaDoor
