/- Rows of rows of integers: compared, marked, held. Orders of sewing: marks of rounds. Orders of sewing: MostChained of the program. -/
import Derived.Test.YtlkiacgpiodkiaaM19
import Derived.Test.YtlkiacgpiodkiaaM17
import Derived.Deep.RegionHeld3
import Derived.Test.YtlkiacgpiodkiaaM20
import Derived.Test.YtlkiacgpiodkiaaM18

set_option linter.unusedSimpArgs false
set_option linter.unusedVariables false
namespace Go.Proofs.Ytlkiacgpiodkiaa
open Go.ChangeShapes Go.WideShapes Go.ChangeAt Go.RowKit

/-- How many lie ahead of row i. -/
def offI (k : Nat) (L : List (List Int)) : Nat → Nat
  | 0 => k
  | i + 1 => offI k L i + (lat L i).length
def markII (k : Nat) (L : List (List Int)) : List (List Int) := (List.range L.length).map fun i => markI (offI k L i) (lat L i).length
theorem markII_len (k : Nat) (L : List (List Int)) : (markII k L).length = L.length := by simp [markII]
theorem markII_at {k : Nat} {L : List (List Int)} {i : Nat} (h : i < L.length) : lat (markII k L) i = markI (offI k L i) (lat L i).length := by simp [markII, lat, h]
/-- The first m rows are marked. -/
def upII (k m : Nat) (L : List (List Int)) : List (List Int) := (List.range L.length).map fun i => if i < m then markI (offI k L i) (lat L i).length else lat L i
theorem upII_len (k m : Nat) (L : List (List Int)) : (upII k m L).length = L.length := by simp [upII]
theorem upII_zero (k : Nat) (L : List (List Int)) : upII k 0 L = L := by
  apply List.ext_getElem?
  intro i
  by_cases h : i < L.length
  · simp [upII, h, lat]
  · simp [upII, h]
theorem upII_at {k m : Nat} {L : List (List Int)} (h : m < L.length) : lat (upII k m L) m = lat L m := by simp [upII, lat, h]
theorem upII_set {k m : Nat} {L : List (List Int)} (h : m < L.length) : (upII k m L).set m (markI (offI k L m) (lat L m).length) = upII k (m + 1) L := by
  apply List.ext_getElem?
  intro i
  rw [List.getElem?_set]
  by_cases hi : i < L.length
  · by_cases e : m = i
    · subst e; simp [upII, hi, lat]
    · by_cases e2 : i < m
      · have e3 : i < m + 1 := by omega
        simp [upII, hi, e, e2, e3, lat]
      · have e3 : ¬ i < m + 1 := by omega
        simp [upII, hi, e, e2, e3, lat]
  · have h1 : (upII k m L)[i]? = none := List.getElem?_eq_none (by rw [upII_len]; omega)
    have h2 : (upII k (m + 1) L)[i]? = none := List.getElem?_eq_none (by rw [upII_len]; omega)
    rw [h1, h2]
    split
    · rename_i e; subst e; exact absurd h hi
    · rfl
theorem upII_all (k : Nat) (L : List (List Int)) : upII k L.length L = markII k L := by
  unfold upII markII
  apply List.map_congr_left
  intro i hi
  rw [List.mem_range] at hi
  rw [if_pos hi]

def TwoI (l1 h1 l2 h2 : Nat) (v1 v2 : Value) (zs : List Int) (u : World) : Prop := IntIn l1 h1 u v1 zs ∧ IntIn l2 h2 u v2 zs ∧ h1 ≤ u.heap.size ∧ h2 ≤ u.heap.size
theorem TwoI.keep {l1 h1 l2 h2 : Nat} {v1 v2 : Value} {zs : List Int} {u w : World} (h : TwoI l1 h1 l2 h2 v1 v2 zs u) (hb : Below u.heap.size u w) : TwoI l1 h1 l2 h2 v1 v2 zs w :=
  ⟨h.1.below (hb.mono h.2.2.1), h.2.1.below (hb.mono h.2.2.2), Nat.le_trans h.2.2.1 hb.size, Nat.le_trans h.2.2.2 hb.size⟩
set_option maxHeartbeats 800000 in
theorem EqIntSS_any (l1 h1 l2 h2 : Nat) (v1 v2 : Value) (L : List (List Int)) (w : World) (r1 : RowII l1 h1 w v1 L) (r2 : RowII l2 h2 w v2 L) (hh1 : h1 ≤ w.heap.size) (hh2 : h2 ≤ w.heap.size) :
    Calls Try.prog 29 #[v1, v2] w fun e w' => e = .returned (.bool true) ∧ Below w.heap.size w w' := by
  obtain ⟨a1, c1, rfl⟩ := r1.form
  obtain ⟨a2, c2, rfl⟩ := r2.form
  have R1 := Lib.hid r1
  have R2 := Lib.hid r2
  have hl := r1.1
  clear r1 r2
  go_enter Try.func29, Try.ntmps29
  go_wp2_with fail
  go_loopw [5] (fun i wr => ∃ k : Nat, k ≤ L.length ∧ i = .int .i64 k ∧ Hid (Below w.heap.size w wr)) (fun i _ => L.length - (intOf i).toNat)
  case atStart => exact ⟨0, Nat.zero_le _, rfl, Below.refl _ _⟩
  case round =>
    obtain ⟨k, hk, rfl, hbel⟩ := hrel
    by_cases hlt : k < L.length
    · have q1 := R1.out.below (hbel.out.mono hh1) hh1
      have q2 := R2.out.below (hbel.out.mono hh2) hh2
      obtain ⟨g1, b1, d1, rfl, _, _, e0, i1⟩ := q1.at hlt
      obtain ⟨g2, b2, d2, rfl, _, _, f0, i2⟩ := q2.at hlt
      have HI1 := Lib.hid i1
      have HI2 := Lib.hid i2
      have hs := hbel.out.size
      clear q1 q2 i1 i2
      generalize lat L k = zs at e0 f0 HI1 HI2
      have KP : ∀ u v, Below u.heap.size u v → (u.cell? ⟨g1, k, none⟩ = some (.slice b1 zs.length d1) ∧ u.cell? ⟨g2, k, none⟩ = some (.slice b2 zs.length d2) ∧ TwoI l1 h1 l2 h2 (.slice b1 zs.length d1) (.slice b2 zs.length d2) zs u) → (v.cell? ⟨g1, k, none⟩ = some (.slice b1 zs.length d1) ∧ v.cell? ⟨g2, k, none⟩ = some (.slice b2 zs.length d2) ∧ TwoI l1 h1 l2 h2 (.slice b1 zs.length d1) (.slice b2 zs.length d2) zs v) := fun u v hb h => ⟨kept hb h.1, kept hb h.2.1, h.2.2.keep hb⟩
      have D0 : Below wr.heap.size wr wr.drew := ⟨rfl, rfl, rfl, Nat.le_refl _, fun _ _ => rfl⟩
      have S0 : wr.drew.cell? ⟨g1, k, none⟩ = some (.slice b1 zs.length d1) ∧ wr.drew.cell? ⟨g2, k, none⟩ = some (.slice b2 zs.length d2) ∧ TwoI l1 h1 l2 h2 (.slice b1 zs.length d1) (.slice b2 zs.length d2) zs wr.drew := KP wr wr.drew D0 ⟨e0, f0, HI1.out, HI2.out, by omega, by omega⟩
      have CB : Hid (∀ u : World, (u.cell? ⟨g1, k, none⟩ = some (.slice b1 zs.length d1) ∧ u.cell? ⟨g2, k, none⟩ = some (.slice b2 zs.length d2) ∧ TwoI l1 h1 l2 h2 (.slice b1 zs.length d1) (.slice b2 zs.length d2) zs u) → Calls Try.prog 23 #[.slice b1 zs.length d1, .slice b2 zs.length d2] u fun e w' => e = .returned (.bool true) ∧ Below u.heap.size u w') := Lib.hid (fun u h => EqIntS_any _ _ _ _ _ _ zs u h.2.2.1 h.2.2.2.1 h.2.2.2.2.1 h.2.2.2.2.2)
      clear HI1 HI2 e0 f0 D0
      go_wp2_with fail
      go_region_held3 (fun w' => w'.cell? ⟨g1, k, none⟩ = some (.slice b1 zs.length d1) ∧ w'.cell? ⟨g2, k, none⟩ = some (.slice b2 zs.length d2) ∧ TwoI l1 h1 l2 h2 (.slice b1 zs.length d1) (.slice b2 zs.length d2) zs w') (first | (refine KP _ _ (by assumption) ?_; assumption) | go_keep)
        ((go_at_call 23; refine (CB.out _ (by assumption)).mono ?_; rintro e w1 ⟨rfl, hb1⟩))
      have HB : Below w.heap.size w w1 := bel_c hbel.out (Nat.le_refl _) ((⟨rfl, rfl, rfl, Nat.le_refl _, fun _ _ => rfl⟩ : Below wr.heap.size wr wr.drew).trans hb1)
      have HB1 := Lib.hid HB
      clear HB hb1 KP CB S0 hbel
      go_wp2_with fail
      go_roundw
      case rel => exact ⟨k + 1, by omega, by go_num, HB1⟩
      case measure => simp [intOf] <;> omega
    · obtain rfl : k = L.length := by omega
      go_wp2_with fail
      go_ret
      exact ⟨rfl, hbel.out⟩

set_option maxHeartbeats 400000 in
theorem MarkIntSS_any (lo hi : Nat) (v : Value) (L : List (List Int)) (k : Nat) (w : World) (r : RowII lo hi w v L) (hh : hi ≤ w.heap.size) (hk1 : ∀ i, offI k L i ≤ 100000000) :
    Calls Try.prog 30 #[v, .int .i64 k] w fun e w' => e = .returned (.int .i64 (offI k L L.length : Nat)) ∧ RowII lo hi w' v (markII k L) ∧ Within lo hi w w' := by
  obtain ⟨a1, c1, rfl⟩ := r.form
  have R := Lib.hid r
  have hl := r.1
  have HK := Lib.hid hk1
  clear r hk1
  go_enter Try.func30, Try.ntmps30
  go_wp2_with fail
  go_loopw [1, 5] (fun q i wr => ∃ m : Nat, m ≤ L.length ∧ i = .int .i64 m ∧ q = .int .i64 (offI k L m : Nat) ∧ Hid (RowII lo hi wr (.slice a1 L.length c1) (upII k m L)) ∧ Within lo hi w wr) (fun _ i _ => L.length - (intOf i).toNat)
  case atStart => exact ⟨0, Nat.zero_le _, rfl, rfl, Lib.hid (by rw [upII_zero]; exact R.out), Within.refl _ _ _⟩
  case round =>
    obtain ⟨m, hm, rfl, rfl, hin, hbel⟩ := hrel
    by_cases hlt : m < L.length
    · have hs := hbel.size
      obtain ⟨G, b, c, g, rfl, e0, i0, hput⟩ := hin.out.put (by omega) (i := m) (by rw [upII_len]; exact hlt)
      rw [upII_at hlt] at e0 i0 hput
      have HQ : Hid (∀ w', IntIn g (g + 1) w' (.slice b (lat L m).length c) (markI (offI k L m) (lat L m).length) → Within g (g + 1) wr w' → RowII lo hi w' (.slice (some ⟨G, 0, none⟩) L.length c1) (upII k (m + 1) L) ∧ Within lo hi wr w') := Lib.hid (fun w' h1 h2 => by
        have := hput w' _ (by rw [markI_length]) h1 h2
        rw [upII_set hlt] at this; exact this)
      obtain ⟨q1, hq1⟩ : ∃ q1, q1 = offI k L (m + 1) := ⟨_, rfl⟩
      have hof1 : q1 = offI k L m + (lat L m).length := hq1
      have hof := HK.out m
      have HL : Hid (((q1 : Nat) : Int) = (offI k L (m + 1) : Nat)) := Lib.hid (by rw [hq1])
      generalize offI k L m = q0 at hof hof1 HQ
      generalize lat L m = zs at e0 i0 hof1 HQ
      have HI := Lib.hid i0
      clear hput i0 hin hq1
      subst hof1
      go_wp2_with fail
      refine (MarkIntS_any g (g + 1) _ zs q0 _ HI.out hof).mono ?_
      rintro e w1 ⟨rfl, hi1, hw1⟩
      obtain ⟨p1, p2⟩ := HQ.out w1 hi1 hw1
      have HP1 := Lib.hid p1
      have HB1 := Lib.hid (hbel.trans p2)
      clear hi1 hw1 p1 p2 hbel HQ HI e0
      go_wp2_with fail
      go_roundw
      case rel => exact ⟨m + 1, by omega, by go_num, by rw [← HL.out]; go_num, HP1, HB1.out⟩
      case measure => simp [intOf] <;> omega
    · obtain rfl : m = L.length := by omega
      go_wp2_with fail
      go_ret
      exact ⟨rfl, by rw [← upII_all]; exact hin.out, hbel⟩

set_option maxHeartbeats 400000 in
theorem HeldIntSS_any (lo hi : Nat) (v : Value) (L : List (List Int)) (k : Nat) (w : World) (r : RowII lo hi w v (markII k L)) (hk1 : ∀ i, offI k L i ≤ 100000000) :
    Calls Try.prog 31 #[v, .int .i64 k] w fun e w' => e = .returned (.int .i64 (offI k L L.length : Nat)) ∧ w' = w := by
  have hl := r.1
  have hf := r.form
  rw [markII_len] at hl hf
  obtain ⟨a1, c1, rfl⟩ := hf
  have R := Lib.hid r
  have HK := Lib.hid hk1
  clear r hk1
  go_enter Try.func31, Try.ntmps31
  go_wp2_with fail
  go_loop [1, 5] (fun q i => ∃ m : Nat, m ≤ L.length ∧ i = .int .i64 m ∧ q = .int .i64 (offI k L m : Nat)) (fun _ i => L.length - (intOf i).toNat)
  case atStart => exact ⟨0, Nat.zero_le _, rfl, rfl⟩
  case round =>
    obtain ⟨m, hm, rfl, rfl⟩ := hrel
    by_cases hlt : m < L.length
    · obtain ⟨G, b, c, rfl, _, _, e0, i0⟩ := R.out.at (i := m) (by rw [markII_len]; exact hlt)
      rw [markII_at hlt, markI_length] at e0
      rw [markII_at hlt, markI_length] at i0
      obtain ⟨q1, hq1⟩ : ∃ q1, q1 = offI k L (m + 1) := ⟨_, rfl⟩
      have hof1 : q1 = offI k L m + (lat L m).length := hq1
      have hof := HK.out m
      have HL : Hid (((q1 : Nat) : Int) = (offI k L (m + 1) : Nat)) := Lib.hid (by rw [hq1])
      generalize offI k L m = q0 at hof hof1 i0
      generalize (lat L m).length = z at e0 i0 hof1
      have HI := Lib.hid i0
      clear i0 hq1
      subst hof1
      have hnn : ¬ ((q0 + z : Nat) : Int) < 0 := by omega
      go_wp2_with fail
      refine (HeldIntS_any _ _ _ z q0 _ HI.out hof).mono ?_
      rintro e w1 ⟨rfl, hw1⟩
      have hw1' := hw1.symm
      subst hw1'
      clear hw1 HI e0
      go_wp2_with fail
      go_round
      case rel => exact ⟨m + 1, by omega, by go_num, by rw [← HL.out]; go_num⟩
      case measure => simp [intOf] <;> omega
    · obtain rfl : m = L.length := by omega
      go_wp2_with fail
      go_ret
      exact ⟨rfl, rfl⟩
end Go.Proofs.Ytlkiacgpiodkiaa

set_option linter.unusedSimpArgs false
set_option linter.unusedVariables false
namespace Go.Proofs.Ytlkiacgpiodkiaa
open Go.ChangeShapes Go.WideShapes Go.ChangeAt Go.RowKit

theorem RowII.within {lo hi l2 h2 : Nat} {u w : World} {v : Value} {L : List (List Int)} (r : RowII l2 h2 u v L) (h : Within lo hi u w) (ho : h2 ≤ lo ∨ hi ≤ l2) (hh : h2 ≤ u.heap.size) : RowII l2 h2 w v L :=
  r.only (Only.of_within h) (fun i h1 h2 => by omega) hh
/-- The number behind the last mark. -/
def mkII (L : List (List Int)) : Int := ((offI 1 L L.length : Nat) : Int)
theorem mkII_pos (L : List (List Int)) : ¬ mkII L < 0 := by unfold mkII; omega
theorem MarkIIOne (lo hi : Nat) (v : Value) (L : List (List Int)) (w : World) (r : RowII lo hi w v L) (hh : hi ≤ w.heap.size) (hk : ∀ i, offI 1 L i ≤ 100000000) :
    Calls Try.prog 30 #[v, .int .i64 1] w fun e w' => e = .returned (.int .i64 (mkII L)) ∧ RowII lo hi w' v (markII 1 L) ∧ Within lo hi w w' :=
  MarkIntSS_any lo hi v L 1 w r hh hk
theorem HeldIIOne (lo hi : Nat) (v : Value) (L : List (List Int)) (w : World) (r : RowII lo hi w v (markII 1 L)) (hk : ∀ i, offI 1 L i ≤ 100000000) :
    Calls Try.prog 31 #[v, .int .i64 1] w fun e w' => e = .returned (.int .i64 (mkII L)) ∧ w' = w :=
  HeldIntSS_any lo hi v L 1 w r hk
theorem offI_le {L : List (List Int)} (h : ∀ i, i < L.length → (lat L i).length ≤ 11) : ∀ i, offI 1 L i ≤ 1 + 11 * min i L.length
  | 0 => by simp [offI]
  | i + 1 => by
    have ih := offI_le h i
    simp only [offI]
    by_cases e : i < L.length
    · have := h i e; omega
    · have : lat L i = [] := by unfold lat; rw [List.getD_eq_getElem?_getD, List.getElem?_eq_none (by omega)]; rfl
      rw [this]; simp; omega
theorem rounds_bd (js : List J3) (n : Int) : (roundsB js n).length ≤ 11 ∧ ∀ i, i < (roundsB js n).length → (lat (roundsB js n) i).length ≤ 11 := by
  by_cases hd : treeB js n = true
  · obtain ⟨N, rfl, hT⟩ := tree_is hd
    have hb := dep_bd hT
    have hl := hT.len
    have hn := hT.n12
    rw [rounds_yes hd, roundsN_len]
    refine ⟨by omega, fun i hi => ?_⟩
    have e := roundsN_get (js := js) (N := (N : Int).toNat) hi
    unfold lat
    rw [e]
    have := rnd_le (js := js) (N := (N : Int).toNat) js.length ((i : Int) + 1)
    omega
  · rw [rounds_no (by simpa using hd)]
    exact ⟨by simp, fun i hi => by simp at hi⟩
theorem offI_rounds (js : List J3) (n : Int) : ∀ i, offI 1 (roundsB js n) i ≤ 100000000 := by
  intro i
  obtain ⟨h1, h2⟩ := rounds_bd js n
  have := offI_le h2 i
  omega
end Go.Proofs.Ytlkiacgpiodkiaa

set_option linter.unusedSimpArgs false
set_option linter.unusedVariables false
namespace Go.Proofs.Ytlkiacgpiodkiaa
open Go.ChangeShapes Go.WideShapes Go.ChangeAt Go.RowKit

set_option maxHeartbeats 1600000 in
set_option maxRecDepth 20000 in
theorem ImplMost_any (lo hi : Nat) (v : Value) (js : List J3) (n : Int) (wn : (Lit.int .i64 n).wf = true) (w : World) (r : JnIn lo hi w v js) (hhi : hi ≤ w.heap.size) :
    Calls Try.prog 16 #[v, .int .i64 n] w fun e w' => e = .returned (.int .i64 (mostB js n)) ∧ Below w.heap.size w w' := by
  obtain ⟨av, cv, rfl⟩ := r.form
  have CT := Lib.hid (ImplRounds_any lo hi _ js n wn w r hhi)
  have hL11 := (rounds_bd js n).1
  unfold mostB
  clear r wn
  generalize roundsB js n = L at CT hL11
  go_enter Try.func16, Try.ntmps16
  go_wp2_with fail
  refine (args_eqL CT.out (by with_reducible rfl)).mono ?_
  rintro e w1 ⟨vr, rfl, hr, hb1⟩
  obtain ⟨ar, cr, rfl⟩ := hr.form
  have HR := Lib.hid hr
  have HB1 := Lib.hid hb1
  clear hr hb1 CT
  go_wp2_with fail
  go_loopw [5, 12] (fun m i wr => ∃ (k : Nat), k ≤ L.length ∧ i = .int .i64 k ∧ m = .int .i64 (mostF L k) ∧ Hid (Below w1.heap.size w1 wr)) (fun _ i _ => L.length - (intOf i).toNat)
  case atStart => exact ⟨0, Nat.zero_le _, rfl, rfl, Lib.hid (Below.refl _ _)⟩
  case round =>
    obtain ⟨k, hk, rfl, rfl, hbel⟩ := hrel
    by_cases hlt : k < L.length
    · have hR := HR.out.below hbel.out (Nat.le_refl _)
      obtain ⟨G, b, c, rfl, _, _, e0, _⟩ := hR.at hlt
      have hmx : mostF L (k + 1) = max (mostF L k) (((lat L k).length : Nat) : Int) := rfl
      have HMX := Lib.hid hmx
      generalize (lat L k).length = y at e0 HMX
      generalize mostF L k = x at HMX ⊢
      obtain ⟨M, hM⟩ : ∃ M, (if x < (y : Int) then (y : Int) else x) = M := ⟨_, rfl⟩
      have HM : Hid (mostF L (k + 1) = M) := Lib.hid (by rw [HMX.out, ← hM]; split <;> omega)
      clear hR hmx HMX
      go_wp2_with fail
      go_roundw
      case rel => exact ⟨k + 1, by omega, by go_num, by rw [HM.out], hbel⟩
      case measure => simp [intOf] <;> omega
    · obtain rfl : k = L.length := by omega
      go_wp2_with fail
      go_ret
      exact ⟨rfl, bel_c HB1.out (Nat.le_refl _) hbel.out⟩
end Go.Proofs.Ytlkiacgpiodkiaa
