/- Sameness: the model's CountForms. Sameness: the model's plain form of a block. Symmetries: the model's SymmetriesOf and ColorSymmetries. Rows of integers: compared, marked, and held against the marks. -/
import Derived.Test.YtbnokmlmajcibaaM04
import Derived.Test.YtbnokmlmajcibaaM20
import Derived.Test.YtbnokmlmajcibaaM02
import Derived.Test.YtbnokmlmajcibaaM11
import Derived.Test.YtbnokmlmajcibaaM10
import Derived.Deep.DeepCutAuto
import Derived.Deep.RegionHeld3
import Derived.Test.YtbnokmlmajcibaaExB
import Derived.Test.YtbnokmlmajcibaaM14
import Derived.Test.YtbnokmlmajcibaaM09
import Derived.Test.YtbnokmlmajcibaaM05
import Derived.Test.YtbnokmlmajcibaaM07
import Derived.ProofKit
import Derived.OpenShut
import Derived.WalkSmall
import Derived.BigQuiet
import Derived.Deep.QuietTactic
import Derived.Outline
import Derived.IntWalk

namespace Go.Proofs.Ytbnokmlmajcibaa
open Go.ChangeShapes Go.WideShapes Go.ChangeAt Go.RowKit

def firstP (e : Nat → Nat → Bool) (m j : Nat) : Bool := (List.range j).all fun i => !e i m
theorem firstP_succ (e : Nat → Nat → Bool) (m j : Nat) : firstP e m (j + 1) = (firstP e m j && !e j m) := by
  unfold firstP
  rw [List.range_succ, List.all_append]; simp
theorem SpecSameN (l1 h1 l2 h2 : Nat) (n : Int) (v1 v2 : Value) (xs ys : List C3) (b : Bool) (u : World) (r1 : CellIn l1 h1 u v1 xs) (r2 : CellIn l2 h2 u v2 ys) (hh1 : h1 ≤ u.heap.size) (hh2 : h2 ≤ u.heap.size) (e : sameB n n xs ys = b) :
    Calls Try.prog 53 #[.agg #[.int .i64 n, v1], .agg #[.int .i64 n, v2]] u fun e w' => e = .returned (.bool b) ∧ Below u.heap.size u w' := by
  have := SpecSame_any l1 h1 l2 h2 n n v1 v2 xs ys u r1 r2 hh1 hh2
  rw [e] at this
  exact this
set_option maxRecDepth 100000 in
set_option maxHeartbeats 8000000 in
theorem SpecCountForms_any (lo hi : Nat) (n : Int) (v : Value) (xs : List C3) (w : World) (r : CellIn lo hi w v xs) (hhi : hi ≤ w.heap.size) :
    Calls Try.prog 21 #[.agg #[.int .i64 n, v]] w fun e w' => e = .returned (.int .i64 (forms n xs)) ∧ Below w.heap.size w w' := by
  obtain ⟨a, cap, rfl⟩ := r.form
  have HR := Lib.hid (fun W (hb : Below w.heap.size w W) => r.below (hb.mono hhi))
  clear r
  obtain ⟨G, hG⟩ : ∃ G, G = w.alloc (.cells #[.int .i64 n, .slice a xs.length cap] 26) := ⟨_, rfl⟩
  have HBG : Hid (Below w.heap.size w G) := Lib.hid (by rw [hG]; exact bel0 _ _)
  have HP : Hid (∀ W, Below G.heap.size G W → W.cell? ⟨w.heap.size, 0, none⟩ = some (.int .i64 n) ∧ W.cell? ⟨w.heap.size, 1, none⟩ = some (.slice a xs.length cap)) :=
    Lib.hid (fun W hb => ⟨kept hb (by rw [hG]; go_simp), kept hb (by rw [hG]; go_simp)⟩)
  have HC : Hid (∀ u, Below G.heap.size G u → CellIn lo hi u (.slice a xs.length cap) xs ∧ hi ≤ u.heap.size) := Lib.hid (fun u h => ⟨HR.out _ (bel_c HBG.out (Nat.le_refl _) h), Nat.le_trans hhi (bel_c HBG.out (Nat.le_refl _) h).size⟩)
  by_cases hb : BlkOk n xs
  · rw [forms_yes hb]
    have HB := Lib.hid hb
    clear hb
    obtain ⟨e, he⟩ : ∃ e, eqV n xs = e := ⟨_, rfl⟩
    have HE : Hid (∀ i k, sameB n n (seeL n i xs) (seeL n k xs) = e i k) := Lib.hid (fun i k => by rw [← he]; rfl)
    rw [he]
    obtain ⟨c8, h8⟩ : ∃ c, cntE e 8 = c := ⟨_, rfl⟩
    have H8 := Lib.hid h8
    rw [h8]
    clear he h8
    go_enter Try.func21, Try.ntmps21
    go_wp2_with fail
    rw [← hG]
    clear hG
    go_loopw [3, 4] (fun q i wr => ∃ m : Nat, m ≤ 8 ∧ i = .int .i64 m ∧ q = .int .i64 (cntE e m : Nat) ∧ Hid (Below G.heap.size G wr)) (fun _ i _ => 8 - (intOf i).toNat)
    case atStart => exact ⟨0, Nat.zero_le _, rfl, rfl, Lib.hid (Below.refl _ _)⟩
    case round =>
      obtain ⟨m, hk, rfl, rfl, hbel⟩ := hrel
      obtain ⟨p0, p1⟩ := HP.out _ hbel.out
      have hcl := cntE_le e m
      by_cases hlt : m < 8
      · have h8 : (m : Int) < 8 := by omega
        go_wp2_with fail
        refine (SpecBlockOk_yes lo hi n _ xs _ (HC.out _ hbel.out).1 (HC.out _ hbel.out).2 HB.out).mono ?_
        rintro e0 w1 ⟨rfl, hb1⟩
        have B1 := Lib.hid (bel_c hbel.out (Nat.le_refl _) hb1)
        clear p0 p1 hbel hb1
        go_wp2_with fail
        go_loopw [5, 6] (fun q i wi => ∃ j : Nat, j ≤ m ∧ i = .int .i64 j ∧ q = .bool (firstP e m j) ∧ Hid (Below G.heap.size G wi)) (fun _ i _ => m - (intOf i).toNat)
        case atStart => exact ⟨0, Nat.zero_le _, rfl, rfl, B1⟩
        case round =>
          obtain ⟨j, hj, rfl, rfl, hbi⟩ := hrel
          obtain ⟨p0, p1⟩ := HP.out _ hbi.out
          by_cases hjm : j < m
          · have HJ := Lib.hid (firstP_succ e m j)
            have hjm' : (j : Int) < (m : Int) := by omega
            have D0 := fun (u : World) => (show Below u.heap.size u u.drew from ⟨rfl, rfl, rfl, Nat.le_refl _, fun _ _ => rfl⟩)
            have KP : ∀ u v, Below u.heap.size u v → (u.cell? ⟨w.heap.size, 0, none⟩ = some (.int .i64 n) ∧ u.cell? ⟨w.heap.size, 1, none⟩ = some (.slice a xs.length cap) ∧ Below G.heap.size G u) → (v.cell? ⟨w.heap.size, 0, none⟩ = some (.int .i64 n) ∧ v.cell? ⟨w.heap.size, 1, none⟩ = some (.slice a xs.length cap) ∧ Below G.heap.size G v) := fun u v hb h => ⟨kept hb h.1, kept hb h.2.1, bel_c h.2.2 (Nat.le_refl _) hb⟩
            cases hfj : firstP e m j
            · have HJ2 : Hid (firstP e m (j + 1) = false) := Lib.hid (by rw [HJ.out, hfj]; rfl)
              clear hfj
              go_upto_region 9 with fail
              have S0 : wr.drew.cell? ⟨w.heap.size, 0, none⟩ = some (.int .i64 n) ∧ wr.drew.cell? ⟨w.heap.size, 1, none⟩ = some (.slice a xs.length cap) ∧ Below G.heap.size G wr.drew := ⟨kept (D0 _) p0, kept (D0 _) p1, bel_c hbi.out (Nat.le_refl _) (D0 _)⟩
              clear p0 p1
              try simp only [List.append_eq, List.cons_append, List.nil_append]
              have hS : wr.drew.cell? ⟨w.heap.size, 0, none⟩ = some (.int .i64 n) ∧ wr.drew.cell? ⟨w.heap.size, 1, none⟩ = some (.slice a xs.length cap) ∧ Below G.heap.size G wr.drew := S0
              refine reg_begin (fun w' => w'.cell? ⟨w.heap.size, 0, none⟩ = some (.int .i64 n) ∧ w'.cell? ⟨w.heap.size, 1, none⟩ = some (.slice a xs.length cap) ∧ Below G.heap.size G w') (by kernel_rfl) hS ?_
              refine reg_take 0 (v := ?_) rfl (by kernel_rfl) (by kernel_rfl) (by kernel_rfl) (fun _ _ _ h => h) (by rfl) (by intro w hSw; (try dsimp only at hSw); go_simp; first | done | with_reducible rfl) hS ?_
              simp only [Act.put, List.setIfInBounds_toArray, List.set_cons_zero, List.set_cons_succ]
              refine reg_take 1 (v := ?_) rfl (by kernel_rfl) (by kernel_rfl) (by kernel_rfl) (fun _ _ _ h => h) (by rfl) (by intro w hSw; (try dsimp only at hSw); go_simp; first | done | with_reducible rfl) hS ?_
              simp only [Act.put, List.setIfInBounds_toArray, List.set_cons_zero, List.set_cons_succ]
              refine reg_skip 2 rfl (by kernel_rfl) (by kernel_rfl) (by kernel_rfl) (fun _ _ _ h => h) (by rfl) hS ?_
              simp only [Act.put, List.setIfInBounds_toArray, List.set_cons_zero, List.set_cons_succ]
              refine reg_skip 3 rfl (by kernel_rfl) (by kernel_rfl) (by kernel_rfl) (fun _ _ _ h => h) (by rfl) hS ?_
              simp only [Act.put, List.setIfInBounds_toArray, List.set_cons_zero, List.set_cons_succ]
              refine reg_skip 4 rfl (by kernel_rfl) (by kernel_rfl) (by kernel_rfl) (fun _ _ _ h => h) (by rfl) hS ?_
              simp only [Act.put, List.setIfInBounds_toArray, List.set_cons_zero, List.set_cons_succ]
              refine reg_skip 5 rfl (by kernel_rfl) (by kernel_rfl) (by kernel_rfl) (fun _ _ _ h => h) (by rfl) hS ?_
              simp only [Act.put, List.setIfInBounds_toArray, List.set_cons_zero, List.set_cons_succ]
              refine reg_skip 6 rfl (by kernel_rfl) (by kernel_rfl) (by kernel_rfl) (fun _ _ _ h => h) (by rfl) hS ?_
              simp only [Act.put, List.setIfInBounds_toArray, List.set_cons_zero, List.set_cons_succ]
              refine reg_skip 7 rfl (by kernel_rfl) (by kernel_rfl) (by kernel_rfl) (fun _ _ _ h => h) (by rfl) hS ?_
              simp only [Act.put, List.setIfInBounds_toArray, List.set_cons_zero, List.set_cons_succ]
              refine reg_skip 8 rfl (by kernel_rfl) (by kernel_rfl) (by kernel_rfl) (fun _ _ _ h => h) (by rfl) hS ?_
              simp only [Act.put, List.setIfInBounds_toArray, List.set_cons_zero, List.set_cons_succ]
              refine reg_skip 9 rfl (by kernel_rfl) (by kernel_rfl) (by kernel_rfl) (fun _ _ _ h => h) (by rfl) hS ?_
              simp only [Act.put, List.setIfInBounds_toArray, List.set_cons_zero, List.set_cons_succ]
              refine reg_take 10 (v := ?_) rfl (by kernel_rfl) (by kernel_rfl) (by kernel_rfl) (fun _ _ _ h => h) (by rfl) (by intro w hSw; (try dsimp only at hSw); go_simp; first | done | with_reducible rfl) hS ?_
              simp only [Act.put, List.setIfInBounds_toArray, List.set_cons_zero, List.set_cons_succ]
              refine reg_take 11 (v := ?_) rfl (by kernel_rfl) (by kernel_rfl) (by kernel_rfl) (fun _ _ _ h => h) (by rfl) (by intro w hSw; (try dsimp only at hSw); go_simp; first | done | with_reducible rfl) hS ?_
              simp only [Act.put, List.setIfInBounds_toArray, List.set_cons_zero, List.set_cons_succ]
              refine wpAnyH_done (by kernel_rfl) ?_ _
              have HY := Lib.hid hS.2.2
              clear hS S0 KP D0
              go_wp2_with fail
              go_roundw
              case rel => exact ⟨j + 1, by omega, by go_num, by rw [HJ2.out], HY⟩
              case measure => simp [intOf] <;> omega
            · obtain ⟨vi, hvi⟩ : ∃ ys, seeL n j xs = ys := ⟨_, rfl⟩
              obtain ⟨vk, hvk⟩ : ∃ ys, seeL n m xs = ys := ⟨_, rfl⟩
              obtain ⟨b, hbb⟩ : ∃ b, e j m = b := ⟨_, rfl⟩
              have HSB : Hid (sameB n n vi vk = b) := Lib.hid (by rw [← hvi, ← hvk, HE.out, hbb])
              have HJ2 : Hid (firstP e m (j + 1) = !b) := Lib.hid (by rw [HJ.out, hfj, hbb]; rfl)
              have L1 := Lib.hid (fun (u : World) (h : u.cell? ⟨w.heap.size, 0, none⟩ = some (.int .i64 n) ∧ u.cell? ⟨w.heap.size, 1, none⟩ = some (.slice a xs.length cap) ∧ Below G.heap.size G u) => SpecSeeY lo hi n j (j : Int) _ xs vi u (HC.out _ h.2.2).1 (HC.out _ h.2.2).2 HB.out rfl (by omega) hvi)
              have L2 := Lib.hid (fun (u : World) (h : u.cell? ⟨w.heap.size, 0, none⟩ = some (.int .i64 n) ∧ u.cell? ⟨w.heap.size, 1, none⟩ = some (.slice a xs.length cap) ∧ Below G.heap.size G u) => SpecSeeY lo hi n m (m : Int) _ xs vk u (HC.out _ h.2.2).1 (HC.out _ h.2.2).2 HB.out rfl (by omega) hvk)
              clear hfj hvi hvk hbb
              go_upto_region 9 with fail
              have S0 : wr.drew.cell? ⟨w.heap.size, 0, none⟩ = some (.int .i64 n) ∧ wr.drew.cell? ⟨w.heap.size, 1, none⟩ = some (.slice a xs.length cap) ∧ Below G.heap.size G wr.drew := ⟨kept (D0 _) p0, kept (D0 _) p1, bel_c hbi.out (Nat.le_refl _) (D0 _)⟩
              clear p0 p1
              go_region_held3 (fun w' => w'.cell? ⟨w.heap.size, 0, none⟩ = some (.int .i64 n) ∧ w'.cell? ⟨w.heap.size, 1, none⟩ = some (.slice a xs.length cap) ∧ Below G.heap.size G w') (first | assumption | (refine KP _ _ (by assumption) ?_; assumption))
                ((first
                  | (go_at_call 17; refine (args_eq (L1.out _ (by assumption)) (by with_reducible rfl)).mono ?_; rintro e yA ⟨vA, rfl, RA, hbA⟩; obtain ⟨aA, cA, rfl⟩ := RA.form; have HRA := Lib.hid (fun v (hv : Below yA.heap.size yA v) => RA.below (hv.mono (Nat.le_refl _))); clear RA)
                  | (go_at_call 17; refine (args_eq (L2.out _ (by assumption)) (by with_reducible rfl)).mono ?_; rintro e yB ⟨vB, rfl, RB, hbB⟩; obtain ⟨aB, cB, rfl⟩ := RB.form; have HRB := Lib.hid (fun v (hv : Below yB.heap.size yB v) => RB.below (hv.mono (Nat.le_refl _))); clear RB)
                  | (go_at_call 53; refine (args_eq (SpecSameN _ _ _ _ n _ _ vi vk b yB (HRA.out _ hbB) (HRB.out _ (Below.refl _ _)) hbB.size (Nat.le_refl _) HSB.out) (by with_reducible rfl)).mono ?_; rintro e y ⟨rfl, hb⟩)
                  | (go_at_call 53; refine (args_eq (SpecSameN _ _ _ _ n _ _ vi vk b yA (HRA.out _ (Below.refl _ _)) (HRB.out _ hbA) (Nat.le_refl _) hbA.size HSB.out) (by with_reducible rfl)).mono ?_; rintro e y ⟨rfl, hb⟩)))
              all_goals
                have HY := Lib.hid (show y.cell? ⟨w.heap.size, 0, none⟩ = some (.int .i64 n) ∧ y.cell? ⟨w.heap.size, 1, none⟩ = some (.slice a xs.length cap) ∧ Below G.heap.size G y by assumption).2.2
                clear S0 KP D0 L1 L2
                go_wp2_with fail
                go_roundw
                case rel => exact ⟨j + 1, by omega, by go_num, by rw [HJ2.out], HY⟩
                case measure => simp [intOf] <;> omega
          · obtain rfl : j = m := by omega
            have HN : Hid (cntE e (j + 1) = cntE e j + (if firstP e j j = true then 1 else 0)) := Lib.hid rfl
            cases hfj : firstP e j j
            · have HN2 : Hid (cntE e (j + 1) = cntE e j) := Lib.hid (by rw [HN.out, hfj]; rfl)
              clear hfj
              go_wp2_with fail
              go_roundw
              case rel => exact ⟨j + 1, by omega, by go_num, by rw [HN2.out], hbi⟩
              case measure => simp [intOf] <;> omega
            · have HN2 : Hid (cntE e (j + 1) = cntE e j + 1) := Lib.hid (by rw [HN.out, hfj]; rfl)
              clear hfj
              generalize cntE e j = c at HN2 hcl ⊢
              go_wp2_with fail
              go_roundw
              case rel => exact ⟨j + 1, by omega, by go_num, by rw [HN2.out]; go_num, hbi⟩
              case measure => simp [intOf] <;> omega
      · obtain rfl : m = 8 := by omega
        rw [H8.out]
        go_wp2_with fail
        go_ret
        exact ⟨rfl, bel_c HBG.out (Nat.le_refl _) hbel.out⟩
  · rw [forms_no hb]
    have HB := Lib.hid hb
    clear hb
    go_enter Try.func21, Try.ntmps21
    go_wp2_with fail
    rw [← hG]
    clear hG
    go_loopw [3, 4] (fun q i wr => i = .int .i64 0 ∧ q = .int .i64 0 ∧ Hid (Below G.heap.size G wr)) (fun _ _ _ => 0)
    case atStart => exact ⟨rfl, rfl, Lib.hid (Below.refl _ _)⟩
    case round =>
      obtain ⟨rfl, rfl, hbel⟩ := hrel
      obtain ⟨p0, p1⟩ := HP.out _ hbel.out
      go_wp2_with fail
      refine (SpecBlockOk_no lo hi n _ xs _ (HC.out _ hbel.out).1 (HC.out _ hbel.out).2 HB.out).mono ?_
      rintro e w1 ⟨rfl, hb1⟩
      go_wp2_with fail
      go_ret
      exact ⟨rfl, bel_c (bel_c HBG.out (Nat.le_refl _) hbel.out) (Nat.le_refl _) hb1⟩

end Go.Proofs.Ytbnokmlmajcibaa

namespace Go.Proofs.Ytbnokmlmajcibaa
open Go.ChangeShapes Go.WideShapes Go.ChangeAt Go.RowKit

theorem SpecFirstY (lo hi : Nat) (n : Int) (v : Value) (xs : List C3) (fs : List Int) (u : World) (r : CellIn lo hi u v xs) (h : hi ≤ u.heap.size) (hb : BlkOk n xs) (e : fuL xs = fs) :
    Calls Try.prog 82 #[.agg #[.int .i64 n, v]] u (FreshI fs u) := by
  have := SpecFirstUse_any lo hi n v xs u r h
  rw [fu_yes hb, e] at this
  exact this
theorem SpecExBlockY (lo hi lo2 hi2 : Nat) (n : Int) (v vl : Value) (xs ys : List C3) (zs : List Int) (u : World) (r : CellIn lo hi u v xs) (h : hi ≤ u.heap.size) (rl : IntO lo2 hi2 u vl zs) (h2 : hi2 ≤ u.heap.size) (hb : BlkOk n xs) (hz : LstOk zs) (e : exL zs xs = ys) :
    Calls Try.prog 81 #[.agg #[.int .i64 n, v], vl] u (FreshBB n ys true u) := by
  have := SpecExchangeBlock_any lo hi lo2 hi2 n v vl xs zs u r h rl h2
  rw [(exA_yes ⟨hb, hz⟩).1, (exA_yes ⟨hb, hz⟩).2, e] at this
  exact this
set_option maxRecDepth 100000 in
set_option maxHeartbeats 8000000 in
theorem SpecPlain_yes (lo hi : Nat) (n : Int) (v : Value) (xs : List C3) (w : World) (r : CellIn lo hi w v xs) (hhi : hi ≤ w.heap.size) (hok : BlkOk n xs) :
    Calls Try.prog 61 #[.agg #[.int .i64 n, v]] w (FreshB n (plainL xs) w) := by
  obtain ⟨a, cap, rfl⟩ := r.form
  have hl := r.1
  have HR := Lib.hid (fun W (hb : Below w.heap.size w W) => r.below (hb.mono hhi))
  clear r
  obtain ⟨fs, hfs⟩ : ∃ fs, fuL xs = fs := ⟨_, rfl⟩
  have HFS := Lib.hid hfs
  have HFO : Hid (LstOk fs) := Lib.hid (hfs ▸ (fuL_exch hok).1)
  obtain ⟨ps, hps⟩ : ∃ ps, exL fs xs = ps := ⟨_, rfl⟩
  have HPS := Lib.hid hps
  have hpl : plainL xs = ps := by unfold plainL; rw [hfs, hps]
  rw [hpl]
  have HK := Lib.hid hok
  clear hfs hps hpl hok
  obtain ⟨G, hG⟩ : ∃ G, G = (w.alloc (.cells #[.int .i64 n, .slice a xs.length cap] 26)).alloc (.cells #[.int .i64 0, .slice none 0 0] 26) := ⟨_, rfl⟩
  have HZG : Hid (G.heap.size = w.heap.size + 1 + 1) := Lib.hid (by rw [hG]; simp)
  have HBG : Hid (Below w.heap.size w G) := Lib.hid (by rw [hG]; exact bel_n (bel0 _ _) (Nat.le_refl _) _)
  have HX : Hid (BoxB w.heap.size (.int .i64 n) (.slice a xs.length cap) G ∧ BoxB (w.heap.size + 1) (.int .i64 0) (.slice none 0 0) G) := Lib.hid (by
    rw [hG]
    refine ⟨(BoxB.new w _ _ _).below (bel0 _ _) (by simp), ?_⟩
    have h := BoxB.new (w.alloc (.cells #[.int .i64 n, .slice a xs.length cap] 26)) (.int .i64 0) (.slice none 0 0) 26
    simpa using h)
  have pX : w.heap.size < G.heap.size := by have := HZG.out; omega
  go_enter Try.func61, Try.ntmps61
  go_upto_region 1 with fail
  rw [← hG]
  clear hG
  have D0 : Below G.heap.size G G.drew := ⟨rfl, rfl, rfl, Nat.le_refl _, fun _ _ => rfl⟩
  have KP : ∀ u v, Below u.heap.size u v → (u.cell? ⟨w.heap.size, 0, none⟩ = some (.int .i64 n) ∧ u.cell? ⟨w.heap.size, 1, none⟩ = some (.slice a xs.length cap) ∧ Below G.heap.size G u) → (v.cell? ⟨w.heap.size, 0, none⟩ = some (.int .i64 n) ∧ v.cell? ⟨w.heap.size, 1, none⟩ = some (.slice a xs.length cap) ∧ Below G.heap.size G v) := fun u v hb h => ⟨kept hb h.1, kept hb h.2.1, bel_c h.2.2 (Nat.le_refl _) hb⟩
  have KS : ∀ (u : World) (p : Nat) (v0 v1 : Value), G.heap.size ≤ p → (u.cell? ⟨w.heap.size, 0, none⟩ = some (.int .i64 n) ∧ u.cell? ⟨w.heap.size, 1, none⟩ = some (.slice a xs.length cap) ∧ Below G.heap.size G u) → (((u.setCell ⟨p, 0, none⟩ v0).setCell ⟨p, 1, none⟩ v1).cell? ⟨w.heap.size, 0, none⟩ = some (.int .i64 n) ∧ ((u.setCell ⟨p, 0, none⟩ v0).setCell ⟨p, 1, none⟩ v1).cell? ⟨w.heap.size, 1, none⟩ = some (.slice a xs.length cap) ∧ Below G.heap.size G ((u.setCell ⟨p, 0, none⟩ v0).setCell ⟨p, 1, none⟩ v1)) := by
    intro u p v0 v1 hp h
    have h1 : p ≠ w.heap.size := by omega
    have f : ∀ (q o : Nat), p ≠ q → ((u.setCell ⟨p, 0, none⟩ v0).setCell ⟨p, 1, none⟩ v1).cell? ⟨q, o, none⟩ = u.cell? ⟨q, o, none⟩ := fun q o hq => by
      rw [World.cell?_setCell_other _ _ _ _ (by simp), World.cell?_setCell_other _ _ _ _ (by simp)]
    exact ⟨(f _ _ h1).trans h.1, (f _ _ h1).trans h.2.1, (h.2.2.setCell (p := ⟨p, 0, none⟩) hp _).setCell (p := ⟨p, 1, none⟩) hp _⟩
  have HSZ : Hid (∀ u, (u.cell? ⟨w.heap.size, 0, none⟩ = some (.int .i64 n) ∧ u.cell? ⟨w.heap.size, 1, none⟩ = some (.slice a xs.length cap) ∧ Below G.heap.size G u) → G.heap.size ≤ u.heap.size) := Lib.hid (fun u h => h.2.2.size)
  have CF := Lib.hid (fun (u : World) (h : u.cell? ⟨w.heap.size, 0, none⟩ = some (.int .i64 n) ∧ u.cell? ⟨w.heap.size, 1, none⟩ = some (.slice a xs.length cap) ∧ Below G.heap.size G u) => SpecFirstY lo hi n _ xs fs u (HR.out _ (bel_c HBG.out (Nat.le_refl _) h.2.2)) (Nat.le_trans hhi (bel_c HBG.out (Nat.le_refl _) h.2.2).size) HK.out HFS.out)
  have CE := Lib.hid (fun (u : World) (h : u.cell? ⟨w.heap.size, 0, none⟩ = some (.int .i64 n) ∧ u.cell? ⟨w.heap.size, 1, none⟩ = some (.slice a xs.length cap) ∧ Below G.heap.size G u) (l2 h2 : Nat) (vl : Value) (rl : IntO l2 h2 u vl fs) (hh : h2 ≤ u.heap.size) => SpecExBlockY lo hi l2 h2 n _ vl xs ps fs u (HR.out _ (bel_c HBG.out (Nat.le_refl _) h.2.2)) (Nat.le_trans hhi (bel_c HBG.out (Nat.le_refl _) h.2.2).size) rl hh HK.out HFO.out HPS.out)
  have S0 : G.drew.cell? ⟨w.heap.size, 0, none⟩ = some (.int .i64 n) ∧ G.drew.cell? ⟨w.heap.size, 1, none⟩ = some (.slice a xs.length cap) ∧ Below G.heap.size G G.drew := ⟨kept D0 HX.out.1.1, kept D0 HX.out.1.2.1, D0⟩
  go_cut [3, 4] (fun q t wx => WR n true ps G q t wx)
  case first =>
    go_region_held3 (fun w' => w'.cell? ⟨w.heap.size, 0, none⟩ = some (.int .i64 n) ∧ w'.cell? ⟨w.heap.size, 1, none⟩ = some (.slice a xs.length cap) ∧ Below G.heap.size G w') (first | assumption | exact KP _ _ (bel0 _ _) (by assumption) | exact KS _ _ _ _ (by first | omega | (simp; omega)) (by assumption) | (refine KP _ _ (by assumption) ?_; assumption))
      ((first
        | (go_at_call 82; refine (args_eq (CF.out G.drew S0) (by with_reducible rfl)).mono ?_; rintro e yf ⟨vf, rfl, RF, hbf⟩; obtain ⟨af, cf, rfl⟩ := RF.form; have HRF := Lib.hid (fun v (hv : Below yf.heap.size yf v) => RF.below (hv.mono (Nat.le_refl _))); clear RF; have S4 := KP _ _ hbf S0; have zf := HSZ.out _ S4; clear hbf)
        | (go_at_call 82; refine (args_eq (CF.out (G.drew.alloc (.cells #[.int .i64 0, .slice none 0 0] 26)) (KP _ _ (bel0 _ _) S0)) (by with_reducible rfl)).mono ?_; rintro e yf ⟨vf, rfl, RF, hbf⟩; obtain ⟨af, cf, rfl⟩ := RF.form; have HRF := Lib.hid (fun v (hv : Below yf.heap.size yf v) => RF.below (hv.mono (Nat.le_refl _))); clear RF; have bz3 := Lib.hid (show BoxB G.heap.size (.int .i64 0) (.slice none 0 0) yf from (BoxB.new G.drew (.int .i64 0) (.slice none 0 0) 26).below hbf (by simp)); have S4 := KP _ _ hbf (KP _ _ (bel0 _ _) S0); have zf := HSZ.out _ S4; clear hbf)
        | (go_at_call 81; refine (args_eq (CE.out (yf.alloc (.cells #[.int .i64 0, .slice none 0 0] 26)) (KP _ _ (bel0 _ _) S4) _ _ _ (HRF.out _ (bel0 _ _)).o (bel0 _ _).size) (by with_reducible rfl)).mono ?_; rintro e ye ⟨ve, rfl, RE, hbe⟩; obtain ⟨ae, ce, rfl⟩ := RE.form; have RE := Lib.hid RE; have bz3 := Lib.hid ((BoxB.new yf (.int .i64 0) (.slice none 0 0) 26).below hbe (bel0_lt _ _)); have S5 := KP _ _ hbe (KP _ _ (bel0 _ _) S4); have ze := HSZ.out _ S5; have hpz : yf.heap.size < (yf.alloc (.cells #[.int .i64 0, .slice none 0 0] 26)).heap.size := bel0_lt _ _; obtain ⟨j0, j1, j2, j3⟩ := bz3.out)
        | (go_at_call 81; have bz4 := bz3; refine (args_eq (CE.out yf S4 _ _ _ (HRF.out _ (Below.refl _ _)).o (Nat.le_refl _)) (by with_reducible rfl)).mono ?_; rintro e ye ⟨ve, rfl, RE, hbe⟩; obtain ⟨ae, ce, rfl⟩ := RE.form; have RE := Lib.hid RE; have hpz := bz4.out.lt; have bz3 := Lib.hid (bz4.out.below hbe bz4.out.lt); have S5 := KP _ _ hbe S4; have ze := HSZ.out _ S5; obtain ⟨j0, j1, j2, j3⟩ := bz3.out)
        | (go_at_call 81; refine (args_eq (CE.out yf S4 _ _ _ (HRF.out _ (Below.refl _ _)).o (Nat.le_refl _)) (by with_reducible rfl)).mono ?_; rintro e ye ⟨ve, rfl, RE, hbe⟩; obtain ⟨ae, ce, rfl⟩ := RE.form; have RE := Lib.hid RE; have S5 := KP _ _ hbe S4; have ze := HSZ.out _ S5)))
    all_goals
      have hsz := HSZ.out _ S4
      first
      | (have hez := bz3.out; go_wp2_with fail; go_meet; exact WR.old RE.out bz3.out S5.2.2 (by omega) (by omega) (.inl (by omega)))
      | (go_wp2_with fail; go_meet; exact WR.new RE.out S5.2.2 (by omega))
  case rest =>
    obtain ⟨p2, a2, c2, l2, h2, rfl, rfl, bx2, R2, -, zl2, zp2, zh2, hb⟩ := hcut
    have HX2 := HX.out.2.below hb (by have := HZG.out; omega)
    obtain ⟨d0, d1, g0, g1⟩ := HX2
    obtain ⟨q0, q1, _, _⟩ := bx2
    have HB := Lib.hid (bel_c HBG.out (Nat.le_refl _) hb)
    have hz := HZG.out
    clear hb S0 D0 KP KS CF CE HSZ
    go_wp2_with fail
    refine bodyPost_ret (v := .agg #[.int .i64 n, .slice a2 ps.length c2]) (by simp [results, Try.results61, go_sem, d0, d1]) rfl ⟨_, rfl, ?_, ?_⟩
    · refine CellIn.wide (lo := l2) (hi := h2) ?_ (by omega) (by simp [World.setCell]; omega)
      refine CellIn.set_far (CellIn.set_far R2 ?_ _) ?_ _ <;> (simp <;> omega)
    · refine Below.setCell (Below.setCell HB.out ?_ _) ?_ _ <;> (simp <;> omega)

end Go.Proofs.Ytbnokmlmajcibaa

namespace Go.Proofs.Ytbnokmlmajcibaa
open Go.ChangeShapes Go.WideShapes Go.ChangeAt Go.RowKit

set_option maxRecDepth 100000 in
set_option maxHeartbeats 4000000 in
theorem SpecSyms_any (lo hi : Nat) (n : Int) (v : Value) (xs : List C3) (w : World) (r : CellIn lo hi w v xs) (hhi : hi ≤ w.heap.size) :
    Calls Try.prog 25 #[.agg #[.int .i64 n, v]] w (FreshI (symsOf n xs) w) := by
  obtain ⟨i0, hi0, hz0, hz1, hz2⟩ : ∃ i, Try.prog.info? 3 = some i ∧ i.zero = some (.int .i64 0) ∧ i.size = 1 ∧ i.bytes = 8 := info_parts3 info_int
  obtain ⟨a, cap, rfl⟩ := r.form
  have HR := Lib.hid (fun W (hb : Below w.heap.size w W) => r.below (hb.mono hhi))
  clear r
  obtain ⟨G, hG⟩ : ∃ G, G = (w.alloc (.cells #[.int .i64 n, .slice a xs.length cap] 26)).alloc (.cells #[] 3) := ⟨_, rfl⟩
  have HBG : Hid (Below w.heap.size w G ∧ G.heap.size = w.heap.size + 1 + 1) := Lib.hid (by rw [hG]; exact ⟨bel_n (bel0 _ _) (Nat.le_refl _) _, by simp⟩)
  have HO : Hid (G.ownsRow (w.heap.size + 1) 3 1 (.slice (some ⟨w.heap.size + 1, 0, none⟩) 0 0) 0 []) := Lib.hid (by rw [hG]; exact own_new1 (w.alloc (.cells #[.int .i64 n, .slice a xs.length cap] 26)) (w.heap.size + 1) 3 (by simp))
  have HP : Hid (∀ W, Below (w.heap.size + 1) G W → W.cell? ⟨w.heap.size, 0, none⟩ = some (.int .i64 n) ∧ W.cell? ⟨w.heap.size, 1, none⟩ = some (.slice a xs.length cap)) := Lib.hid (fun W hb => by
    have h : Two w.heap.size (.int .i64 n) (.slice a xs.length cap) G := by rw [hG]; exact (Two.new w _ _ _).keep (bel0 _ _)
    exact ⟨(hb.cell (p := ⟨w.heap.size, 0, none⟩) (Nat.lt_succ_self _)).trans h.1, (hb.cell (p := ⟨w.heap.size, 1, none⟩) (Nat.lt_succ_self _)).trans h.2⟩)
  have HC : Hid (∀ u, Below (w.heap.size + 1) G u → CellIn lo hi u (.slice a xs.length cap) xs ∧ hi ≤ u.heap.size ∧ Below w.heap.size w u ∧ w.heap.size + 1 ≤ u.heap.size) := Lib.hid (fun u h => by
    have hu := HBG.out.1.trans (h.mono (Nat.le_succ _))
    have h1 := HBG.out.2
    have h2 := h.size
    exact ⟨HR.out _ hu, by omega, hu, by omega⟩)
  by_cases hb : BlkOk n xs
  · rw [syms_yes hb]
    have HB := Lib.hid hb
    obtain ⟨f, hf⟩ : ∃ f, stab n xs = f := ⟨_, rfl⟩
    have HE : Hid (∀ k, sameB n n (seeL n k xs) xs = f k) := Lib.hid (fun k => by rw [← hf]; rfl)
    rw [hf]
    clear hf hb
    go_enter Try.func25, Try.ntmps25
    go_wp2_with fail
    rw [← hG]
    clear hG
    go_loopw [3, 4] (fun q i wr => ∃ (m : Nat), m ≤ 8 ∧ i = .int .i64 m ∧ Hid (wr.ownsRow (w.heap.size + 1) 3 1 q (selL f m).length (ivals (selL f m))) ∧ Hid (Below (w.heap.size + 1) G wr)) (fun _ i _ => 8 - (intOf i).toNat)
    case atStart => exact ⟨0, Nat.zero_le _, rfl, HO, Lib.hid (Below.refl _ _)⟩
    case round =>
      obtain ⟨m, hm, rfl, hown, hbel⟩ := hrel
      by_cases hlt : m < 8
      · obtain ⟨p0, p1⟩ := HP.out _ hbel.out
        have hlt' : (m : Int) < 8 := by omega
        go_wp2_with fail
        refine (SpecBlockOk_yes lo hi n _ xs _ (HC.out _ hbel.out).1 (HC.out _ hbel.out).2.1 HB.out).mono ?_
        rintro e w1 ⟨rfl, hb1⟩
        have O1 := Lib.hid (owns_below1 hown.out hb1)
        have B1 := Lib.hid (hbel.out.trans (hb1.mono (HC.out _ hbel.out).2.2.2))
        clear p0 p1 hown hbel hb1
        generalize w1 = wr at O1 B1 ⊢
        obtain ⟨p0, p1⟩ := HP.out _ B1.out
        go_upto_region 5 with fail
        have D0 : Below wr.heap.size wr wr.drew := ⟨rfl, rfl, rfl, Nat.le_refl _, fun _ _ => rfl⟩
        have KP : ∀ u v, Below u.heap.size u v → (u.cell? ⟨w.heap.size, 0, none⟩ = some (.int .i64 n) ∧ u.cell? ⟨w.heap.size, 1, none⟩ = some (.slice a xs.length cap) ∧ Below wr.heap.size wr u) → (v.cell? ⟨w.heap.size, 0, none⟩ = some (.int .i64 n) ∧ v.cell? ⟨w.heap.size, 1, none⟩ = some (.slice a xs.length cap) ∧ Below wr.heap.size wr v) := fun u v hb h => ⟨kept hb h.1, kept hb h.2.1, bel_c h.2.2 (Nat.le_refl _) hb⟩
        have HU : Hid (∀ u, (u.cell? ⟨w.heap.size, 0, none⟩ = some (.int .i64 n) ∧ u.cell? ⟨w.heap.size, 1, none⟩ = some (.slice a xs.length cap) ∧ Below wr.heap.size wr u) → CellIn lo hi u (.slice a xs.length cap) xs ∧ hi ≤ u.heap.size) := Lib.hid (fun u h => by
          have := HC.out u (B1.out.trans (h.2.2.mono (HC.out _ B1.out).2.2.2))
          exact ⟨this.1, this.2.1⟩)
        have S0 : wr.drew.cell? ⟨w.heap.size, 0, none⟩ = some (.int .i64 n) ∧ wr.drew.cell? ⟨w.heap.size, 1, none⟩ = some (.slice a xs.length cap) ∧ Below wr.heap.size wr wr.drew := ⟨kept D0 p0, kept D0 p1, D0⟩
        obtain ⟨vk, hvk⟩ : ∃ vk, seeL n m xs = vk := ⟨_, rfl⟩
        obtain ⟨b, hbb⟩ : ∃ b, f m = b := ⟨_, rfl⟩
        have HVO : Hid (BlkOk n vk) := Lib.hid (hvk ▸ seeL_ok HB.out)
        have L1 := Lib.hid (fun (u : World) (h : u.cell? ⟨w.heap.size, 0, none⟩ = some (.int .i64 n) ∧ u.cell? ⟨w.heap.size, 1, none⟩ = some (.slice a xs.length cap) ∧ Below wr.heap.size wr u) => SpecSeeY lo hi n m (m : Int) _ xs vk u (HU.out u h).1 (HU.out u h).2 HB.out rfl (by omega) hvk)
        have HSB : Hid (sameB n n vk xs = b) := Lib.hid (by rw [← hvk, HE.out, hbb])
        have HS := Lib.hid (selL_succ f m)
        rw [hbb] at HS
        clear p0 p1 hvk hbb
        go_region_held3 (fun w' => w'.cell? ⟨w.heap.size, 0, none⟩ = some (.int .i64 n) ∧ w'.cell? ⟨w.heap.size, 1, none⟩ = some (.slice a xs.length cap) ∧ Below wr.heap.size wr w') (first | assumption | (refine KP _ _ (by assumption) ?_; assumption))
          ((first
            | (go_at_call 17; refine (args_eq (L1.out _ S0) (by with_reducible rfl)).mono ?_; rintro e yA ⟨vA, rfl, RA, hbA⟩; obtain ⟨aA, cA, rfl⟩ := RA.form; have HRA := Lib.hid (fun v (hv : Below yA.heap.size yA v) => RA.below (hv.mono (Nat.le_refl _))); have SA := KP _ _ hbA S0; clear RA)
            | (go_at_call 53; refine (args_eq (SpecSameN _ _ _ _ n _ _ vk xs b yA (HRA.out _ (Below.refl _ _)) (HU.out _ SA).1 (Nat.le_refl _) (HU.out _ SA).2 HSB.out) (by with_reducible rfl)).mono ?_; rintro e y ⟨rfl, hb⟩)))
        have HY := Lib.hid (show y.cell? ⟨w.heap.size, 0, none⟩ = some (.int .i64 n) ∧ y.cell? ⟨w.heap.size, 1, none⟩ = some (.slice a xs.length cap) ∧ Below wr.heap.size wr y by assumption).2.2
        have O2 := Lib.hid (owns_below1 O1.out HY.out)
        have B2 := Lib.hid (B1.out.trans (HY.out.mono (HC.out _ B1.out).2.2.2))
        have HZY : Hid (w.heap.size + 1 ≤ y.heap.size) := Lib.hid (HC.out _ B2.out).2.2.2
        clear S0 KP D0 L1 HU O1 B1 HY SA HRA hbA HVO HSB
        cases b
        · have HN : Hid (selL f (m + 1) = selL f m) := Lib.hid (by rw [HS.out]; simp)
          clear HS
          go_wp2_with fail
          go_roundw
          case rel => exact ⟨m + 1, by omega, by go_num, by rw [HN.out]; exact O2, B2⟩
          case measure => simp [intOf] <;> omega
        · have HN : Hid (selL f (m + 1) = selL f m ++ [(m : Int)]) := Lib.hid (by rw [HS.out]; simp)
          have hcl := selL_le f m
          have HO1 := Lib.hid (owns_below1 O2.out (bel0 y (.cells #[.int .i64 m] 3)))
          have HNW := Lib.hid (news_one y y.heap.size (.int .i64 m) 3 rfl)
          have HB2 : Hid (w.heap.size + 1 ≤ (y.alloc (.cells #[.int .i64 m] 3)).heap.size) := Lib.hid (by have := HZY.out; simp; omega)
          have HB3 := Lib.hid (B2.out.trans ((bel0 y (.cells #[.int .i64 m] 3)).mono HZY.out))
          clear HS O2 B2
          go_wp2_with (at_builtin; refine wpList_append_lies _ rfl _ _ 28 rfl (w.heap.size + 1) 3 i0 (.int .i64 0) 1 8 Try.underlying28 hi0 hz0 hz1 hz2 rfl (by decide) _ _ _ rfl HO1.out ⟨y.heap.size, 0, none⟩ 1 1 [.int .i64 m] rfl rfl HNW.out (by simp [Value.oneCell']) (by omega) (by unfold maxLen; omega) (by omega) HB2.out (y.heap.size + 1) (by simp) ?_; intro gg cc w2 hown2 hgrow hat hlt2)
          have hbw := (Below.refl (w.heap.size + 1) _).grown hgrow HB2.out (own_ge1 HO1.out)
          have HN2 : Hid (w2.ownsRow (w.heap.size + 1) 3 1 (.slice (some ⟨gg, 0, none⟩) ((selL f m).length + 1) cc) (selL f (m + 1)).length (ivals (selL f (m + 1)))) := Lib.hid (by rw [HN.out, List.length_append]; unfold ivals at hown2 ⊢; rw [List.map_append]; exact hown2)
          have HB4 := Lib.hid (HB3.out.trans hbw)
          clear hown2 hgrow hat hlt2 hbw HO1 HNW
          go_wp2_with fail
          go_roundw
          case rel => exact ⟨m + 1, by omega, by go_num, HN2, HB4⟩
          case measure => simp [intOf] <;> omega
      · obtain rfl : m = 8 := by omega
        have HI := Lib.hid (IntIn.of_owns (zs := selL f 8) hown.out (by have := selL_le f 8; omega))
        clear hown
        go_wp2_with fail
        go_ret
        exact ⟨_, rfl, HI.out.wide (by omega) (Nat.le_refl _), (HC.out _ hbel.out).2.2.1⟩
  · rw [syms_no hb]
    have HB := Lib.hid hb
    clear hb
    go_enter Try.func25, Try.ntmps25
    go_wp2_with fail
    rw [← hG]
    clear hG
    go_loopw [3, 4] (fun q i wr => i = .int .i64 0 ∧ q = .slice (some ⟨w.heap.size + 1, 0, none⟩) 0 0 ∧ Hid (Below (w.heap.size + 1) G wr)) (fun _ _ _ => 0)
    case atStart => exact ⟨rfl, rfl, Lib.hid (Below.refl _ _)⟩
    case round =>
      obtain ⟨rfl, rfl, hbel⟩ := hrel
      obtain ⟨p0, p1⟩ := HP.out _ hbel.out
      go_wp2_with fail
      refine (SpecBlockOk_no lo hi n _ xs _ (HC.out _ hbel.out).1 (HC.out _ hbel.out).2.1 HB.out).mono ?_
      rintro e w1 ⟨rfl, hb1⟩
      go_wp2_with fail
      go_ret
      exact ⟨_, rfl, ⟨by simp, .inl ⟨rfl, _, _, rfl⟩⟩, bel_c (HC.out _ hbel.out).2.2.1 (Nat.le_refl _) hb1⟩
set_option maxRecDepth 100000 in
set_option maxHeartbeats 4000000 in
theorem SpecCSyms_any (lo hi : Nat) (n : Int) (v : Value) (xs : List C3) (w : World) (r : CellIn lo hi w v xs) (hhi : hi ≤ w.heap.size) :
    Calls Try.prog 32 #[.agg #[.int .i64 n, v]] w (FreshI (csymsOf n xs) w) := by
  obtain ⟨i0, hi0, hz0, hz1, hz2⟩ : ∃ i, Try.prog.info? 3 = some i ∧ i.zero = some (.int .i64 0) ∧ i.size = 1 ∧ i.bytes = 8 := info_parts3 info_int
  obtain ⟨a, cap, rfl⟩ := r.form
  have HR := Lib.hid (fun W (hb : Below w.heap.size w W) => r.below (hb.mono hhi))
  clear r
  obtain ⟨G, hG⟩ : ∃ G, G = (w.alloc (.cells #[.int .i64 n, .slice a xs.length cap] 26)).alloc (.cells #[] 3) := ⟨_, rfl⟩
  have HBG : Hid (Below w.heap.size w G ∧ G.heap.size = w.heap.size + 1 + 1) := Lib.hid (by rw [hG]; exact ⟨bel_n (bel0 _ _) (Nat.le_refl _) _, by simp⟩)
  have HO : Hid (G.ownsRow (w.heap.size + 1) 3 1 (.slice (some ⟨w.heap.size + 1, 0, none⟩) 0 0) 0 []) := Lib.hid (by rw [hG]; exact own_new1 (w.alloc (.cells #[.int .i64 n, .slice a xs.length cap] 26)) (w.heap.size + 1) 3 (by simp))
  have HP : Hid (∀ W, Below (w.heap.size + 1) G W → W.cell? ⟨w.heap.size, 0, none⟩ = some (.int .i64 n) ∧ W.cell? ⟨w.heap.size, 1, none⟩ = some (.slice a xs.length cap)) := Lib.hid (fun W hb => by
    have h : Two w.heap.size (.int .i64 n) (.slice a xs.length cap) G := by rw [hG]; exact (Two.new w _ _ _).keep (bel0 _ _)
    exact ⟨(hb.cell (p := ⟨w.heap.size, 0, none⟩) (Nat.lt_succ_self _)).trans h.1, (hb.cell (p := ⟨w.heap.size, 1, none⟩) (Nat.lt_succ_self _)).trans h.2⟩)
  have HC : Hid (∀ u, Below (w.heap.size + 1) G u → CellIn lo hi u (.slice a xs.length cap) xs ∧ hi ≤ u.heap.size ∧ Below w.heap.size w u ∧ w.heap.size + 1 ≤ u.heap.size) := Lib.hid (fun u h => by
    have hu := HBG.out.1.trans (h.mono (Nat.le_succ _))
    have h1 := HBG.out.2
    have h2 := h.size
    exact ⟨HR.out _ hu, by omega, hu, by omega⟩)
  by_cases hb : BlkOk n xs
  · rw [csyms_yes hb]
    have HB := Lib.hid hb
    obtain ⟨f, hf⟩ : ∃ f, cstab n xs = f := ⟨_, rfl⟩
    have HE : Hid (∀ k, sameB n n (plainL (seeL n k xs)) (plainL xs) = f k) := Lib.hid (fun k => by rw [← hf]; rfl)
    rw [hf]
    clear hf hb
    go_enter Try.func32, Try.ntmps32
    go_wp2_with fail
    rw [← hG]
    clear hG
    go_loopw [3, 4] (fun q i wr => ∃ (m : Nat), m ≤ 8 ∧ i = .int .i64 m ∧ Hid (wr.ownsRow (w.heap.size + 1) 3 1 q (selL f m).length (ivals (selL f m))) ∧ Hid (Below (w.heap.size + 1) G wr)) (fun _ i _ => 8 - (intOf i).toNat)
    case atStart => exact ⟨0, Nat.zero_le _, rfl, HO, Lib.hid (Below.refl _ _)⟩
    case round =>
      obtain ⟨m, hm, rfl, hown, hbel⟩ := hrel
      by_cases hlt : m < 8
      · obtain ⟨p0, p1⟩ := HP.out _ hbel.out
        have hlt' : (m : Int) < 8 := by omega
        go_wp2_with fail
        refine (SpecBlockOk_yes lo hi n _ xs _ (HC.out _ hbel.out).1 (HC.out _ hbel.out).2.1 HB.out).mono ?_
        rintro e w1 ⟨rfl, hb1⟩
        have O1 := Lib.hid (owns_below1 hown.out hb1)
        have B1 := Lib.hid (hbel.out.trans (hb1.mono (HC.out _ hbel.out).2.2.2))
        clear p0 p1 hown hbel hb1
        generalize w1 = wr at O1 B1 ⊢
        obtain ⟨p0, p1⟩ := HP.out _ B1.out
        go_upto_region 5 with fail
        have D0 : Below wr.heap.size wr wr.drew := ⟨rfl, rfl, rfl, Nat.le_refl _, fun _ _ => rfl⟩
        have KP : ∀ u v, Below u.heap.size u v → (u.cell? ⟨w.heap.size, 0, none⟩ = some (.int .i64 n) ∧ u.cell? ⟨w.heap.size, 1, none⟩ = some (.slice a xs.length cap) ∧ Below wr.heap.size wr u) → (v.cell? ⟨w.heap.size, 0, none⟩ = some (.int .i64 n) ∧ v.cell? ⟨w.heap.size, 1, none⟩ = some (.slice a xs.length cap) ∧ Below wr.heap.size wr v) := fun u v hb h => ⟨kept hb h.1, kept hb h.2.1, bel_c h.2.2 (Nat.le_refl _) hb⟩
        have HU : Hid (∀ u, (u.cell? ⟨w.heap.size, 0, none⟩ = some (.int .i64 n) ∧ u.cell? ⟨w.heap.size, 1, none⟩ = some (.slice a xs.length cap) ∧ Below wr.heap.size wr u) → CellIn lo hi u (.slice a xs.length cap) xs ∧ hi ≤ u.heap.size) := Lib.hid (fun u h => by
          have := HC.out u (B1.out.trans (h.2.2.mono (HC.out _ B1.out).2.2.2))
          exact ⟨this.1, this.2.1⟩)
        have S0 : wr.drew.cell? ⟨w.heap.size, 0, none⟩ = some (.int .i64 n) ∧ wr.drew.cell? ⟨w.heap.size, 1, none⟩ = some (.slice a xs.length cap) ∧ Below wr.heap.size wr wr.drew := ⟨kept D0 p0, kept D0 p1, D0⟩
        obtain ⟨vk, hvk⟩ : ∃ vk, seeL n m xs = vk := ⟨_, rfl⟩
        obtain ⟨b, hbb⟩ : ∃ b, f m = b := ⟨_, rfl⟩
        have HVO : Hid (BlkOk n vk) := Lib.hid (hvk ▸ seeL_ok HB.out)
        have L1 := Lib.hid (fun (u : World) (h : u.cell? ⟨w.heap.size, 0, none⟩ = some (.int .i64 n) ∧ u.cell? ⟨w.heap.size, 1, none⟩ = some (.slice a xs.length cap) ∧ Below wr.heap.size wr u) => SpecSeeY lo hi n m (m : Int) _ xs vk u (HU.out u h).1 (HU.out u h).2 HB.out rfl (by omega) hvk)
        obtain ⟨pk, hpk⟩ : ∃ pk, plainL vk = pk := ⟨_, rfl⟩
        obtain ⟨px, hpx⟩ : ∃ px, plainL xs = px := ⟨_, rfl⟩
        have HSB : Hid (sameB n n pk px = b) := Lib.hid (by rw [← hpk, ← hpx, ← hvk, HE.out, hbb])
        have C1 := Lib.hid (fun (u : World) (l h : Nat) (v : Value) (r : CellIn l h u v vk) (hh : h ≤ u.heap.size) => SpecPlain_yes l h n v vk u r hh HVO.out)
        have C2 := Lib.hid (fun (u : World) (h : u.cell? ⟨w.heap.size, 0, none⟩ = some (.int .i64 n) ∧ u.cell? ⟨w.heap.size, 1, none⟩ = some (.slice a xs.length cap) ∧ Below wr.heap.size wr u) => SpecPlain_yes lo hi n _ xs u (HU.out u h).1 (HU.out u h).2 HB.out)
        rw [hpk] at C1
        rw [hpx] at C2
        clear hpk hpx
        have HS := Lib.hid (selL_succ f m)
        rw [hbb] at HS
        clear p0 p1 hvk hbb
        try simp only [List.append_eq, List.cons_append, List.nil_append]
        have hS := S0
        refine reg_begin (fun w' => w'.cell? ⟨w.heap.size, 0, none⟩ = some (.int .i64 n) ∧ w'.cell? ⟨w.heap.size, 1, none⟩ = some (.slice a xs.length cap) ∧ Below wr.heap.size wr w') (by kernel_rfl) hS ?_
        refine reg_take 0 (v := ?_) rfl (by kernel_rfl) (by kernel_rfl) (by kernel_rfl) (fun _ _ _ h => h) (by rfl) (by intro w hSw; (try dsimp only at hSw); go_simp; first | done | with_reducible rfl) hS ?_
        simp only [Act.put, List.setIfInBounds_toArray, List.set_cons_zero, List.set_cons_succ]
        refine reg_take 1 (v := ?_) rfl (by kernel_rfl) (by kernel_rfl) (by kernel_rfl) (fun _ _ _ h => h) (by rfl) (by intro w hSw; (try dsimp only at hSw); go_simp; first | done | with_reducible rfl) hS ?_
        simp only [Act.put, List.setIfInBounds_toArray, List.set_cons_zero, List.set_cons_succ]
        refine reg_take 4 (v := ?_) rfl (by kernel_rfl) (by kernel_rfl) (by kernel_rfl) (fun _ _ _ h => h) (by rfl) (by intro w hSw; (try dsimp only at hSw); go_simp; first | done | with_reducible rfl) hS ?_
        simp only [Act.put, List.setIfInBounds_toArray, List.set_cons_zero, List.set_cons_succ]
        refine reg_call 2 rfl (by kernel_rfl) (by rfl) (fun K hK => ?_)
        go_simp
        go_at_call 17
        refine (args_eq (L1.out _ hS) (by with_reducible rfl)).mono ?_
        rintro e yA ⟨vA, rfl, RA, hb⟩
        obtain ⟨aA, cA, rfl⟩ := RA.form
        have HRA := Lib.hid (fun v (hv : Below yA.heap.size yA v) => RA.below (hv.mono (Nat.le_refl _)))
        have hbA := hb
        clear RA
        refine hK.out _ _ (KP _ _ hb hS) (fun hS' => ?_)
        clear hK K hS
        have hS := hS'
        clear hS' hb
        try simp only [Act.put, List.setIfInBounds_toArray, List.set_cons_zero, List.set_cons_succ]
        refine reg_call 3 rfl (by kernel_rfl) (by rfl) (fun K hK => ?_)
        go_simp
        go_at_call 61
        refine (args_eq (C1.out yA _ _ _ (HRA.out _ (Below.refl _ _)) (Nat.le_refl _)) (by with_reducible rfl)).mono ?_
        rintro e yB ⟨vB, rfl, RB, hb⟩
        obtain ⟨aB, cB, rfl⟩ := RB.form
        have HRB := Lib.hid (fun v (hv : Below yB.heap.size yB v) => RB.below (hv.mono (Nat.le_refl _)))
        have hbB := hb
        clear RB
        refine hK.out _ _ (KP _ _ hb hS) (fun hS' => ?_)
        clear hK K hS
        have hS := hS'
        clear hS' hb
        try simp only [Act.put, List.setIfInBounds_toArray, List.set_cons_zero, List.set_cons_succ]
        refine reg_call 5 rfl (by kernel_rfl) (by rfl) (fun K hK => ?_)
        go_simp
        go_at_call 61
        refine (args_eq (C2.out yB hS) (by with_reducible rfl)).mono ?_
        rintro e yC ⟨vC, rfl, RC, hb⟩
        obtain ⟨aC, cC, rfl⟩ := RC.form
        have HRC := Lib.hid (fun v (hv : Below yC.heap.size yC v) => RC.below (hv.mono (Nat.le_refl _)))
        have hbC := hb
        clear RC
        refine hK.out _ _ (KP _ _ hb hS) (fun hS' => ?_)
        clear hK K hS
        have hS := hS'
        clear hS' hb
        try simp only [Act.put, List.setIfInBounds_toArray, List.set_cons_zero, List.set_cons_succ]
        refine reg_call 6 rfl (by kernel_rfl) (by rfl) (fun K hK => ?_)
        go_simp
        go_at_call 53
        refine (args_eq (SpecSameN _ _ _ _ n _ _ pk px b yC (HRB.out _ hbC) (HRC.out _ (Below.refl _ _)) hbC.size (Nat.le_refl _) HSB.out) (by with_reducible rfl)).mono ?_
        rintro e y ⟨rfl, hb⟩
        refine hK.out _ _ (KP _ _ hb hS) (fun hS' => ?_)
        clear hK K hS
        have hS := hS'
        clear hS' hb
        try simp only [Act.put, List.setIfInBounds_toArray, List.set_cons_zero, List.set_cons_succ]
        refine wpAnyH_done (by kernel_rfl) ?_ _
        have HY := Lib.hid (show y.cell? ⟨w.heap.size, 0, none⟩ = some (.int .i64 n) ∧ y.cell? ⟨w.heap.size, 1, none⟩ = some (.slice a xs.length cap) ∧ Below wr.heap.size wr y by assumption).2.2
        have O2 := Lib.hid (owns_below1 O1.out HY.out)
        have B2 := Lib.hid (B1.out.trans (HY.out.mono (HC.out _ B1.out).2.2.2))
        have HZY : Hid (w.heap.size + 1 ≤ y.heap.size) := Lib.hid (HC.out _ B2.out).2.2.2
        clear S0 KP D0 L1 HU O1 B1 HY hS HRA HRB HRC hbA hbB hbC HVO HSB C1 C2
        cases b
        · have HN : Hid (selL f (m + 1) = selL f m) := Lib.hid (by rw [HS.out]; simp)
          clear HS
          go_wp2_with fail
          go_roundw
          case rel => exact ⟨m + 1, by omega, by go_num, by rw [HN.out]; exact O2, B2⟩
          case measure => simp [intOf] <;> omega
        · have HN : Hid (selL f (m + 1) = selL f m ++ [(m : Int)]) := Lib.hid (by rw [HS.out]; simp)
          have hcl := selL_le f m
          have HO1 := Lib.hid (owns_below1 O2.out (bel0 y (.cells #[.int .i64 m] 3)))
          have HNW := Lib.hid (news_one y y.heap.size (.int .i64 m) 3 rfl)
          have HB2 : Hid (w.heap.size + 1 ≤ (y.alloc (.cells #[.int .i64 m] 3)).heap.size) := Lib.hid (by have := HZY.out; simp; omega)
          have HB3 := Lib.hid (B2.out.trans ((bel0 y (.cells #[.int .i64 m] 3)).mono HZY.out))
          clear HS O2 B2
          go_wp2_with (at_builtin; refine wpList_append_lies _ rfl _ _ 28 rfl (w.heap.size + 1) 3 i0 (.int .i64 0) 1 8 Try.underlying28 hi0 hz0 hz1 hz2 rfl (by decide) _ _ _ rfl HO1.out ⟨y.heap.size, 0, none⟩ 1 1 [.int .i64 m] rfl rfl HNW.out (by simp [Value.oneCell']) (by omega) (by unfold maxLen; omega) (by omega) HB2.out (y.heap.size + 1) (by simp) ?_; intro gg cc w2 hown2 hgrow hat hlt2)
          have hbw := (Below.refl (w.heap.size + 1) _).grown hgrow HB2.out (own_ge1 HO1.out)
          have HN2 : Hid (w2.ownsRow (w.heap.size + 1) 3 1 (.slice (some ⟨gg, 0, none⟩) ((selL f m).length + 1) cc) (selL f (m + 1)).length (ivals (selL f (m + 1)))) := Lib.hid (by rw [HN.out, List.length_append]; unfold ivals at hown2 ⊢; rw [List.map_append]; exact hown2)
          have HB4 := Lib.hid (HB3.out.trans hbw)
          clear hown2 hgrow hat hlt2 hbw HO1 HNW
          go_wp2_with fail
          go_roundw
          case rel => exact ⟨m + 1, by omega, by go_num, HN2, HB4⟩
          case measure => simp [intOf] <;> omega
      · obtain rfl : m = 8 := by omega
        have HI := Lib.hid (IntIn.of_owns (zs := selL f 8) hown.out (by have := selL_le f 8; omega))
        clear hown
        go_wp2_with fail
        go_ret
        exact ⟨_, rfl, HI.out.wide (by omega) (Nat.le_refl _), (HC.out _ hbel.out).2.2.1⟩
  · rw [csyms_no hb]
    have HB := Lib.hid hb
    clear hb
    go_enter Try.func32, Try.ntmps32
    go_wp2_with fail
    rw [← hG]
    clear hG
    go_loopw [3, 4] (fun q i wr => i = .int .i64 0 ∧ q = .slice (some ⟨w.heap.size + 1, 0, none⟩) 0 0 ∧ Hid (Below (w.heap.size + 1) G wr)) (fun _ _ _ => 0)
    case atStart => exact ⟨rfl, rfl, Lib.hid (Below.refl _ _)⟩
    case round =>
      obtain ⟨rfl, rfl, hbel⟩ := hrel
      obtain ⟨p0, p1⟩ := HP.out _ hbel.out
      go_wp2_with fail
      refine (SpecBlockOk_no lo hi n _ xs _ (HC.out _ hbel.out).1 (HC.out _ hbel.out).2.1 HB.out).mono ?_
      rintro e w1 ⟨rfl, hb1⟩
      go_wp2_with fail
      go_ret
      exact ⟨_, rfl, ⟨by simp, .inl ⟨rfl, _, _, rfl⟩⟩, bel_c (HC.out _ hbel.out).2.2.1 (Nat.le_refl _) hb1⟩

end Go.Proofs.Ytbnokmlmajcibaa

namespace Go.Proofs.Ytbnokmlmajcibaa
open Go.ChangeShapes Go.WideShapes Go.ChangeAt Go.RowKit

theorem IntIn.within {lo hi l2 h2 : Nat} {u w : World} {v : Value} {zs : List Int} (r : IntIn l2 h2 u v zs) (h : Within lo hi u w) (ho : h2 ≤ lo ∨ hi ≤ l2) (hh : h2 ≤ u.heap.size) : IntIn l2 h2 w v zs := by
  obtain ⟨hl, r | ⟨g, cap, hv, hg, hlt, hc⟩⟩ := r
  · exact ⟨hl, .inl r⟩
  · refine ⟨hl, .inr ⟨g, cap, hv, hg, hlt, fun i hi => ?_⟩⟩
    have hb : w.heap[g]? = u.heap[g]? := h.block g (by omega) (by omega)
    exact ⟨(World.cell?_of_block (w := u) hb).trans (hc i hi).1, (World.frozen?_of_block (w := u) hb).trans (hc i hi).2⟩

set_option maxHeartbeats 400000 in
theorem EqIntS_any (l1 h1 l2 h2 : Nat) (v1 v2 : Value) (zs : List Int) (w : World) (r1 : IntIn l1 h1 w v1 zs) (r2 : IntIn l2 h2 w v2 zs) (hh1 : h1 ≤ w.heap.size) (hh2 : h2 ≤ w.heap.size) :
    Calls Try.prog 27 #[v1, v2] w fun e w' => e = .returned (.bool true) ∧ Below w.heap.size w w' := by
  obtain ⟨a1, c1, rfl⟩ := r1.form
  obtain ⟨a2, c2, rfl⟩ := r2.form
  have R1 := Lib.hid r1
  have R2 := Lib.hid r2
  have hl := r1.1
  clear r1 r2
  go_enter Try.func27, Try.ntmps27
  go_wp2_with fail
  go_loopw [5] (fun i wr => ∃ k : Nat, k ≤ zs.length ∧ i = .int .i64 k ∧ Hid (Below w.heap.size w wr)) (fun i _ => zs.length - (intOf i).toNat)
  case atStart => exact ⟨0, Nat.zero_le _, rfl, Below.refl _ _⟩
  case round =>
    obtain ⟨k, hk, rfl, hbel⟩ := hrel
    by_cases hlt : k < zs.length
    · obtain ⟨g1, rfl, _, _, e0, _⟩ := R1.out.at (hbel.out.mono hh1) hlt
      obtain ⟨g2, rfl, _, _, d0, _⟩ := R2.out.at (hbel.out.mono hh2) hlt
      generalize zs.getD k 0 = c at e0 d0
      go_wp2_with fail
      go_quiet (fail)
      go_wp2_with fail
      go_roundw
      case rel => exact ⟨k + 1, by omega, by go_num, Lib.hid ⟨hbel.out.os, hbel.out.tape, hbel.out.output, hbel.out.size, hbel.out.block⟩⟩
      case measure => simp [intOf] <;> omega
    · obtain rfl : k = zs.length := by omega
      go_wp2_with fail
      go_ret
      exact ⟨rfl, hbel.out⟩

set_option maxHeartbeats 400000 in
theorem MarkIntS_any (lo hi : Nat) (v : Value) (zs : List Int) (k : Nat) (w : World) (r : IntIn lo hi w v zs) (hk1 : k ≤ 100000000) :
    Calls Try.prog 30 #[v, .int .i64 k] w fun e w' => e = .returned (.int .i64 ((k + zs.length : Nat) : Int)) ∧ IntIn lo hi w' v (markI k zs.length) ∧ Within lo hi w w' := by
  obtain ⟨a1, c1, rfl⟩ := r.form
  have R := Lib.hid r
  have hl := r.1
  clear r
  go_enter Try.func30, Try.ntmps30
  go_wp2_with fail
  go_loopw [1, 5] (fun q i wr => ∃ (m : Nat) (ys : List Int), m ≤ zs.length ∧ i = .int .i64 m ∧ q = .int .i64 ((k + m : Nat) : Int) ∧ Hid (UpToI m (markI k zs.length) ys) ∧ Hid (IntIn lo hi wr (.slice a1 zs.length c1) ys) ∧ Within lo hi w wr) (fun _ i _ => zs.length - (intOf i).toNat)
  case atStart => exact ⟨0, zs, Nat.zero_le _, rfl, rfl, ⟨by simp [markI], fun i hi => by omega⟩, R.out, Within.refl _ _ _⟩
  case round =>
    obtain ⟨m, ys, hm, rfl, rfl, hup, hin, hbel⟩ := hrel
    by_cases hlt : m < zs.length
    · have hyl : ys.length = zs.length := by have := hup.out.1; rw [markI_length] at this; exact this
      obtain ⟨g, rfl, hg, hg1, e0, f0⟩ := hin.out.at (Below.refl _ _) (i := m) (by omega)
      have HN := Lib.hid (hin.out.set m (by omega) ((k + m : Nat) : Int))
      have HU := Lib.hid (hup.out.set (c := ((k + m : Nat) : Int)) (by rw [markI_length]; exact hlt) (markI_at hlt).symm)
      have HB := Lib.hid (Within.setCell hbel (p := ⟨g, m, none⟩) hg hg1 (.int .i64 ((k + m : Nat) : Int)))
      generalize ys.getD m 0 = y at e0
      clear hbel hup hin
      go_wp2_with fail
      go_roundw
      case rel => exact ⟨m + 1, _, by omega, by go_num, by go_num, HU, HN, HB.out⟩
      case measure => simp [intOf] <;> omega
    · obtain rfl : m = zs.length := by omega
      go_wp2_with fail
      go_ret
      refine ⟨rfl, ?_, hbel⟩
      have h1 := hup.out
      have h2 : ys = markI k zs.length := UpToI.all (by rw [markI_length]; exact h1)
      rw [← h2]; exact hin.out

set_option maxHeartbeats 400000 in
theorem HeldIntS_any (lo hi : Nat) (v : Value) (n k : Nat) (w : World) (r : IntIn lo hi w v (markI k n)) (hk1 : k ≤ 100000000) :
    Calls Try.prog 31 #[v, .int .i64 k] w fun e w' => e = .returned (.int .i64 ((k + n : Nat) : Int)) ∧ w' = w := by
  have hl := r.1
  have hf := r.form
  rw [markI_length] at hl hf
  obtain ⟨a1, c1, rfl⟩ := hf
  have R := Lib.hid r
  clear r
  go_enter Try.func31, Try.ntmps31
  go_wp2_with fail
  go_loop [1, 5] (fun q i => ∃ m : Nat, m ≤ n ∧ i = .int .i64 m ∧ q = .int .i64 ((k + m : Nat) : Int)) (fun _ i => n - (intOf i).toNat)
  case atStart => exact ⟨0, Nat.zero_le _, rfl, rfl⟩
  case round =>
    obtain ⟨m, hm, rfl, rfl⟩ := hrel
    by_cases hlt : m < n
    · obtain ⟨g, rfl, _, _, e0, _⟩ := R.out.at (Below.refl _ _) (i := m) (by rw [markI_length]; exact hlt)
      rw [markI_at hlt] at e0
      go_wp2_with fail
      go_round
      case rel => exact ⟨m + 1, by omega, by go_num, by go_num⟩
      case measure => simp [intOf] <;> omega
    · obtain rfl : m = n := by omega
      go_wp2_with fail
      go_ret
      exact ⟨rfl, rfl⟩

end Go.Proofs.Ytbnokmlmajcibaa
