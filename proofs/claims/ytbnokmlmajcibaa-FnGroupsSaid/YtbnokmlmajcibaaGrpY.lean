/- Symmetries: the walk of FnGroups. -/
import Derived.Test.YtbnokmlmajcibaaM21
import Derived.Test.YtbnokmlmajcibaaM20
import Derived.Test.YtbnokmlmajcibaaM22
import Derived.Test.YtbnokmlmajcibaaM10
import Derived.Test.YtbnokmlmajcibaaM24
import Derived.Test.YtbnokmlmajcibaaM15
import Derived.Test.YtbnokmlmajcibaaM11
import Derived.Deep.DeepCutAuto
import Derived.Deep.RegionHeld3

namespace Go.Proofs.Ytbnokmlmajcibaa
open Go.ChangeShapes Go.WideShapes Go.ChangeAt Go.RowKit

theorem SameKs (l1 h1 l2 h2 : Nat) (n : Int) (v1 v2 : Value) (xs : List C3) (u : World) (r1 : Rk l1 h1 v1 xs u) (r2 : Rk l2 h2 v2 xs u) :
    Calls Try.prog 16 #[.agg #[.int .i64 n, v1], .agg #[.int .i64 n, v2]] u fun e w' => e = .returned (.bool true) ∧ Below u.heap.size u w' := by
  have := ImplSame_any l1 h1 l2 h2 n n v1 v2 xs xs u r1.1 r2.1 r1.2 r2.2
  rw [sameB_yes] at this
  exact this
theorem SymsKs (lo hi : Nat) (n : Int) (v : Value) (xs : List C3) (zs : List Int) (u : World) (r : Rk lo hi v xs u) (e : symsOf n xs = zs) :
    Calls Try.prog 12 #[.agg #[.int .i64 n, v]] u (FreshI zs u) := by
  have := ImplSyms_any lo hi n v xs u r.1 r.2
  rw [e] at this
  exact this
theorem CSymsKs (lo hi : Nat) (n : Int) (v : Value) (xs : List C3) (zs : List Int) (u : World) (r : Rk lo hi v xs u) (e : csymsOf n xs = zs) :
    Calls Try.prog 13 #[.agg #[.int .i64 n, v]] u (FreshI zs u) := by
  have := ImplCSyms_any lo hi n v xs u r.1 r.2
  rw [e] at this
  exact this
theorem FormsKs (lo hi : Nat) (n c : Int) (v : Value) (xs : List C3) (u : World) (r : Rk lo hi v xs u) (e : forms n xs = c) :
    Calls Try.prog 21 #[.agg #[.int .i64 n, v]] u fun e w' => e = .returned (.int .i64 c) ∧ Below u.heap.size u w' := by
  have := SpecCountForms_any lo hi n v xs u r.1 r.2
  rw [e] at this
  exact this
theorem MirrKs (lo hi : Nat) (n : Int) (v : Value) (xs : List C3) (zs : List Int) (b : Bool) (u : World) (r : Rk lo hi v xs u) (h : symsOf n xs = zs) (e : mirrI zs = b) :
    Calls Try.prog 22 #[.agg #[.int .i64 n, v]] u fun e w' => e = .returned (.bool b) ∧ Below u.heap.size u w' := by
  have := ImplMirr_any lo hi n v xs u r.1 r.2
  rw [h, e] at this
  exact this
theorem ClosedKs (lo hi : Nat) (v : Value) (zs : List Int) (b : Bool) (u : World) (r : Ik lo hi v zs u) (e : closedB zs = b) :
    Calls Try.prog 20 #[v] u fun e w' => e = .returned (.bool b) ∧ Below u.heap.size u w' := by
  have := ImplClosed_any lo hi v zs u r.1.o r.2
  rw [e] at this
  exact this
theorem ProdKs (x y z : Int) (u : World) (e : prodI x y = z) :
    Calls Try.prog 15 #[.int .i64 x, .int .i64 y] u fun e w' => e = .returned (.int .i64 z) ∧ Below u.heap.size u w' := by
  refine (ImplProd_any x y u).mono ?_
  rintro e0 w' ⟨rfl, rfl⟩
  exact ⟨by rw [e], Below.refl _ _⟩
theorem InvKs (x z : Int) (u : World) (e : invI x = z) :
    Calls Try.prog 18 #[.int .i64 x] u fun e w' => e = .returned (.int .i64 z) ∧ Below u.heap.size u w' := by
  refine (ImplInv_any x u).mono ?_
  rintro e0 w' ⟨rfl, rfl⟩
  exact ⟨by rw [e], Below.refl _ _⟩
theorem lit2 (W : World) (x0 x1 : Int) (T : TypeId) : IntIn W.heap.size (W.heap.size + 1) (W.alloc (.cells #[.int .i64 x0, .int .i64 x1] T)) (.slice (some ⟨W.heap.size, 0, none⟩) 2 2) [x0, x1] :=
  ⟨by simp, .inr ⟨W.heap.size, 2, rfl, Nat.le_refl _, Nat.lt_succ_self _, fun i hi => by
    have : i = 0 ∨ i = 1 := by simp at hi; omega
    rcases this with rfl | rfl <;> exact ⟨by simp, by simp⟩⟩⟩

set_option maxRecDepth 100000 in
set_option maxHeartbeats 40000000 in
theorem GroupsLaw_walk (a : Option Addr) (len cap : Nat) (w : World) (hs : Src w w.heap.size a len) :
    Calls Try.prog 3 #[.slice a len cap] w fun e w' => e = .returned (.bool true) ∧ Below w.heap.size w w' := by
  have HS := Lib.hid (fun W (h : Below w.heap.size w W) => (hs.but (But.of_below h)).up2 h.size)
  obtain ⟨hm, hsrc⟩ := hs
  have hl : len ≤ 9223372036854775807 := by unfold maxLen at hm; omega
  clear hm hsrc
  by_cases hb0 : len ≤ 1048576
  · go_enter Try.func3, Try.ntmps3
    go_wp2_with fail
    refine (Big_no a len cap w hb0).mono ?_
    rintro e w' ⟨rfl, rfl⟩
    go_wp2_with fail
    refine (DrawBlock_any a len cap w (HS.out _ (Below.refl _ _)) hb0).mono ?_
    rintro e w1 ⟨n, v, xs, hok, rfl, R0, B⟩
    obtain ⟨av3, cv3, rfl⟩ := R0.form
    have HK := Lib.hid hok
    have K : Kp w [Rk w.heap.size w1.heap.size (.slice av3 xs.length cv3) xs] w1 := (Kp.nil B).cons fun _ hv => Rk.keep ⟨R0, Nat.le_refl _⟩ hv
    clear hok R0 B
    have K := K.two (.int .i64 n) (.slice av3 xs.length cv3) 26
    obtain ⟨ls, hls⟩ : ∃ ls, symsOf n xs = ls := ⟨_, rfl⟩
    obtain ⟨lc, hlc⟩ : ∃ lc, csymsOf n xs = lc := ⟨_, rfl⟩
    obtain ⟨c, hc⟩ : ∃ c : Int, forms n xs = c := ⟨_, rfl⟩
    have HNUM : Hid (closedB ls = true ∧ closedB lc = true ∧ (∀ z ∈ ls, z ∈ lc) ∧ (ls.length : Int) * c = 8 ∧ 0 < ls.length ∧ ls.length ≤ 8 ∧ mirrI ls = decide (4 ≤ ls.getD (ls.length - 1) 0)) := Lib.hid (by
      have h1 := hls
      have h2 := hlc
      rw [syms_yes HK.out] at h1
      rw [csyms_yes HK.out] at h2
      have h8 : (ls.length : Int) * c = 8 := by
        have := forms_eight HK.out
        rw [← hc, forms_yes HK.out, ← h1, selL_len, Int.mul_comm]
        exact_mod_cast this
      have hp : 0 < ls.length := by
        rcases Nat.eq_zero_or_pos ls.length with e | e
        · rw [e] at h8; simp at h8
        · exact e
      refine ⟨h1 ▸ closed_sel (stab_ok HK.out), h2 ▸ closed_sel (cstab_ok HK.out), ?_, h8, hp, h1 ▸ selL_le _ _, ?_⟩
      · intro z hz
        rw [← h1] at hz
        rw [← h2]
        obtain ⟨d, hd, hf, rfl⟩ := selL_mem.1 hz
        exact selL_mem.2 ⟨d, hd, stab_cstab hf, rfl⟩
      · have := mirr_syms n xs
        rw [hls] at this
        rw [this]
        unfold lastI
        rw [decide_eq_true hp, Bool.true_and])
    have HLS := Lib.hid hls
    have HLC := Lib.hid hlc
    have HC := Lib.hid hc
    clear hls hlc hc
    obtain ⟨c_P30, c_P31⟩ := (K.get 0 rfl)
    go_wp2_with fail
    clear c_P30 c_P31
    refine (SymsKs _ _ n _ xs ls _ (K.get 1 rfl) HLS.out).mono ?_
    rintro e w2 ⟨v4, rfl, R, hb⟩
    obtain ⟨av4, cv4, rfl⟩ := R.form
    have K := K.ints hb R
    clear hb R
    obtain ⟨c_P30, c_P31⟩ := (K.get 1 rfl)
    go_wp2_with fail
    clear c_P30 c_P31
    refine (CSymsKs _ _ n _ xs lc _ (K.get 2 rfl) HLC.out).mono ?_
    rintro e w3 ⟨v5, rfl, R, hb⟩
    obtain ⟨av5, cv5, rfl⟩ := R.form
    have K := K.ints hb R
    clear hb R
    go_wp2_with fail
    refine (At_any a len cap 0 _ _ (HS.out _ K.1) (by omega) (by omega)).mono ?_
    rintro e uu ⟨i0, i0a, i0b, rfl, huu⟩
    subst uu
    have ic : 0 ≤ i0 % 8 ∧ i0 % 8 ≤ 7 := by omega
    go_wp2_with fail
    generalize i0 % 8 = iz at *
    obtain ⟨i, hiz, i8⟩ := nat8 ic
    subst hiz
    clear ic i0a i0b
    go_wp2_with fail
    refine (At_any a len cap 1 _ _ (HS.out _ K.1) (by omega) (by omega)).mono ?_
    rintro e uu ⟨k0, k0a, k0b, rfl, huu⟩
    subst uu
    have kc : 0 ≤ k0 % 8 ∧ k0 % 8 ≤ 7 := by omega
    go_wp2_with fail
    generalize k0 % 8 = kz at *
    obtain ⟨k, hkz, k8⟩ := nat8 kc
    subst hkz
    clear kc k0a k0b
    go_wp2_with fail
    refine (At_any a len cap 2 _ _ (HS.out _ K.1) (by omega) (by omega)).mono ?_
    rintro e uu ⟨m0, m0a, m0b, rfl, huu⟩
    subst uu
    have mc : 0 ≤ m0 % 8 ∧ m0 % 8 ≤ 7 := by omega
    go_wp2_with fail
    generalize m0 % 8 = mz at *
    obtain ⟨m, hmz, m8⟩ := nat8 mc
    subst hmz
    clear mc m0a m0b
    obtain ⟨p, hp⟩ : ∃ p, mulV i k = p := ⟨_, rfl⟩
    obtain ⟨q, hq⟩ : ∃ q, mulV p m = q := ⟨_, rfl⟩
    obtain ⟨t, ht⟩ : ∃ t, mulV k m = t := ⟨_, rfl⟩
    obtain ⟨j, hj⟩ : ∃ j, invV i = j := ⟨_, rfl⟩
    have p8 : p < 8 := hp ▸ mulV_lt i8 k8
    have t8 : t < 8 := ht ▸ mulV_lt k8 m8
    have hI := invV_all ⟨i, i8⟩
    simp only at hI
    have j8 : j < 8 := hj ▸ hI.2.2.1
    have H1 : Hid (prodI i k = (p : Nat)) := Lib.hid (by rw [prod_yes i8 k8, hp])
    have H2 : Hid (prodI p m = (q : Nat)) := Lib.hid (by rw [prod_yes p8 m8, hq])
    have H3 : Hid (prodI k m = (t : Nat)) := Lib.hid (by rw [prod_yes k8 m8, ht])
    have H4 : Hid (prodI i t = (q : Nat)) := Lib.hid (by rw [prod_yes i8 t8, ← ht, ← mulV_assoc ⟨i, i8⟩ ⟨k, k8⟩ ⟨m, m8⟩]; simp only; rw [hp, hq])
    have H5 : Hid (invI i = (j : Nat)) := Lib.hid (by unfold invI; rw [if_pos (by omega), Int.toNat_natCast, hj])
    have H6 : Hid (prodI i j = 0) := Lib.hid (by rw [prod_yes i8 j8, ← hj, hI.1]; rfl)
    have H7 : Hid (prodI i 0 = (i : Nat)) := Lib.hid (by have := prod_yes i8 (show 0 < 8 by omega); rw [mulV_zero ⟨i, i8⟩] at this; exact this)
    obtain ⟨sa, hsa⟩ : ∃ sa, seeL n i xs = sa := ⟨_, rfl⟩
    obtain ⟨sb, hsb⟩ : ∃ sb, seeL n k sa = sb := ⟨_, rfl⟩
    have HSA := Lib.hid hsa
    have HSB := Lib.hid hsb
    have HSAO : Hid (BlkOk n sa) := Lib.hid (hsa ▸ seeL_ok HK.out)
    have HSC : Hid (seeL n p xs = sb) := Lib.hid (by rw [← hp, ← see_mul HK.out, hsa, hsb])
    have pa : ¬ (p : Int) < 0 := by omega
    have pb : ¬ 7 < (p : Int) := by omega
    clear hp hq ht hj hI hsa hsb
    go_wp2_with fail
    refine (ProdKs _ _ _ _ H1.out).mono ?_
    rintro e w4 ⟨rfl, hb⟩
    have K := K.keep hb
    clear hb
    go_upto_region 10 with fail
    have KP : ∀ u v, Below u.heap.size u v → (u.cell? ⟨w1.heap.size, 0, none⟩ = some (.int .i64 n) ∧ u.cell? ⟨w1.heap.size, 1, none⟩ = some (.slice av3 xs.length cv3) ∧ Kp w [Ik w2.heap.size w3.heap.size (.slice av5 lc.length cv5) lc, Ik (w1.alloc (.cells #[.int .i64 n, .slice av3 xs.length cv3] 26)).heap.size w2.heap.size (.slice av4 ls.length cv4) ls, Two w1.heap.size (.int .i64 n) (.slice av3 xs.length cv3), Rk w.heap.size w1.heap.size (.slice av3 xs.length cv3) xs] u) → (v.cell? ⟨w1.heap.size, 0, none⟩ = some (.int .i64 n) ∧ v.cell? ⟨w1.heap.size, 1, none⟩ = some (.slice av3 xs.length cv3) ∧ Kp w [Ik w2.heap.size w3.heap.size (.slice av5 lc.length cv5) lc, Ik (w1.alloc (.cells #[.int .i64 n, .slice av3 xs.length cv3] 26)).heap.size w2.heap.size (.slice av4 ls.length cv4) ls, Two w1.heap.size (.int .i64 n) (.slice av3 xs.length cv3), Rk w.heap.size w1.heap.size (.slice av3 xs.length cv3) xs] v) := fun u v hb h => ⟨kept hb h.1, kept hb h.2.1, h.2.2.keep hb⟩
    have KG : Hid (∀ u, (u.cell? ⟨w1.heap.size, 0, none⟩ = some (.int .i64 n) ∧ u.cell? ⟨w1.heap.size, 1, none⟩ = some (.slice av3 xs.length cv3) ∧ Kp w [Ik w2.heap.size w3.heap.size (.slice av5 lc.length cv5) lc, Ik (w1.alloc (.cells #[.int .i64 n, .slice av3 xs.length cv3] 26)).heap.size w2.heap.size (.slice av4 ls.length cv4) ls, Two w1.heap.size (.int .i64 n) (.slice av3 xs.length cv3), Rk w.heap.size w1.heap.size (.slice av3 xs.length cv3) xs] u) → Kp w [Ik w2.heap.size w3.heap.size (.slice av5 lc.length cv5) lc, Ik (w1.alloc (.cells #[.int .i64 n, .slice av3 xs.length cv3] 26)).heap.size w2.heap.size (.slice av4 ls.length cv4) ls, Two w1.heap.size (.int .i64 n) (.slice av3 xs.length cv3), Rk w.heap.size w1.heap.size (.slice av3 xs.length cv3) xs] u) := Lib.hid (fun u h => h.2.2)
    obtain ⟨c_P30, c_P31⟩ := (K.get 2 rfl)
    have hS : w4.drew.cell? ⟨w1.heap.size, 0, none⟩ = some (.int .i64 n) ∧ w4.drew.cell? ⟨w1.heap.size, 1, none⟩ = some (.slice av3 xs.length cv3) ∧ Kp w [Ik w2.heap.size w3.heap.size (.slice av5 lc.length cv5) lc, Ik (w1.alloc (.cells #[.int .i64 n, .slice av3 xs.length cv3] 26)).heap.size w2.heap.size (.slice av4 ls.length cv4) ls, Two w1.heap.size (.int .i64 n) (.slice av3 xs.length cv3), Rk w.heap.size w1.heap.size (.slice av3 xs.length cv3) xs] w4.drew := ⟨c_P30, c_P31, K.drew⟩
    clear K c_P30 c_P31
    try simp only [List.append_eq, List.cons_append, List.nil_append]
    refine reg_begin (fun w' => w'.cell? ⟨w1.heap.size, 0, none⟩ = some (.int .i64 n) ∧ w'.cell? ⟨w1.heap.size, 1, none⟩ = some (.slice av3 xs.length cv3) ∧ Kp w [Ik w2.heap.size w3.heap.size (.slice av5 lc.length cv5) lc, Ik (w1.alloc (.cells #[.int .i64 n, .slice av3 xs.length cv3] 26)).heap.size w2.heap.size (.slice av4 ls.length cv4) ls, Two w1.heap.size (.int .i64 n) (.slice av3 xs.length cv3), Rk w.heap.size w1.heap.size (.slice av3 xs.length cv3) xs] w') (by kernel_rfl) hS ?_
    refine reg_take 0 (v := ?_) rfl (by kernel_rfl) (by kernel_rfl) (by kernel_rfl) (fun _ _ _ h => h) (by rfl) (by intro w hSw; (try dsimp only at hSw); go_simp; first | done | with_reducible rfl) hS ?_
    simp only [Act.put, List.setIfInBounds_toArray, List.set_cons_zero, List.set_cons_succ]
    refine reg_take 1 (v := .bool false) rfl (by kernel_rfl) (by kernel_rfl) (by kernel_rfl) (fun _ _ _ h => h) (by rfl) (by intro w hSw; (try dsimp only at hSw); go_simp; first | done | with_reducible rfl) hS ?_
    simp only [Act.put, List.setIfInBounds_toArray, List.set_cons_zero, List.set_cons_succ]
    refine reg_take 2 (v := ?_) rfl (by kernel_rfl) (by kernel_rfl) (by kernel_rfl) (fun _ _ _ h => h) (by rfl) (by intro w hSw; (try dsimp only at hSw); go_simp; first | done | with_reducible rfl) hS ?_
    simp only [Act.put, List.setIfInBounds_toArray, List.set_cons_zero, List.set_cons_succ]
    refine reg_take 3 (v := ?_) rfl (by kernel_rfl) (by kernel_rfl) (by kernel_rfl) (fun _ _ _ h => h) (by rfl) (by intro w hSw; (try dsimp only at hSw); go_simp; first | done | with_reducible rfl) hS ?_
    simp only [Act.put, List.setIfInBounds_toArray, List.set_cons_zero, List.set_cons_succ]
    refine reg_take 4 (v := .bool false) rfl (by kernel_rfl) (by kernel_rfl) (by kernel_rfl) (fun _ _ _ h => h) (by rfl) (by intro w hSw; (try dsimp only at hSw); go_simp; first | done | with_reducible rfl) hS ?_
    simp only [Act.put, List.setIfInBounds_toArray, List.set_cons_zero, List.set_cons_succ]
    refine reg_take 5 (v := ?_) rfl (by kernel_rfl) (by kernel_rfl) (by kernel_rfl) (fun _ _ _ h => h) (by rfl) (by intro w hSw; (try dsimp only at hSw); go_simp; first | done | with_reducible rfl) hS ?_
    simp only [Act.put, List.setIfInBounds_toArray, List.set_cons_zero, List.set_cons_succ]
    refine reg_take 6 (v := ?_) rfl (by kernel_rfl) (by kernel_rfl) (by kernel_rfl) (fun _ _ _ h => h) (by rfl) (by intro w hSw; (try dsimp only at hSw); go_simp; first | done | with_reducible rfl) hS ?_
    simp only [Act.put, List.setIfInBounds_toArray, List.set_cons_zero, List.set_cons_succ]
    refine reg_take 7 (v := ?_) rfl (by kernel_rfl) (by kernel_rfl) (by kernel_rfl) (fun _ _ _ h => h) (by rfl) (by intro w hSw; (try dsimp only at hSw); go_simp; first | done | with_reducible rfl) hS ?_
    simp only [Act.put, List.setIfInBounds_toArray, List.set_cons_zero, List.set_cons_succ]
    refine reg_take 8 (v := ?_) rfl (by kernel_rfl) (by kernel_rfl) (by kernel_rfl) (fun _ _ _ h => h) (by rfl) (by intro w hSw; (try dsimp only at hSw); go_simp; first | done | with_reducible rfl) hS ?_
    simp only [Act.put, List.setIfInBounds_toArray, List.set_cons_zero, List.set_cons_succ]
    refine reg_take 10 (v := ?_) rfl (by kernel_rfl) (by kernel_rfl) (by kernel_rfl) (fun _ _ _ h => h) (by rfl) (by intro w hSw; (try dsimp only at hSw); go_simp; first | done | with_reducible rfl) hS ?_
    simp only [Act.put, List.setIfInBounds_toArray, List.set_cons_zero, List.set_cons_succ]
    refine reg_take 12 (v := ?_) rfl (by kernel_rfl) (by kernel_rfl) (by kernel_rfl) (fun _ _ _ h => h) (by rfl) (by intro w hSw; (try dsimp only at hSw); go_simp; first | done | with_reducible rfl) hS ?_
    simp only [Act.put, List.setIfInBounds_toArray, List.set_cons_zero, List.set_cons_succ]
    refine reg_take 13 (v := ?_) rfl (by kernel_rfl) (by kernel_rfl) (by kernel_rfl) (fun _ _ _ h => h) (by rfl) (by intro w hSw; (try dsimp only at hSw); go_simp; first | done | with_reducible rfl) hS ?_
    simp only [Act.put, List.setIfInBounds_toArray, List.set_cons_zero, List.set_cons_succ]
    refine reg_call 9 rfl (by kernel_rfl) (by rfl) (fun K hK => ?_)
    go_simp
    go_at_call 17
    refine (args_eq (SpecSeeY _ _ n i (i : Int) _ xs sa _ ((KG.out _ hS).get 3 rfl).1 ((KG.out _ hS).get 3 rfl).2 HK.out rfl (by omega) HSA.out) (by with_reducible rfl)).mono ?_
    rintro e yA ⟨vA, rfl, RA, hb⟩
    obtain ⟨aA, cA, rfl⟩ := RA.form
    have HRA := Lib.hid (fun v (hv : Below yA.heap.size yA v) => Rk.keep ⟨RA, Nat.le_refl _⟩ hv)
    have hbA := hb
    clear RA
    refine hK.out _ _ (KP _ _ hb hS) (fun hS' => ?_)
    clear hK K hS
    have hS := hS'
    clear hS' hb
    try simp only [Act.put, List.setIfInBounds_toArray, List.set_cons_zero, List.set_cons_succ]
    refine reg_call 11 rfl (by kernel_rfl) (by rfl) (fun K hK => ?_)
    go_simp
    go_at_call 17
    refine (args_eq (SpecSeeY _ _ n k (k : Int) _ sa sb yA (HRA.out _ (Below.refl _ _)).1 (HRA.out _ (Below.refl _ _)).2 HSAO.out rfl (by omega) HSB.out) (by with_reducible rfl)).mono ?_
    rintro e yB ⟨vB, rfl, RB, hb⟩
    obtain ⟨aB, cB, rfl⟩ := RB.form
    have HRB := Lib.hid (fun v (hv : Below yB.heap.size yB v) => Rk.keep ⟨RB, Nat.le_refl _⟩ hv)
    have hbB := hb
    clear RB
    refine hK.out _ _ (KP _ _ hb hS) (fun hS' => ?_)
    clear hK K hS
    have hS := hS'
    clear hS' hb
    try simp only [Act.put, List.setIfInBounds_toArray, List.set_cons_zero, List.set_cons_succ]
    refine reg_call 14 rfl (by kernel_rfl) (by rfl) (fun K hK => ?_)
    go_simp
    go_at_call 17
    refine (args_eq (SpecSeeY _ _ n p (p : Int) _ xs sb yB ((KG.out yB hS).get 3 rfl).1 ((KG.out yB hS).get 3 rfl).2 HK.out rfl (by omega) HSC.out) (by with_reducible rfl)).mono ?_
    rintro e yC ⟨vC, rfl, RC, hb⟩
    obtain ⟨aC, cC, rfl⟩ := RC.form
    have HRC := Lib.hid (fun v (hv : Below yC.heap.size yC v) => Rk.keep ⟨RC, Nat.le_refl _⟩ hv)
    have hbC := hb
    clear RC
    refine hK.out _ _ (KP _ _ hb hS) (fun hS' => ?_)
    clear hK K hS
    have hS := hS'
    clear hS' hb
    try simp only [Act.put, List.setIfInBounds_toArray, List.set_cons_zero, List.set_cons_succ]
    refine reg_call 15 rfl (by kernel_rfl) (by rfl) (fun K hK => ?_)
    go_simp
    go_at_call 16
    refine (args_eq (SameKs _ _ _ _ n _ _ sb yC (HRB.out _ hbC) (HRC.out _ (Below.refl _ _))) (by with_reducible rfl)).mono ?_
    rintro e y ⟨rfl, hb⟩
    refine hK.out _ _ (KP _ _ hb hS) (fun hS' => ?_)
    clear hK K hS
    have hS := hS'
    clear hS' hb
    try simp only [Act.put, List.setIfInBounds_toArray, List.set_cons_zero, List.set_cons_succ]
    refine reg_take 16 (v := ?_) rfl (by kernel_rfl) (by kernel_rfl) (by kernel_rfl) (fun _ _ _ h => h) (by rfl) (by intro w hSw; (try dsimp only at hSw); go_simp; first | done | with_reducible rfl) hS ?_
    simp only [Act.put, List.setIfInBounds_toArray, List.set_cons_zero, List.set_cons_succ]
    refine reg_take 17 (v := ?_) rfl (by kernel_rfl) (by kernel_rfl) (by kernel_rfl) (fun _ _ _ h => h) (by rfl) (by intro w hSw; (try dsimp only at hSw); go_simp; first | done | with_reducible rfl) hS ?_
    simp only [Act.put, List.setIfInBounds_toArray, List.set_cons_zero, List.set_cons_succ]
    refine reg_take 18 (v := ?_) rfl (by kernel_rfl) (by kernel_rfl) (by kernel_rfl) (fun _ _ _ h => h) (by rfl) (by intro w hSw; (try dsimp only at hSw); go_simp; first | done | with_reducible rfl) hS ?_
    simp only [Act.put, List.setIfInBounds_toArray, List.set_cons_zero, List.set_cons_succ]
    refine reg_take 19 (v := ?_) rfl (by kernel_rfl) (by kernel_rfl) (by kernel_rfl) (fun _ _ _ h => h) (by rfl) (by intro w hSw; (try dsimp only at hSw); go_simp; first | done | with_reducible rfl) hS ?_
    simp only [Act.put, List.setIfInBounds_toArray, List.set_cons_zero, List.set_cons_succ]
    refine reg_take 20 (v := ?_) rfl (by kernel_rfl) (by kernel_rfl) (by kernel_rfl) (fun _ _ _ h => h) (by rfl) (by intro w hSw; (try dsimp only at hSw); go_simp; first | done | with_reducible rfl) hS ?_
    simp only [Act.put, List.setIfInBounds_toArray, List.set_cons_zero, List.set_cons_succ]
    refine reg_take 22 (v := ?_) rfl (by kernel_rfl) (by kernel_rfl) (by kernel_rfl) (fun _ _ _ h => h) (by rfl) (by intro w hSw; (try dsimp only at hSw); go_simp; first | done | with_reducible rfl) hS ?_
    simp only [Act.put, List.setIfInBounds_toArray, List.set_cons_zero, List.set_cons_succ]
    refine reg_take 23 (v := ?_) rfl (by kernel_rfl) (by kernel_rfl) (by kernel_rfl) (fun _ _ _ h => h) (by rfl) (by intro w hSw; (try dsimp only at hSw); go_simp; first | done | with_reducible rfl) hS ?_
    simp only [Act.put, List.setIfInBounds_toArray, List.set_cons_zero, List.set_cons_succ]
    refine reg_take 24 (v := ?_) rfl (by kernel_rfl) (by kernel_rfl) (by kernel_rfl) (fun _ _ _ h => h) (by rfl) (by intro w hSw; (try dsimp only at hSw); go_simp; first | done | with_reducible rfl) hS ?_
    simp only [Act.put, List.setIfInBounds_toArray, List.set_cons_zero, List.set_cons_succ]
    refine reg_call 21 rfl (by kernel_rfl) (by rfl) (fun K hK => ?_)
    go_simp
    go_at_call 15
    refine (args_eq (ProdKs _ _ _ _ H2.out) (by with_reducible rfl)).mono ?_
    rintro e y ⟨rfl, hb⟩
    refine hK.out _ _ (KP _ _ hb hS) (fun hS' => ?_)
    clear hK K hS
    have hS := hS'
    clear hS' hb
    try simp only [Act.put, List.setIfInBounds_toArray, List.set_cons_zero, List.set_cons_succ]
    refine reg_call 25 rfl (by kernel_rfl) (by rfl) (fun K hK => ?_)
    go_simp
    go_at_call 15
    refine (args_eq (ProdKs _ _ _ _ H3.out) (by with_reducible rfl)).mono ?_
    rintro e y ⟨rfl, hb⟩
    refine hK.out _ _ (KP _ _ hb hS) (fun hS' => ?_)
    clear hK K hS
    have hS := hS'
    clear hS' hb
    try simp only [Act.put, List.setIfInBounds_toArray, List.set_cons_zero, List.set_cons_succ]
    refine reg_call 26 rfl (by kernel_rfl) (by rfl) (fun K hK => ?_)
    go_simp
    go_at_call 15
    refine (args_eq (ProdKs _ _ _ _ H4.out) (by with_reducible rfl)).mono ?_
    rintro e y ⟨rfl, hb⟩
    refine hK.out _ _ (KP _ _ hb hS) (fun hS' => ?_)
    clear hK K hS
    have hS := hS'
    clear hS' hb
    try simp only [Act.put, List.setIfInBounds_toArray, List.set_cons_zero, List.set_cons_succ]
    refine reg_take 27 (v := .bool false) rfl (by kernel_rfl) (by kernel_rfl) (by kernel_rfl) (fun _ _ _ h => h) (by rfl) (by intro w hSw; (try dsimp only at hSw); go_simp; first | done | with_reducible rfl) hS ?_
    simp only [Act.put, List.setIfInBounds_toArray, List.set_cons_zero, List.set_cons_succ]
    refine reg_take 28 (v := ?_) rfl (by kernel_rfl) (by kernel_rfl) (by kernel_rfl) (fun _ _ _ h => h) (by rfl) (by intro w hSw; (try dsimp only at hSw); go_simp; first | done | with_reducible rfl) hS ?_
    simp only [Act.put, List.setIfInBounds_toArray, List.set_cons_zero, List.set_cons_succ]
    refine reg_take 29 (v := ?_) rfl (by kernel_rfl) (by kernel_rfl) (by kernel_rfl) (fun _ _ _ h => h) (by rfl) (by intro w hSw; (try dsimp only at hSw); go_simp; first | done | with_reducible rfl) hS ?_
    simp only [Act.put, List.setIfInBounds_toArray, List.set_cons_zero, List.set_cons_succ]
    refine reg_take 30 (v := ?_) rfl (by kernel_rfl) (by kernel_rfl) (by kernel_rfl) (fun _ _ _ h => h) (by rfl) (by intro w hSw; (try dsimp only at hSw); go_simp; first | done | with_reducible rfl) hS ?_
    simp only [Act.put, List.setIfInBounds_toArray, List.set_cons_zero, List.set_cons_succ]
    refine reg_take 31 (v := ?_) rfl (by kernel_rfl) (by kernel_rfl) (by kernel_rfl) (fun _ _ _ h => h) (by rfl) (by intro w hSw; (try dsimp only at hSw); go_simp; first | done | with_reducible rfl) hS ?_
    simp only [Act.put, List.setIfInBounds_toArray, List.set_cons_zero, List.set_cons_succ]
    refine reg_call 32 rfl (by kernel_rfl) (by rfl) (fun K hK => ?_)
    go_simp
    go_at_call 18
    refine (args_eq (InvKs _ _ _ H5.out) (by with_reducible rfl)).mono ?_
    rintro e y ⟨rfl, hb⟩
    refine hK.out _ _ (KP _ _ hb hS) (fun hS' => ?_)
    clear hK K hS
    have hS := hS'
    clear hS' hb
    try simp only [Act.put, List.setIfInBounds_toArray, List.set_cons_zero, List.set_cons_succ]
    refine reg_call 33 rfl (by kernel_rfl) (by rfl) (fun K hK => ?_)
    go_simp
    go_at_call 15
    refine (args_eq (ProdKs _ _ _ _ H6.out) (by with_reducible rfl)).mono ?_
    rintro e y ⟨rfl, hb⟩
    refine hK.out _ _ (KP _ _ hb hS) (fun hS' => ?_)
    clear hK K hS
    have hS := hS'
    clear hS' hb
    try simp only [Act.put, List.setIfInBounds_toArray, List.set_cons_zero, List.set_cons_succ]
    refine reg_take 34 (v := .bool false) rfl (by kernel_rfl) (by kernel_rfl) (by kernel_rfl) (fun _ _ _ h => h) (by rfl) (by intro w hSw; (try dsimp only at hSw); go_simp; first | done | with_reducible rfl) hS ?_
    simp only [Act.put, List.setIfInBounds_toArray, List.set_cons_zero, List.set_cons_succ]
    refine reg_take 35 (v := ?_) rfl (by kernel_rfl) (by kernel_rfl) (by kernel_rfl) (fun _ _ _ h => h) (by rfl) (by intro w hSw; (try dsimp only at hSw); go_simp; first | done | with_reducible rfl) hS ?_
    simp only [Act.put, List.setIfInBounds_toArray, List.set_cons_zero, List.set_cons_succ]
    refine reg_take 36 (v := ?_) rfl (by kernel_rfl) (by kernel_rfl) (by kernel_rfl) (fun _ _ _ h => h) (by rfl) (by intro w hSw; (try dsimp only at hSw); go_simp; first | done | with_reducible rfl) hS ?_
    simp only [Act.put, List.setIfInBounds_toArray, List.set_cons_zero, List.set_cons_succ]
    refine reg_take 37 (v := ?_) rfl (by kernel_rfl) (by kernel_rfl) (by kernel_rfl) (fun _ _ _ h => h) (by rfl) (by intro w hSw; (try dsimp only at hSw); go_simp; first | done | with_reducible rfl) hS ?_
    simp only [Act.put, List.setIfInBounds_toArray, List.set_cons_zero, List.set_cons_succ]
    refine reg_take 39 (v := ?_) rfl (by kernel_rfl) (by kernel_rfl) (by kernel_rfl) (fun _ _ _ h => h) (by rfl) (by intro w hSw; (try dsimp only at hSw); go_simp; first | done | with_reducible rfl) hS ?_
    simp only [Act.put, List.setIfInBounds_toArray, List.set_cons_zero, List.set_cons_succ]
    refine reg_call 38 rfl (by kernel_rfl) (by rfl) (fun K hK => ?_)
    go_simp
    go_at_call 15
    refine (args_eq (ProdKs _ _ _ _ H7.out) (by with_reducible rfl)).mono ?_
    rintro e y ⟨rfl, hb⟩
    refine hK.out _ _ (KP _ _ hb hS) (fun hS' => ?_)
    clear hK K hS
    have hS := hS'
    clear hS' hb
    try simp only [Act.put, List.setIfInBounds_toArray, List.set_cons_zero, List.set_cons_succ]
    refine reg_take 40 (v := .bool false) rfl (by kernel_rfl) (by kernel_rfl) (by kernel_rfl) (fun _ _ _ h => h) (by rfl) (by intro w hSw; (try dsimp only at hSw); go_simp; first | done | with_reducible rfl) hS ?_
    simp only [Act.put, List.setIfInBounds_toArray, List.set_cons_zero, List.set_cons_succ]
    refine reg_take 41 (v := ?_) rfl (by kernel_rfl) (by kernel_rfl) (by kernel_rfl) (fun _ _ _ h => h) (by rfl) (by intro w hSw; (try dsimp only at hSw); go_simp; first | done | with_reducible rfl) hS ?_
    simp only [Act.put, List.setIfInBounds_toArray, List.set_cons_zero, List.set_cons_succ]
    refine wpAnyH_done (by kernel_rfl) ?_ _
    have K := KG.out _ hS
    clear hS KP KG HRA HRB HRC hbA hbB hbC H1 H2 H3 H4 H5 H6 H7 HSA HSB HSAO HSC
    have hl8 := HNUM.out.2.2.2.2.2.1
    go_wp2_with fail
    go_loop [10] (fun x => ∃ z : Nat, z ≤ ls.length ∧ x = .int .i64 z) (fun x => ls.length - (intOf x).toNat)
    case atStart => exact ⟨0, Nat.zero_le _, rfl⟩
    case round =>
      obtain ⟨z, hz, rfl⟩ := hrel
      by_cases hlt : z < ls.length
      · obtain ⟨g, rfl, _, _, e0, _⟩ := (K.get 1 rfl).1.at (Below.refl _ _) hlt
        have HIN : Hid (ls.getD z 0 ∈ lc) := Lib.hid (HNUM.out.2.2.1 _ (by simp [List.getD, hlt]))
        generalize ls.getD z 0 = x at e0 HIN
        go_wp2_with fail
        refine (Has_yes _ _ _ lc x _ (K.get 0 rfl).1 HIN.out).mono ?_
        rintro e uu ⟨rfl, huu⟩
        have huu := huu.symm
        subst huu
        go_wp2_with fail
        go_round
        case rel => exact ⟨z + 1, by omega, by go_num⟩
        case measure => simp [intOf] <;> omega
      · obtain rfl : z = ls.length := by omega
        clear hz hlt
        go_wp2_with fail
        refine (ClosedKs _ _ _ ls true _ (K.get 1 rfl) HNUM.out.1).mono ?_
        rintro e w5 ⟨rfl, hb⟩
        have K := K.keep hb
        clear hb
        go_wp2_with fail
        refine (ClosedKs _ _ _ lc true _ (K.get 0 rfl) HNUM.out.2.1).mono ?_
        rintro e w6 ⟨rfl, hb⟩
        have K := K.keep hb
        clear hb
        obtain ⟨c_P30, c_P31⟩ := (K.get 2 rfl)
        go_wp2_with fail
        clear c_P30 c_P31
        refine (FormsKs _ _ n c _ xs _ (K.get 3 rfl) HC.out).mono ?_
        rintro e w7 ⟨rfl, hb⟩
        have K := K.keep hb
        clear hb
        have hm1 := HNUM.out.2.2.2.1
        have hm2 : IntKind.i64.wrap ((ls.length : Int) * c) = 8 := by rw [hm1]; decide
        obtain ⟨y0, hy0⟩ : ∃ y0, ls.length = y0 + 1 := ⟨ls.length - 1, by have := HNUM.out.2.2.2.2.1; omega⟩
        obtain ⟨x, hx⟩ : ∃ x, ls.getD y0 0 = x := ⟨_, rfl⟩
        obtain ⟨b, hbx⟩ : ∃ b, decide (4 ≤ x) = b := ⟨_, rfl⟩
        have HBX := Lib.hid hbx
        have HMR : Hid (mirrI ls = b) := Lib.hid (by rw [HNUM.out.2.2.2.2.2.2, hy0, Nat.add_sub_cancel, hx, hbx])
        have HY0 := Lib.hid hy0
        have HX0 := Lib.hid hx
        clear hy0 hx hbx
        obtain ⟨c_P30, c_P31⟩ := (K.get 2 rfl)
        go_wp2_with fail
        clear c_P30 c_P31
        refine (MirrKs _ _ n _ xs ls b _ (K.get 3 rfl) HLS.out HMR.out).mono ?_
        rintro e w8 ⟨rfl, hb⟩
        have K := K.keep hb
        clear hb
        obtain ⟨g, hg, _, _, e0, _⟩ := (K.get 1 rfl).1.at (Below.refl _ _) (show y0 < ls.length by rw [HY0.out]; omega)
        subst hg
        have hy0 := HY0.out
        have hbx := HBX.out
        rw [HX0.out] at e0
        have hbb : (b == b) = true := by simp
        have hlp : (0 : Int) < (ls.length : Int) := by omega
        have hls1 : IntKind.i64.wrap ((ls.length : Int) - 1) = (y0 : Int) := by rw [IntKind.wrap_i64]; omega
        have hls2 : (y0 : Int) < (ls.length : Int) := by omega
        have hls3 : (ls.length : Int) - 1 = (y0 : Int) := by omega
        clear hy0 hm1
        go_wp2_with fail
        refine (ImplStar_any _).mono ?_
        rintro e w9 ⟨vs, rfl, R, hb⟩
        obtain ⟨avs, cvs, rfl⟩ := R.form
        have K := K.row hb R
        clear hb R
        clear e0 hbb hlp hls1 hls2 hls3 hm2
        obtain ⟨es, hes⟩ : ∃ es, symsOf 3 starC = es := ⟨_, rfl⟩
        have HES := Lib.hid hes
        have he8 : es.length = 8 := by rw [← hes, star_syms]; rfl
        have HE8 := Lib.hid he8
        clear hes he8
        go_wp2_with fail
        refine (SymsKs _ _ 3 _ starC es _ (K.get 0 rfl) HES.out).mono ?_
        rintro e w10 ⟨ve, rfl, R, hb⟩
        obtain ⟨ave, cve, rfl⟩ := R.form
        have K := K.keep hb
        clear hb R
        have he8 := HE8.out
        have he8i : (es.length : Int) = 8 := by omega
        have K2 := K.keep (bel0 _ (.cells #[.int .i64 0, .int .i64 1] 3))
        have CLS := Lib.hid (ClosedKs _ _ _ [0, 1] false (w10.alloc (.cells #[.int .i64 0, .int .i64 1] 3)) ⟨lit2 w10 0 1 3, by simp⟩ closed01)
        go_wp2_with fail
        refine CLS.out.mono ?_
        rintro e w' ⟨rfl, hb⟩
        have HY := (K2.keep hb).1
        clear hb K K2
        go_wp2_with fail
        go_ret
        exact ⟨rfl, HY⟩
  · have hl' : 1048576 < len := by omega
    go_enter Try.func3, Try.ntmps3
    go_wp2_with fail
    refine (Big_yes a len cap w hl hl').mono ?_
    rintro e w' ⟨rfl, rfl⟩
    go_wp2_with fail
    go_ret
    exact ⟨rfl, Below.refl _ _⟩

end Go.Proofs.Ytbnokmlmajcibaa
