/- Blocks: the walk of FnBlocks. -/
import Derived.Test.YtoljnokfhgopoaaBlkI
import Derived.Test.YtoljnokfhgopoaaBlkWR
import Derived.Test.YtoljnokfhgopoaaBlkD
import Derived.Test.YtoljnokfhgopoaaCellZd
import Derived.Test.YtoljnokfhgopoaaIntH
import Derived.Test.YtoljnokfhgopoaaBlkN
import Derived.Deep.DeepCutAuto
namespace Go.Proofs.Ytoljnokfhgopoaa
open Go.ChangeShapes Go.WideShapes Go.ChangeAt Go.RowKit

theorem tmod_in {x n : Int} (x0 : 0 ≤ x) (n0 : 1 ≤ n) : 0 ≤ x.tmod n ∧ x.tmod n ≤ n - 1 := by
  have h1 := Int.tmod_nonneg n x0
  have h2 := Int.tmod_lt_of_pos x (show 0 < n by omega)
  omega

theorem bel_dn {b : Nat} {w u : World} (h : Below b w u) (n : Nat) : Below b w (u.drewN n) := ⟨h.os, h.tape, h.output, h.size, h.block⟩
theorem ImplWith_yes (lo hi : Nat) (n x y s a b : Int) (k : Nat) (v : Value) (xs : List C3) (w : World) (r : CellIn lo hi w v xs) (hhi : hi ≤ w.heap.size) (h : BlkOk n xs) (hp : InB n x y) (hc : OkC s a b) (hk : y * n + x = k) :
    Calls Try.prog 15 #[.agg #[.int .i64 n, v], .int .i64 x, .int .i64 y, .agg #[.int .i64 s, .int .i64 a, .int .i64 b]] w (FreshBB n (xs.set k ⟨s, a, b⟩) true w) := by
  have := ImplWith_any lo hi n x y s a b v xs w r hhi
  obtain ⟨e1, e2⟩ := with_yes (n := n) (xs := xs) (x := x) (y := y) (c := ⟨s, a, b⟩) ⟨h, hc, hp⟩
  rw [e1, e2, hk] at this
  simpa using this
theorem BlkOk.set {n : Int} {xs : List C3} (h : BlkOk n xs) (k : Nat) {c : C3} (hc : c.Ok) : BlkOk n (xs.set k c) :=
  ⟨h.1, by rw [List.length_set]; exact h.2.1, fun x hx => by rcases List.mem_or_eq_of_mem_set hx with hx | rfl; exact h.2.2 x hx; exact hc⟩
theorem usd_mem {xs : List C3} {k : Nat} (hk : k < xs.length) (c : Int) (h : (xs.getD k C3.zero).a = c ∨ (xs.getD k C3.zero).b = c) : usd xs c xs.length = true := by
  unfold usd
  rw [List.take_length, List.any_eq_true]
  refine ⟨xs[k], List.getElem_mem hk, ?_⟩
  have e : xs.getD k C3.zero = xs[k] := by simp [List.getD, hk]
  rw [e] at h
  rcases h with h | h <;> simp [h]
theorem mem_colors {n : Int} {xs : List C3} (h : BlkOk n xs) {k : Nat} (hk : k < xs.length) (c : Int) (hc : (xs.getD k C3.zero).a = c ∨ (xs.getD k C3.zero).b = c) : c ∈ colorsOf n xs := by
  rw [colors_yes h]
  have hu := usd_mem hk c hc
  have ho : (xs.getD k C3.zero).Ok := h.2.2 _ (by simp [List.getD, hk])
  generalize xs.getD k C3.zero = x at hc ho
  obtain ⟨x1, x2, x3⟩ := x
  change OkC x1 x2 x3 at ho
  unfold OkC at ho
  dsimp only at hc
  obtain ⟨j, rfl⟩ : ∃ j : Nat, c = j := ⟨c.toNat, by omega⟩
  unfold cols
  rw [List.mem_map]
  exact ⟨j, List.mem_filter.2 ⟨List.mem_range.2 (by omega), hu⟩, rfl⟩
theorem plain3_ok {n : Int} (n0 : 1 ≤ n) (n1 : n ≤ 4) : BlkOk n (List.replicate (n * n).toNat (⟨0, 3, 3⟩ : C3)) := by
  have := (sq_wrap n0 n1).2.1
  refine ⟨⟨n0, n1⟩, by rw [List.length_replicate]; omega, fun c hc => ?_⟩
  rw [(List.mem_replicate.1 hc).2]
  change OkC 0 3 3
  unfold OkC; decide
theorem plain_colors {n : Int} (n0 : 1 ≤ n) (n1 : n ≤ 4) : colorsOf n (List.replicate (n * n).toNat (⟨0, 3, 3⟩ : C3)) = [3] := by
  rw [colors_yes (plain3_ok n0 n1)]
  have hm := (sq_wrap n0 n1).2.1
  have hu : ∀ d : Int, usd (List.replicate (n * n).toNat (⟨0, 3, 3⟩ : C3)) d (List.replicate (n * n).toNat (⟨0, 3, 3⟩ : C3)).length = ((3 : Int) == d) := fun d => by
    unfold usd
    rw [List.take_length, List.any_replicate, if_neg (by omega)]
    simp
  unfold cols
  simp only [hu]
  decide
theorem ImplPlain_yes (n : Int) (n0 : 1 ≤ n) (n1 : n ≤ 4) (w : World) :
    Calls Try.prog 18 #[.int .i64 n, .int .i64 3] w (FreshBB n (List.replicate (n * n).toNat ⟨0, 3, 3⟩) true w) := by
  have := ImplPlain_any n 3 w
  obtain ⟨e1, e2, e3⟩ := pl_yes (n := n) (a := 3) ⟨⟨n0, n1⟩, by omega, by omega⟩
  rw [e1, e2, e3] at this
  exact this
theorem ImplSame_yes (l1 h1 l2 h2 : Nat) (n : Int) (v1 v2 : Value) (xs : List C3) (w : World) (r1 : CellIn l1 h1 w v1 xs) (r2 : CellIn l2 h2 w v2 xs) (hh1 : h1 ≤ w.heap.size) (hh2 : h2 ≤ w.heap.size) :
    Calls Try.prog 20 #[.agg #[.int .i64 n, v1], .agg #[.int .i64 n, v2]] w fun e w' => e = .returned (.bool true) ∧ Below w.heap.size w w' := by
  have := ImplSame_any l1 h1 l2 h2 n n v1 v2 xs xs w r1 r2 hh1 hh2
  rw [show sameB n n xs xs = true by unfold sameB; simp] at this
  exact this
theorem ImplSame_none (l1 h1 : Nat) (n : Int) (n0 : 1 ≤ n) (v1 : Value) (xs : List C3) (w : World) (r1 : CellIn l1 h1 w v1 xs) (hh1 : h1 ≤ w.heap.size) :
    Calls Try.prog 20 #[.agg #[.int .i64 n, v1], .agg #[.int .i64 0, .slice none 0 0]] w fun e w' => e = .returned (.bool false) ∧ Below w.heap.size w w' := by
  have := ImplSame_any l1 h1 0 0 n 0 v1 (.slice none 0 0) xs [] w r1 ⟨by simp, .inl ⟨rfl, _, _, rfl⟩⟩ hh1 (Nat.zero_le _)
  rw [← same_no (n := n) (m := 0) (xs := xs) (ys := []) (fun h => by omega)] at this
  exact this
theorem ImplStar_len (w : World) : Calls Try.prog 23 #[] w fun e w' => (∃ a c, e = .returned (.agg #[.int .i64 3, .slice a 9 c])) ∧ Below w.heap.size w w' := by
  refine (ImplStar_any w).mono ?_
  rintro e w' ⟨v, rfl, r, hb⟩
  obtain ⟨a, c, rfl⟩ := r.form
  exact ⟨⟨a, c, rfl⟩, hb⟩
theorem field_star (a : Option Addr) (c : Nat) (w : World) : (Instr.field 26 (.agg #[.int .i64 3, .slice a 9 c]) 1).run Try.prog w = .ok (.slice a 9 c) w := by kernel_rfl
theorem ImplCellAt_is (lo hi : Nat) (n x y : Int) (k : Nat) (v : Value) (xs : List C3) (w : World) (r : CellIn lo hi w v xs) (hhi : hi ≤ w.heap.size) (h : BlkOk n xs) (hp : InB n x y) (hk : y * n + x = k) (c : C3) (hc : xs.getD k C3.zero = c) :
    Calls Try.prog 19 #[.agg #[.int .i64 n, v], .int .i64 x, .int .i64 y] w fun e w' => e = .returned (.agg #[.int .i64 c.s, .int .i64 c.a, .int .i64 c.b]) ∧ Below w.heap.size w w' := by
  have := ImplCellAt_any lo hi n x y v xs w r hhi
  rw [cAt_yes h hp, hk] at this
  simp only [Int.toNat_natCast] at this
  rw [hc] at this
  exact this
theorem ImplColors_plain (lo hi : Nat) (n : Int) (n0 : 1 ≤ n) (n1 : n ≤ 4) (v : Value) (w : World) (r : CellIn lo hi w v (List.replicate (n * n).toNat ⟨0, 3, 3⟩)) (hhi : hi ≤ w.heap.size) :
    Calls Try.prog 16 #[.agg #[.int .i64 n, v]] w (FreshI [3] w) := by
  have := ImplColors_any lo hi n v _ w r hhi
  rw [plain_colors n0 n1] at this
  exact this
theorem IntIn.lit (W : World) (z : Int) (T : TypeId) : IntIn W.heap.size (W.heap.size + 1) (W.alloc (.cells #[.int .i64 z] T)) (.slice (some ⟨W.heap.size, 0, none⟩) 1 1) [z] :=
  ⟨by simp, .inr ⟨W.heap.size, 1, rfl, Nat.le_refl _, Nat.lt_succ_self _, fun i hi => by
    have : i = 0 := by simpa using hi
    subst this
    exact ⟨by simp, by simp⟩⟩⟩

theorem bel_g3 {b g : Nat} {w u v : World} (h : Below b w u) (hb : b ≤ g) (k : Below g u v) : Below b w v := h.trans (k.mono hb)
/-- The four rows that the last statement reads. -/
def Rows4 (w : World) (l0 h0 l1 h1 l2 h2 l4 h4 : Nat) (v0 v1 v2 v4 : Value) (xs ys zs : List C3) (u : World) : Prop :=
  (CellIn l0 h0 u v0 xs ∧ h0 ≤ u.heap.size) ∧ (CellIn l1 h1 u v1 ys ∧ h1 ≤ u.heap.size) ∧ (CellIn l2 h2 u v2 xs ∧ h2 ≤ u.heap.size) ∧ (CellIn l4 h4 u v4 zs ∧ h4 ≤ u.heap.size) ∧ Below w.heap.size w u
theorem Rows4.keep {w : World} {l0 h0 l1 h1 l2 h2 l4 h4 : Nat} {v0 v1 v2 v4 : Value} {xs ys zs : List C3} {u v : World} (h : Rows4 w l0 h0 l1 h1 l2 h2 l4 h4 v0 v1 v2 v4 xs ys zs u) (hb : Below u.heap.size u v) : Rows4 w l0 h0 l1 h1 l2 h2 l4 h4 v0 v1 v2 v4 xs ys zs v := by
  obtain ⟨⟨a0, b0⟩, ⟨a1, b1⟩, ⟨a2, b2⟩, ⟨a4, b4⟩, B⟩ := h
  exact ⟨⟨a0.below (hb.mono b0), Nat.le_trans b0 hb.size⟩, ⟨a1.below (hb.mono b1), Nat.le_trans b1 hb.size⟩, ⟨a2.below (hb.mono b2), Nat.le_trans b2 hb.size⟩, ⟨a4.below (hb.mono b4), Nat.le_trans b4 hb.size⟩, bel_c B (Nat.le_refl _) hb⟩

set_option maxRecDepth 100000 in
set_option maxHeartbeats 20000000 in
theorem BlocksLaw_walk (a : Option Addr) (len cap : Nat) (w : World) (hs : Src w w.heap.size a len) :
    Calls Try.prog 3 #[.slice a len cap] w fun e w' => e = .returned (.bool true) ∧ Below w.heap.size w w' := by
  have HS := Lib.hid (fun W (h : Below w.heap.size w W) => (hs.but (But.of_below h)).up2 h.size)
  obtain ⟨hm, _⟩ := hs
  have hl : len ≤ 9223372036854775807 := by unfold maxLen at hm; omega
  clear hm
  by_cases hb0 : len ≤ 1048576
  · go_enter Try.func3, Try.ntmps3
    go_wp2_with fail
    refine (Big_no a len cap w hb0).mono ?_
    rintro e w' ⟨rfl, rfl⟩
    go_wp2_with fail
    refine (DrawBlock_any a len cap w (HS.out _ (Below.refl _ _)) hb0).mono ?_
    rintro e w1 ⟨n, v, xs, hok, rfl, R0, B⟩
    obtain ⟨av, cv, rfl⟩ := R0.form
    have HK := Lib.hid hok
    have n0 := hok.1.1
    have n1 := hok.1.2
    have hnz : ¬ n = 0 := by omega
    have hnb : (n == 0) = false := by simp; omega
    have z1 := B.size
    clear hok
    have NB := bel0 w1 (.cells #[.int .i64 n, .slice av xs.length cv] 26)
    have R0_ := R0.below (NB.mono (by omega))
    have B_ := bel_n B (Nat.le_refl _) (.cells #[.int .i64 n, .slice av xs.length cv] 26)
    clear R0 B
    have R0 := R0_
    have B := B_
    clear R0_ B_ NB
    have P0 := Two.new w1 (.int .i64 n) (.slice av xs.length cv) 26
    have zg : w1.heap.size + 1 = (w1.alloc (.cells #[.int .i64 n, .slice av xs.length cv] 26)).heap.size := by simp
    obtain ⟨c_P00, c_P01⟩ := id P0
    go_upto_region 4 with fail
    generalize (w1.alloc (.cells #[.int .i64 n, .slice av xs.length cv] 26)) = g1 at *
    have D0 : Below g1.heap.size g1 g1.drew := ⟨rfl, rfl, rfl, Nat.le_refl _, fun _ _ => rfl⟩
    have BD := Lib.hid (bel_c B (Nat.le_refl _) D0)
    have KP : ∀ u v, Below u.heap.size u v → (u.cell? ⟨w1.heap.size, 0, none⟩ = some (.int .i64 n) ∧ u.cell? ⟨w1.heap.size, 1, none⟩ = some (.slice av xs.length cv)) → (v.cell? ⟨w1.heap.size, 0, none⟩ = some (.int .i64 n) ∧ v.cell? ⟨w1.heap.size, 1, none⟩ = some (.slice av xs.length cv)) := fun u v hb h => ⟨kept hb h.1, kept hb h.2⟩
    go_region_held3 (fun w' => w'.cell? ⟨w1.heap.size, 0, none⟩ = some (.int .i64 n) ∧ w'.cell? ⟨w1.heap.size, 1, none⟩ = some (.slice av xs.length cv)) (first | assumption | (refine KP _ _ (by assumption) ?_; assumption) | go_keep)
      ((go_at_call 13; refine (At_any a len cap 0 _ _ (HS.out _ BD.out) (by omega) (by omega)).mono ?_; rintro e w' ⟨X0, X0a, X0b, rfl, rfl⟩))
    have Xr := tmod_in X0a n0
    clear BD KP c_P00 c_P01
    generalize X0.tmod n = X at *
    have hb := D0
    clear D0
    have R0_ := R0.below (hb.mono (by omega))
    have P0_ := P0.keep hb
    have B_ := bel_c B (Nat.le_refl _) hb
    have zg1_drew : g1.heap.size ≤ g1.drew.heap.size := by have := hb.size; first | exact this | simpa using this
    clear R0 P0 B
    have R0 := R0_
    have P0 := P0_
    have B := B_
    clear R0_ P0_ B_ hb
    generalize g1.drew = w11 at *
    obtain ⟨c_P00, c_P01⟩ := id P0
    go_upto_region 5 with fail
    have D0 : Below w11.heap.size w11 w11.drew := ⟨rfl, rfl, rfl, Nat.le_refl _, fun _ _ => rfl⟩
    have BD := Lib.hid (bel_c B (Nat.le_refl _) D0)
    have KP : ∀ u v, Below u.heap.size u v → (u.cell? ⟨w1.heap.size, 0, none⟩ = some (.int .i64 n) ∧ u.cell? ⟨w1.heap.size, 1, none⟩ = some (.slice av xs.length cv)) → (v.cell? ⟨w1.heap.size, 0, none⟩ = some (.int .i64 n) ∧ v.cell? ⟨w1.heap.size, 1, none⟩ = some (.slice av xs.length cv)) := fun u v hb h => ⟨kept hb h.1, kept hb h.2⟩
    go_region_held3 (fun w' => w'.cell? ⟨w1.heap.size, 0, none⟩ = some (.int .i64 n) ∧ w'.cell? ⟨w1.heap.size, 1, none⟩ = some (.slice av xs.length cv)) (first | assumption | (refine KP _ _ (by assumption) ?_; assumption) | go_keep)
      ((go_at_call 13; refine (At_any a len cap 1 _ _ (HS.out _ BD.out) (by omega) (by omega)).mono ?_; rintro e w' ⟨Y0, Y0a, Y0b, rfl, rfl⟩))
    have Yr := tmod_in Y0a n0
    clear BD KP c_P00 c_P01
    generalize Y0.tmod n = Y at *
    have hb := D0
    clear D0
    have R0_ := R0.below (hb.mono (by omega))
    have P0_ := P0.keep hb
    have B_ := bel_c B (Nat.le_refl _) hb
    have zw11_drew : w11.heap.size ≤ w11.drew.heap.size := by have := hb.size; first | exact this | simpa using this
    clear R0 P0 B
    have R0 := R0_
    have P0 := P0_
    have B := B_
    clear R0_ P0_ B_ hb
    generalize w11.drew = w12 at *
    go_wp2_with fail
    refine (DrawCell_any a len cap _ (HS.out _ B) hb0).mono ?_
    rintro e w13 ⟨s, sa, sb, hcok, rfl, hb⟩
    have HC := Lib.hid hcok
    clear hcok
    have R0_ := R0.below (hb.mono (by omega))
    have P0_ := P0.keep hb
    have B_ := bel_c B (Nat.le_refl _) hb
    have zw13 : w12.heap.size ≤ w13.heap.size := by have := hb.size; first | exact this | simpa using this
    clear R0 P0 B
    have R0 := R0_
    have P0 := P0_
    have B := B_
    clear R0_ P0_ B_ hb
    have NB := bel0 w13 (.cells #[.int .i64 s, .int .i64 sa, .int .i64 sb] 30)
    have R0_ := R0.below (NB.mono (by omega))
    have P0_ := P0.keep NB
    have B_ := bel_n B (Nat.le_refl _) (.cells #[.int .i64 s, .int .i64 sa, .int .i64 sb] 30)
    clear R0 P0 B
    have R0 := R0_
    have P0 := P0_
    have B := B_
    clear R0_ P0_ B_ NB
    have A0 := Three.new w13 ⟨s, sa, sb⟩ 30
    have zc : w13.heap.size + 1 = (w13.alloc (.cells #[.int .i64 s, .int .i64 sa, .int .i64 sb] 30)).heap.size := by simp
    obtain ⟨c_P00, c_P01⟩ := id P0
    obtain ⟨c_A00, c_A01, c_A02⟩ := id A0
    go_wp2_with fail
    clear c_P00 c_P01 c_A00 c_A01 c_A02
    generalize (w13.alloc (.cells #[.int .i64 s, .int .i64 sa, .int .i64 sb] 30)) = g3 at *
    have hin : InB n X Y := ⟨Xr, Yr⟩
    obtain ⟨k0, hk1, hk2, hk3, hk4⟩ := idx n0 n1 hin
    have HIN := Lib.hid hin
    have hk0 : k0 < xs.length := by have := HK.out.2.1; omega
    obtain ⟨ys, hys⟩ : ∃ ys, ys = xs.set k0 (⟨s, sa, sb⟩ : C3) := ⟨_, rfl⟩
    have HY := Lib.hid hys
    have HYL : Hid (ys.length = xs.length) := Lib.hid (by rw [hys]; simp)
    have HKY : Hid (BlkOk n ys) := Lib.hid (by rw [hys]; exact HK.out.set k0 HC.out)
    have HK1 := Lib.hid hk1
    clear hys hin hk1 hk2
    refine (ImplWith_yes _ _ n X Y s sa sb k0 _ xs _ R0 (by omega) HK.out HIN.out HC.out HK1.out).mono ?_
    rw [← HY.out]
    rintro e w14 ⟨vd, rfl, R1, hb⟩
    obtain ⟨ad, cd, rfl⟩ := R1.form
    have R0_ := R0.below (hb.mono (by omega))
    have P0_ := P0.keep hb
    have A0_ := A0.keep hb
    have B_ := bel_c B (Nat.le_refl _) hb
    have zw14 : g3.heap.size ≤ w14.heap.size := by have := hb.size; first | exact this | simpa using this
    clear R0 P0 A0 B
    have R0 := R0_
    have P0 := P0_
    have A0 := A0_
    have B := B_
    clear R0_ P0_ A0_ B_ hb
    have NB := bel0 w14 (.cells #[.int .i64 n, .slice ad ys.length cd] 26)
    have R0_ := R0.below (NB.mono (by omega))
    have P0_ := P0.keep NB
    have A0_ := A0.keep NB
    have R1_ := R1.below (NB.mono (by omega))
    have B_ := bel_n B (Nat.le_refl _) (.cells #[.int .i64 n, .slice ad ys.length cd] 26)
    clear R0 P0 A0 R1 B
    have R0 := R0_
    have P0 := P0_
    have A0 := A0_
    have R1 := R1_
    have B := B_
    clear R0_ P0_ A0_ R1_ B_ NB
    have P1 := Two.new w14 (.int .i64 n) (.slice ad ys.length cd) 26
    have zd : w14.heap.size + 1 = (w14.alloc (.cells #[.int .i64 n, .slice ad ys.length cd] 26)).heap.size := by simp
    obtain ⟨c_P00, c_P01⟩ := id P0
    obtain ⟨c_P10, c_P11⟩ := id P1
    go_upto_region 8 with fail
    generalize (w14.alloc (.cells #[.int .i64 n, .slice ad ys.length cd] 26)) = g4 at *
    have hoq : (xs.getD k0 C3.zero).Ok := HK.out.2.2 _ (by simp [List.getD, hk0])
    obtain ⟨g, rfl, hg, hg1, ⟨e0, e1, e2⟩, _⟩ := R0.at (Below.refl _ _) hk0
    obtain ⟨q, hq⟩ : ∃ q, q = xs.getD k0 C3.zero := ⟨_, rfl⟩
    rw [← hq] at e0 e1 e2 hoq
    obtain ⟨qs, qa, qb⟩ := q
    dsimp only at e0 e1 e2
    have HOQ : Hid (OkC qs qa qb) := Lib.hid hoq
    have HXS : Hid (ys.set k0 (⟨qs, qa, qb⟩ : C3) = xs) := Lib.hid (by rw [HY.out, List.set_set, hq]; simp [List.getD, hk0])
    clear hq hoq
    have D0 : Below g4.heap.size g4 g4.drew := ⟨rfl, rfl, rfl, Nat.le_refl _, fun _ _ => rfl⟩
    have KP : ∀ u v, Below u.heap.size u v → (u.cell? ⟨w1.heap.size, 0, none⟩ = some (.int .i64 n) ∧ u.cell? ⟨w1.heap.size, 1, none⟩ = some (.slice (some ⟨g, 0, none⟩) xs.length cv) ∧ u.cell? ⟨w14.heap.size, 0, none⟩ = some (.int .i64 n) ∧ u.cell? ⟨w14.heap.size, 1, none⟩ = some (.slice ad ys.length cd) ∧ u.cell? ⟨g, k0 * 3, none⟩ = some (.int .i64 qs) ∧ u.cell? ⟨g, k0 * 3 + 1, none⟩ = some (.int .i64 qa) ∧ u.cell? ⟨g, k0 * 3 + 2, none⟩ = some (.int .i64 qb)) → (v.cell? ⟨w1.heap.size, 0, none⟩ = some (.int .i64 n) ∧ v.cell? ⟨w1.heap.size, 1, none⟩ = some (.slice (some ⟨g, 0, none⟩) xs.length cv) ∧ v.cell? ⟨w14.heap.size, 0, none⟩ = some (.int .i64 n) ∧ v.cell? ⟨w14.heap.size, 1, none⟩ = some (.slice ad ys.length cd) ∧ v.cell? ⟨g, k0 * 3, none⟩ = some (.int .i64 qs) ∧ v.cell? ⟨g, k0 * 3 + 1, none⟩ = some (.int .i64 qa) ∧ v.cell? ⟨g, k0 * 3 + 2, none⟩ = some (.int .i64 qb)) := fun u v hb h => ⟨kept hb h.1, kept hb h.2.1, kept hb h.2.2.1, kept hb h.2.2.2.1, kept hb h.2.2.2.2.1, kept hb h.2.2.2.2.2.1, kept hb h.2.2.2.2.2.2⟩
    have KS : ∀ (u : World) (p : Nat) (v0 v1 : Value), g4.heap.size ≤ p → (u.cell? ⟨w1.heap.size, 0, none⟩ = some (.int .i64 n) ∧ u.cell? ⟨w1.heap.size, 1, none⟩ = some (.slice (some ⟨g, 0, none⟩) xs.length cv) ∧ u.cell? ⟨w14.heap.size, 0, none⟩ = some (.int .i64 n) ∧ u.cell? ⟨w14.heap.size, 1, none⟩ = some (.slice ad ys.length cd) ∧ u.cell? ⟨g, k0 * 3, none⟩ = some (.int .i64 qs) ∧ u.cell? ⟨g, k0 * 3 + 1, none⟩ = some (.int .i64 qa) ∧ u.cell? ⟨g, k0 * 3 + 2, none⟩ = some (.int .i64 qb)) → (((u.setCell ⟨p, 0, none⟩ v0).setCell ⟨p, 1, none⟩ v1).cell? ⟨w1.heap.size, 0, none⟩ = some (.int .i64 n) ∧ ((u.setCell ⟨p, 0, none⟩ v0).setCell ⟨p, 1, none⟩ v1).cell? ⟨w1.heap.size, 1, none⟩ = some (.slice (some ⟨g, 0, none⟩) xs.length cv) ∧ ((u.setCell ⟨p, 0, none⟩ v0).setCell ⟨p, 1, none⟩ v1).cell? ⟨w14.heap.size, 0, none⟩ = some (.int .i64 n) ∧ ((u.setCell ⟨p, 0, none⟩ v0).setCell ⟨p, 1, none⟩ v1).cell? ⟨w14.heap.size, 1, none⟩ = some (.slice ad ys.length cd) ∧ ((u.setCell ⟨p, 0, none⟩ v0).setCell ⟨p, 1, none⟩ v1).cell? ⟨g, k0 * 3, none⟩ = some (.int .i64 qs) ∧ ((u.setCell ⟨p, 0, none⟩ v0).setCell ⟨p, 1, none⟩ v1).cell? ⟨g, k0 * 3 + 1, none⟩ = some (.int .i64 qa) ∧ ((u.setCell ⟨p, 0, none⟩ v0).setCell ⟨p, 1, none⟩ v1).cell? ⟨g, k0 * 3 + 2, none⟩ = some (.int .i64 qb)) := by
      intro u p v0 v1 hp h
      have h1 : p ≠ w1.heap.size := by omega
      have h2 : p ≠ w14.heap.size := by omega
      have h3 : p ≠ g := by omega
      have f : ∀ (q o : Nat), p ≠ q → ((u.setCell ⟨p, 0, none⟩ v0).setCell ⟨p, 1, none⟩ v1).cell? ⟨q, o, none⟩ = u.cell? ⟨q, o, none⟩ := fun q o hq => by
        rw [World.cell?_setCell_other _ _ _ _ (by simp), World.cell?_setCell_other _ _ _ _ (by simp)]
      simpa only [f _ _ h1, f _ _ h2, f _ _ h3] using h
    have N1 := Lib.hid (R1.below (w' := g4.drew) (D0.mono (by omega)))
    have N2 := Lib.hid (R1.below (w' := g4.drew.alloc (.cells #[.int .i64 0, .slice none 0 0] 26)) ((bel_n D0 (Nat.le_refl _) (.cells #[.int .i64 0, .slice none 0 0] 26)).mono (by omega)))
    go_cut [9, 10] (fun q t wx => WR n true xs g4 q t wx)
    case first =>
      go_region_held3 (fun w' => w'.cell? ⟨w1.heap.size, 0, none⟩ = some (.int .i64 n) ∧ w'.cell? ⟨w1.heap.size, 1, none⟩ = some (.slice (some ⟨g, 0, none⟩) xs.length cv) ∧ w'.cell? ⟨w14.heap.size, 0, none⟩ = some (.int .i64 n) ∧ w'.cell? ⟨w14.heap.size, 1, none⟩ = some (.slice ad ys.length cd) ∧ w'.cell? ⟨g, k0 * 3, none⟩ = some (.int .i64 qs) ∧ w'.cell? ⟨g, k0 * 3 + 1, none⟩ = some (.int .i64 qa) ∧ w'.cell? ⟨g, k0 * 3 + 2, none⟩ = some (.int .i64 qb)) (first | exact S4 | exact KP _ _ (bel0 _ _) S4 | exact KS _ _ _ _ (by omega) S4 | (refine KP _ _ (by assumption) ?_; assumption) | exact KP _ _ (bel0 _ _) (by assumption) | go_keep)
        ((first
          | (go_at_call 15; refine (ImplWith_yes _ _ n X Y qs qa qb k0 _ ys _ N1.out (by first | omega | (simp; omega)) HKY.out HIN.out HOQ.out HK1.out).mono ?_; rw [HXS.out]; rintro e w5 ⟨v5, rfl, R5, hb5⟩; obtain ⟨a5, c5, rfl⟩ := R5.form; have R5 := Lib.hid R5; have hbz : Below g4.heap.size g4 w5 := D0.trans hb5; have S4 := KP g4.drew w5 hb5 (by assumption); clear hb5)
          | (go_at_call 15; refine (ImplWith_yes _ _ n X Y qs qa qb k0 _ ys _ N2.out (by first | omega | (simp; omega)) HKY.out HIN.out HOQ.out HK1.out).mono ?_; rw [HXS.out]; rintro e w5 ⟨v5, rfl, R5, hb5⟩; obtain ⟨a5, c5, rfl⟩ := R5.form; have R5 := Lib.hid R5; have hbz : Below g4.heap.size g4 w5 := (bel_n D0 (Nat.le_refl _) (.cells #[.int .i64 0, .slice none 0 0] 26)).trans (hb5.mono (by simp)); have bz3 := Lib.hid (show BoxB g4.heap.size (.int .i64 0) (.slice none 0 0) w5 from (BoxB.new g4.drew (.int .i64 0) (.slice none 0 0) 26).below hb5 (by simp)); obtain ⟨j0, j1, j2, j3⟩ := bz3.out; have S4 := KP (g4.drew.alloc (.cells #[.int .i64 0, .slice none 0 0] 26)) w5 hb5 (by assumption); clear hb5)))
      all_goals
        go_wp2_with fail
        go_meet
        first
        | exact WR.old R5.out bz3.out hbz (by simp) (Nat.le_refl _) (.inl (by simp))
        | exact WR.new R5.out hbz (Nat.le_refl _)
    case rest =>
      obtain ⟨p2, a2, c2, l2, h2, rfl, rfl, bx2, R2, -, -, zp2, zh2, hb⟩ := hcut
      have P2 : Two p2 (.int .i64 n) (.slice a2 xs.length c2) wc := ⟨bx2.1, bx2.2.1⟩
      clear bx2 D0 KP KS N1 N2 e0 e1 e2 c_P00 c_P01 c_P10 c_P11
      have R0_ := R0.below (hb.mono (by omega))
      have P0_ := P0.keep hb
      have A0_ := A0.keep hb
      have R1_ := R1.below (hb.mono (by omega))
      have P1_ := P1.keep hb
      have B_ := bel_c B (Nat.le_refl _) hb
      have zwc : g4.heap.size ≤ wc.heap.size := by have := hb.size; first | exact this | simpa using this
      clear R0 P0 A0 R1 P1 B
      have R0 := R0_
      have P0 := P0_
      have A0 := A0_
      have R1 := R1_
      have P1 := P1_
      have B := B_
      clear R0_ P0_ A0_ R1_ P1_ B_ hb
      obtain ⟨c_P00, c_P01⟩ := id P0
      go_wp2_with fail
      clear c_P00 c_P01
      refine (ImplColors_any _ _ n _ xs _ R0 (by omega)).mono ?_
      rintro e w15 ⟨vl, rfl, RL, hb⟩
      have R0_ := R0.below (hb.mono (by omega))
      have P0_ := P0.keep hb
      have A0_ := A0.keep hb
      have R1_ := R1.below (hb.mono (by omega))
      have P1_ := P1.keep hb
      have P2_ := P2.keep hb
      have R2_ := R2.below (hb.mono (by omega))
      have B_ := bel_c B (Nat.le_refl _) hb
      have zw15 : wc.heap.size ≤ w15.heap.size := by have := hb.size; first | exact this | simpa using this
      clear R0 P0 A0 R1 P1 P2 R2 B
      have R0 := R0_
      have P0 := P0_
      have A0 := A0_
      have R1 := R1_
      have P1 := P1_
      have P2 := P2_
      have R2 := R2_
      have B := B_
      clear R0_ P0_ A0_ R1_ P1_ P2_ R2_ B_ hb
      obtain ⟨al, cl, rfl⟩ := RL.form
      have zl : w.heap.size ≤ w15.heap.size := B.size
      have HB := Lib.hid B
      have HRL : Hid (∀ W, Below w15.heap.size w15 W → IntIn _ _ W (.slice al (colorsOf n xs).length cl) (colorsOf n xs)) := Lib.hid (fun W hb => RL.below (hb.mono (Nat.le_refl _)))
      have HR0 := Lib.hid (fun W (hb : Below w15.heap.size w15 W) => R0.below (hb.mono (by omega)))
      have HR1 := Lib.hid (fun W (hb : Below w15.heap.size w15 W) => R1.below (hb.mono (by omega)))
      have HR2 := Lib.hid (fun W (hb : Below w15.heap.size w15 W) => R2.below (hb.mono (by omega)))
      have HP0 := Lib.hid (fun W (hb : Below w15.heap.size w15 W) => P0.keep hb)
      have HP1 := Lib.hid (fun W (hb : Below w15.heap.size w15 W) => P1.keep hb)
      have HP2 := Lib.hid (fun W (hb : Below w15.heap.size w15 W) => P2.keep hb)
      have HA0 := Lib.hid (fun W (hb : Below w15.heap.size w15 W) => A0.keep hb)
      have hzz : w1.heap.size ≤ w15.heap.size ∧ w14.heap.size ≤ w15.heap.size ∧ h2 ≤ w15.heap.size := ⟨by omega, by omega, by omega⟩
      have HZZ := Lib.hid hzz
      have hxl := (HR0.out _ (Below.refl _ _)).1
      clear hzz R0 R1 R2 RL P0 P1 P2 A0 B
      go_wp2_with fail
      go_loopw [12] (fun i wr => ∃ k : Nat, k ≤ xs.length ∧ i = .int .i64 k ∧ Hid (Below w15.heap.size w15 wr)) (fun i _ => xs.length - (intOf i).toNat)
      case atStart => exact ⟨0, Nat.zero_le _, rfl, Lib.hid (Below.refl _ _)⟩
      case round =>
        obtain ⟨k, hk, rfl, hbel⟩ := hrel
        obtain ⟨b0, b1⟩ := HP0.out _ hbel.out
        obtain ⟨d0, d1⟩ := HP1.out _ hbel.out
        by_cases hlt : k < xs.length
        · have ha := mem_colors HK.out hlt (xs.getD k C3.zero).a (.inl rfl)
          have hb := mem_colors HK.out hlt (xs.getD k C3.zero).b (.inr rfl)
          obtain ⟨g5, hg5, hgl, hgh, ⟨e0, e1, e2⟩, _⟩ := (HR0.out _ hbel.out).at (Below.refl _ _) hlt
          have hge : g = g5 := by simpa using hg5
          subst hge
          have hlt2 : k < ys.length := by rw [HYL.out]; exact hlt
          obtain ⟨gd, rfl, hdl, hdh, ⟨f0, f1, f2⟩, _⟩ := (HR1.out _ hbel.out).at (Below.refl _ _) hlt2
          have HBN : Hid (∀ m, Below w15.heap.size w15 (wr.drewN m)) := Lib.hid (fun m => bel_dn hbel.out m)
          by_cases hk0k : k = k0
          · have hkb : ((k : Int) != (k0 : Int)) = false := by simp [hk0k]
            generalize xs.getD k C3.zero = c at e0 e1 e2 ha hb
            generalize ys.getD k C3.zero = c' at f0 f1 f2
            clear hk0k
            go_wp2_with fail
            go_quiet ((go_at_call 17; refine (Has_yes _ _ _ _ _ _ (HRL.out _ (by first | exact hbel.out | exact HBN.out _)) (by assumption)).mono ?_; rintro e w'' ⟨rfl, rfl⟩; exact ⟨rfl, _, rfl⟩))
            go_wp2_with fail
            go_roundw
            case rel => exact ⟨k + 1, by omega, by go_num, Lib.hid (HBN.out _)⟩
            case measure => simp [intOf] <;> omega
          · have hkb : ((k : Int) != (k0 : Int)) = true := by simp; omega
            have hsame : ys.getD k C3.zero = xs.getD k C3.zero := by rw [HY.out]; simp [List.getD, Ne.symm hk0k]
            rw [hsame] at f0 f1 f2
            generalize xs.getD k C3.zero = c at e0 e1 e2 ha hb f0 f1 f2
            clear hk0k hsame
            have hkl : ¬ (ys.length : Int) ≤ (k : Int) := by omega
            go_wp2_with fail
            go_quiet ((go_at_call 17; refine (Has_yes _ _ _ _ _ _ (HRL.out _ (by first | exact hbel.out | exact HBN.out _)) (by assumption)).mono ?_; rintro e w'' ⟨rfl, rfl⟩; exact ⟨rfl, _, rfl⟩))
            go_wp2_with fail
            go_roundw
            case rel => exact ⟨k + 1, by omega, by go_num, Lib.hid (HBN.out _)⟩
            case measure => simp [intOf] <;> omega
        · obtain rfl : k = xs.length := by omega
          have B := bel_g3 HB.out zl hbel.out
          have R0 := HR0.out _ hbel.out
          have R1 := HR1.out _ hbel.out
          have R2 := HR2.out _ hbel.out
          have P0 := HP0.out _ hbel.out
          have P1 := HP1.out _ hbel.out
          have P2 := HP2.out _ hbel.out
          have A0 := HA0.out _ hbel.out
          obtain ⟨y1, y2, y3⟩ := HZZ.out
          have zr := hbel.out.size
          clear b0 b1 d0 d1 hbel HR0 HR1 HR2 HP0 HP1 HP2 HA0 HRL HB
          obtain ⟨c_P00, c_P01⟩ := id P0
          go_wp2_with fail
          clear c_P00 c_P01
          refine (ImplPlain_yes n n0 n1 _).mono ?_
          have HPC : Hid (∀ (lo hi : Nat) (v : Value) (W : World), CellIn lo hi W v (List.replicate (n * n).toNat ⟨0, 3, 3⟩) → hi ≤ W.heap.size → Calls Try.prog 16 #[.agg #[.int .i64 n, v]] W (FreshI [3] W)) := Lib.hid (fun lo hi v W r hh => ImplColors_plain lo hi n n0 n1 v W r hh)
          generalize List.replicate (n * n).toNat (⟨0, 3, 3⟩ : C3) = zs at HPC ⊢
          rintro e w16 ⟨vp, rfl, R4, hb⟩
          obtain ⟨ap, cp, rfl⟩ := R4.form
          have R0_ := R0.below (hb.mono (by omega))
          have P0_ := P0.keep hb
          have A0_ := A0.keep hb
          have R1_ := R1.below (hb.mono (by omega))
          have P1_ := P1.keep hb
          have P2_ := P2.keep hb
          have R2_ := R2.below (hb.mono (by omega))
          have B_ := bel_c B (Nat.le_refl _) hb
          have zw16 : wr.heap.size ≤ w16.heap.size := by have := hb.size; first | exact this | simpa using this
          clear R0 P0 A0 R1 P1 P2 R2 B
          have R0 := R0_
          have P0 := P0_
          have A0 := A0_
          have R1 := R1_
          have P1 := P1_
          have P2 := P2_
          have R2 := R2_
          have B := B_
          clear R0_ P0_ A0_ R1_ P1_ P2_ R2_ B_ hb
          have NB := bel0 w16 (.cells #[.int .i64 n, .slice ap zs.length cp] 26)
          have R0_ := R0.below (NB.mono (by omega))
          have P0_ := P0.keep NB
          have A0_ := A0.keep NB
          have R1_ := R1.below (NB.mono (by omega))
          have P1_ := P1.keep NB
          have P2_ := P2.keep NB
          have R2_ := R2.below (NB.mono (by omega))
          have R4_ := R4.below (NB.mono (by omega))
          have B_ := bel_n B (Nat.le_refl _) (.cells #[.int .i64 n, .slice ap zs.length cp] 26)
          clear R0 P0 A0 R1 P1 P2 R2 R4 B
          have R0 := R0_
          have P0 := P0_
          have A0 := A0_
          have R1 := R1_
          have P1 := P1_
          have P2 := P2_
          have R2 := R2_
          have R4 := R4_
          have B := B_
          clear R0_ P0_ A0_ R1_ P1_ P2_ R2_ R4_ B_ NB
          have P4 := Two.new w16 (.int .i64 n) (.slice ap zs.length cp) 26
          have ze : w16.heap.size + 1 = (w16.alloc (.cells #[.int .i64 n, .slice ap zs.length cp] 26)).heap.size := by simp
          obtain ⟨c_P00, c_P01⟩ := id P0
          obtain ⟨c_P10, c_P11⟩ := id P1
          obtain ⟨c_P20, c_P21⟩ := id P2
          obtain ⟨c_P40, c_P41⟩ := id P4
          obtain ⟨c_A00, c_A01, c_A02⟩ := id A0
          go_upto_region 16 with fail
          generalize (w16.alloc (.cells #[.int .i64 n, .slice ap zs.length cp] 26)) = g6 at *
          have RR : Rows4 w (w.heap.size) (w1.heap.size) (g3.heap.size) (w14.heap.size) (l2) (h2) (wr.heap.size) (w16.heap.size) (.slice (some ⟨g, 0, none⟩) xs.length cv) (.slice ad ys.length cd) (.slice a2 xs.length c2) (.slice ap zs.length cp) xs ys zs g6 := ⟨⟨R0, by omega⟩, ⟨R1, by omega⟩, ⟨R2, by omega⟩, ⟨R4, by omega⟩, B⟩
          have KP : ∀ u v, Below u.heap.size u v → (u.cell? ⟨w1.heap.size, 0, none⟩ = some (.int .i64 n) ∧ u.cell? ⟨w1.heap.size, 1, none⟩ = some (.slice (some ⟨g, 0, none⟩) xs.length cv) ∧ u.cell? ⟨w14.heap.size, 0, none⟩ = some (.int .i64 n) ∧ u.cell? ⟨w14.heap.size, 1, none⟩ = some (.slice ad ys.length cd) ∧ u.cell? ⟨p2, 0, none⟩ = some (.int .i64 n) ∧ u.cell? ⟨p2, 1, none⟩ = some (.slice a2 xs.length c2) ∧ u.cell? ⟨w16.heap.size, 0, none⟩ = some (.int .i64 n) ∧ u.cell? ⟨w16.heap.size, 1, none⟩ = some (.slice ap zs.length cp) ∧ u.cell? ⟨w13.heap.size, 0, none⟩ = some (.int .i64 s) ∧ u.cell? ⟨w13.heap.size, 1, none⟩ = some (.int .i64 sa) ∧ u.cell? ⟨w13.heap.size, 2, none⟩ = some (.int .i64 sb) ∧ Rows4 w (w.heap.size) (w1.heap.size) (g3.heap.size) (w14.heap.size) (l2) (h2) (wr.heap.size) (w16.heap.size) (.slice (some ⟨g, 0, none⟩) xs.length cv) (.slice ad ys.length cd) (.slice a2 xs.length c2) (.slice ap zs.length cp) xs ys zs u) → (v.cell? ⟨w1.heap.size, 0, none⟩ = some (.int .i64 n) ∧ v.cell? ⟨w1.heap.size, 1, none⟩ = some (.slice (some ⟨g, 0, none⟩) xs.length cv) ∧ v.cell? ⟨w14.heap.size, 0, none⟩ = some (.int .i64 n) ∧ v.cell? ⟨w14.heap.size, 1, none⟩ = some (.slice ad ys.length cd) ∧ v.cell? ⟨p2, 0, none⟩ = some (.int .i64 n) ∧ v.cell? ⟨p2, 1, none⟩ = some (.slice a2 xs.length c2) ∧ v.cell? ⟨w16.heap.size, 0, none⟩ = some (.int .i64 n) ∧ v.cell? ⟨w16.heap.size, 1, none⟩ = some (.slice ap zs.length cp) ∧ v.cell? ⟨w13.heap.size, 0, none⟩ = some (.int .i64 s) ∧ v.cell? ⟨w13.heap.size, 1, none⟩ = some (.int .i64 sa) ∧ v.cell? ⟨w13.heap.size, 2, none⟩ = some (.int .i64 sb) ∧ Rows4 w (w.heap.size) (w1.heap.size) (g3.heap.size) (w14.heap.size) (l2) (h2) (wr.heap.size) (w16.heap.size) (.slice (some ⟨g, 0, none⟩) xs.length cv) (.slice ad ys.length cd) (.slice a2 xs.length c2) (.slice ap zs.length cp) xs ys zs v) := fun u v hb h => ⟨kept hb h.1, kept hb h.2.1, kept hb h.2.2.1, kept hb h.2.2.2.1, kept hb h.2.2.2.2.1, kept hb h.2.2.2.2.2.1, kept hb h.2.2.2.2.2.2.1, kept hb h.2.2.2.2.2.2.2.1, kept hb h.2.2.2.2.2.2.2.2.1, kept hb h.2.2.2.2.2.2.2.2.2.1, kept hb h.2.2.2.2.2.2.2.2.2.2.1, h.2.2.2.2.2.2.2.2.2.2.2.keep hb⟩
          have HCA : Hid (∀ u : World, (u.cell? ⟨w1.heap.size, 0, none⟩ = some (.int .i64 n) ∧ u.cell? ⟨w1.heap.size, 1, none⟩ = some (.slice (some ⟨g, 0, none⟩) xs.length cv) ∧ u.cell? ⟨w14.heap.size, 0, none⟩ = some (.int .i64 n) ∧ u.cell? ⟨w14.heap.size, 1, none⟩ = some (.slice ad ys.length cd) ∧ u.cell? ⟨p2, 0, none⟩ = some (.int .i64 n) ∧ u.cell? ⟨p2, 1, none⟩ = some (.slice a2 xs.length c2) ∧ u.cell? ⟨w16.heap.size, 0, none⟩ = some (.int .i64 n) ∧ u.cell? ⟨w16.heap.size, 1, none⟩ = some (.slice ap zs.length cp) ∧ u.cell? ⟨w13.heap.size, 0, none⟩ = some (.int .i64 s) ∧ u.cell? ⟨w13.heap.size, 1, none⟩ = some (.int .i64 sa) ∧ u.cell? ⟨w13.heap.size, 2, none⟩ = some (.int .i64 sb) ∧ Rows4 w (w.heap.size) (w1.heap.size) (g3.heap.size) (w14.heap.size) (l2) (h2) (wr.heap.size) (w16.heap.size) (.slice (some ⟨g, 0, none⟩) xs.length cv) (.slice ad ys.length cd) (.slice a2 xs.length c2) (.slice ap zs.length cp) xs ys zs u) → Calls Try.prog 19 #[.agg #[.int .i64 n, .slice ad ys.length cd], .int .i64 X, .int .i64 Y] u (fun e w' => e = .returned (.agg #[.int .i64 s, .int .i64 sa, .int .i64 sb]) ∧ Below u.heap.size u w')) := Lib.hid (fun u h => ImplCellAt_is _ _ n X Y k0 _ ys u h.2.2.2.2.2.2.2.2.2.2.2.2.1.1 h.2.2.2.2.2.2.2.2.2.2.2.2.1.2 HKY.out HIN.out HK1.out ⟨s, sa, sb⟩ (by rw [HY.out]; simp [List.getD, hk0]))
          have HSA : Hid (∀ u : World, (u.cell? ⟨w1.heap.size, 0, none⟩ = some (.int .i64 n) ∧ u.cell? ⟨w1.heap.size, 1, none⟩ = some (.slice (some ⟨g, 0, none⟩) xs.length cv) ∧ u.cell? ⟨w14.heap.size, 0, none⟩ = some (.int .i64 n) ∧ u.cell? ⟨w14.heap.size, 1, none⟩ = some (.slice ad ys.length cd) ∧ u.cell? ⟨p2, 0, none⟩ = some (.int .i64 n) ∧ u.cell? ⟨p2, 1, none⟩ = some (.slice a2 xs.length c2) ∧ u.cell? ⟨w16.heap.size, 0, none⟩ = some (.int .i64 n) ∧ u.cell? ⟨w16.heap.size, 1, none⟩ = some (.slice ap zs.length cp) ∧ u.cell? ⟨w13.heap.size, 0, none⟩ = some (.int .i64 s) ∧ u.cell? ⟨w13.heap.size, 1, none⟩ = some (.int .i64 sa) ∧ u.cell? ⟨w13.heap.size, 2, none⟩ = some (.int .i64 sb) ∧ Rows4 w (w.heap.size) (w1.heap.size) (g3.heap.size) (w14.heap.size) (l2) (h2) (wr.heap.size) (w16.heap.size) (.slice (some ⟨g, 0, none⟩) xs.length cv) (.slice ad ys.length cd) (.slice a2 xs.length c2) (.slice ap zs.length cp) xs ys zs u) → Calls Try.prog 20 #[.agg #[.int .i64 n, .slice a2 xs.length c2], .agg #[.int .i64 n, .slice (some ⟨g, 0, none⟩) xs.length cv]] u (fun e w' => e = .returned (.bool true) ∧ Below u.heap.size u w')) := Lib.hid (fun u h => ImplSame_yes _ _ _ _ n _ _ xs u h.2.2.2.2.2.2.2.2.2.2.2.2.2.1.1 h.2.2.2.2.2.2.2.2.2.2.2.1.1 h.2.2.2.2.2.2.2.2.2.2.2.2.2.1.2 h.2.2.2.2.2.2.2.2.2.2.2.1.2)
          have HBO : Hid (∀ u : World, (u.cell? ⟨w1.heap.size, 0, none⟩ = some (.int .i64 n) ∧ u.cell? ⟨w1.heap.size, 1, none⟩ = some (.slice (some ⟨g, 0, none⟩) xs.length cv) ∧ u.cell? ⟨w14.heap.size, 0, none⟩ = some (.int .i64 n) ∧ u.cell? ⟨w14.heap.size, 1, none⟩ = some (.slice ad ys.length cd) ∧ u.cell? ⟨p2, 0, none⟩ = some (.int .i64 n) ∧ u.cell? ⟨p2, 1, none⟩ = some (.slice a2 xs.length c2) ∧ u.cell? ⟨w16.heap.size, 0, none⟩ = some (.int .i64 n) ∧ u.cell? ⟨w16.heap.size, 1, none⟩ = some (.slice ap zs.length cp) ∧ u.cell? ⟨w13.heap.size, 0, none⟩ = some (.int .i64 s) ∧ u.cell? ⟨w13.heap.size, 1, none⟩ = some (.int .i64 sa) ∧ u.cell? ⟨w13.heap.size, 2, none⟩ = some (.int .i64 sb) ∧ Rows4 w (w.heap.size) (w1.heap.size) (g3.heap.size) (w14.heap.size) (l2) (h2) (wr.heap.size) (w16.heap.size) (.slice (some ⟨g, 0, none⟩) xs.length cv) (.slice ad ys.length cd) (.slice a2 xs.length c2) (.slice ap zs.length cp) xs ys zs u) → Calls Try.prog 21 #[.agg #[.int .i64 n, .slice (some ⟨g, 0, none⟩) xs.length cv]] u (fun e w' => e = .returned (.bool true) ∧ Below u.heap.size u w')) := Lib.hid (fun u h => ImplBlockOk_yes _ _ n _ xs u h.2.2.2.2.2.2.2.2.2.2.2.1.1 h.2.2.2.2.2.2.2.2.2.2.2.1.2 HK.out)
          have HCO : Hid (∀ u : World, (u.cell? ⟨w1.heap.size, 0, none⟩ = some (.int .i64 n) ∧ u.cell? ⟨w1.heap.size, 1, none⟩ = some (.slice (some ⟨g, 0, none⟩) xs.length cv) ∧ u.cell? ⟨w14.heap.size, 0, none⟩ = some (.int .i64 n) ∧ u.cell? ⟨w14.heap.size, 1, none⟩ = some (.slice ad ys.length cd) ∧ u.cell? ⟨p2, 0, none⟩ = some (.int .i64 n) ∧ u.cell? ⟨p2, 1, none⟩ = some (.slice a2 xs.length c2) ∧ u.cell? ⟨w16.heap.size, 0, none⟩ = some (.int .i64 n) ∧ u.cell? ⟨w16.heap.size, 1, none⟩ = some (.slice ap zs.length cp) ∧ u.cell? ⟨w13.heap.size, 0, none⟩ = some (.int .i64 s) ∧ u.cell? ⟨w13.heap.size, 1, none⟩ = some (.int .i64 sa) ∧ u.cell? ⟨w13.heap.size, 2, none⟩ = some (.int .i64 sb) ∧ Rows4 w (w.heap.size) (w1.heap.size) (g3.heap.size) (w14.heap.size) (l2) (h2) (wr.heap.size) (w16.heap.size) (.slice (some ⟨g, 0, none⟩) xs.length cv) (.slice ad ys.length cd) (.slice a2 xs.length c2) (.slice ap zs.length cp) xs ys zs u) → Calls Try.prog 16 #[.agg #[.int .i64 n, .slice ap zs.length cp]] u (FreshI [3] u)) := Lib.hid (fun u h => HPC.out _ _ _ u h.2.2.2.2.2.2.2.2.2.2.2.2.2.2.1.1 h.2.2.2.2.2.2.2.2.2.2.2.2.2.2.1.2)
          have HSN : Hid (∀ u : World, (u.cell? ⟨w1.heap.size, 0, none⟩ = some (.int .i64 n) ∧ u.cell? ⟨w1.heap.size, 1, none⟩ = some (.slice (some ⟨g, 0, none⟩) xs.length cv) ∧ u.cell? ⟨w14.heap.size, 0, none⟩ = some (.int .i64 n) ∧ u.cell? ⟨w14.heap.size, 1, none⟩ = some (.slice ad ys.length cd) ∧ u.cell? ⟨p2, 0, none⟩ = some (.int .i64 n) ∧ u.cell? ⟨p2, 1, none⟩ = some (.slice a2 xs.length c2) ∧ u.cell? ⟨w16.heap.size, 0, none⟩ = some (.int .i64 n) ∧ u.cell? ⟨w16.heap.size, 1, none⟩ = some (.slice ap zs.length cp) ∧ u.cell? ⟨w13.heap.size, 0, none⟩ = some (.int .i64 s) ∧ u.cell? ⟨w13.heap.size, 1, none⟩ = some (.int .i64 sa) ∧ u.cell? ⟨w13.heap.size, 2, none⟩ = some (.int .i64 sb) ∧ Rows4 w (w.heap.size) (w1.heap.size) (g3.heap.size) (w14.heap.size) (l2) (h2) (wr.heap.size) (w16.heap.size) (.slice (some ⟨g, 0, none⟩) xs.length cv) (.slice ad ys.length cd) (.slice a2 xs.length c2) (.slice ap zs.length cp) xs ys zs u) → Calls Try.prog 20 #[.agg #[.int .i64 n, .slice (some ⟨g, 0, none⟩) xs.length cv], .agg #[.int .i64 0, .slice none 0 0]] u (fun e w' => e = .returned (.bool false) ∧ Below u.heap.size u w')) := Lib.hid (fun u h => ImplSame_none _ _ n n0 _ xs u h.2.2.2.2.2.2.2.2.2.2.2.1.1 h.2.2.2.2.2.2.2.2.2.2.2.1.2)
          have HBW : Hid (∀ u : World, (u.cell? ⟨w1.heap.size, 0, none⟩ = some (.int .i64 n) ∧ u.cell? ⟨w1.heap.size, 1, none⟩ = some (.slice (some ⟨g, 0, none⟩) xs.length cv) ∧ u.cell? ⟨w14.heap.size, 0, none⟩ = some (.int .i64 n) ∧ u.cell? ⟨w14.heap.size, 1, none⟩ = some (.slice ad ys.length cd) ∧ u.cell? ⟨p2, 0, none⟩ = some (.int .i64 n) ∧ u.cell? ⟨p2, 1, none⟩ = some (.slice a2 xs.length c2) ∧ u.cell? ⟨w16.heap.size, 0, none⟩ = some (.int .i64 n) ∧ u.cell? ⟨w16.heap.size, 1, none⟩ = some (.slice ap zs.length cp) ∧ u.cell? ⟨w13.heap.size, 0, none⟩ = some (.int .i64 s) ∧ u.cell? ⟨w13.heap.size, 1, none⟩ = some (.int .i64 sa) ∧ u.cell? ⟨w13.heap.size, 2, none⟩ = some (.int .i64 sb) ∧ Rows4 w (w.heap.size) (w1.heap.size) (g3.heap.size) (w14.heap.size) (l2) (h2) (wr.heap.size) (w16.heap.size) (.slice (some ⟨g, 0, none⟩) xs.length cv) (.slice ad ys.length cd) (.slice a2 xs.length c2) (.slice ap zs.length cp) xs ys zs u) → Below w.heap.size w u) := Lib.hid (fun u h => h.2.2.2.2.2.2.2.2.2.2.2.2.2.2.2)
          have D0 : Below g6.heap.size g6 g6.drew := ⟨rfl, rfl, rfl, Nat.le_refl _, fun _ _ => rfl⟩
          have S0 : g6.drew.cell? ⟨w1.heap.size, 0, none⟩ = some (.int .i64 n) ∧ g6.drew.cell? ⟨w1.heap.size, 1, none⟩ = some (.slice (some ⟨g, 0, none⟩) xs.length cv) ∧ g6.drew.cell? ⟨w14.heap.size, 0, none⟩ = some (.int .i64 n) ∧ g6.drew.cell? ⟨w14.heap.size, 1, none⟩ = some (.slice ad ys.length cd) ∧ g6.drew.cell? ⟨p2, 0, none⟩ = some (.int .i64 n) ∧ g6.drew.cell? ⟨p2, 1, none⟩ = some (.slice a2 xs.length c2) ∧ g6.drew.cell? ⟨w16.heap.size, 0, none⟩ = some (.int .i64 n) ∧ g6.drew.cell? ⟨w16.heap.size, 1, none⟩ = some (.slice ap zs.length cp) ∧ g6.drew.cell? ⟨w13.heap.size, 0, none⟩ = some (.int .i64 s) ∧ g6.drew.cell? ⟨w13.heap.size, 1, none⟩ = some (.int .i64 sa) ∧ g6.drew.cell? ⟨w13.heap.size, 2, none⟩ = some (.int .i64 sb) ∧ Rows4 w (w.heap.size) (w1.heap.size) (g3.heap.size) (w14.heap.size) (l2) (h2) (wr.heap.size) (w16.heap.size) (.slice (some ⟨g, 0, none⟩) xs.length cv) (.slice ad ys.length cd) (.slice a2 xs.length c2) (.slice ap zs.length cp) xs ys zs g6.drew := KP g6 g6.drew D0 ⟨c_P00, c_P01, c_P10, c_P11, c_P20, c_P21, c_P40, c_P41, c_A00, c_A01, c_A02, RR⟩
          clear R0 R1 R2 R4 P0 P1 P2 P4 A0 RR B D0 HXS HOQ HPC HKY HY HC HYL HIN HK1 HZZ c_P00 c_P01 c_P10 c_P11 c_P20 c_P21 c_P40 c_P41 c_A00 c_A01 c_A02
          have hfi := field_star
          go_region_held3 (fun w' => w'.cell? ⟨w1.heap.size, 0, none⟩ = some (.int .i64 n) ∧ w'.cell? ⟨w1.heap.size, 1, none⟩ = some (.slice (some ⟨g, 0, none⟩) xs.length cv) ∧ w'.cell? ⟨w14.heap.size, 0, none⟩ = some (.int .i64 n) ∧ w'.cell? ⟨w14.heap.size, 1, none⟩ = some (.slice ad ys.length cd) ∧ w'.cell? ⟨p2, 0, none⟩ = some (.int .i64 n) ∧ w'.cell? ⟨p2, 1, none⟩ = some (.slice a2 xs.length c2) ∧ w'.cell? ⟨w16.heap.size, 0, none⟩ = some (.int .i64 n) ∧ w'.cell? ⟨w16.heap.size, 1, none⟩ = some (.slice ap zs.length cp) ∧ w'.cell? ⟨w13.heap.size, 0, none⟩ = some (.int .i64 s) ∧ w'.cell? ⟨w13.heap.size, 1, none⟩ = some (.int .i64 sa) ∧ w'.cell? ⟨w13.heap.size, 2, none⟩ = some (.int .i64 sb) ∧ Rows4 w (w.heap.size) (w1.heap.size) (g3.heap.size) (w14.heap.size) (l2) (h2) (wr.heap.size) (w16.heap.size) (.slice (some ⟨g, 0, none⟩) xs.length cv) (.slice ad ys.length cd) (.slice a2 xs.length c2) (.slice ap zs.length cp) xs ys zs w') (first | assumption | (refine KP _ _ (by assumption) ?_; assumption) | exact KP _ _ (bel0 _ _) (by assumption) | go_keep)
            ((first
              | (go_at_call 19; refine (HCA.out _ (by assumption)).mono ?_; rintro e ua ⟨rfl, hba⟩)
              | (go_at_call 20; with_reducible refine (HSA.out _ (by assumption)).mono ?_; rintro e ub ⟨rfl, hbb⟩)
              | (go_at_call 20; with_reducible refine (HSN.out _ (by assumption)).mono ?_; rintro e uc ⟨rfl, hbc⟩)
              | (go_at_call 21; refine (HBO.out _ (by assumption)).mono ?_; rintro e ud ⟨rfl, hbd⟩)
              | (go_at_call 16; refine (HCO.out _ (by assumption)).mono ?_; rintro e ue ⟨ve, rfl, R5, hbe⟩; obtain ⟨a5, c5, rfl⟩ := R5.form; (try have L3 := (IntIn.lit _ 3 3).below (hbe.mono (by simp))))
              | (go_at_call 22; (first | (refine (SameInts_any _ _ _ _ _ _ [3] _ R5 L3 (Nat.le_refl _) (by have := hbe.size; simpa using this)).mono ?_) | (refine (SameInts_any _ _ _ _ _ _ [3] _ (R5.below (bel0 _ _)) (IntIn.lit _ 3 _) (by simp) (by simp)).mono ?_)); rintro e uf ⟨rfl, hbf⟩)
              | (go_at_call 23; refine (ImplStar_len _).mono ?_; rintro e ug ⟨⟨a9, c9, rfl⟩, hbg⟩)))
          all_goals
            go_wp2_with fail
            go_ret
            exact ⟨rfl, HBW.out _ (by assumption)⟩
  · have hl' : 1048576 < len := by omega
    go_enter Try.func3, Try.ntmps3
    go_wp2_with fail
    refine (Big_yes a len cap w hl hl').mono ?_
    rintro e w' ⟨rfl, rfl⟩
    go_wp2_with fail
    go_ret
    exact ⟨rfl, Below.refl _ _⟩

end Go.Proofs.Ytoljnokfhgopoaa
