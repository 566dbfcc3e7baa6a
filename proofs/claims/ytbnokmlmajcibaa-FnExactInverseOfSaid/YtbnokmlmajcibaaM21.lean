/- Blocks: the program's SameBlock. Symmetries: the program's sidesLikeFront, SymmetriesOf and ColorSymmetries. Symmetries: ascending lists of views. Pure. Symmetries: the program's areViews, IsClosed and IsMirrored. -/
import Derived.Test.YtbnokmlmajcibaaM04
import Derived.Test.YtbnokmlmajcibaaM05
import Derived.Test.YtbnokmlmajcibaaM20
import Derived.Test.YtbnokmlmajcibaaM02
import Derived.Test.YtbnokmlmajcibaaM11
import Derived.Deep.DeepCutAuto
import Derived.Deep.RegionHeld3
import Derived.Test.YtbnokmlmajcibaaM10

namespace Go.Proofs.Ytbnokmlmajcibaa
open Go.ChangeShapes Go.WideShapes Go.ChangeAt Go.RowKit

set_option maxHeartbeats 1000000 in
theorem EqCells_any (l1 h1 l2 h2 : Nat) (v1 v2 : Value) (xs ys : List C3) (w : World) (r1 : CellIn l1 h1 w v1 xs) (r2 : CellIn l2 h2 w v2 ys) (hh1 : h1 ≤ w.heap.size) (hh2 : h2 ≤ w.heap.size) :
    Calls Try.prog 45 #[v1, v2] w fun e w' => e = .returned (.bool (sameB 0 0 xs ys)) ∧ Below w.heap.size w w' := by
  obtain ⟨a1, c1, rfl⟩ := r1.form
  obtain ⟨a2, c2, rfl⟩ := r2.form
  have R1 := Lib.hid r1
  have R2 := Lib.hid r2
  have hl1 := r1.1
  have hl2 := r2.1
  clear r1 r2
  by_cases hl : xs.length = ys.length
  · have HL := Lib.hid hl
    have hb : ((xs.length : Int) != (ys.length : Int)) = false := by simp [hl]
    clear hl
    go_enter Try.func45, Try.ntmps45
    go_wp2_with fail
    go_loopw [13] (fun i wr => ∃ k : Nat, k ≤ xs.length ∧ i = .int .i64 k ∧ Hid (∀ j, j < k → xs.getD j C3.zero = ys.getD j C3.zero) ∧ Hid (Below w.heap.size w wr)) (fun i _ => xs.length - (intOf i).toNat)
    case atStart => exact ⟨0, Nat.zero_le _, rfl, fun j hj => by omega, Below.refl _ _⟩
    case round =>
      obtain ⟨k, hk, rfl, hup, hbel⟩ := hrel
      by_cases hlt : k < xs.length
      · obtain ⟨g1, rfl, _, _, ⟨e0, e1, e2⟩, _⟩ := R1.out.at (hbel.out.mono hh1) hlt
        have hlt2 : k < ys.length := by rw [← HL.out]; exact hlt
        obtain ⟨g2, rfl, _, _, ⟨f0, f1, f2⟩, _⟩ := R2.out.at (hbel.out.mono hh2) hlt2
        obtain ⟨c, hc⟩ : ∃ c, xs.getD k C3.zero = c := ⟨_, rfl⟩
        obtain ⟨d, hd⟩ : ∃ d, ys.getD k C3.zero = d := ⟨_, rfl⟩
        rw [hc] at e0 e1 e2
        rw [hd] at f0 f1 f2
        have HC := Lib.hid hc
        have HD := Lib.hid hd
        clear hc hd
        rcases C3.parts c d with ⟨q0, hne⟩ | ⟨q0, q1, hne⟩ | ⟨q0, q1, q2, hne⟩ | he
        case inr.inr.inr =>
          subst he
          have HN : Hid (∀ j, j < k + 1 → xs.getD j C3.zero = ys.getD j C3.zero) := Lib.hid (fun j hj => by
            rcases Nat.lt_succ_iff_lt_or_eq.1 hj with h | rfl
            · exact hup.out j h
            · rw [HC.out, HD.out])
          clear HC HD hup
          go_wp2_with fail
          go_quiet (fail)
          go_wp2_with fail
          go_roundw
          case rel => exact ⟨k + 1, by omega, by go_num, HN, Lib.hid ⟨hbel.out.os, hbel.out.tape, hbel.out.output, hbel.out.size, hbel.out.block⟩⟩
          case measure => simp [intOf] <;> omega
        all_goals
          have HN := Lib.hid (same_no_at (n := 0) (m := 0) (xs := xs) (ys := ys) (i := k) (by rw [HC.out, HD.out]; exact hne))
          clear HC HD hup hne
          go_wp2_with fail
          go_quiet (fail)
          go_wp2_with fail
          go_ret
          exact ⟨ret_bool HN.out, ⟨hbel.out.os, hbel.out.tape, hbel.out.output, hbel.out.size, hbel.out.block⟩⟩
      · obtain rfl : k = xs.length := by omega
        have HN := Lib.hid (same_yes (n := 0) (m := 0) rfl HL.out hup.out)
        go_wp2_with fail
        go_ret
        exact ⟨ret_bool HN.out, hbel.out⟩
  · have hb : ((xs.length : Int) != (ys.length : Int)) = true := by simp; omega
    have HN := Lib.hid (same_no (n := 0) (m := 0) (xs := xs) (ys := ys) (fun h => hl (by rw [h.2])))
    clear hl
    go_enter Try.func45, Try.ntmps45
    go_wp2_with fail
    go_ret
    exact ⟨ret_bool HN.out, Below.refl _ _⟩

theorem ImplSame_any (l1 h1 l2 h2 : Nat) (n m : Int) (v1 v2 : Value) (xs ys : List C3) (w : World) (r1 : CellIn l1 h1 w v1 xs) (r2 : CellIn l2 h2 w v2 ys) (hh1 : h1 ≤ w.heap.size) (hh2 : h2 ≤ w.heap.size) :
    Calls Try.prog 16 #[.agg #[.int .i64 n, v1], .agg #[.int .i64 m, v2]] w fun e w' => e = .returned (.bool (sameB n m xs ys)) ∧ Below w.heap.size w w' := by
  obtain ⟨a1, c1, rfl⟩ := r1.form
  obtain ⟨a2, c2, rfl⟩ := r2.form
  have R1 : ∀ W, Below w.heap.size w W → CellIn l1 h1 W (.slice a1 xs.length c1) xs := fun W hb => r1.below (hb.mono hh1)
  have R2 : ∀ W, Below w.heap.size w W → CellIn l2 h2 W (.slice a2 ys.length c2) ys := fun W hb => r2.below (hb.mono hh2)
  have HR1 := Lib.hid R1
  have HR2 := Lib.hid R2
  clear r1 r2 R1 R2
  by_cases hn : n = m
  · subst hn
    have HE : Hid (sameB 0 0 xs ys = sameB n n xs ys) := Lib.hid (by unfold sameB; simp)
    go_enter Try.func16, Try.ntmps16
    go_wp2_with fail
    refine (EqCells_any l1 h1 l2 h2 _ _ xs ys _ (HR1.out _ (bel_n (bel0 w _) (Nat.le_refl _) _)) (HR2.out _ (bel_n (bel0 w _) (Nat.le_refl _) _)) (by simp; omega) (by simp; omega)).mono ?_
    rintro e w1 ⟨rfl, hb⟩
    have HB := Lib.hid (bel_c (bel_n (bel0 w _) (Nat.le_refl _) _) (Nat.le_refl _) hb)
    clear hb
    generalize sameB 0 0 xs ys = r at HE ⊢
    go_wp2_with fail
    go_ret
    exact ⟨ret_bool HE.out, HB.out⟩
  · have hb : (n == m) = false := by simpa using hn
    have HN := Lib.hid (same_no (n := n) (m := m) (xs := xs) (ys := ys) (fun h => hn h.1))
    clear hn
    go_enter Try.func16, Try.ntmps16
    go_wp2_with fail
    go_ret
    exact ⟨ret_bool HN.out, bel_n (bel0 w _) (Nat.le_refl _) _⟩

end Go.Proofs.Ytbnokmlmajcibaa

namespace Go.Proofs.Ytbnokmlmajcibaa
open Go.ChangeShapes Go.WideShapes Go.ChangeAt Go.RowKit

theorem ImplSameN (l1 h1 l2 h2 : Nat) (n : Int) (v1 v2 : Value) (xs ys : List C3) (b : Bool) (u : World) (r1 : CellIn l1 h1 u v1 xs) (r2 : CellIn l2 h2 u v2 ys) (hh1 : h1 ≤ u.heap.size) (hh2 : h2 ≤ u.heap.size) (e : sameB n n xs ys = b) :
    Calls Try.prog 16 #[.agg #[.int .i64 n, v1], .agg #[.int .i64 n, v2]] u fun e w' => e = .returned (.bool b) ∧ Below u.heap.size u w' := by
  have := ImplSame_any l1 h1 l2 h2 n n v1 v2 xs ys u r1 r2 hh1 hh2
  rw [e] at this
  exact this
theorem SeenY (lo hi : Nat) (n : Int) (k : Nat) (kk : Int) (v : Value) (xs ys : List C3) (u : World) (r : CellIn lo hi u v xs) (h : hi ≤ u.heap.size) (hb : BlkOk n xs) (hkk : kk = k) (hk : k ≤ 7) (e : seeL n k xs = ys) :
    Calls Try.prog 41 #[.agg #[.int .i64 n, v], .int .i64 kk] u (FreshB n ys u) := by
  subst hkk
  have := SeenV_any lo hi n k hk v xs u r h
  rw [(turnB_yes hb).1, fV_yes hb, e] at this
  exact this
theorem PatY (lo hi : Nat) (n : Int) (k : Nat) (kk : Int) (v : Value) (xs ys : List C3) (u : World) (r : CellIn lo hi u v xs) (h : hi ≤ u.heap.size) (hb : BlkOk n xs) (hkk : kk = k) (hk : k ≤ 7) (e : plainL (seeL n k xs) = ys) :
    Calls Try.prog 42 #[.agg #[.int .i64 n, v], .int .i64 kk] u (FreshB n ys u) := by
  subst hkk
  have := PatV_any lo hi n k hk v xs u r h
  rw [(turnB_yes hb).1, fP_yes hb, e] at this
  exact this
theorem own_nil (W : World) (b e : Nat) : W.ownsRow b e 1 (.slice none 0 0) 0 [] := ⟨rfl, .inl ⟨rfl, rfl⟩⟩
set_option maxRecDepth 100000 in
set_option maxHeartbeats 4000000 in
theorem SidesV_any (lo hi : Nat) (n : Int) (v : Value) (xs : List C3) (w : World) (r : CellIn lo hi w v xs) (hhi : hi ≤ w.heap.size) :
    Calls Try.prog 40 #[.agg #[.int .i64 n, v], .func (.func 41) #[] #[]] w (FreshI (symsOf n xs) w) := by
  obtain ⟨i0, hi0, hz0, hz1, hz2⟩ : ∃ i, Try.prog.info? 3 = some i ∧ i.zero = some (.int .i64 0) ∧ i.size = 1 ∧ i.bytes = 8 := info_parts3 info_int
  obtain ⟨a, cap, rfl⟩ := r.form
  have HR := Lib.hid (fun W (hb : Below w.heap.size w W) => r.below (hb.mono hhi))
  clear r
  by_cases hb : BlkOk n xs
  · rw [syms_yes hb]
    have HB := Lib.hid hb
    obtain ⟨f, hf⟩ : ∃ f, stab n xs = f := ⟨_, rfl⟩
    obtain ⟨ys, hys⟩ : ∃ ys, seeL n 0 xs = ys := ⟨_, rfl⟩
    have HE : Hid (∀ k, sameB n n (seeL n k xs) ys = f k) := Lib.hid (fun k => by rw [← hf, ← hys]; rfl)
    have CV := Lib.hid (fun (W : World) (k : Nat) (kk : Int) (zs : List C3) (hb : Below w.heap.size w W) (hkk : kk = k) (hk : k ≤ 7) (e : seeL n k xs = zs) => SeenY lo hi n k kk _ xs zs W (HR.out W hb) (Nat.le_trans hhi hb.size) HB.out hkk hk e)
    have C0 := Lib.hid (fun W hb => CV.out W 0 0 ys hb rfl (by omega) hys)
    rw [hf]
    clear hf hb hys
    go_enter Try.func40, Try.ntmps40
    go_wp2_with fail
    refine (ImplBlockOk_yes lo hi n _ xs _ (HR.out _ (bel0 w _)) (by simp; omega) HB.out).mono ?_
    rintro e w1 ⟨rfl, hb1⟩
    have p0 := kept (p := ⟨w.heap.size, 0, none⟩) (x := .int .i64 n) hb1 (by go_simp)
    have p1 := kept (p := ⟨w.heap.size, 1, none⟩) (x := .slice a xs.length cap) hb1 (by go_simp)
    have B1 := Lib.hid (bel_c (bel0 w (.cells #[.int .i64 n, .slice a xs.length cap] 26)) (Nat.le_refl _) hb1)
    have hz1' : w.heap.size < w1.heap.size := by have := hb1.size; simp at this; omega
    clear hb1
    go_wp2_with fail
    refine (args_eq (C0.out w1 B1.out) (by with_reducible rfl)).mono ?_
    rintro e w3 ⟨v3, rfl, R3, hb3⟩
    obtain ⟨a3, c3, rfl⟩ := R3.form
    obtain ⟨P, hP⟩ : ∃ P, w3.heap.size = P := ⟨_, rfl⟩
    obtain ⟨G, hG⟩ : ∃ G, G = w3.alloc (.cells #[.int .i64 n, .slice a3 ys.length c3] 26) := ⟨_, rfl⟩
    have HBG : Hid (Below w.heap.size w G ∧ G.heap.size = P + 1 ∧ w.heap.size < G.heap.size) := Lib.hid (by
      rw [hG, ← hP]
      refine ⟨bel_n (bel_c B1.out (Nat.le_refl _) hb3) (Nat.le_refl _) _, by simp, ?_⟩
      have := hb3.size; simp; omega)
    have HX : Hid (Two w.heap.size (.int .i64 n) (.slice a xs.length cap) G ∧ Two P (.int .i64 n) (.slice a3 ys.length c3) G ∧ CellIn w1.heap.size P G (.slice a3 ys.length c3) ys) := Lib.hid (by
      rw [hG, ← hP]
      exact ⟨(Two.keep (Two.keep ⟨p0, p1⟩ hb3) (bel0 _ _)), Two.new w3 _ _ _, R3.below (bel0 _ _)⟩)
    have HP : Hid (∀ W, Below G.heap.size G W → (W.cell? ⟨w.heap.size, 0, none⟩ = some (.int .i64 n) ∧ W.cell? ⟨w.heap.size, 1, none⟩ = some (.slice a xs.length cap)) ∧ W.cell? ⟨P, 0, none⟩ = some (.int .i64 n) ∧ W.cell? ⟨P, 1, none⟩ = some (.slice a3 ys.length c3)) := Lib.hid (fun W hb => ⟨HX.out.1.keep hb, HX.out.2.1.keep hb⟩)
    have HC : Hid (∀ u, Below G.heap.size G u → Below w.heap.size w u ∧ CellIn w1.heap.size P u (.slice a3 ys.length c3) ys ∧ P ≤ u.heap.size ∧ G.heap.size ≤ u.heap.size) := Lib.hid (fun u h => by
      have h1 := HBG.out
      have h2 := h.size
      exact ⟨bel_c h1.1 (Nat.le_refl _) h, HX.out.2.2.below (h.mono (by omega)), by omega, h2⟩)
    clear p0 p1 B1 hz1' R3 hb3 C0
    go_wp2_with fail
    (try rw [hP])
    rw [← hG]
    clear hG hP HX
    go_loopw [6, 14] (fun q i wr => ∃ (m : Nat), m ≤ 8 ∧ i = .int .i64 m ∧ Hid (wr.ownsRow G.heap.size 3 1 q (selL f m).length (ivals (selL f m))) ∧ Hid (Below G.heap.size G wr)) (fun _ i _ => 8 - (intOf i).toNat)
    case atStart => exact ⟨0, Nat.zero_le _, rfl, Lib.hid (own_nil _ _ _), Lib.hid (Below.refl _ _)⟩
    case round =>
      obtain ⟨m, hm, rfl, hown, hbel⟩ := hrel
      by_cases hlt : m < 8
      · obtain ⟨⟨p0, p1⟩, q0, q1⟩ := HP.out _ hbel.out
        have hlt' : (m : Int) < 8 := by omega
        have O1 := hown
        have B1 := hbel
        clear hown hbel
        go_upto_region 8 with fail
        have D0 : Below wr.heap.size wr wr.drew := ⟨rfl, rfl, rfl, Nat.le_refl _, fun _ _ => rfl⟩
        have KP : ∀ u v, Below u.heap.size u v → (u.cell? ⟨w.heap.size, 0, none⟩ = some (.int .i64 n) ∧ u.cell? ⟨w.heap.size, 1, none⟩ = some (.slice a xs.length cap) ∧ u.cell? ⟨P, 0, none⟩ = some (.int .i64 n) ∧ u.cell? ⟨P, 1, none⟩ = some (.slice a3 ys.length c3) ∧ Below wr.heap.size wr u) → (v.cell? ⟨w.heap.size, 0, none⟩ = some (.int .i64 n) ∧ v.cell? ⟨w.heap.size, 1, none⟩ = some (.slice a xs.length cap) ∧ v.cell? ⟨P, 0, none⟩ = some (.int .i64 n) ∧ v.cell? ⟨P, 1, none⟩ = some (.slice a3 ys.length c3) ∧ Below wr.heap.size wr v) := fun u v hb h => ⟨kept hb h.1, kept hb h.2.1, kept hb h.2.2.1, kept hb h.2.2.2.1, bel_c h.2.2.2.2 (Nat.le_refl _) hb⟩
        have HU : Hid (∀ u, (u.cell? ⟨w.heap.size, 0, none⟩ = some (.int .i64 n) ∧ u.cell? ⟨w.heap.size, 1, none⟩ = some (.slice a xs.length cap) ∧ u.cell? ⟨P, 0, none⟩ = some (.int .i64 n) ∧ u.cell? ⟨P, 1, none⟩ = some (.slice a3 ys.length c3) ∧ Below wr.heap.size wr u) → Below w.heap.size w u ∧ CellIn w1.heap.size P u (.slice a3 ys.length c3) ys ∧ P ≤ u.heap.size ∧ G.heap.size ≤ u.heap.size) := Lib.hid (fun u h => HC.out u (B1.out.trans (h.2.2.2.2.mono (HC.out _ B1.out).2.2.2)))
        have S0 : wr.drew.cell? ⟨w.heap.size, 0, none⟩ = some (.int .i64 n) ∧ wr.drew.cell? ⟨w.heap.size, 1, none⟩ = some (.slice a xs.length cap) ∧ wr.drew.cell? ⟨P, 0, none⟩ = some (.int .i64 n) ∧ wr.drew.cell? ⟨P, 1, none⟩ = some (.slice a3 ys.length c3) ∧ Below wr.heap.size wr wr.drew := ⟨kept D0 p0, kept D0 p1, kept D0 q0, kept D0 q1, D0⟩
        obtain ⟨vk, hvk⟩ : ∃ vk, seeL n m xs = vk := ⟨_, rfl⟩
        obtain ⟨b, hbb⟩ : ∃ b, f m = b := ⟨_, rfl⟩
        have L1 := Lib.hid (fun (u : World) (h : u.cell? ⟨w.heap.size, 0, none⟩ = some (.int .i64 n) ∧ u.cell? ⟨w.heap.size, 1, none⟩ = some (.slice a xs.length cap) ∧ u.cell? ⟨P, 0, none⟩ = some (.int .i64 n) ∧ u.cell? ⟨P, 1, none⟩ = some (.slice a3 ys.length c3) ∧ Below wr.heap.size wr u) => CV.out u m (m : Int) vk (HU.out u h).1 rfl (by omega) hvk)
        have HSB : Hid (sameB n n vk ys = b) := Lib.hid (by rw [← hvk, HE.out, hbb])
        have HS := Lib.hid (selL_succ f m)
        rw [hbb] at HS
        clear p0 p1 q0 q1 hvk hbb
        try simp only [List.append_eq, List.cons_append, List.nil_append]
        have hS := S0
        refine reg_begin (fun w' => w'.cell? ⟨w.heap.size, 0, none⟩ = some (.int .i64 n) ∧ w'.cell? ⟨w.heap.size, 1, none⟩ = some (.slice a xs.length cap) ∧ w'.cell? ⟨P, 0, none⟩ = some (.int .i64 n) ∧ w'.cell? ⟨P, 1, none⟩ = some (.slice a3 ys.length c3) ∧ Below wr.heap.size wr w') (by kernel_rfl) hS ?_
        refine reg_take 0 (v := ?_) rfl (by kernel_rfl) (by kernel_rfl) (by kernel_rfl) (fun _ _ _ h => h) (by rfl) (by intro w hSw; (try dsimp only at hSw); go_simp; first | done | with_reducible rfl) hS ?_
        simp only [Act.put, List.setIfInBounds_toArray, List.set_cons_zero, List.set_cons_succ]
        refine reg_take 1 (v := ?_) rfl (by kernel_rfl) (by kernel_rfl) (by kernel_rfl) (fun _ _ _ h => h) (by rfl) (by intro w hSw; (try dsimp only at hSw); go_simp; first | done | with_reducible rfl) hS ?_
        simp only [Act.put, List.setIfInBounds_toArray, List.set_cons_zero, List.set_cons_succ]
        refine reg_take 2 (v := ?_) rfl (by kernel_rfl) (by kernel_rfl) (by kernel_rfl) (fun _ _ _ h => h) (by rfl) (by intro w hSw; (try dsimp only at hSw); go_simp; first | done | with_reducible rfl) hS ?_
        simp only [Act.put, List.setIfInBounds_toArray, List.set_cons_zero, List.set_cons_succ]
        refine reg_take 4 (v := ?_) rfl (by kernel_rfl) (by kernel_rfl) (by kernel_rfl) (fun _ _ _ h => h) (by rfl) (by intro w hSw; (try dsimp only at hSw); go_simp; first | done | with_reducible rfl) hS ?_
        simp only [Act.put, List.setIfInBounds_toArray, List.set_cons_zero, List.set_cons_succ]
        refine reg_call 3 rfl (by kernel_rfl) (by rfl) (fun K hK => ?_)
        go_simp
        go_at_call 41
        refine (args_eq (L1.out _ hS) (by with_reducible rfl)).mono ?_
        rintro e yA ⟨vA, rfl, RA, hb⟩
        obtain ⟨aA, cA, rfl⟩ := RA.form
        have HRA := Lib.hid (fun v (hv : Below yA.heap.size yA v) => RA.below (hv.mono (Nat.le_refl _)))
        have hbA := hb
        clear RA
        refine hK.out _ _ (KP _ _ hb hS) (fun hS' => ?_)
        clear hK K hS
        have hS := hS'
        clear hS' hb
        try simp only [Act.put, List.setIfInBounds_toArray, List.set_cons_zero, List.set_cons_succ]
        refine reg_call 5 rfl (by kernel_rfl) (by rfl) (fun K hK => ?_)
        go_simp
        go_at_call 16
        refine (args_eq (ImplSameN _ _ _ _ n _ _ vk ys b yA (HRA.out _ (Below.refl _ _)) (HU.out _ hS).2.1 (Nat.le_refl _) (HU.out _ hS).2.2.1 HSB.out) (by with_reducible rfl)).mono ?_
        rintro e y ⟨rfl, hb⟩
        refine hK.out _ _ (KP _ _ hb hS) (fun hS' => ?_)
        clear hK K hS
        have hS := hS'
        clear hS' hb
        try simp only [Act.put, List.setIfInBounds_toArray, List.set_cons_zero, List.set_cons_succ]
        refine wpAnyH_done (by kernel_rfl) ?_ _
        have HY := Lib.hid (show y.cell? ⟨w.heap.size, 0, none⟩ = some (.int .i64 n) ∧ y.cell? ⟨w.heap.size, 1, none⟩ = some (.slice a xs.length cap) ∧ y.cell? ⟨P, 0, none⟩ = some (.int .i64 n) ∧ y.cell? ⟨P, 1, none⟩ = some (.slice a3 ys.length c3) ∧ Below wr.heap.size wr y by assumption).2.2.2.2
        have O2 := Lib.hid (owns_below1 O1.out HY.out)
        have B2 := Lib.hid (B1.out.trans (HY.out.mono (HC.out _ B1.out).2.2.2))
        have HZY : Hid (G.heap.size ≤ y.heap.size) := Lib.hid (HC.out _ B2.out).2.2.2
        clear hS S0 KP D0 L1 HU O1 B1 HY HRA hbA HSB
        cases b
        · have HN : Hid (selL f (m + 1) = selL f m) := Lib.hid (by rw [HS.out]; simp)
          clear HS
          go_wp2_with fail
          go_roundw
          case rel => exact ⟨m + 1, by omega, by go_num, by rw [HN.out]; exact O2, B2⟩
          case measure => simp [intOf] <;> omega
        · have HN : Hid (selL f (m + 1) = selL f m ++ [(m : Int)]) := Lib.hid (by rw [HS.out]; simp)
          have hcl := selL_le f m
          have HO1 := Lib.hid (owns_below1 O2.out (bel0 y (.cells #[.int .i64 m] 3)))
          have HNW := Lib.hid (news_one y y.heap.size (.int .i64 m) 3 rfl)
          have HB2 : Hid (G.heap.size ≤ (y.alloc (.cells #[.int .i64 m] 3)).heap.size) := Lib.hid (by have := HZY.out; simp; omega)
          have HB3 := Lib.hid (B2.out.trans ((bel0 y (.cells #[.int .i64 m] 3)).mono HZY.out))
          clear HS O2 B2
          go_wp2_with (at_builtin; refine wpList_append_lies _ rfl _ _ 28 rfl (G.heap.size) 3 i0 (.int .i64 0) 1 8 Try.underlying28 hi0 hz0 hz1 hz2 rfl (by decide) _ _ _ rfl HO1.out ⟨y.heap.size, 0, none⟩ 1 1 [.int .i64 m] rfl rfl HNW.out (by simp [Value.oneCell']) (by omega) (by unfold maxLen; omega) (by omega) HB2.out (y.heap.size + 1) (by simp) ?_; intro gg cc w2 hown2 hgrow hat hlt2)
          have hbw := (Below.refl (G.heap.size) _).grown hgrow HB2.out (own_ge1 HO1.out)
          have HN2 : Hid (w2.ownsRow (G.heap.size) 3 1 (.slice (some ⟨gg, 0, none⟩) ((selL f m).length + 1) cc) (selL f (m + 1)).length (ivals (selL f (m + 1)))) := Lib.hid (by rw [HN.out, List.length_append]; unfold ivals at hown2 ⊢; rw [List.map_append]; exact hown2)
          have HB4 := Lib.hid (HB3.out.trans hbw)
          clear hown2 hgrow hat hlt2 hbw HO1 HNW
          go_wp2_with fail
          go_roundw
          case rel => exact ⟨m + 1, by omega, by go_num, HN2, HB4⟩
          case measure => simp [intOf] <;> omega
      · obtain rfl : m = 8 := by omega
        have HI := Lib.hid (IntIn.of_owns (zs := selL f 8) hown.out (by have := selL_le f 8; omega))
        have hzG := HBG.out.2.2
        clear hown
        go_wp2_with fail
        go_ret
        exact ⟨_, rfl, HI.out.wide (by omega) (Nat.le_refl _), (HC.out _ hbel.out).1⟩
  · rw [syms_no hb]
    have HB := Lib.hid hb
    clear hb
    go_enter Try.func40, Try.ntmps40
    go_wp2_with fail
    refine (ImplBlockOk_no lo hi n _ xs _ (HR.out _ (bel0 w _)) (by simp; omega) HB.out).mono ?_
    rintro e w1 ⟨rfl, hb1⟩
    go_wp2_with fail
    go_ret
    exact ⟨_, rfl, ⟨by simp, .inl ⟨rfl, _, _, rfl⟩⟩, bel_c (bel0 w _) (Nat.le_refl _) hb1⟩
set_option maxRecDepth 100000 in
set_option maxHeartbeats 4000000 in
theorem SidesP_any (lo hi : Nat) (n : Int) (v : Value) (xs : List C3) (w : World) (r : CellIn lo hi w v xs) (hhi : hi ≤ w.heap.size) :
    Calls Try.prog 40 #[.agg #[.int .i64 n, v], .func (.func 42) #[] #[]] w (FreshI (csymsOf n xs) w) := by
  obtain ⟨i0, hi0, hz0, hz1, hz2⟩ : ∃ i, Try.prog.info? 3 = some i ∧ i.zero = some (.int .i64 0) ∧ i.size = 1 ∧ i.bytes = 8 := info_parts3 info_int
  obtain ⟨a, cap, rfl⟩ := r.form
  have HR := Lib.hid (fun W (hb : Below w.heap.size w W) => r.below (hb.mono hhi))
  clear r
  by_cases hb : BlkOk n xs
  · rw [csyms_yes hb]
    have HB := Lib.hid hb
    obtain ⟨f, hf⟩ : ∃ f, cstab n xs = f := ⟨_, rfl⟩
    obtain ⟨ys, hys⟩ : ∃ ys, plainL (seeL n 0 xs) = ys := ⟨_, rfl⟩
    have HE : Hid (∀ k, sameB n n (plainL (seeL n k xs)) ys = f k) := Lib.hid (fun k => by rw [← hf, ← hys]; rfl)
    have CV := Lib.hid (fun (W : World) (k : Nat) (kk : Int) (zs : List C3) (hb : Below w.heap.size w W) (hkk : kk = k) (hk : k ≤ 7) (e : plainL (seeL n k xs) = zs) => PatY lo hi n k kk _ xs zs W (HR.out W hb) (Nat.le_trans hhi hb.size) HB.out hkk hk e)
    have C0 := Lib.hid (fun W hb => CV.out W 0 0 ys hb rfl (by omega) hys)
    rw [hf]
    clear hf hb hys
    go_enter Try.func40, Try.ntmps40
    go_wp2_with fail
    refine (ImplBlockOk_yes lo hi n _ xs _ (HR.out _ (bel0 w _)) (by simp; omega) HB.out).mono ?_
    rintro e w1 ⟨rfl, hb1⟩
    have p0 := kept (p := ⟨w.heap.size, 0, none⟩) (x := .int .i64 n) hb1 (by go_simp)
    have p1 := kept (p := ⟨w.heap.size, 1, none⟩) (x := .slice a xs.length cap) hb1 (by go_simp)
    have B1 := Lib.hid (bel_c (bel0 w (.cells #[.int .i64 n, .slice a xs.length cap] 26)) (Nat.le_refl _) hb1)
    have hz1' : w.heap.size < w1.heap.size := by have := hb1.size; simp at this; omega
    clear hb1
    go_wp2_with fail
    refine (args_eq (C0.out w1 B1.out) (by with_reducible rfl)).mono ?_
    rintro e w3 ⟨v3, rfl, R3, hb3⟩
    obtain ⟨a3, c3, rfl⟩ := R3.form
    obtain ⟨P, hP⟩ : ∃ P, w3.heap.size = P := ⟨_, rfl⟩
    obtain ⟨G, hG⟩ : ∃ G, G = w3.alloc (.cells #[.int .i64 n, .slice a3 ys.length c3] 26) := ⟨_, rfl⟩
    have HBG : Hid (Below w.heap.size w G ∧ G.heap.size = P + 1 ∧ w.heap.size < G.heap.size) := Lib.hid (by
      rw [hG, ← hP]
      refine ⟨bel_n (bel_c B1.out (Nat.le_refl _) hb3) (Nat.le_refl _) _, by simp, ?_⟩
      have := hb3.size; simp; omega)
    have HX : Hid (Two w.heap.size (.int .i64 n) (.slice a xs.length cap) G ∧ Two P (.int .i64 n) (.slice a3 ys.length c3) G ∧ CellIn w1.heap.size P G (.slice a3 ys.length c3) ys) := Lib.hid (by
      rw [hG, ← hP]
      exact ⟨(Two.keep (Two.keep ⟨p0, p1⟩ hb3) (bel0 _ _)), Two.new w3 _ _ _, R3.below (bel0 _ _)⟩)
    have HP : Hid (∀ W, Below G.heap.size G W → (W.cell? ⟨w.heap.size, 0, none⟩ = some (.int .i64 n) ∧ W.cell? ⟨w.heap.size, 1, none⟩ = some (.slice a xs.length cap)) ∧ W.cell? ⟨P, 0, none⟩ = some (.int .i64 n) ∧ W.cell? ⟨P, 1, none⟩ = some (.slice a3 ys.length c3)) := Lib.hid (fun W hb => ⟨HX.out.1.keep hb, HX.out.2.1.keep hb⟩)
    have HC : Hid (∀ u, Below G.heap.size G u → Below w.heap.size w u ∧ CellIn w1.heap.size P u (.slice a3 ys.length c3) ys ∧ P ≤ u.heap.size ∧ G.heap.size ≤ u.heap.size) := Lib.hid (fun u h => by
      have h1 := HBG.out
      have h2 := h.size
      exact ⟨bel_c h1.1 (Nat.le_refl _) h, HX.out.2.2.below (h.mono (by omega)), by omega, h2⟩)
    clear p0 p1 B1 hz1' R3 hb3 C0
    go_wp2_with fail
    (try rw [hP])
    rw [← hG]
    clear hG hP HX
    go_loopw [6, 14] (fun q i wr => ∃ (m : Nat), m ≤ 8 ∧ i = .int .i64 m ∧ Hid (wr.ownsRow G.heap.size 3 1 q (selL f m).length (ivals (selL f m))) ∧ Hid (Below G.heap.size G wr)) (fun _ i _ => 8 - (intOf i).toNat)
    case atStart => exact ⟨0, Nat.zero_le _, rfl, Lib.hid (own_nil _ _ _), Lib.hid (Below.refl _ _)⟩
    case round =>
      obtain ⟨m, hm, rfl, hown, hbel⟩ := hrel
      by_cases hlt : m < 8
      · obtain ⟨⟨p0, p1⟩, q0, q1⟩ := HP.out _ hbel.out
        have hlt' : (m : Int) < 8 := by omega
        have O1 := hown
        have B1 := hbel
        clear hown hbel
        go_upto_region 8 with fail
        have D0 : Below wr.heap.size wr wr.drew := ⟨rfl, rfl, rfl, Nat.le_refl _, fun _ _ => rfl⟩
        have KP : ∀ u v, Below u.heap.size u v → (u.cell? ⟨w.heap.size, 0, none⟩ = some (.int .i64 n) ∧ u.cell? ⟨w.heap.size, 1, none⟩ = some (.slice a xs.length cap) ∧ u.cell? ⟨P, 0, none⟩ = some (.int .i64 n) ∧ u.cell? ⟨P, 1, none⟩ = some (.slice a3 ys.length c3) ∧ Below wr.heap.size wr u) → (v.cell? ⟨w.heap.size, 0, none⟩ = some (.int .i64 n) ∧ v.cell? ⟨w.heap.size, 1, none⟩ = some (.slice a xs.length cap) ∧ v.cell? ⟨P, 0, none⟩ = some (.int .i64 n) ∧ v.cell? ⟨P, 1, none⟩ = some (.slice a3 ys.length c3) ∧ Below wr.heap.size wr v) := fun u v hb h => ⟨kept hb h.1, kept hb h.2.1, kept hb h.2.2.1, kept hb h.2.2.2.1, bel_c h.2.2.2.2 (Nat.le_refl _) hb⟩
        have HU : Hid (∀ u, (u.cell? ⟨w.heap.size, 0, none⟩ = some (.int .i64 n) ∧ u.cell? ⟨w.heap.size, 1, none⟩ = some (.slice a xs.length cap) ∧ u.cell? ⟨P, 0, none⟩ = some (.int .i64 n) ∧ u.cell? ⟨P, 1, none⟩ = some (.slice a3 ys.length c3) ∧ Below wr.heap.size wr u) → Below w.heap.size w u ∧ CellIn w1.heap.size P u (.slice a3 ys.length c3) ys ∧ P ≤ u.heap.size ∧ G.heap.size ≤ u.heap.size) := Lib.hid (fun u h => HC.out u (B1.out.trans (h.2.2.2.2.mono (HC.out _ B1.out).2.2.2)))
        have S0 : wr.drew.cell? ⟨w.heap.size, 0, none⟩ = some (.int .i64 n) ∧ wr.drew.cell? ⟨w.heap.size, 1, none⟩ = some (.slice a xs.length cap) ∧ wr.drew.cell? ⟨P, 0, none⟩ = some (.int .i64 n) ∧ wr.drew.cell? ⟨P, 1, none⟩ = some (.slice a3 ys.length c3) ∧ Below wr.heap.size wr wr.drew := ⟨kept D0 p0, kept D0 p1, kept D0 q0, kept D0 q1, D0⟩
        obtain ⟨vk, hvk⟩ : ∃ vk, plainL (seeL n m xs) = vk := ⟨_, rfl⟩
        obtain ⟨b, hbb⟩ : ∃ b, f m = b := ⟨_, rfl⟩
        have L1 := Lib.hid (fun (u : World) (h : u.cell? ⟨w.heap.size, 0, none⟩ = some (.int .i64 n) ∧ u.cell? ⟨w.heap.size, 1, none⟩ = some (.slice a xs.length cap) ∧ u.cell? ⟨P, 0, none⟩ = some (.int .i64 n) ∧ u.cell? ⟨P, 1, none⟩ = some (.slice a3 ys.length c3) ∧ Below wr.heap.size wr u) => CV.out u m (m : Int) vk (HU.out u h).1 rfl (by omega) hvk)
        have HSB : Hid (sameB n n vk ys = b) := Lib.hid (by rw [← hvk, HE.out, hbb])
        have HS := Lib.hid (selL_succ f m)
        rw [hbb] at HS
        clear p0 p1 q0 q1 hvk hbb
        try simp only [List.append_eq, List.cons_append, List.nil_append]
        have hS := S0
        refine reg_begin (fun w' => w'.cell? ⟨w.heap.size, 0, none⟩ = some (.int .i64 n) ∧ w'.cell? ⟨w.heap.size, 1, none⟩ = some (.slice a xs.length cap) ∧ w'.cell? ⟨P, 0, none⟩ = some (.int .i64 n) ∧ w'.cell? ⟨P, 1, none⟩ = some (.slice a3 ys.length c3) ∧ Below wr.heap.size wr w') (by kernel_rfl) hS ?_
        refine reg_take 0 (v := ?_) rfl (by kernel_rfl) (by kernel_rfl) (by kernel_rfl) (fun _ _ _ h => h) (by rfl) (by intro w hSw; (try dsimp only at hSw); go_simp; first | done | with_reducible rfl) hS ?_
        simp only [Act.put, List.setIfInBounds_toArray, List.set_cons_zero, List.set_cons_succ]
        refine reg_take 1 (v := ?_) rfl (by kernel_rfl) (by kernel_rfl) (by kernel_rfl) (fun _ _ _ h => h) (by rfl) (by intro w hSw; (try dsimp only at hSw); go_simp; first | done | with_reducible rfl) hS ?_
        simp only [Act.put, List.setIfInBounds_toArray, List.set_cons_zero, List.set_cons_succ]
        refine reg_take 2 (v := ?_) rfl (by kernel_rfl) (by kernel_rfl) (by kernel_rfl) (fun _ _ _ h => h) (by rfl) (by intro w hSw; (try dsimp only at hSw); go_simp; first | done | with_reducible rfl) hS ?_
        simp only [Act.put, List.setIfInBounds_toArray, List.set_cons_zero, List.set_cons_succ]
        refine reg_take 4 (v := ?_) rfl (by kernel_rfl) (by kernel_rfl) (by kernel_rfl) (fun _ _ _ h => h) (by rfl) (by intro w hSw; (try dsimp only at hSw); go_simp; first | done | with_reducible rfl) hS ?_
        simp only [Act.put, List.setIfInBounds_toArray, List.set_cons_zero, List.set_cons_succ]
        refine reg_call 3 rfl (by kernel_rfl) (by rfl) (fun K hK => ?_)
        go_simp
        go_at_call 42
        refine (args_eq (L1.out _ hS) (by with_reducible rfl)).mono ?_
        rintro e yA ⟨vA, rfl, RA, hb⟩
        obtain ⟨aA, cA, rfl⟩ := RA.form
        have HRA := Lib.hid (fun v (hv : Below yA.heap.size yA v) => RA.below (hv.mono (Nat.le_refl _)))
        have hbA := hb
        clear RA
        refine hK.out _ _ (KP _ _ hb hS) (fun hS' => ?_)
        clear hK K hS
        have hS := hS'
        clear hS' hb
        try simp only [Act.put, List.setIfInBounds_toArray, List.set_cons_zero, List.set_cons_succ]
        refine reg_call 5 rfl (by kernel_rfl) (by rfl) (fun K hK => ?_)
        go_simp
        go_at_call 16
        refine (args_eq (ImplSameN _ _ _ _ n _ _ vk ys b yA (HRA.out _ (Below.refl _ _)) (HU.out _ hS).2.1 (Nat.le_refl _) (HU.out _ hS).2.2.1 HSB.out) (by with_reducible rfl)).mono ?_
        rintro e y ⟨rfl, hb⟩
        refine hK.out _ _ (KP _ _ hb hS) (fun hS' => ?_)
        clear hK K hS
        have hS := hS'
        clear hS' hb
        try simp only [Act.put, List.setIfInBounds_toArray, List.set_cons_zero, List.set_cons_succ]
        refine wpAnyH_done (by kernel_rfl) ?_ _
        have HY := Lib.hid (show y.cell? ⟨w.heap.size, 0, none⟩ = some (.int .i64 n) ∧ y.cell? ⟨w.heap.size, 1, none⟩ = some (.slice a xs.length cap) ∧ y.cell? ⟨P, 0, none⟩ = some (.int .i64 n) ∧ y.cell? ⟨P, 1, none⟩ = some (.slice a3 ys.length c3) ∧ Below wr.heap.size wr y by assumption).2.2.2.2
        have O2 := Lib.hid (owns_below1 O1.out HY.out)
        have B2 := Lib.hid (B1.out.trans (HY.out.mono (HC.out _ B1.out).2.2.2))
        have HZY : Hid (G.heap.size ≤ y.heap.size) := Lib.hid (HC.out _ B2.out).2.2.2
        clear hS S0 KP D0 L1 HU O1 B1 HY HRA hbA HSB
        cases b
        · have HN : Hid (selL f (m + 1) = selL f m) := Lib.hid (by rw [HS.out]; simp)
          clear HS
          go_wp2_with fail
          go_roundw
          case rel => exact ⟨m + 1, by omega, by go_num, by rw [HN.out]; exact O2, B2⟩
          case measure => simp [intOf] <;> omega
        · have HN : Hid (selL f (m + 1) = selL f m ++ [(m : Int)]) := Lib.hid (by rw [HS.out]; simp)
          have hcl := selL_le f m
          have HO1 := Lib.hid (owns_below1 O2.out (bel0 y (.cells #[.int .i64 m] 3)))
          have HNW := Lib.hid (news_one y y.heap.size (.int .i64 m) 3 rfl)
          have HB2 : Hid (G.heap.size ≤ (y.alloc (.cells #[.int .i64 m] 3)).heap.size) := Lib.hid (by have := HZY.out; simp; omega)
          have HB3 := Lib.hid (B2.out.trans ((bel0 y (.cells #[.int .i64 m] 3)).mono HZY.out))
          clear HS O2 B2
          go_wp2_with (at_builtin; refine wpList_append_lies _ rfl _ _ 28 rfl (G.heap.size) 3 i0 (.int .i64 0) 1 8 Try.underlying28 hi0 hz0 hz1 hz2 rfl (by decide) _ _ _ rfl HO1.out ⟨y.heap.size, 0, none⟩ 1 1 [.int .i64 m] rfl rfl HNW.out (by simp [Value.oneCell']) (by omega) (by unfold maxLen; omega) (by omega) HB2.out (y.heap.size + 1) (by simp) ?_; intro gg cc w2 hown2 hgrow hat hlt2)
          have hbw := (Below.refl (G.heap.size) _).grown hgrow HB2.out (own_ge1 HO1.out)
          have HN2 : Hid (w2.ownsRow (G.heap.size) 3 1 (.slice (some ⟨gg, 0, none⟩) ((selL f m).length + 1) cc) (selL f (m + 1)).length (ivals (selL f (m + 1)))) := Lib.hid (by rw [HN.out, List.length_append]; unfold ivals at hown2 ⊢; rw [List.map_append]; exact hown2)
          have HB4 := Lib.hid (HB3.out.trans hbw)
          clear hown2 hgrow hat hlt2 hbw HO1 HNW
          go_wp2_with fail
          go_roundw
          case rel => exact ⟨m + 1, by omega, by go_num, HN2, HB4⟩
          case measure => simp [intOf] <;> omega
      · obtain rfl : m = 8 := by omega
        have HI := Lib.hid (IntIn.of_owns (zs := selL f 8) hown.out (by have := selL_le f 8; omega))
        have hzG := HBG.out.2.2
        clear hown
        go_wp2_with fail
        go_ret
        exact ⟨_, rfl, HI.out.wide (by omega) (Nat.le_refl _), (HC.out _ hbel.out).1⟩
  · rw [csyms_no hb]
    have HB := Lib.hid hb
    clear hb
    go_enter Try.func40, Try.ntmps40
    go_wp2_with fail
    refine (ImplBlockOk_no lo hi n _ xs _ (HR.out _ (bel0 w _)) (by simp; omega) HB.out).mono ?_
    rintro e w1 ⟨rfl, hb1⟩
    go_wp2_with fail
    go_ret
    exact ⟨_, rfl, ⟨by simp, .inl ⟨rfl, _, _, rfl⟩⟩, bel_c (bel0 w _) (Nat.le_refl _) hb1⟩
theorem ImplSyms_any (lo hi : Nat) (n : Int) (v : Value) (xs : List C3) (w : World) (r : CellIn lo hi w v xs) (hhi : hi ≤ w.heap.size) :
    Calls Try.prog 12 #[.agg #[.int .i64 n, v]] w (FreshI (symsOf n xs) w) := by
  obtain ⟨a, cap, rfl⟩ := r.form
  have CV := Lib.hid (SidesV_any lo hi n _ xs (w.alloc (.cells #[.int .i64 n, .slice a xs.length cap] 26)) (r.below ((bel0 w _).mono hhi)) (by simp; omega))
  clear r
  generalize symsOf n xs = zs at CV ⊢
  go_enter Try.func12, Try.ntmps12
  go_wp2_with fail
  refine CV.out.mono ?_
  rintro e w3 ⟨v3, rfl, I3, hb3⟩
  obtain ⟨a3, c3, rfl⟩ := I3.form
  have HI := Lib.hid I3
  have HB := Lib.hid (bel_c (bel0 w (.cells #[.int .i64 n, .slice a xs.length cap] 26)) (Nat.le_refl _) hb3)
  clear hb3 CV I3
  go_wp2_with fail
  go_ret
  exact ⟨_, rfl, HI.out.wide (by simp) (Nat.le_refl _), HB.out⟩
theorem ImplCSyms_any (lo hi : Nat) (n : Int) (v : Value) (xs : List C3) (w : World) (r : CellIn lo hi w v xs) (hhi : hi ≤ w.heap.size) :
    Calls Try.prog 13 #[.agg #[.int .i64 n, v]] w (FreshI (csymsOf n xs) w) := by
  obtain ⟨a, cap, rfl⟩ := r.form
  have CV := Lib.hid (SidesP_any lo hi n _ xs (w.alloc (.cells #[.int .i64 n, .slice a xs.length cap] 26)) (r.below ((bel0 w _).mono hhi)) (by simp; omega))
  clear r
  generalize csymsOf n xs = zs at CV ⊢
  go_enter Try.func13, Try.ntmps13
  go_wp2_with fail
  refine CV.out.mono ?_
  rintro e w3 ⟨v3, rfl, I3, hb3⟩
  obtain ⟨a3, c3, rfl⟩ := I3.form
  have HI := Lib.hid I3
  have HB := Lib.hid (bel_c (bel0 w (.cells #[.int .i64 n, .slice a xs.length cap] 26)) (Nat.le_refl _) hb3)
  clear hb3 CV I3
  go_wp2_with fail
  go_ret
  exact ⟨_, rfl, HI.out.wide (by simp) (Nat.le_refl _), HB.out⟩

end Go.Proofs.Ytbnokmlmajcibaa

namespace Go.Proofs.Ytbnokmlmajcibaa
open Go.ChangeShapes Go.WideShapes Go.ChangeAt Go.RowKit

theorem ascP_out {zs : List Int} {j : Nat} (h : ¬ (0 ≤ zs.getD j 0 ∧ zs.getD j 0 ≤ 7)) : ascP zs j = false := by
  cases hc : ascP zs j with
  | false => rfl
  | true => exact absurd (asc_view hc) h
theorem ascP_zero {zs : List Int} (h : 0 ≤ zs.getD 0 0 ∧ zs.getD 0 0 ≤ 7) : ascP zs 0 = true := by
  unfold ascP; rw [decide_eq_true h.1, decide_eq_true h.2]; rfl
theorem ascP_no {zs : List Int} {m : Nat} (h : zs.getD (m + 1) 0 ≤ zs.getD m 0) : ascP zs (m + 1) = false := by
  unfold ascP
  rw [decide_eq_false (show ¬ m + 1 = 0 by omega), show m + 1 - 1 = m by omega, decide_eq_false (show ¬ zs.getD m 0 < zs.getD (m + 1) 0 by omega)]
  simp
theorem ascP_yes {zs : List Int} {m : Nat} (h : 0 ≤ zs.getD (m + 1) 0 ∧ zs.getD (m + 1) 0 ≤ 7) (k : zs.getD m 0 < zs.getD (m + 1) 0) : ascP zs (m + 1) = true := by
  unfold ascP
  rw [decide_eq_true h.1, decide_eq_true h.2, show m + 1 - 1 = m by omega, decide_eq_true k]
  simp
theorem ascK_zero (zs : List Int) : ascK zs 0 = true := rfl
theorem ascK_succ {zs : List Int} {k : Nat} (h : ascK zs k = true) (g : ascP zs k = true) : ascK zs (k + 1) = true :=
  ascK_at.2 fun j hj => by
    rcases Nat.lt_succ_iff_lt_or_eq.1 hj with h1 | rfl
    · exact ascK_at.1 h j h1
    · exact g
theorem ascK_no {zs : List Int} {j k : Nat} (hj : j < k) (h : ascP zs j = false) : ascK zs k = false := by
  cases hc : ascK zs k with
  | false => rfl
  | true => rw [ascK_at.1 hc j hj] at h; cases h
theorem mulK_succ {zs : List Int} {i k : Nat} (h : mulK zs i k = true) (g : mulP zs i k = true) : mulK zs i (k + 1) = true :=
  mulK_at.2 fun j hj => by
    rcases Nat.lt_succ_iff_lt_or_eq.1 hj with h1 | rfl
    · exact mulK_at.1 h j h1
    · exact g
theorem mulA_succ {zs : List Int} {i : Nat} (h : mulA zs i = true) (g : mulK zs i zs.length = true) : mulA zs (i + 1) = true :=
  mulA_at.2 fun j hj => by
    rcases Nat.lt_succ_iff_lt_or_eq.1 hj with h1 | rfl
    · exact mulA_at.1 h j h1
    · exact g
theorem closed_no {zs : List Int} (h : ascK zs zs.length = false) : closedB zs = false := by unfold closedB; rw [h]; rfl
theorem asc_at {zs : List Int} (h : ascK zs zs.length = true) {j : Nat} (hj : j < zs.length) : ∃ c : Nat, zs.getD j 0 = (c : Int) ∧ c < 8 := by
  have := asc_view (ascK_at.1 h j hj)
  exact ⟨(zs.getD j 0).toNat, by omega, by omega⟩
end Go.Proofs.Ytbnokmlmajcibaa

namespace Go.Proofs.Ytbnokmlmajcibaa
open Go.ChangeShapes Go.WideShapes Go.ChangeAt Go.RowKit

set_option maxHeartbeats 1000000 in
theorem AreViews_any (lo hi : Nat) (v : Value) (zs : List Int) (w : World) (r : IntO lo hi w v zs) :
    Calls Try.prog 51 #[v] w fun e w' => e = .returned (.bool (ascK zs zs.length)) ∧ w' = w := by
  obtain ⟨a, cap, rfl⟩ := r.form
  have R := Lib.hid r
  have hl := r.1
  clear r
  go_enter Try.func51, Try.ntmps51
  go_wp2_with fail
  go_loop [7] (fun i => ∃ k : Nat, k ≤ zs.length ∧ i = .int .i64 k ∧ Hid (ascK zs k = true)) (fun i => zs.length - (intOf i).toNat)
  case atStart => exact ⟨0, Nat.zero_le _, rfl, Lib.hid (ascK_zero _)⟩
  case round =>
    obtain ⟨k, hk, rfl, hall⟩ := hrel
    by_cases hlt : k < zs.length
    · obtain ⟨g, o, rfl, _, _, e0, _⟩ := R.out.at (Below.refl _ _) hlt
      by_cases hc : 0 ≤ zs.getD k 0 ∧ zs.getD k 0 ≤ 7
      · have CV := Lib.hid (ViewOk_yes _ w hc.1 hc.2)
        rcases k with _ | m
        · have HN := Lib.hid (ascK_succ hall.out (ascP_zero hc))
          rw [Nat.add_zero] at e0
          generalize zs.getD 0 0 = c at e0 CV
          clear hall hc
          go_wp2_with fail
          refine CV.out.mono ?_
          rintro e uu ⟨rfl, huu⟩
          have huu := huu.symm
          subst huu
          go_wp2_with fail
          go_round
          case rel => exact ⟨1, by omega, by go_num, HN⟩
          case measure => simp [intOf] <;> omega
        · obtain ⟨g2, o2, e2, _, _, d0, _⟩ := R.out.at (Below.refl _ _) (show m < zs.length by omega)
          simp only [Option.some.injEq, Addr.mk.injEq, and_true] at e2
          obtain ⟨rfl, rfl⟩ := e2
          by_cases hcd : zs.getD (m + 1) 0 ≤ zs.getD m 0
          · have HF := Lib.hid (ascK_no hlt (ascP_no hcd))
            generalize zs.getD (m + 1) 0 = c at e0 CV hcd
            generalize zs.getD m 0 = d at d0 hcd
            clear hall hc
            go_wp2_with fail
            refine CV.out.mono ?_
            rintro e uu ⟨rfl, huu⟩
            have huu := huu.symm
            subst huu
            go_wp2_with fail
            go_ret
            exact ⟨ret_bool HF.out.symm, rfl⟩
          · have HN := Lib.hid (ascK_succ hall.out (ascP_yes hc (by omega)))
            generalize zs.getD (m + 1) 0 = c at e0 CV hcd
            generalize zs.getD m 0 = d at d0 hcd
            clear hall hc
            go_wp2_with fail
            refine CV.out.mono ?_
            rintro e uu ⟨rfl, huu⟩
            have huu := huu.symm
            subst huu
            go_wp2_with fail
            go_round
            case rel => exact ⟨m + 1 + 1, by omega, by go_num, HN⟩
            case measure => simp [intOf] <;> omega
      · have CV := Lib.hid (ViewOk_no (zs.getD k 0) w (by omega))
        have HF := Lib.hid (ascK_no hlt (ascP_out hc))
        generalize zs.getD k 0 = c at e0 CV
        clear hall hc
        go_wp2_with fail
        refine CV.out.mono ?_
        rintro e uu ⟨rfl, huu⟩
        have huu := huu.symm
        subst huu
        go_wp2_with fail
        go_ret
        exact ⟨ret_bool HF.out.symm, rfl⟩
    · obtain rfl : k = zs.length := by omega
      go_wp2_with fail
      go_ret
      exact ⟨ret_bool hall.out.symm, rfl⟩
set_option maxHeartbeats 1000000 in
theorem ImplClosed_eq (lo hi : Nat) (v : Value) (zs : List Int) (w : World) (r : IntO lo hi w v zs) :
    Calls Try.prog 20 #[v] w fun e w' => e = .returned (.bool (closedB zs)) ∧ w' = w := by
  obtain ⟨a, cap, rfl⟩ := r.form
  have R := Lib.hid r
  have hl := r.1
  have CA := Lib.hid (AreViews_any lo hi _ zs w r)
  have CN := Lib.hid (fun x : Int => Contains_any lo hi _ zs x w r)
  have CP := Lib.hid (fun i k : Int => ImplProd_any i k w)
  clear r
  cases hA : ascK zs zs.length
  · rw [closed_no hA]
    rw [hA] at CA
    clear hA
    go_enter Try.func20, Try.ntmps20
    go_wp2_with fail
    refine CA.out.mono ?_
    rintro e uu ⟨rfl, huu⟩
    have huu := huu.symm
    subst huu
    go_wp2_with fail
    go_ret
    exact ⟨rfl, rfl⟩
  · rw [hA] at CA
    have C0 := Lib.hid (CN.out 0)
    by_cases hz : (0 : Int) ∈ zs
    · rw [decide_eq_true hz] at C0
      have HY : Hid (mulA zs zs.length = true → closedB zs = true) := Lib.hid (fun h => by rw [closed_yes hA h, decide_eq_true hz])
      clear hA hz
      go_enter Try.func20, Try.ntmps20
      go_wp2_with fail
      refine CA.out.mono ?_
      rintro e uu ⟨rfl, huu⟩
      have huu := huu.symm
      subst huu
      go_wp2_with fail
      refine C0.out.mono ?_
      rintro e uu ⟨rfl, huu⟩
      have huu := huu.symm
      subst huu
      go_wp2_with fail
      go_loop [17] (fun x => ∃ i : Nat, i ≤ zs.length ∧ x = .int .i64 i ∧ Hid (mulA zs i = true)) (fun x => zs.length - (intOf x).toNat)
      case atStart => exact ⟨0, Nat.zero_le _, rfl, Lib.hid rfl⟩
      case round =>
        obtain ⟨i, hi', rfl, hall⟩ := hrel
        by_cases hlt : i < zs.length
        · obtain ⟨g, o, rfl, _, _, e0, _⟩ := R.out.at (Below.refl _ _) hlt
          obtain ⟨c, hc⟩ : ∃ c, zs.getD i 0 = c := ⟨_, rfl⟩
          have HC := Lib.hid hc
          rw [hc] at e0
          clear hc
          go_wp2_with fail
          go_loop [23] (fun x => ∃ k : Nat, k ≤ zs.length ∧ x = .int .i64 k ∧ Hid (mulK zs i k = true)) (fun x => zs.length - (intOf x).toNat)
          case atStart => exact ⟨0, Nat.zero_le _, rfl, Lib.hid rfl⟩
          case round =>
            obtain ⟨k, hk, rfl, hin⟩ := hrel
            by_cases hlk : k < zs.length
            · obtain ⟨g2, o2, e2, _, _, d0, _⟩ := R.out.at (Below.refl _ _) hlk
              simp only [Option.some.injEq, Addr.mk.injEq, and_true] at e2
              obtain ⟨rfl, rfl⟩ := e2
              obtain ⟨d, hd⟩ : ∃ d, zs.getD k 0 = d := ⟨_, rfl⟩
              have HM : Hid (mulP zs i k = decide (prodI c d ∈ zs)) := Lib.hid (by unfold mulP; rw [HC.out, hd])
              rw [hd] at d0
              have CP1 := Lib.hid (CP.out c d)
              have CN1 := Lib.hid (CN.out (prodI c d))
              generalize prodI c d = p at CP1 CN1 HM
              generalize decide (p ∈ zs) = b at CN1 HM
              clear hd
              cases b
              · have HF := Lib.hid (closed_mul hlt hlk HM.out)
                clear hin HM HC hall
                go_wp2_with fail
                refine CP1.out.mono ?_
                rintro e uu ⟨rfl, huu⟩
                have huu := huu.symm
                subst huu
                go_wp2_with fail
                refine CN1.out.mono ?_
                rintro e uu ⟨rfl, huu⟩
                have huu := huu.symm
                subst huu
                go_wp2_with fail
                go_ret
                exact ⟨ret_bool HF.out.symm, rfl⟩
              · have HN := Lib.hid (mulK_succ hin.out HM.out)
                clear hin HM
                go_wp2_with fail
                refine CP1.out.mono ?_
                rintro e uu ⟨rfl, huu⟩
                have huu := huu.symm
                subst huu
                go_wp2_with fail
                refine CN1.out.mono ?_
                rintro e uu ⟨rfl, huu⟩
                have huu := huu.symm
                subst huu
                go_wp2_with fail
                go_round
                case rel => exact ⟨k + 1, by omega, by go_num, HN⟩
                case measure => simp [intOf] <;> omega
            · obtain rfl : k = zs.length := by omega
              have HN := Lib.hid (mulA_succ hall.out hin.out)
              clear hin hall
              go_wp2_with fail
              go_round
              case rel => exact ⟨i + 1, by omega, by go_num, HN⟩
              case measure => simp [intOf] <;> omega
        · obtain rfl : i = zs.length := by omega
          have HF := Lib.hid (HY.out hall.out)
          clear hall
          go_wp2_with fail
          go_ret
          exact ⟨ret_bool HF.out.symm, rfl⟩
    · rw [decide_eq_false hz] at C0
      rw [closed_zero hz]
      clear hA hz
      go_enter Try.func20, Try.ntmps20
      go_wp2_with fail
      refine CA.out.mono ?_
      rintro e uu ⟨rfl, huu⟩
      have huu := huu.symm
      subst huu
      go_wp2_with fail
      refine C0.out.mono ?_
      rintro e uu ⟨rfl, huu⟩
      have huu := huu.symm
      subst huu
      go_wp2_with fail
      go_ret
      exact ⟨rfl, rfl⟩
theorem ImplClosed_any (lo hi : Nat) (v : Value) (zs : List Int) (w : World) (r : IntO lo hi w v zs) (_hhi : hi ≤ w.heap.size) :
    Calls Try.prog 20 #[v] w fun e w' => e = .returned (.bool (closedB zs)) ∧ Below w.heap.size w w' := by
  refine (ImplClosed_eq lo hi v zs w r).mono ?_
  rintro e w' ⟨rfl, rfl⟩
  exact ⟨rfl, Below.refl _ _⟩

/-! ### slices.ContainsFunc of a view's mirror -/
/-- The first that shows the mirror image, or -1. -/
def firstM (zs : List Int) : Int := if zs.any (fun z => decide (4 ≤ z)) then ((zs.findIdx fun z => decide (4 ≤ z) : Nat) : Int) else -1
theorem firstM_mirr (zs : List Int) : decide (0 ≤ firstM zs) = mirrI zs := by
  unfold firstM mirrI
  cases zs.any (fun z => decide (4 ≤ z)) <;> simp
set_option maxHeartbeats 400000 in
theorem IndexM_any (lo hi : Nat) (v : Value) (zs : List Int) (w : World) (r : IntIn lo hi w v zs) :
    Calls Try.prog 76 #[v, .func (.func 44) #[] #[]] w fun e w' => (∃ z : Int, e = .returned (.int .i64 z) ∧ decide (0 ≤ z) = mirrI zs) ∧ w' = w := by
  obtain ⟨a, cap, rfl⟩ := r.form
  have R := Lib.hid r
  have hl := r.1
  clear r
  go_enter Try.func76, Try.ntmps76
  go_wp2_with fail
  go_loop [8] (fun i => ∃ k : Nat, k ≤ zs.length ∧ i = .int .i64 k ∧ Hid (∀ j, j < k → zs.getD j 0 < 4)) (fun i => zs.length - (intOf i).toNat)
  case atStart => exact ⟨0, Nat.zero_le _, rfl, Lib.hid (fun j hj => by omega)⟩
  case round =>
    obtain ⟨k, hk, rfl, hno⟩ := hrel
    by_cases hlt : k < zs.length
    · obtain ⟨g, rfl, _, _, e0, _⟩ := R.out.at (Below.refl _ _) hlt
      have CM := Lib.hid (MirV_any (zs.getD k 0) w)
      by_cases h4 : 4 ≤ zs.getD k 0
      · have HF : Hid (true = mirrI zs) := Lib.hid (by
          unfold mirrI
          rw [eq_comm, List.any_eq_true]
          exact ⟨zs[k], List.getElem_mem hlt, by simpa [List.getD, hlt] using h4⟩)
        rw [decide_eq_true h4] at CM
        generalize zs.getD k 0 = c at e0 CM
        clear hno h4
        go_wp2_with fail
        refine CM.out.mono ?_
        rintro e uu ⟨rfl, huu⟩
        have huu := huu.symm
        subst huu
        go_wp2_with fail
        go_ret
        exact ⟨⟨_, rfl, by rw [← HF.out]; simp⟩, rfl⟩
      · have HN : Hid (∀ j, j < k + 1 → zs.getD j 0 < 4) := Lib.hid (fun j hj => by
          rcases Nat.lt_succ_iff_lt_or_eq.1 hj with h | rfl
          · exact hno.out j h
          · omega)
        rw [decide_eq_false h4] at CM
        generalize zs.getD k 0 = c at e0 CM
        clear hno h4
        go_wp2_with fail
        refine CM.out.mono ?_
        rintro e uu ⟨rfl, huu⟩
        have huu := huu.symm
        subst huu
        go_wp2_with fail
        go_round
        case rel => exact ⟨k + 1, by omega, by go_num, HN⟩
        case measure => simp [intOf] <;> omega
    · obtain rfl : k = zs.length := by omega
      have HF : Hid (false = mirrI zs) := Lib.hid (by
        unfold mirrI
        rw [eq_comm, List.any_eq_false]
        intro z hz
        obtain ⟨j, hj, rfl⟩ := List.getElem_of_mem hz
        have := hno.out j hj
        simpa [List.getD, hj] using this)
      clear hno
      go_wp2_with fail
      go_ret
      exact ⟨⟨_, rfl, by rw [← HF.out]; simp⟩, rfl⟩
theorem ContainsM_any (lo hi : Nat) (v : Value) (zs : List Int) (w : World) (r : IntIn lo hi w v zs) :
    Calls Try.prog 54 #[v, .func (.func 44) #[] #[]] w fun e w' => e = .returned (.bool (mirrI zs)) ∧ w' = w := by
  have C := Lib.hid (IndexM_any lo hi v zs w r)
  clear r
  go_enter Try.func54, Try.ntmps54
  go_wp2_with fail
  refine C.out.mono ?_
  rintro e w' ⟨⟨z, rfl, hz⟩, rfl⟩
  have HZ := Lib.hid hz
  clear hz
  go_wp2_with fail
  go_ret
  exact ⟨ret_bool HZ.out, rfl⟩
theorem ImplMirr_any (lo hi : Nat) (n : Int) (v : Value) (xs : List C3) (w : World) (r : CellIn lo hi w v xs) (hhi : hi ≤ w.heap.size) :
    Calls Try.prog 22 #[.agg #[.int .i64 n, v]] w fun e w' => e = .returned (.bool (mirrI (symsOf n xs))) ∧ Below w.heap.size w w' := by
  obtain ⟨a, cap, rfl⟩ := r.form
  have CV := Lib.hid (ImplSyms_any lo hi n _ xs (w.alloc (.cells #[.int .i64 n, .slice a xs.length cap] 26)) (r.below ((bel0 w _).mono hhi)) (by simp; omega))
  clear r
  generalize symsOf n xs = zs at CV ⊢
  go_enter Try.func22, Try.ntmps22
  go_wp2_with fail
  refine CV.out.mono ?_
  rintro e w3 ⟨v3, rfl, I3, hb3⟩
  have CM := Lib.hid (ContainsM_any _ _ v3 zs w3 I3)
  have HB := Lib.hid (bel_c (bel0 w (.cells #[.int .i64 n, .slice a xs.length cap] 26)) (Nat.le_refl _) hb3)
  obtain ⟨a3, c3, rfl⟩ := I3.form
  clear hb3 CV I3
  go_wp2_with fail
  refine CM.out.mono ?_
  rintro e uu ⟨rfl, huu⟩
  have huu := huu.symm
  subst huu
  go_wp2_with fail
  go_ret
  exact ⟨rfl, HB.out⟩

end Go.Proofs.Ytbnokmlmajcibaa
