/- Turns: the program's turnedAt and mirroredAt. Blocks: the program's BlockOk. Turns: the program's moveCells, TurnBlock and MirrorBlock. Turns: the program's viewOk and isMirrorView. -/
import Derived.Test.YtfidnhhlcdbaeaaGreatDoorM08
import Derived.Test.YtfidnhhlcdbaeaaGreatDoorM03
import Derived.Test.YtfidnhhlcdbaeaaGreatDoorM07
import Derived.Test.YtfidnhhlcdbaeaaGreatDoorM05
import Derived.Deep.AppendLies
import Derived.Test.YtfidnhhlcdbaeaaGreatDoorM00

namespace Go.Proofs.YtfidnhhlcdbaeaaGreatDoor
open Go.ChangeShapes Go.WideShapes Go.ChangeAt Go.RowKit

/-- turnedAt, at a place that a valid block has. -/
theorem TurnCellAt_ok (lo hi m x y : Nat) (v : Value) (xs : List C3) (w : World) (r : CellIn lo hi w v xs) (hhi : hi ≤ w.heap.size) (hb : BlkOk (m : Int) xs) (hx : x < m) (hy : y < m) :
    Calls Tryz.prog 63 #[.agg #[.int .i64 (m : Int), v], .int .i64 (x : Int), .int .i64 (y : Int)] w fun e w' => e = .returned (.agg #[.int .i64 (turnC (xs.getD (tP m (y * m + x)) C3.zero)).s, .int .i64 (turnC (xs.getD (tP m (y * m + x)) C3.zero)).a, .int .i64 (turnC (xs.getD (tP m (y * m + x)) C3.zero)).b]) ∧ Below w.heap.size w w' := by
  obtain ⟨a, cap, rfl⟩ := r.form
  have hl := r.1
  obtain ⟨m', hmm, hm1, hm4, hml⟩ := sz_nat hb
  obtain rfl : m = m' := by omega
  clear hmm
  obtain ⟨j, hj1, hj2, hw1, hw2, hw3, hw4⟩ := tIdx hm1 hm4 hx hy
  rw [tP_at hx, ← hj1]
  have hjl : j < xs.length := by rw [hml]; exact hj2
  have hj0 : (0 : Int) ≤ (j : Int) := by omega
  have hji : (j : Int) < (xs.length : Int) := by omega
  have hok := blk_at hb hjl
  have B0 := bel_n (bel0 w (.cells #[.int .i64 m, .slice a xs.length cap] 26)) (Nat.le_refl _) (.cells #[.int .i64 0, .int .i64 0, .int .i64 0] 50)
  obtain ⟨g, rfl, hg1, hg2, ⟨e0, e1, e2⟩, _⟩ := (r.below (B0.mono hhi)).at (Below.refl _ _) hjl
  have CT0 := ImplTurnCell_any (xs.getD j C3.zero).s (xs.getD j C3.zero).a (xs.getD j C3.zero).b
  have hzz : turnZ (xs.getD j C3.zero) = turnC (xs.getD j C3.zero) := if_pos hok
  have CT : Hid (∀ u : World, Calls Tryz.prog 83 #[.agg #[.int .i64 (xs.getD j C3.zero).s, .int .i64 (xs.getD j C3.zero).a, .int .i64 (xs.getD j C3.zero).b]] u fun e w' => e = .returned (.agg #[.int .i64 (turnC (xs.getD j C3.zero)).s, .int .i64 (turnC (xs.getD j C3.zero)).a, .int .i64 (turnC (xs.getD j C3.zero)).b]) ∧ Below u.heap.size u w') := Lib.hid (fun u => by have := CT0 u; rw [hzz] at this; exact this)
  clear CT0 hzz hok hb r hl hj1 hml
  generalize turnC (xs.getD j C3.zero) = z at CT ⊢
  generalize xs.getD j C3.zero = c at e0 e1 e2 CT
  obtain ⟨cs, ca, cb⟩ := c
  have hgn : g < w.heap.size := by omega
  go_enter Tryz.func63, Tryz.ntmps63
  go_wp2_with fail
  refine (CT.out _).mono ?_
  rintro e w1 ⟨rfl, hb1⟩
  have B := bel_c B0 (Nat.le_refl _) hb1
  have d0 := kept (p := ⟨w.heap.size + 1, 0, none⟩) (x := .int .i64 0) hb1 (by go_simp)
  have d1 := kept (p := ⟨w.heap.size + 1, 1, none⟩) (x := .int .i64 0) hb1 (by go_simp)
  have d2 := kept (p := ⟨w.heap.size + 1, 2, none⟩) (x := .int .i64 0) hb1 (by go_simp)
  have g0 := keptF (p := ⟨w.heap.size + 1, 0, none⟩) (x := .int .i64 0) hb1 (by go_simp) (by go_simp)
  have g1 := keptF (p := ⟨w.heap.size + 1, 1, none⟩) (x := .int .i64 0) hb1 (by go_simp) (by go_simp)
  have g2 := keptF (p := ⟨w.heap.size + 1, 2, none⟩) (x := .int .i64 0) hb1 (by go_simp) (by go_simp)
  clear hb1 B0 e0 e1 e2
  go_wp2_with fail
  refine bodyPost_ret (v := .agg #[.int .i64 z.s, .int .i64 z.a, .int .i64 z.b]) (by simp [results, Tryz.results63, go_sem, d0, d1, d2]) rfl ⟨rfl, ?_⟩
  refine Below.setCell (Below.setCell (Below.setCell B ?_ _) ?_ _) ?_ _ <;> (simp <;> omega)
/-- mirroredAt, at a place that a valid block has. -/
theorem MirrorCellAt_ok (lo hi m x y : Nat) (v : Value) (xs : List C3) (w : World) (r : CellIn lo hi w v xs) (hhi : hi ≤ w.heap.size) (hb : BlkOk (m : Int) xs) (hx : x < m) (hy : y < m) :
    Calls Tryz.prog 62 #[.agg #[.int .i64 (m : Int), v], .int .i64 (x : Int), .int .i64 (y : Int)] w fun e w' => e = .returned (.agg #[.int .i64 (mirC (xs.getD (mP m (y * m + x)) C3.zero)).s, .int .i64 (mirC (xs.getD (mP m (y * m + x)) C3.zero)).a, .int .i64 (mirC (xs.getD (mP m (y * m + x)) C3.zero)).b]) ∧ Below w.heap.size w w' := by
  obtain ⟨a, cap, rfl⟩ := r.form
  have hl := r.1
  obtain ⟨m', hmm, hm1, hm4, hml⟩ := sz_nat hb
  obtain rfl : m = m' := by omega
  clear hmm
  obtain ⟨j, hj1, hj2, hw1, hw2, hw3, hw4⟩ := mIdx hm1 hm4 hx hy
  rw [mP_at hx, ← hj1]
  have hjl : j < xs.length := by rw [hml]; exact hj2
  have hj0 : (0 : Int) ≤ (j : Int) := by omega
  have hji : (j : Int) < (xs.length : Int) := by omega
  have hok := blk_at hb hjl
  have B0 := bel_n (bel0 w (.cells #[.int .i64 m, .slice a xs.length cap] 26)) (Nat.le_refl _) (.cells #[.int .i64 0, .int .i64 0, .int .i64 0] 50)
  obtain ⟨g, rfl, hg1, hg2, ⟨e0, e1, e2⟩, _⟩ := (r.below (B0.mono hhi)).at (Below.refl _ _) hjl
  have CT0 := ImplMirrorCell_any (xs.getD j C3.zero).s (xs.getD j C3.zero).a (xs.getD j C3.zero).b
  have hzz : mirZ (xs.getD j C3.zero) = mirC (xs.getD j C3.zero) := if_pos hok
  have CT : Hid (∀ u : World, Calls Tryz.prog 82 #[.agg #[.int .i64 (xs.getD j C3.zero).s, .int .i64 (xs.getD j C3.zero).a, .int .i64 (xs.getD j C3.zero).b]] u fun e w' => e = .returned (.agg #[.int .i64 (mirC (xs.getD j C3.zero)).s, .int .i64 (mirC (xs.getD j C3.zero)).a, .int .i64 (mirC (xs.getD j C3.zero)).b]) ∧ Below u.heap.size u w') := Lib.hid (fun u => by have := CT0 u; rw [hzz] at this; exact this)
  clear CT0 hzz hok hb r hl hj1 hml
  generalize mirC (xs.getD j C3.zero) = z at CT ⊢
  generalize xs.getD j C3.zero = c at e0 e1 e2 CT
  obtain ⟨cs, ca, cb⟩ := c
  have hgn : g < w.heap.size := by omega
  go_enter Tryz.func62, Tryz.ntmps62
  go_wp2_with fail
  refine (CT.out _).mono ?_
  rintro e w1 ⟨rfl, hb1⟩
  have B := bel_c B0 (Nat.le_refl _) hb1
  have d0 := kept (p := ⟨w.heap.size + 1, 0, none⟩) (x := .int .i64 0) hb1 (by go_simp)
  have d1 := kept (p := ⟨w.heap.size + 1, 1, none⟩) (x := .int .i64 0) hb1 (by go_simp)
  have d2 := kept (p := ⟨w.heap.size + 1, 2, none⟩) (x := .int .i64 0) hb1 (by go_simp)
  have g0 := keptF (p := ⟨w.heap.size + 1, 0, none⟩) (x := .int .i64 0) hb1 (by go_simp) (by go_simp)
  have g1 := keptF (p := ⟨w.heap.size + 1, 1, none⟩) (x := .int .i64 0) hb1 (by go_simp) (by go_simp)
  have g2 := keptF (p := ⟨w.heap.size + 1, 2, none⟩) (x := .int .i64 0) hb1 (by go_simp) (by go_simp)
  clear hb1 B0 e0 e1 e2
  go_wp2_with fail
  refine bodyPost_ret (v := .agg #[.int .i64 z.s, .int .i64 z.a, .int .i64 z.b]) (by simp [results, Tryz.results62, go_sem, d0, d1, d2]) rfl ⟨rfl, ?_⟩
  refine Below.setCell (Below.setCell (Below.setCell B ?_ _) ?_ _) ?_ _ <;> (simp <;> omega)

end Go.Proofs.YtfidnhhlcdbaeaaGreatDoor

namespace Go.Proofs.YtfidnhhlcdbaeaaGreatDoor
open Go.ChangeShapes Go.WideShapes Go.ChangeAt Go.RowKit

theorem Size_yes (x : Int) (w : World) (h0 : 1 ≤ x) (h1 : x ≤ 4) :
    Calls Tryz.prog 54 #[.int .i64 x] w fun e w' => e = .returned (.bool true) ∧ w' = w := by
  go_enter Tryz.func54, Tryz.ntmps54
  go_wp2
  go_ret
  exact ⟨rfl, rfl⟩
theorem Size_no (x : Int) (w : World) (h : x < 1 ∨ 4 < x) :
    Calls Tryz.prog 54 #[.int .i64 x] w fun e w' => e = .returned (.bool false) ∧ w' = w := by
  by_cases h0 : 1 ≤ x
  · have h1 : ¬ x ≤ 4 := by omega
    clear h
    go_enter Tryz.func54, Tryz.ntmps54
    go_wp2
    go_ret
    exact ⟨ret_bool (by simp), rfl⟩
  · clear h
    go_enter Tryz.func54, Tryz.ntmps54
    go_wp2
    go_ret
    exact ⟨rfl, rfl⟩

set_option maxHeartbeats 400000 in
theorem ImplBlockOk_any (lo hi : Nat) (n : Int) (v : Value) (xs : List C3) (w : World) (r : CellIn lo hi w v xs) (hhi : hi ≤ w.heap.size) :
    Calls Tryz.prog 32 #[.agg #[.int .i64 n, v]] w fun e w' => e = .returned (.bool (blkB n xs)) ∧ Below w.heap.size w w' := by
  obtain ⟨a, cap, rfl⟩ := r.form
  have R := Lib.hid r
  have hl := r.1
  clear r
  by_cases h1 : 1 ≤ n ∧ n ≤ 4
  · obtain ⟨n0, n1⟩ := h1
    obtain ⟨hw, s0, s1⟩ := sq_wrap n0 n1
    by_cases h2 : (xs.length : Int) = n * n
    · have e2 := eq_bool h2
      have H2 := Lib.hid h2
      have S := Lib.hid (And.intro s0 s1)
      clear h2 s0 s1
      go_enter Tryz.func32, Tryz.ntmps32
      go_wp2_with fail
      refine (Size_yes _ _ n0 n1).mono ?_
      rintro e w' ⟨rfl, rfl⟩
      go_wp2_with fail
      go_loopw [23] (fun i wr => ∃ k : Nat, k ≤ xs.length ∧ i = .int .i64 k ∧ Hid (∀ j, j < k → (xs.getD j C3.zero).Ok) ∧ Below (w.heap.size + 1) (w.alloc (.cells #[.int .i64 n, .slice a xs.length cap] 26)) wr) (fun i _ => xs.length - (intOf i).toNat)
      case atStart => exact ⟨0, Nat.zero_le _, rfl, fun j hj => by omega, Below.refl _ _⟩
      case round =>
        obtain ⟨k, hk, rfl, hok, hbel⟩ := hrel
        by_cases hlt : k < xs.length
        · obtain ⟨g, rfl, hg, hg1, hel, _⟩ := R.out.at ((bel_new0 w _).trans (hbel.mono (by omega)) |>.mono hhi) hlt
          obtain ⟨e0, e1, e3⟩ := hel
          obtain ⟨c, hc⟩ : ∃ c, c = xs.getD k C3.zero := ⟨_, rfl⟩
          rw [← hc] at e0 e1 e3
          have HC := Lib.hid hc
          clear hc
          have hs1 : w.heap.size + 1 ≤ wr.heap.size := by have := hbel.size; simpa using this
          have HB := Lib.hid ((hbel.alloc hs1 (.cells #[.int .i64 c.s, .int .i64 c.a, .int .i64 c.b] 50)).alloc (by simp; omega) (.cells #[.int .i64 c.s, .int .i64 c.a, .int .i64 c.b] 50))
          clear hbel
          go_wp2_with fail
          refine (ImplOk_any _ _ _ _).mono ?_
          by_cases ho : OkC c.s c.a c.b
          · have ho' := Lib.hid (decide_eq_true ho)
            rw [ho'.out]
            rintro e w1 ⟨rfl, rfl⟩
            have HN : Hid (∀ j, j < k + 1 → (xs.getD j C3.zero).Ok) := Lib.hid (fun j hj => by
              rcases Nat.lt_succ_iff_lt_or_eq.1 hj with h | rfl
              · exact hok.out j h
              · rw [← HC.out]; exact ho)
            clear HC ho ho'
            go_wp2_with fail
            go_roundw
            case rel => exact ⟨k + 1, by omega, by go_num, HN, HB.out⟩
            case measure => simp [intOf] <;> omega
          · have ho' := Lib.hid (decide_eq_false ho)
            rw [ho'.out]
            rintro e w1 ⟨rfl, rfl⟩
            have HN := Lib.hid (blk_no_cell (n := n) hlt (by rw [← HC.out]; exact ho))
            clear HC ho ho'
            go_wp2_with fail
            go_ret
            exact ⟨ret_bool HN.out, (bel_new0 w _).trans (HB.out.mono (by omega))⟩
        · obtain rfl : k = xs.length := by omega
          have HN := Lib.hid (blk_all (n := n) ⟨n0, n1⟩ H2.out hok.out)
          go_wp2_with fail
          go_ret
          exact ⟨ret_bool HN.out, (bel_new0 w _).trans (hbel.mono (by omega))⟩
    · have e2 := ne_bool h2
      have H2 := Lib.hid (blk_no_len h2)
      clear h2 s0 s1
      go_enter Tryz.func32, Tryz.ntmps32
      go_wp2_with fail
      refine (Size_yes _ _ n0 n1).mono ?_
      rintro e w' ⟨rfl, rfl⟩
      go_wp2_with fail
      go_ret
      exact ⟨by rw [← H2.out]; rfl, (Below.refl _ _).alloc (Nat.le_refl _) _⟩
  · have h1' : n < 1 ∨ 4 < n := by omega
    have H1 := Lib.hid (blk_no_size (xs := xs) h1)
    clear h1
    go_enter Tryz.func32, Tryz.ntmps32
    go_wp2_with fail
    refine (Size_no _ _ h1').mono ?_
    rintro e w' ⟨rfl, rfl⟩
    go_wp2_with fail
    go_ret
    exact ⟨ret_bool H1.out, (Below.refl _ _).alloc (Nat.le_refl _) _⟩

theorem ImplBlockOk_yes (lo hi : Nat) (n : Int) (v : Value) (xs : List C3) (w : World) (r : CellIn lo hi w v xs) (hhi : hi ≤ w.heap.size) (h : BlkOk n xs) :
    Calls Tryz.prog 32 #[.agg #[.int .i64 n, v]] w fun e w' => e = .returned (.bool true) ∧ Below w.heap.size w w' := by
  have hc := ImplBlockOk_any lo hi n v xs w r hhi
  rw [← blk_yes h] at hc
  exact hc
theorem ImplBlockOk_no (lo hi : Nat) (n : Int) (v : Value) (xs : List C3) (w : World) (r : CellIn lo hi w v xs) (hhi : hi ≤ w.heap.size) (h : ¬ BlkOk n xs) :
    Calls Tryz.prog 32 #[.agg #[.int .i64 n, v]] w fun e w' => e = .returned (.bool false) ∧ Below w.heap.size w w' := by
  have hc := ImplBlockOk_any lo hi n v xs w r hhi
  rw [← blk_no h] at hc
  exact hc

/-- The block has a cell there, as a Boolean. -/
noncomputable def hasC (n : Int) (xs : List C3) (x y : Int) : Bool := @decide (BlkOk n xs ∧ InB n x y) (Classical.propDecidable _)
theorem hasC_yes {n : Int} {xs : List C3} {x y : Int} (h : BlkOk n xs) (k : InB n x y) : true = hasC n xs x y := by unfold hasC; simp [h, k]
theorem hasC_no {n : Int} {xs : List C3} {x y : Int} (h : ¬ (BlkOk n xs ∧ InB n x y)) : false = hasC n xs x y := by unfold hasC; simp [h]
end Go.Proofs.YtfidnhhlcdbaeaaGreatDoor

namespace Go.Proofs.YtfidnhhlcdbaeaaGreatDoor
open Go.ChangeShapes Go.WideShapes Go.ChangeAt Go.RowKit

theorem cells_of {u : World} {b n : Nat} {v : Value} {xs : List C3} (h : u.ownsRow b 50 3 v n (places xs)) (hn : xs.length = n) (hl : n ≤ 1048576) : CellIn b u.heap.size u v xs := by
  subst hn
  exact CellIn.of_owns h hl

set_option maxHeartbeats 1000000 in
theorem MoveTurn_any (lo hi : Nat) (n : Int) (v : Value) (xs : List C3) (w : World) (r : CellIn lo hi w v xs) (hhi : hi ≤ w.heap.size) :
    Calls Tryz.prog 61 #[.agg #[.int .i64 n, v], .func (.func 63) #[] #[]] w (FreshB (turnN n xs) (turnB n xs) w) := by
  obtain ⟨i0, hi0, hz0, hz1, hz2⟩ := info_parts3 info_cell
  obtain ⟨a, cap, rfl⟩ := r.form
  have hl := r.1
  have HR := Lib.hid (fun W (hb : Below w.heap.size w W) => r.below (hb.mono hhi))
  clear r
  by_cases hb : BlkOk n xs
  · rw [(turnB_yes hb).1, (turnB_yes hb).2.1]
    have HB := Lib.hid hb
    obtain ⟨m, rfl, hm1, hm4, hml⟩ := sz_nat hb
    have HX : Hid (movX turnC (tP m) xs (m * m) = turnL m xs) := Lib.hid (by unfold turnL; rw [hml, Int.toNat_natCast])
    have HML := Lib.hid hml
    have hl16 : xs.length ≤ 16 := by
      rw [hml]; exact Nat.mul_le_mul hm4 hm4
    rw [← HX.out]
    clear hb hml
    go_enter Tryz.func61, Tryz.ntmps61
    go_wp2_with fail
    refine (ImplBlockOk_yes lo hi m _ xs _ (HR.out _ (bel_n (bel0 w _) (Nat.le_refl _) _)) (by simp; omega) HB.out).mono ?_
    rintro e w1 ⟨rfl, hb1⟩
    have HBX := Lib.hid (bel_c (bel_n (bel0 w (.cells #[.int .i64 m, .slice a xs.length cap] 26)) (Nat.le_refl _) (.cells #[.int .i64 0, .slice none 0 0] 26)) (Nat.le_refl _) hb1)
    have HPO : Hid (w.heap.size + 1 < w1.heap.size) := Lib.hid (by have := hb1.size; simp at this; omega)
    have HP1 : Hid (BoxB w.heap.size (.int .i64 m) (.slice a xs.length cap) w1) := Lib.hid (((BoxB.new w (.int .i64 m) (.slice a xs.length cap) 26).below (bel0 _ _) (by simp)).below hb1 (by simp; omega))
    have HD1 : Hid (BoxB (w.heap.size + 1) (.int .i64 0) (.slice none 0 0) w1) := Lib.hid (by
      have h := BoxB.new (w.alloc (.cells #[.int .i64 m, .slice a xs.length cap] 26)) (.int .i64 0) (.slice none 0 0) 26
      exact (show BoxB (w.heap.size + 1) _ _ _ by simpa using h).below hb1 (by simp))
    have p0 := HP1.out.1
    have p1 := HP1.out.2.1
    clear hb1
    go_wp2_with (at_make; refine wpList_make_own _ rfl _ _ 24 rfl w1.heap.size 50 i0 _ 3 Tryz.underlying24 hi0 hz0 hz1 .i64 .i64 _ xs.length rfl rfl rfl (by rw [hz2]; omega) (by unfold maxLen; omega) (Nat.le_refl _) ?_; intro w2 hown2 hgrow2; have hb2 := own_none hgrow2; have p2 := kept hb2 p0)
    have HP2 := Lib.hid (HP1.out.below hb2 (by have := HPO.out; omega))
    have HD2 := Lib.hid (HD1.out.below hb2 HPO.out)
    have HB2 := Lib.hid (bel_c HBX.out (Nat.le_refl _) hb2)
    have HZ2 := hb2.size
    have HO2 : Hid (w2.ownsRow w1.heap.size 50 3 (.slice (some ⟨w1.heap.size, 0, none⟩) 0 xs.length) (0 * m) (places (movX turnC (tP m) xs (0 * m)))) := Lib.hid (by rw [Nat.zero_mul]; exact hown2)
    clear hb2 hgrow2 hown2 p0 p1 p2 HP1 HD1 HBX
    go_loopw [5, 18] (fun q i wr => ∃ y : Nat, y ≤ m ∧ i = .int .i64 y ∧ Hid (wr.ownsRow w1.heap.size 50 3 q (y * m) (places (movX turnC (tP m) xs (y * m)))) ∧ Hid (BoxB w.heap.size (.int .i64 m) (.slice a xs.length cap) wr) ∧ Hid (BoxB (w.heap.size + 1) (.int .i64 0) (.slice none 0 0) wr) ∧ Hid (Below w.heap.size w wr) ∧ w1.heap.size ≤ wr.heap.size) (fun _ i _ => m - (intOf i).toNat)
    case atStart => exact ⟨0, Nat.zero_le _, rfl, HO2, HP2, HD2, HB2, HZ2⟩
    case round =>
      clear HO2 HP2 HD2 HB2 HZ2
      obtain ⟨y, hk, rfl, hown0, hp0, hd0, hbel0, hsz0⟩ := hrel
      by_cases hlt : y < m
      · have q0 := hp0.out.1
        obtain ⟨wo, rfl⟩ : ∃ wo : World, wo = wr := ⟨_, rfl⟩
        go_wp2_with fail
        clear q0
        go_loopw [5, 23] (fun q i wr => ∃ x : Nat, x ≤ m ∧ i = .int .i64 x ∧ Hid (wr.ownsRow w1.heap.size 50 3 q (y * m + x) (places (movX turnC (tP m) xs (y * m + x)))) ∧ Hid (BoxB w.heap.size (.int .i64 m) (.slice a xs.length cap) wr) ∧ Hid (BoxB (w.heap.size + 1) (.int .i64 0) (.slice none 0 0) wr) ∧ Hid (Below w.heap.size w wr) ∧ w1.heap.size ≤ wr.heap.size) (fun _ i _ => m - (intOf i).toNat)
        case atStart => exact ⟨0, Nat.zero_le _, rfl, hown0, hp0, hd0, hbel0, hsz0⟩
        case round =>
          clear hown0 hp0 hd0 hbel0 hsz0
          obtain ⟨x, hx, rfl, hown, hp, hd, hbel, hsz⟩ := hrel
          by_cases hlt2 : x < m
          · have hyx : y * m + x ≤ 16 := by
              have h1 := Nat.mul_le_mul (show y ≤ 3 by omega) hm4
              omega
            have CT := Lib.hid (TurnCellAt_ok lo hi m x y _ xs wr (HR.out _ hbel.out) (Nat.le_trans hhi hbel.out.size) HB.out hlt2 hlt)
            have HNX : Hid (places (movX turnC (tP m) xs (y * m + x)) ++ [.int .i64 (turnC (xs.getD (tP m (y * m + x)) C3.zero)).s, .int .i64 (turnC (xs.getD (tP m (y * m + x)) C3.zero)).a, .int .i64 (turnC (xs.getD (tP m (y * m + x)) C3.zero)).b] = places (movX turnC (tP m) xs (y * m + (x + 1)))) := Lib.hid (by
              rw [show y * m + (x + 1) = y * m + x + 1 by omega, movX_succ, places_more])
            generalize turnC (xs.getD (tP m (y * m + x)) C3.zero) = z at CT HNX
            have q0 := hp.out.1
            have q1 := hp.out.2.1
            go_wp2_with fail
            clear q0 q1
            refine CT.out.mono ?_
            rintro e w3 ⟨rfl, hb3⟩
            have hbn := bel_n hb3 (Nat.le_refl _) (.cells #[.int .i64 z.s, .int .i64 z.a, .int .i64 z.b] 50)
            have HO3 := Lib.hid (owns_below hown.out hbn)
            have HP3 := Lib.hid (hp.out.below hbn (by have := HPO.out; omega))
            have HD3 := Lib.hid (hd.out.below hbn (by have := HPO.out; omega))
            have HB3 := Lib.hid (bel_c hbel.out (Nat.le_refl _) hbn)
            have HZ3 : Hid (w1.heap.size ≤ (w3.alloc (.cells #[.int .i64 z.s, .int .i64 z.a, .int .i64 z.b] 50)).heap.size) := Lib.hid (Nat.le_trans hsz hbn.size)
            have HNW := Lib.hid (news3 w3 z)
            clear hb3 hbn hown hp hd hbel CT
            go_wp2_with (at_builtin; refine wpList_append_lies _ rfl _ _ 24 rfl w1.heap.size 50 i0 _ 3 24 Tryz.underlying24 hi0 hz0 hz1 hz2 rfl (by decide) _ _ _ rfl HO3.out ⟨w3.heap.size, 0, none⟩ 1 1 [.int .i64 z.s, .int .i64 z.a, .int .i64 z.b] rfl rfl HNW.out (by simp [Value.oneCell']) (by omega) (by unfold maxLen; omega) (by omega) HZ3.out (w3.heap.size + 1) (by simp) ?_; intro gg cc w4 hown4 hgrow hat hlt4)
            have hbw := (Below.refl w1.heap.size _).grown hgrow HZ3.out (own_ge3 HO3.out)
            have HP4 := Lib.hid (HP3.out.below hbw (by have := HPO.out; omega))
            have HD4 := Lib.hid (HD3.out.below hbw HPO.out)
            have HB4 := Lib.hid (HB3.out.trans (hbw.mono (by have := HPO.out; omega)))
            have HZ4 := Nat.le_trans HZ3.out hbw.size
            rw [HNX.out] at hown4
            have HO4 := Lib.hid hown4
            clear hown4 hgrow hat hlt4 hbw HO3 HP3 HD3 HB3 HNW HNX
            go_roundw
            case rel => exact ⟨x + 1, by omega, by go_num, HO4, HP4, HD4, HB4, HZ4⟩
            case measure => simp [intOf] <;> omega
          · obtain rfl : x = m := by omega
            have ho6 := hown.out
            rw [← Nat.succ_mul] at ho6
            have HO6 := Lib.hid ho6
            clear hown ho6
            go_wp2_with fail
            go_roundw
            case rel => exact ⟨y + 1, by omega, by go_num, HO6, hp, hd, hbel, hsz⟩
            case measure => simp [intOf] <;> omega
      · obtain rfl : y = m := by omega
        have hin := cells_of hown0.out (movX_length _ _ _ _) (by have := Nat.mul_le_mul hm4 hm4; omega)
        obtain ⟨ys, hys⟩ : ∃ ys, movX turnC (tP y) xs (y * y) = ys := ⟨_, rfl⟩
        rw [hys] at hin
        have HYS := Lib.hid hys
        obtain ⟨av, cv, rfl⟩ := hin.form
        have HI := Lib.hid hin
        obtain ⟨q0, q1, _, _⟩ := hp0.out
        obtain ⟨d0, d1, f0, f1⟩ := hd0.out
        have HPW := Lib.hid (by have := HPO.out; exact (⟨by omega, by omega⟩ : w.heap.size + 1 < w1.heap.size ∧ w.heap.size ≤ w1.heap.size))
        clear hin hown0 hp0 hd0 hys
        go_wp2_with fail
        refine bodyPost_ret (v := .agg #[.int .i64 y, .slice av ys.length cv]) (by simp [results, Tryz.results61, go_sem, d0, d1]) rfl ⟨_, rfl, ?_, ?_⟩
        · rw [HYS.out]
          refine CellIn.wide (lo := w1.heap.size) (hi := wr.heap.size) ?_ HPW.out.2 (by simp [World.setCell])
          refine CellIn.set_far (CellIn.set_far HI.out ?_ _) ?_ _ <;> (have := HPW.out; simp <;> omega)
        · refine Below.setCell (Below.setCell hbel0.out ?_ _) ?_ _ <;> (simp <;> omega)
  · rw [(turnB_no hb).1, (turnB_no hb).2.1]
    have HB := Lib.hid hb
    clear hb
    go_enter Tryz.func61, Tryz.ntmps61
    go_wp2_with fail
    refine (ImplBlockOk_no lo hi n _ xs _ (HR.out _ (bel_n (bel0 w _) (Nat.le_refl _) _)) (by simp; omega) HB.out).mono ?_
    rintro e w1 ⟨rfl, hb1⟩
    have d0 := kept (p := ⟨w.heap.size + 1, 0, none⟩) (x := .int .i64 0) hb1 (by go_simp)
    have d1 := kept (p := ⟨w.heap.size + 1, 1, none⟩) (x := .slice none 0 0) hb1 (by go_simp)
    have g0 := keptF (p := ⟨w.heap.size + 1, 0, none⟩) (x := .int .i64 0) hb1 (by go_simp) (by go_simp)
    have g1 := keptF (p := ⟨w.heap.size + 1, 1, none⟩) (x := .slice none 0 0) hb1 (by go_simp) (by go_simp)
    have B := bel_c (bel_n (bel0 w (.cells #[.int .i64 n, .slice a xs.length cap] 26)) (Nat.le_refl _) (.cells #[.int .i64 0, .slice none 0 0] 26)) (Nat.le_refl _) hb1
    clear hb1
    go_wp2_with fail
    refine bodyPost_ret (v := .agg #[.int .i64 0, .slice none 0 0]) (by simp [results, Tryz.results61, go_sem, d0, d1]) rfl ⟨.slice none 0 0, rfl, ⟨by simp, .inl ⟨rfl, _, _, rfl⟩⟩, ?_⟩
    refine Below.setCell (Below.setCell B ?_ _) ?_ _ <;> (simp <;> omega)
theorem ImplTurnBlock_any (lo hi : Nat) (n : Int) (v : Value) (xs : List C3) (w : World) (r : CellIn lo hi w v xs) (hhi : hi ≤ w.heap.size) : Calls Tryz.prog 49 #[.agg #[.int .i64 n, v]] w (FreshB (turnN n xs) (turnB n xs) w) := by
  obtain ⟨a, cap, rfl⟩ := r.form
  have B0 := bel_n (bel0 w (.cells #[.int .i64 n, .slice a xs.length cap] 26)) (Nat.le_refl _) (.cells #[.int .i64 0, .slice none 0 0] 26)
  have CT := Lib.hid (MoveTurn_any lo hi n _ xs _ (r.below (B0.mono hhi)) (Nat.le_trans hhi B0.size))
  have HB0 := Lib.hid B0
  clear r B0
  obtain ⟨n', hn'⟩ : ∃ n', turnN n xs = n' := ⟨_, rfl⟩
  obtain ⟨ys, hys⟩ : ∃ ys, turnB n xs = ys := ⟨_, rfl⟩
  rw [hn', hys] at CT ⊢
  clear hn' hys
  go_enter Tryz.func49, Tryz.ntmps49
  go_wp2_with fail
  refine CT.out.mono ?_
  rintro e w1 ⟨v1, rfl, hin, hb1⟩
  obtain ⟨a1, c1, rfl⟩ := hin.form
  have d0 := kept (p := ⟨w.heap.size + 1, 0, none⟩) (x := .int .i64 0) hb1 (by go_simp)
  have d1 := kept (p := ⟨w.heap.size + 1, 1, none⟩) (x := .slice none 0 0) hb1 (by go_simp)
  have g0 := keptF (p := ⟨w.heap.size + 1, 0, none⟩) (x := .int .i64 0) hb1 (by go_simp) (by go_simp)
  have g1 := keptF (p := ⟨w.heap.size + 1, 1, none⟩) (x := .slice none 0 0) hb1 (by go_simp) (by go_simp)
  have B := bel_c HB0.out (Nat.le_refl _) hb1
  have HI := Lib.hid hin
  clear hb1 hin CT
  go_wp2_with fail
  refine bodyPost_ret (v := .agg #[.int .i64 n', .slice a1 ys.length c1]) (by simp [results, Tryz.results49, go_sem, d0, d1]) rfl ⟨_, rfl, ?_, ?_⟩
  · refine CellIn.wide (lo := ((w.alloc (.cells #[.int .i64 n, .slice a xs.length cap] 26)).alloc (.cells #[.int .i64 0, .slice none 0 0] 26)).heap.size) (hi := w1.heap.size) ?_ (by simp; omega) (by simp [World.setCell])
    refine CellIn.set_far (CellIn.set_far HI.out ?_ _) ?_ _ <;> simp
  · refine Below.setCell (Below.setCell B ?_ _) ?_ _ <;> (simp <;> omega)

set_option maxHeartbeats 1000000 in
theorem MoveMirror_any (lo hi : Nat) (n : Int) (v : Value) (xs : List C3) (w : World) (r : CellIn lo hi w v xs) (hhi : hi ≤ w.heap.size) :
    Calls Tryz.prog 61 #[.agg #[.int .i64 n, v], .func (.func 62) #[] #[]] w (FreshB (turnN n xs) (mirB n xs) w) := by
  obtain ⟨i0, hi0, hz0, hz1, hz2⟩ := info_parts3 info_cell
  obtain ⟨a, cap, rfl⟩ := r.form
  have hl := r.1
  have HR := Lib.hid (fun W (hb : Below w.heap.size w W) => r.below (hb.mono hhi))
  clear r
  by_cases hb : BlkOk n xs
  · rw [(turnB_yes hb).1, (turnB_yes hb).2.2]
    have HB := Lib.hid hb
    obtain ⟨m, rfl, hm1, hm4, hml⟩ := sz_nat hb
    have HX : Hid (movX mirC (mP m) xs (m * m) = mirL m xs) := Lib.hid (by unfold mirL; rw [hml, Int.toNat_natCast])
    have HML := Lib.hid hml
    have hl16 : xs.length ≤ 16 := by
      rw [hml]; exact Nat.mul_le_mul hm4 hm4
    rw [← HX.out]
    clear hb hml
    go_enter Tryz.func61, Tryz.ntmps61
    go_wp2_with fail
    refine (ImplBlockOk_yes lo hi m _ xs _ (HR.out _ (bel_n (bel0 w _) (Nat.le_refl _) _)) (by simp; omega) HB.out).mono ?_
    rintro e w1 ⟨rfl, hb1⟩
    have HBX := Lib.hid (bel_c (bel_n (bel0 w (.cells #[.int .i64 m, .slice a xs.length cap] 26)) (Nat.le_refl _) (.cells #[.int .i64 0, .slice none 0 0] 26)) (Nat.le_refl _) hb1)
    have HPO : Hid (w.heap.size + 1 < w1.heap.size) := Lib.hid (by have := hb1.size; simp at this; omega)
    have HP1 : Hid (BoxB w.heap.size (.int .i64 m) (.slice a xs.length cap) w1) := Lib.hid (((BoxB.new w (.int .i64 m) (.slice a xs.length cap) 26).below (bel0 _ _) (by simp)).below hb1 (by simp; omega))
    have HD1 : Hid (BoxB (w.heap.size + 1) (.int .i64 0) (.slice none 0 0) w1) := Lib.hid (by
      have h := BoxB.new (w.alloc (.cells #[.int .i64 m, .slice a xs.length cap] 26)) (.int .i64 0) (.slice none 0 0) 26
      exact (show BoxB (w.heap.size + 1) _ _ _ by simpa using h).below hb1 (by simp))
    have p0 := HP1.out.1
    have p1 := HP1.out.2.1
    clear hb1
    go_wp2_with (at_make; refine wpList_make_own _ rfl _ _ 24 rfl w1.heap.size 50 i0 _ 3 Tryz.underlying24 hi0 hz0 hz1 .i64 .i64 _ xs.length rfl rfl rfl (by rw [hz2]; omega) (by unfold maxLen; omega) (Nat.le_refl _) ?_; intro w2 hown2 hgrow2; have hb2 := own_none hgrow2; have p2 := kept hb2 p0)
    have HP2 := Lib.hid (HP1.out.below hb2 (by have := HPO.out; omega))
    have HD2 := Lib.hid (HD1.out.below hb2 HPO.out)
    have HB2 := Lib.hid (bel_c HBX.out (Nat.le_refl _) hb2)
    have HZ2 := hb2.size
    have HO2 : Hid (w2.ownsRow w1.heap.size 50 3 (.slice (some ⟨w1.heap.size, 0, none⟩) 0 xs.length) (0 * m) (places (movX mirC (mP m) xs (0 * m)))) := Lib.hid (by rw [Nat.zero_mul]; exact hown2)
    clear hb2 hgrow2 hown2 p0 p1 p2 HP1 HD1 HBX
    go_loopw [5, 18] (fun q i wr => ∃ y : Nat, y ≤ m ∧ i = .int .i64 y ∧ Hid (wr.ownsRow w1.heap.size 50 3 q (y * m) (places (movX mirC (mP m) xs (y * m)))) ∧ Hid (BoxB w.heap.size (.int .i64 m) (.slice a xs.length cap) wr) ∧ Hid (BoxB (w.heap.size + 1) (.int .i64 0) (.slice none 0 0) wr) ∧ Hid (Below w.heap.size w wr) ∧ w1.heap.size ≤ wr.heap.size) (fun _ i _ => m - (intOf i).toNat)
    case atStart => exact ⟨0, Nat.zero_le _, rfl, HO2, HP2, HD2, HB2, HZ2⟩
    case round =>
      clear HO2 HP2 HD2 HB2 HZ2
      obtain ⟨y, hk, rfl, hown0, hp0, hd0, hbel0, hsz0⟩ := hrel
      by_cases hlt : y < m
      · have q0 := hp0.out.1
        obtain ⟨wo, rfl⟩ : ∃ wo : World, wo = wr := ⟨_, rfl⟩
        go_wp2_with fail
        clear q0
        go_loopw [5, 23] (fun q i wr => ∃ x : Nat, x ≤ m ∧ i = .int .i64 x ∧ Hid (wr.ownsRow w1.heap.size 50 3 q (y * m + x) (places (movX mirC (mP m) xs (y * m + x)))) ∧ Hid (BoxB w.heap.size (.int .i64 m) (.slice a xs.length cap) wr) ∧ Hid (BoxB (w.heap.size + 1) (.int .i64 0) (.slice none 0 0) wr) ∧ Hid (Below w.heap.size w wr) ∧ w1.heap.size ≤ wr.heap.size) (fun _ i _ => m - (intOf i).toNat)
        case atStart => exact ⟨0, Nat.zero_le _, rfl, hown0, hp0, hd0, hbel0, hsz0⟩
        case round =>
          clear hown0 hp0 hd0 hbel0 hsz0
          obtain ⟨x, hx, rfl, hown, hp, hd, hbel, hsz⟩ := hrel
          by_cases hlt2 : x < m
          · have hyx : y * m + x ≤ 16 := by
              have h1 := Nat.mul_le_mul (show y ≤ 3 by omega) hm4
              omega
            have CT := Lib.hid (MirrorCellAt_ok lo hi m x y _ xs wr (HR.out _ hbel.out) (Nat.le_trans hhi hbel.out.size) HB.out hlt2 hlt)
            have HNX : Hid (places (movX mirC (mP m) xs (y * m + x)) ++ [.int .i64 (mirC (xs.getD (mP m (y * m + x)) C3.zero)).s, .int .i64 (mirC (xs.getD (mP m (y * m + x)) C3.zero)).a, .int .i64 (mirC (xs.getD (mP m (y * m + x)) C3.zero)).b] = places (movX mirC (mP m) xs (y * m + (x + 1)))) := Lib.hid (by
              rw [show y * m + (x + 1) = y * m + x + 1 by omega, movX_succ, places_more])
            generalize mirC (xs.getD (mP m (y * m + x)) C3.zero) = z at CT HNX
            have q0 := hp.out.1
            have q1 := hp.out.2.1
            go_wp2_with fail
            clear q0 q1
            refine CT.out.mono ?_
            rintro e w3 ⟨rfl, hb3⟩
            have hbn := bel_n hb3 (Nat.le_refl _) (.cells #[.int .i64 z.s, .int .i64 z.a, .int .i64 z.b] 50)
            have HO3 := Lib.hid (owns_below hown.out hbn)
            have HP3 := Lib.hid (hp.out.below hbn (by have := HPO.out; omega))
            have HD3 := Lib.hid (hd.out.below hbn (by have := HPO.out; omega))
            have HB3 := Lib.hid (bel_c hbel.out (Nat.le_refl _) hbn)
            have HZ3 : Hid (w1.heap.size ≤ (w3.alloc (.cells #[.int .i64 z.s, .int .i64 z.a, .int .i64 z.b] 50)).heap.size) := Lib.hid (Nat.le_trans hsz hbn.size)
            have HNW := Lib.hid (news3 w3 z)
            clear hb3 hbn hown hp hd hbel CT
            go_wp2_with (at_builtin; refine wpList_append_lies _ rfl _ _ 24 rfl w1.heap.size 50 i0 _ 3 24 Tryz.underlying24 hi0 hz0 hz1 hz2 rfl (by decide) _ _ _ rfl HO3.out ⟨w3.heap.size, 0, none⟩ 1 1 [.int .i64 z.s, .int .i64 z.a, .int .i64 z.b] rfl rfl HNW.out (by simp [Value.oneCell']) (by omega) (by unfold maxLen; omega) (by omega) HZ3.out (w3.heap.size + 1) (by simp) ?_; intro gg cc w4 hown4 hgrow hat hlt4)
            have hbw := (Below.refl w1.heap.size _).grown hgrow HZ3.out (own_ge3 HO3.out)
            have HP4 := Lib.hid (HP3.out.below hbw (by have := HPO.out; omega))
            have HD4 := Lib.hid (HD3.out.below hbw HPO.out)
            have HB4 := Lib.hid (HB3.out.trans (hbw.mono (by have := HPO.out; omega)))
            have HZ4 := Nat.le_trans HZ3.out hbw.size
            rw [HNX.out] at hown4
            have HO4 := Lib.hid hown4
            clear hown4 hgrow hat hlt4 hbw HO3 HP3 HD3 HB3 HNW HNX
            go_roundw
            case rel => exact ⟨x + 1, by omega, by go_num, HO4, HP4, HD4, HB4, HZ4⟩
            case measure => simp [intOf] <;> omega
          · obtain rfl : x = m := by omega
            have ho6 := hown.out
            rw [← Nat.succ_mul] at ho6
            have HO6 := Lib.hid ho6
            clear hown ho6
            go_wp2_with fail
            go_roundw
            case rel => exact ⟨y + 1, by omega, by go_num, HO6, hp, hd, hbel, hsz⟩
            case measure => simp [intOf] <;> omega
      · obtain rfl : y = m := by omega
        have hin := cells_of hown0.out (movX_length _ _ _ _) (by have := Nat.mul_le_mul hm4 hm4; omega)
        obtain ⟨ys, hys⟩ : ∃ ys, movX mirC (mP y) xs (y * y) = ys := ⟨_, rfl⟩
        rw [hys] at hin
        have HYS := Lib.hid hys
        obtain ⟨av, cv, rfl⟩ := hin.form
        have HI := Lib.hid hin
        obtain ⟨q0, q1, _, _⟩ := hp0.out
        obtain ⟨d0, d1, f0, f1⟩ := hd0.out
        have HPW := Lib.hid (by have := HPO.out; exact (⟨by omega, by omega⟩ : w.heap.size + 1 < w1.heap.size ∧ w.heap.size ≤ w1.heap.size))
        clear hin hown0 hp0 hd0 hys
        go_wp2_with fail
        refine bodyPost_ret (v := .agg #[.int .i64 y, .slice av ys.length cv]) (by simp [results, Tryz.results61, go_sem, d0, d1]) rfl ⟨_, rfl, ?_, ?_⟩
        · rw [HYS.out]
          refine CellIn.wide (lo := w1.heap.size) (hi := wr.heap.size) ?_ HPW.out.2 (by simp [World.setCell])
          refine CellIn.set_far (CellIn.set_far HI.out ?_ _) ?_ _ <;> (have := HPW.out; simp <;> omega)
        · refine Below.setCell (Below.setCell hbel0.out ?_ _) ?_ _ <;> (simp <;> omega)
  · rw [(turnB_no hb).1, (turnB_no hb).2.2]
    have HB := Lib.hid hb
    clear hb
    go_enter Tryz.func61, Tryz.ntmps61
    go_wp2_with fail
    refine (ImplBlockOk_no lo hi n _ xs _ (HR.out _ (bel_n (bel0 w _) (Nat.le_refl _) _)) (by simp; omega) HB.out).mono ?_
    rintro e w1 ⟨rfl, hb1⟩
    have d0 := kept (p := ⟨w.heap.size + 1, 0, none⟩) (x := .int .i64 0) hb1 (by go_simp)
    have d1 := kept (p := ⟨w.heap.size + 1, 1, none⟩) (x := .slice none 0 0) hb1 (by go_simp)
    have g0 := keptF (p := ⟨w.heap.size + 1, 0, none⟩) (x := .int .i64 0) hb1 (by go_simp) (by go_simp)
    have g1 := keptF (p := ⟨w.heap.size + 1, 1, none⟩) (x := .slice none 0 0) hb1 (by go_simp) (by go_simp)
    have B := bel_c (bel_n (bel0 w (.cells #[.int .i64 n, .slice a xs.length cap] 26)) (Nat.le_refl _) (.cells #[.int .i64 0, .slice none 0 0] 26)) (Nat.le_refl _) hb1
    clear hb1
    go_wp2_with fail
    refine bodyPost_ret (v := .agg #[.int .i64 0, .slice none 0 0]) (by simp [results, Tryz.results61, go_sem, d0, d1]) rfl ⟨.slice none 0 0, rfl, ⟨by simp, .inl ⟨rfl, _, _, rfl⟩⟩, ?_⟩
    refine Below.setCell (Below.setCell B ?_ _) ?_ _ <;> (simp <;> omega)
theorem ImplMirrorBlock_any (lo hi : Nat) (n : Int) (v : Value) (xs : List C3) (w : World) (r : CellIn lo hi w v xs) (hhi : hi ≤ w.heap.size) : Calls Tryz.prog 48 #[.agg #[.int .i64 n, v]] w (FreshB (turnN n xs) (mirB n xs) w) := by
  obtain ⟨a, cap, rfl⟩ := r.form
  have B0 := bel_n (bel0 w (.cells #[.int .i64 n, .slice a xs.length cap] 26)) (Nat.le_refl _) (.cells #[.int .i64 0, .slice none 0 0] 26)
  have CT := Lib.hid (MoveMirror_any lo hi n _ xs _ (r.below (B0.mono hhi)) (Nat.le_trans hhi B0.size))
  have HB0 := Lib.hid B0
  clear r B0
  obtain ⟨n', hn'⟩ : ∃ n', turnN n xs = n' := ⟨_, rfl⟩
  obtain ⟨ys, hys⟩ : ∃ ys, mirB n xs = ys := ⟨_, rfl⟩
  rw [hn', hys] at CT ⊢
  clear hn' hys
  go_enter Tryz.func48, Tryz.ntmps48
  go_wp2_with fail
  refine CT.out.mono ?_
  rintro e w1 ⟨v1, rfl, hin, hb1⟩
  obtain ⟨a1, c1, rfl⟩ := hin.form
  have d0 := kept (p := ⟨w.heap.size + 1, 0, none⟩) (x := .int .i64 0) hb1 (by go_simp)
  have d1 := kept (p := ⟨w.heap.size + 1, 1, none⟩) (x := .slice none 0 0) hb1 (by go_simp)
  have g0 := keptF (p := ⟨w.heap.size + 1, 0, none⟩) (x := .int .i64 0) hb1 (by go_simp) (by go_simp)
  have g1 := keptF (p := ⟨w.heap.size + 1, 1, none⟩) (x := .slice none 0 0) hb1 (by go_simp) (by go_simp)
  have B := bel_c HB0.out (Nat.le_refl _) hb1
  have HI := Lib.hid hin
  clear hb1 hin CT
  go_wp2_with fail
  refine bodyPost_ret (v := .agg #[.int .i64 n', .slice a1 ys.length c1]) (by simp [results, Tryz.results48, go_sem, d0, d1]) rfl ⟨_, rfl, ?_, ?_⟩
  · refine CellIn.wide (lo := ((w.alloc (.cells #[.int .i64 n, .slice a xs.length cap] 26)).alloc (.cells #[.int .i64 0, .slice none 0 0] 26)).heap.size) (hi := w1.heap.size) ?_ (by simp; omega) (by simp [World.setCell])
    refine CellIn.set_far (CellIn.set_far HI.out ?_ _) ?_ _ <;> simp
  · refine Below.setCell (Below.setCell B ?_ _) ?_ _ <;> (simp <;> omega)

end Go.Proofs.YtfidnhhlcdbaeaaGreatDoor

namespace Go.Proofs.YtfidnhhlcdbaeaaGreatDoor
open Go.ChangeShapes Go.WideShapes Go.ChangeAt Go.RowKit

theorem ViewOk_yes (k : Int) (w : World) (h0 : 0 ≤ k) (h7 : k ≤ 7) :
    Calls Tryz.prog 45 #[.int .i64 k] w fun e w' => e = .returned (.bool true) ∧ w' = w := by
  have h8 : k < 8 := by omega
  go_enter Tryz.func45, Tryz.ntmps45
  go_wp2
  go_ret
  exact ⟨rfl, rfl⟩
theorem ViewOk_no (k : Int) (w : World) (h : k < 0 ∨ 7 < k) :
    Calls Tryz.prog 45 #[.int .i64 k] w fun e w' => e = .returned (.bool false) ∧ w' = w := by
  by_cases h0 : k < 0
  · clear h
    go_enter Tryz.func45, Tryz.ntmps45
    go_wp2
    go_ret
    exact ⟨rfl, rfl⟩
  · have h1 : ¬ k < 8 := by omega
    clear h
    go_enter Tryz.func45, Tryz.ntmps45
    go_wp2
    go_ret
    exact ⟨ret_bool (by simp <;> omega), rfl⟩
theorem MirV_any (k : Int) (w : World) :
    Calls Tryz.prog 47 #[.int .i64 k] w fun e w' => e = .returned (.bool (decide (4 ≤ k))) ∧ w' = w := by
  go_enter Tryz.func47, Tryz.ntmps47
  go_wp2
  go_ret
  exact ⟨rfl, rfl⟩
theorem MirV_yes (k : Int) (w : World) (h : 4 ≤ k) :
    Calls Tryz.prog 47 #[.int .i64 k] w fun e w' => e = .returned (.bool true) ∧ w' = w := by
  have := MirV_any k w
  rw [decide_eq_true h] at this
  exact this
theorem MirV_no (k : Int) (w : World) (h : ¬ 4 ≤ k) :
    Calls Tryz.prog 47 #[.int .i64 k] w fun e w' => e = .returned (.bool false) ∧ w' = w := by
  have := MirV_any k w
  rw [decide_eq_false h] at this
  exact this

end Go.Proofs.YtfidnhhlcdbaeaaGreatDoor
