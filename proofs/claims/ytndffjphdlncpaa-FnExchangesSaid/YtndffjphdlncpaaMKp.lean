/- Blocks: the program's SameBlock. What a walk keeps: a list of facts that the blocks of the world at hand decide. Exchanges: the callees at rows that the law of the exchanges keeps. -/
import Derived.Test.YtndffjphdlncpaaMBlq
import Derived.Test.YtndffjphdlncpaaMBlm
import Derived.Test.YtndffjphdlncpaaMBld
import Derived.Test.YtndffjphdlncpaaMExf
import Derived.Test.YtndffjphdlncpaaMExj
import Derived.Test.YtndffjphdlncpaaExB
import Derived.Test.YtndffjphdlncpaaMExs
import Derived.Test.YtndffjphdlncpaaExU
import Derived.Test.YtndffjphdlncpaaMAre

namespace Go.Proofs.Ytndffjphdlncpaa
open Go.ChangeShapes Go.WideShapes Go.ChangeAt Go.RowKit

set_option maxHeartbeats 1000000 in
theorem EqCells_any (l1 h1 l2 h2 : Nat) (v1 v2 : Value) (xs ys : List C3) (w : World) (r1 : CellIn l1 h1 w v1 xs) (r2 : CellIn l2 h2 w v2 ys) (hh1 : h1 ≤ w.heap.size) (hh2 : h2 ≤ w.heap.size) :
    Calls Try.prog 53 #[v1, v2] w fun e w' => e = .returned (.bool (sameB 0 0 xs ys)) ∧ Below w.heap.size w w' := by
  obtain ⟨a1, c1, rfl⟩ := r1.form
  obtain ⟨a2, c2, rfl⟩ := r2.form
  have R1 := Lib.hid r1
  have R2 := Lib.hid r2
  have hl1 := r1.1
  have hl2 := r2.1
  clear r1 r2
  by_cases hl : xs.length = ys.length
  · have HL := Lib.hid hl
    have hb : ((xs.length : Int) != (ys.length : Int)) = false := by simp [hl]
    clear hl
    go_enter Try.func53, Try.ntmps53
    go_wp2_with fail
    go_loopw [13] (fun i wr => ∃ k : Nat, k ≤ xs.length ∧ i = .int .i64 k ∧ Hid (∀ j, j < k → xs.getD j C3.zero = ys.getD j C3.zero) ∧ Hid (Below w.heap.size w wr)) (fun i _ => xs.length - (intOf i).toNat)
    case atStart => exact ⟨0, Nat.zero_le _, rfl, fun j hj => by omega, Below.refl _ _⟩
    case round =>
      obtain ⟨k, hk, rfl, hup, hbel⟩ := hrel
      by_cases hlt : k < xs.length
      · obtain ⟨g1, rfl, _, _, ⟨e0, e1, e2⟩, _⟩ := R1.out.at (hbel.out.mono hh1) hlt
        have hlt2 : k < ys.length := by rw [← HL.out]; exact hlt
        obtain ⟨g2, rfl, _, _, ⟨f0, f1, f2⟩, _⟩ := R2.out.at (hbel.out.mono hh2) hlt2
        obtain ⟨c, hc⟩ : ∃ c, xs.getD k C3.zero = c := ⟨_, rfl⟩
        obtain ⟨d, hd⟩ : ∃ d, ys.getD k C3.zero = d := ⟨_, rfl⟩
        rw [hc] at e0 e1 e2
        rw [hd] at f0 f1 f2
        have HC := Lib.hid hc
        have HD := Lib.hid hd
        clear hc hd
        rcases C3.parts c d with ⟨q0, hne⟩ | ⟨q0, q1, hne⟩ | ⟨q0, q1, q2, hne⟩ | he
        case inr.inr.inr =>
          subst he
          have HN : Hid (∀ j, j < k + 1 → xs.getD j C3.zero = ys.getD j C3.zero) := Lib.hid (fun j hj => by
            rcases Nat.lt_succ_iff_lt_or_eq.1 hj with h | rfl
            · exact hup.out j h
            · rw [HC.out, HD.out])
          clear HC HD hup
          go_wp2_with fail
          go_quiet (fail)
          go_wp2_with fail
          go_roundw
          case rel => exact ⟨k + 1, by omega, by go_num, HN, Lib.hid ⟨hbel.out.os, hbel.out.tape, hbel.out.output, hbel.out.size, hbel.out.block⟩⟩
          case measure => simp [intOf] <;> omega
        all_goals
          have HN := Lib.hid (same_no_at (n := 0) (m := 0) (xs := xs) (ys := ys) (i := k) (by rw [HC.out, HD.out]; exact hne))
          clear HC HD hup hne
          go_wp2_with fail
          go_quiet (fail)
          go_wp2_with fail
          go_ret
          exact ⟨ret_bool HN.out, ⟨hbel.out.os, hbel.out.tape, hbel.out.output, hbel.out.size, hbel.out.block⟩⟩
      · obtain rfl : k = xs.length := by omega
        have HN := Lib.hid (same_yes (n := 0) (m := 0) rfl HL.out hup.out)
        go_wp2_with fail
        go_ret
        exact ⟨ret_bool HN.out, hbel.out⟩
  · have hb : ((xs.length : Int) != (ys.length : Int)) = true := by simp; omega
    have HN := Lib.hid (same_no (n := 0) (m := 0) (xs := xs) (ys := ys) (fun h => hl (by rw [h.2])))
    clear hl
    go_enter Try.func53, Try.ntmps53
    go_wp2_with fail
    go_ret
    exact ⟨ret_bool HN.out, Below.refl _ _⟩

theorem ImplSame_any (l1 h1 l2 h2 : Nat) (n m : Int) (v1 v2 : Value) (xs ys : List C3) (w : World) (r1 : CellIn l1 h1 w v1 xs) (r2 : CellIn l2 h2 w v2 ys) (hh1 : h1 ≤ w.heap.size) (hh2 : h2 ≤ w.heap.size) :
    Calls Try.prog 20 #[.agg #[.int .i64 n, v1], .agg #[.int .i64 m, v2]] w fun e w' => e = .returned (.bool (sameB n m xs ys)) ∧ Below w.heap.size w w' := by
  obtain ⟨a1, c1, rfl⟩ := r1.form
  obtain ⟨a2, c2, rfl⟩ := r2.form
  have R1 : ∀ W, Below w.heap.size w W → CellIn l1 h1 W (.slice a1 xs.length c1) xs := fun W hb => r1.below (hb.mono hh1)
  have R2 : ∀ W, Below w.heap.size w W → CellIn l2 h2 W (.slice a2 ys.length c2) ys := fun W hb => r2.below (hb.mono hh2)
  have HR1 := Lib.hid R1
  have HR2 := Lib.hid R2
  clear r1 r2 R1 R2
  by_cases hn : n = m
  · subst hn
    have HE : Hid (sameB 0 0 xs ys = sameB n n xs ys) := Lib.hid (by unfold sameB; simp)
    go_enter Try.func20, Try.ntmps20
    go_wp2_with fail
    refine (EqCells_any l1 h1 l2 h2 _ _ xs ys _ (HR1.out _ (bel_n (bel0 w _) (Nat.le_refl _) _)) (HR2.out _ (bel_n (bel0 w _) (Nat.le_refl _) _)) (by simp; omega) (by simp; omega)).mono ?_
    rintro e w1 ⟨rfl, hb⟩
    have HB := Lib.hid (bel_c (bel_n (bel0 w _) (Nat.le_refl _) _) (Nat.le_refl _) hb)
    clear hb
    generalize sameB 0 0 xs ys = r at HE ⊢
    go_wp2_with fail
    go_ret
    exact ⟨ret_bool HE.out, HB.out⟩
  · have hb : (n == m) = false := by simpa using hn
    have HN := Lib.hid (same_no (n := n) (m := m) (xs := xs) (ys := ys) (fun h => hn h.1))
    clear hn
    go_enter Try.func20, Try.ntmps20
    go_wp2_with fail
    go_ret
    exact ⟨ret_bool HN.out, bel_n (bel0 w _) (Nat.le_refl _) _⟩

end Go.Proofs.Ytndffjphdlncpaa

namespace Go.Proofs.Ytndffjphdlncpaa
open Go.ChangeShapes Go.WideShapes Go.ChangeAt Go.RowKit

/-- The facts Ps hold, and go on to hold while no block of u changes; since w no block of w has changed. -/
def Kp (w : World) (Ps : List (World → Prop)) (u : World) : Prop := Below w.heap.size w u ∧ ∀ P ∈ Ps, ∀ v, Below u.heap.size u v → P v
theorem Kp.nil {w u : World} (h : Below w.heap.size w u) : Kp w [] u := ⟨h, fun P hP => by cases hP⟩
theorem Kp.keep {w u v : World} {Ps : List (World → Prop)} (h : Kp w Ps u) (hb : Below u.heap.size u v) : Kp w Ps v := ⟨bel_c h.1 (Nat.le_refl _) hb, fun P hP x hx => h.2 P hP x (bel_c hb (Nat.le_refl _) hx)⟩
theorem Kp.drew {w u : World} {Ps : List (World → Prop)} (h : Kp w Ps u) : Kp w Ps u.drew := h.keep ⟨rfl, rfl, rfl, Nat.le_refl _, fun _ _ => rfl⟩
theorem Kp.get {w u : World} {Ps : List (World → Prop)} (h : Kp w Ps u) (i : Nat) {P : World → Prop} (hP : Ps[i]? = some P) : P u := h.2 P (List.mem_of_getElem? hP) u (Below.refl _ _)
theorem Kp.cons {w u : World} {Ps : List (World → Prop)} {P : World → Prop} (h : Kp w Ps u) (hP : ∀ v, Below u.heap.size u v → P v) : Kp w (P :: Ps) u :=
  ⟨h.1, fun Q hQ => by
    rcases List.mem_cons.1 hQ with rfl | hQ
    · exact hP
    · exact h.2 Q hQ⟩
theorem Kp.two {w u : World} {Ps : List (World → Prop)} (h : Kp w Ps u) (x y : Value) (T : TypeId) : Kp w (Two u.heap.size x y :: Ps) (u.alloc (.cells #[x, y] T)) :=
  (h.keep (bel0 _ _)).cons fun _ hv => (Two.new u x y T).keep hv
theorem Kp.three {w u : World} {Ps : List (World → Prop)} (h : Kp w Ps u) (c : C3) (T : TypeId) : Kp w (Three u.heap.size c :: Ps) (u.alloc (.cells #[.int .i64 c.s, .int .i64 c.a, .int .i64 c.b] T)) :=
  (h.keep (bel0 _ _)).cons fun _ hv => (Three.new u c T).keep hv
/-- A row of cells, of ints, below the world's end. -/
def Rk (lo hi : Nat) (v : Value) (xs : List C3) (u : World) : Prop := CellIn lo hi u v xs ∧ hi ≤ u.heap.size
def Ik (lo hi : Nat) (v : Value) (zs : List Int) (u : World) : Prop := IntIn lo hi u v zs ∧ hi ≤ u.heap.size
def Ok (lo hi : Nat) (v : Value) (zs : List Int) (u : World) : Prop := IntO lo hi u v zs ∧ hi ≤ u.heap.size
theorem Rk.keep {lo hi : Nat} {v : Value} {xs : List C3} {u x : World} (h : Rk lo hi v xs u) (hb : Below u.heap.size u x) : Rk lo hi v xs x := ⟨h.1.below (hb.mono h.2), Nat.le_trans h.2 hb.size⟩
theorem Ik.keep {lo hi : Nat} {v : Value} {zs : List Int} {u x : World} (h : Ik lo hi v zs u) (hb : Below u.heap.size u x) : Ik lo hi v zs x := ⟨h.1.below (hb.mono h.2), Nat.le_trans h.2 hb.size⟩
theorem Ok.keep {lo hi : Nat} {v : Value} {zs : List Int} {u x : World} (h : Ok lo hi v zs u) (hb : Below u.heap.size u x) : Ok lo hi v zs x := ⟨h.1.below (hb.mono h.2), Nat.le_trans h.2 hb.size⟩
theorem Kp.row {w u x : World} {Ps : List (World → Prop)} {v : Value} {xs : List C3} (h : Kp w Ps u) (hb : Below u.heap.size u x) (r : CellIn u.heap.size x.heap.size x v xs) : Kp w (Rk u.heap.size x.heap.size v xs :: Ps) x :=
  (h.keep hb).cons fun _ hv => Rk.keep ⟨r, Nat.le_refl _⟩ hv
theorem Kp.ints {w u x : World} {Ps : List (World → Prop)} {v : Value} {zs : List Int} (h : Kp w Ps u) (hb : Below u.heap.size u x) (r : IntIn u.heap.size x.heap.size x v zs) : Kp w (Ik u.heap.size x.heap.size v zs :: Ps) x :=
  (h.keep hb).cons fun _ hv => Ik.keep ⟨r, Nat.le_refl _⟩ hv
theorem bel0_lt (w : World) (o : Obj) : w.heap.size < (w.alloc o).heap.size := by simp
theorem args_eq {P : Program} {f : Nat} {xs bs : Array Value} {w : World} {Q : Ending → World → Prop} (h : Calls P f xs w Q) (e : bs = xs) : Calls P f bs w Q := e ▸ h
/-- Equal blocks. -/
theorem sameB_yes (n : Int) (xs : List C3) : sameB n n xs xs = true := by unfold sameB; simp
theorem lit6 (W : World) (x0 x1 x2 x3 x4 x5 : Int) (T : TypeId) : IntIn W.heap.size (W.heap.size + 1) (W.alloc (.cells #[.int .i64 x0, .int .i64 x1, .int .i64 x2, .int .i64 x3, .int .i64 x4, .int .i64 x5] T)) (.slice (some ⟨W.heap.size, 0, none⟩) 6 6) [x0, x1, x2, x3, x4, x5] :=
  ⟨by simp, .inr ⟨W.heap.size, 6, rfl, Nat.le_refl _, Nat.lt_succ_self _, fun i hi => by
    have : i = 0 ∨ i = 1 ∨ i = 2 ∨ i = 3 ∨ i = 4 ∨ i = 5 := by simp at hi; omega
    rcases this with rfl | rfl | rfl | rfl | rfl | rfl <;> exact ⟨by simp, by simp⟩⟩⟩

end Go.Proofs.Ytndffjphdlncpaa

namespace Go.Proofs.Ytndffjphdlncpaa
open Go.ChangeShapes Go.WideShapes Go.ChangeAt Go.RowKit

theorem SameK (l1 h1 l2 h2 : Nat) (n : Int) (v1 v2 : Value) (xs : List C3) (u : World) (r1 : Rk l1 h1 v1 xs u) (r2 : Rk l2 h2 v2 xs u) :
    Calls Try.prog 20 #[.agg #[.int .i64 n, v1], .agg #[.int .i64 n, v2]] u fun e w' => e = .returned (.bool true) ∧ Below u.heap.size u w' := by
  have := ImplSame_any l1 h1 l2 h2 n n v1 v2 xs xs u r1.1 r2.1 r1.2 r2.2
  rw [sameB_yes] at this
  exact this
theorem AreaK (lo hi : Nat) (n k ar : Int) (v : Value) (xs : List C3) (u : World) (r : Rk lo hi v xs u) (hb : BlkOk n xs) (e : arL xs k xs.length = ar) :
    Calls Try.prog 21 #[.agg #[.int .i64 n, v], .int .i64 k] u fun e w' => e = .returned (.int .i64 ar) ∧ Below u.heap.size u w' := by
  have := SpecAreaOf_any lo hi n k v xs u r.1 r.2
  rw [area_yes k hb, e] at this
  exact this
theorem SpecFirstK (lo hi : Nat) (n : Int) (v : Value) (xs : List C3) (fs : List Int) (u : World) (r : Rk lo hi v xs u) (hb : BlkOk n xs) (e : fuL xs = fs) :
    Calls Try.prog 26 #[.agg #[.int .i64 n, v]] u (FreshI fs u) := by
  have := SpecFirstUse_any lo hi n v xs u r.1 r.2
  rw [fu_yes hb, e] at this
  exact this
theorem swp_col {a b : Int} (ha : Col a) (hb : Col b) : LstOk (swpL a b) := (swp_ok ha hb).1
theorem tmod6 {x : Int} (x0 : 0 ≤ x) : Col (x.tmod 6) := by
  have h1 := Int.tmod_nonneg 6 x0
  have h2 := Int.tmod_lt_of_pos x (show (0 : Int) < 6 by omega)
  exact ⟨h1, by omega⟩
theorem exb_102 : exB [1, 0, 2, 3, 4, 5] = true := by
  refine (ex_yes ⟨⟨rfl, ?_⟩, ?_⟩).symm <;> decide
theorem near_len {zs : List Int} (h : NearL zs) : zs.length ≤ 6 := h.2.1
/-- A drawn row, cut or not, below the world's end. -/
def Xk (lo hi : Nat) (n : Int) (v : Value) (xs : List C3) (u : World) : Prop := RowX lo hi n u v xs ∧ hi ≤ u.heap.size
theorem Xk.keep {lo hi : Nat} {n : Int} {v : Value} {xs : List C3} {u x : World} (h : Xk lo hi n v xs u) (hb : Below u.heap.size u x) : Xk lo hi n v xs x := ⟨h.1.below (hb.mono h.2), Nat.le_trans h.2 hb.size⟩

end Go.Proofs.Ytndffjphdlncpaa
