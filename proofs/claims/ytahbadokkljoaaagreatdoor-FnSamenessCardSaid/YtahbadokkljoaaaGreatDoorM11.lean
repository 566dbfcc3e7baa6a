/- What a walk keeps: a list of facts that the blocks of the world at hand decide. Sameness: the program's TextOf, strings.Compare, compareTexts. Areas: the program's CellArea. Turns: the program's TurnCell and MirrorCell. -/
import Derived.Test.YtahbadokkljoaaaGreatDoorM08
import Derived.Test.YtahbadokkljoaaaGreatDoorM04
import Derived.Test.YtahbadokkljoaaaGreatDoorM10
import Derived.Test.YtahbadokkljoaaaGreatDoorM07
import Derived.Lib.Bytealg
import Derived.Laws.Externs
import Derived.Deep.DeepCutAuto
import Derived.Deep.RegionHeld3
import Derived.Test.YtahbadokkljoaaaGreatDoorM05
import Derived.Test.YtahbadokkljoaaaGreatDoorM02
import Derived.Test.YtahbadokkljoaaaGreatDoorM01
import Derived.Test.YtahbadokkljoaaaGreatDoorM03
import Derived.Test.YtahbadokkljoaaaGreatDoorM09

namespace Go.Proofs.YtahbadokkljoaaaGreatDoor
open Go.ChangeShapes Go.WideShapes Go.ChangeAt Go.RowKit

/-- The facts Ps hold, and go on to hold while no block of u changes; since w no block of w has changed. -/
def Kp (w : World) (Ps : List (World → Prop)) (u : World) : Prop := Below w.heap.size w u ∧ ∀ P ∈ Ps, ∀ v, Below u.heap.size u v → P v
theorem Kp.nil {w u : World} (h : Below w.heap.size w u) : Kp w [] u := ⟨h, fun P hP => by cases hP⟩
theorem Kp.keep {w u v : World} {Ps : List (World → Prop)} (h : Kp w Ps u) (hb : Below u.heap.size u v) : Kp w Ps v := ⟨bel_c h.1 (Nat.le_refl _) hb, fun P hP x hx => h.2 P hP x (bel_c hb (Nat.le_refl _) hx)⟩
theorem Kp.drew {w u : World} {Ps : List (World → Prop)} (h : Kp w Ps u) : Kp w Ps u.drew := h.keep ⟨rfl, rfl, rfl, Nat.le_refl _, fun _ _ => rfl⟩
theorem Kp.get {w u : World} {Ps : List (World → Prop)} (h : Kp w Ps u) (i : Nat) {P : World → Prop} (hP : Ps[i]? = some P) : P u := h.2 P (List.mem_of_getElem? hP) u (Below.refl _ _)
theorem Kp.cons {w u : World} {Ps : List (World → Prop)} {P : World → Prop} (h : Kp w Ps u) (hP : ∀ v, Below u.heap.size u v → P v) : Kp w (P :: Ps) u :=
  ⟨h.1, fun Q hQ => by
    rcases List.mem_cons.1 hQ with rfl | hQ
    · exact hP
    · exact h.2 Q hQ⟩
theorem Kp.two {w u : World} {Ps : List (World → Prop)} (h : Kp w Ps u) (x y : Value) (T : TypeId) : Kp w (Two u.heap.size x y :: Ps) (u.alloc (.cells #[x, y] T)) :=
  (h.keep (bel0 _ _)).cons fun _ hv => (Two.new u x y T).keep hv
theorem Kp.three {w u : World} {Ps : List (World → Prop)} (h : Kp w Ps u) (c : C3) (T : TypeId) : Kp w (Three u.heap.size c :: Ps) (u.alloc (.cells #[.int .i64 c.s, .int .i64 c.a, .int .i64 c.b] T)) :=
  (h.keep (bel0 _ _)).cons fun _ hv => (Three.new u c T).keep hv
/-- A row of cells, of ints, below the world's end. -/
def Rk (lo hi : Nat) (v : Value) (xs : List C3) (u : World) : Prop := CellIn lo hi u v xs ∧ hi ≤ u.heap.size
def Ik (lo hi : Nat) (v : Value) (zs : List Int) (u : World) : Prop := IntIn lo hi u v zs ∧ hi ≤ u.heap.size
def Ok (lo hi : Nat) (v : Value) (zs : List Int) (u : World) : Prop := IntO lo hi u v zs ∧ hi ≤ u.heap.size
theorem Rk.keep {lo hi : Nat} {v : Value} {xs : List C3} {u x : World} (h : Rk lo hi v xs u) (hb : Below u.heap.size u x) : Rk lo hi v xs x := ⟨h.1.below (hb.mono h.2), Nat.le_trans h.2 hb.size⟩
theorem Ik.keep {lo hi : Nat} {v : Value} {zs : List Int} {u x : World} (h : Ik lo hi v zs u) (hb : Below u.heap.size u x) : Ik lo hi v zs x := ⟨h.1.below (hb.mono h.2), Nat.le_trans h.2 hb.size⟩
theorem Ok.keep {lo hi : Nat} {v : Value} {zs : List Int} {u x : World} (h : Ok lo hi v zs u) (hb : Below u.heap.size u x) : Ok lo hi v zs x := ⟨h.1.below (hb.mono h.2), Nat.le_trans h.2 hb.size⟩
theorem Kp.row {w u x : World} {Ps : List (World → Prop)} {v : Value} {xs : List C3} (h : Kp w Ps u) (hb : Below u.heap.size u x) (r : CellIn u.heap.size x.heap.size x v xs) : Kp w (Rk u.heap.size x.heap.size v xs :: Ps) x :=
  (h.keep hb).cons fun _ hv => Rk.keep ⟨r, Nat.le_refl _⟩ hv
theorem Kp.ints {w u x : World} {Ps : List (World → Prop)} {v : Value} {zs : List Int} (h : Kp w Ps u) (hb : Below u.heap.size u x) (r : IntIn u.heap.size x.heap.size x v zs) : Kp w (Ik u.heap.size x.heap.size v zs :: Ps) x :=
  (h.keep hb).cons fun _ hv => Ik.keep ⟨r, Nat.le_refl _⟩ hv
theorem bel0_lt (w : World) (o : Obj) : w.heap.size < (w.alloc o).heap.size := by simp
theorem args_eq {P : Program} {f : Nat} {xs bs : Array Value} {w : World} {Q : Ending → World → Prop} (h : Calls P f xs w Q) (e : bs = xs) : Calls P f bs w Q := e ▸ h
/-- Equal blocks. -/
theorem sameB_yes (n : Int) (xs : List C3) : sameB n n xs xs = true := by unfold sameB; simp
theorem lit6 (W : World) (x0 x1 x2 x3 x4 x5 : Int) (T : TypeId) : IntIn W.heap.size (W.heap.size + 1) (W.alloc (.cells #[.int .i64 x0, .int .i64 x1, .int .i64 x2, .int .i64 x3, .int .i64 x4, .int .i64 x5] T)) (.slice (some ⟨W.heap.size, 0, none⟩) 6 6) [x0, x1, x2, x3, x4, x5] :=
  ⟨by simp, .inr ⟨W.heap.size, 6, rfl, Nat.le_refl _, Nat.lt_succ_self _, fun i hi => by
    have : i = 0 ∨ i = 1 ∨ i = 2 ∨ i = 3 ∨ i = 4 ∨ i = 5 := by simp at hi; omega
    rcases this with rfl | rfl | rfl | rfl | rfl | rfl <;> exact ⟨by simp, by simp⟩⟩⟩

end Go.Proofs.YtahbadokkljoaaaGreatDoor

namespace Go.Proofs.YtahbadokkljoaaaGreatDoor
open Go.ChangeShapes Go.WideShapes Go.ChangeAt Go.RowKit

/-- The order of two texts, as a number. -/
def cmpT (x y : ByteArray) : Int := Lib.compareBytes x.data.toList y.data.toList
theorem cmpB_neg : ∀ x y : List UInt8, Lib.compareBytes x y < 0 ↔ Op.bytesLess x y = true
  | [], [] => by simp [Lib.compareBytes, Op.bytesLess]
  | [], _ :: _ => by simp [Lib.compareBytes, Op.bytesLess]
  | _ :: _, [] => by simp [Lib.compareBytes, Op.bytesLess]
  | a :: x, b :: y => by
    have ih := cmpB_neg x y
    unfold Lib.compareBytes Op.bytesLess
    by_cases h : a < b
    · simp [h]
    · by_cases k : b < a
      · have hne : ¬ a = b := fun e => by subst e; exact h k
        simp [h, k, hne]
      · have e : a = b := UInt8.le_antisymm (UInt8.not_lt.1 k) (UInt8.not_lt.1 h)
        subst e
        simp [h, ih]
theorem cmpT_neg (x y : ByteArray) : cmpT x y < 0 ↔ Op.bytesLess x.data.toList y.data.toList = true := cmpB_neg _ _

set_option maxRecDepth 100000 in
set_option maxHeartbeats 4000000 in
theorem ImplTextOf_any (lo hi : Nat) (n : Int) (v : Value) (xs : List C3) (w : World) (r : CellIn lo hi w v xs) (hhi : hi ≤ w.heap.size) :
    Calls Tryz.prog 16 #[.agg #[.int .i64 n, v]] w fun e w' => e = .returned (.string (txtA n xs)) ∧ Below w.heap.size w w' := by
  obtain ⟨a, cap, rfl⟩ := r.form
  have hl := r.1
  have HR := Lib.hid (fun W (hb : Below w.heap.size w W) => r.below (hb.mono hhi))
  clear r
  by_cases hb : BlkOk n xs
  · rw [(sam_yes hb).1]
    have HB := Lib.hid hb
    have hx := (blk_len hb).2
    have HZ : Hid (∀ k, (txtB (xs.take k)).size ≤ 64) := Lib.hid (fun k => by have := txtB_size hb.2.2 k; omega)
    clear hb
    go_enter Tryz.func16, Tryz.ntmps16
    go_wp2_with fail
    refine (ImplBlockOk_yes lo hi n _ xs _ (HR.out _ (bel0 w _)) (by simp; omega) HB.out).mono ?_
    rintro e w1 ⟨rfl, hb1⟩
    have p1 := kept (p := ⟨w.heap.size, 1, none⟩) (x := .slice a xs.length cap) hb1 (by go_simp)
    have B1 := Lib.hid (bel_c (bel0 w (.cells #[.int .i64 n, .slice a xs.length cap] 26)) (Nat.le_refl _) hb1)
    clear hb1
    go_wp2_with fail
    clear p1
    go_loopw [3, 12] (fun q i wr => ∃ m : Nat, m ≤ xs.length ∧ i = .int .i64 m ∧ q = .string (txtB (xs.take m)) ∧ Hid (Below w.heap.size w wr)) (fun _ i _ => xs.length - (intOf i).toNat)
    case atStart => exact ⟨0, Nat.zero_le _, rfl, rfl, B1⟩
    case round =>
      obtain ⟨m, hk, rfl, rfl, hbel⟩ := hrel
      by_cases hlt : m < xs.length
      · obtain ⟨g, rfl, _, _, ⟨e0, e1, e2⟩, _⟩ := (HR.out _ hbel.out).at (Below.refl _ _) hlt
        have HN := Lib.hid (txtB_take hlt)
        have hc := cellTxt_size (xs.getD m C3.zero)
        have hs := HZ.out m
        generalize xs.getD m C3.zero = c at e0 e1 e2 HN hc
        go_wp2_with fail
        refine (ImplText_any c.s c.a c.b _).mono ?_
        rintro e w2 ⟨rfl, hb2⟩
        have B2 := Lib.hid (bel_c (bel_n hbel.out (Nat.le_refl _) (.cells #[.int .i64 c.s, .int .i64 c.a, .int .i64 c.b] 50)) (Nat.le_refl _) hb2)
        clear hb2 e0 e1 e2
        generalize cellTxt c.s c.a c.b = t at HN hc ⊢
        generalize txtB (xs.take m) = s at HN hs ⊢
        go_wp2_with fail
        go_roundw
        case rel => exact ⟨m + 1, by omega, by go_num, by rw [HN.out, ByteArray.append_assoc], B2⟩
        case measure => simp [intOf] <;> omega
      · obtain rfl : m = xs.length := by omega
        go_wp2_with fail
        go_ret
        exact ⟨by rw [List.take_length]; rfl, hbel.out⟩
  · rw [(sam_no hb).1]
    have HB := Lib.hid hb
    clear hb
    go_enter Tryz.func16, Tryz.ntmps16
    go_wp2_with fail
    refine (ImplBlockOk_no lo hi n _ xs _ (HR.out _ (bel0 w _)) (by simp; omega) HB.out).mono ?_
    rintro e w1 ⟨rfl, hb1⟩
    go_wp2_with fail
    go_ret
    exact ⟨rfl, bel_c (bel0 w _) (Nat.le_refl _) hb1⟩

set_option maxHeartbeats 1000000 in
set_option maxRecDepth 100000 in
theorem CompareS_any (x y : ByteArray) (w : World) :
    Calls Tryz.prog 62 #[.string x, .string y] w fun e w' => e = .returned (.int .i64 (cmpT x y)) ∧ w' = w := by
  go_enter Tryz.func62, Tryz.ntmps62
  go_wp2
  rw [run_callFunc_extern Tryz.func82 (by kernel_rfl) (by kernel_rfl) (by kernel_rfl) (e := Extern.BytealgCompare.compare) (by kernel_rfl), Lib.run_compareString]
  simp only [Result.andThen]
  rw [Oper.upon_value]
  go_wp2
  go_ret
  exact ⟨rfl, rfl⟩
theorem Compare_any (x y : ByteArray) (w : World) :
    Calls Tryz.prog 48 #[.string x, .string y] w fun e w' => e = .returned (.int .i64 (cmpT x y)) ∧ w' = w := by
  go_enter Tryz.func48, Tryz.ntmps48
  go_wp2_with (refine (CompareS_any _ _ _).mono ?_; rintro e w' ⟨rfl, rfl⟩)
  go_ret
  exact ⟨rfl, rfl⟩

/-- Two boxes behind what was there. -/
def BxTwo (p : Nat) (x0 x1 y0 y1 : Value) (u : World) : Prop := u.cell? ⟨p, 0, none⟩ = some x0 ∧ u.cell? ⟨p, 1, none⟩ = some x1 ∧ u.cell? ⟨p + 1, 0, none⟩ = some y0 ∧ u.cell? ⟨p + 1, 1, none⟩ = some y1

set_option maxRecDepth 100000 in
set_option maxHeartbeats 4000000 in
theorem CmpTexts_any (lo hi lo2 hi2 : Nat) (n m : Int) (v v2 : Value) (xs ys : List C3) (w : World) (r : CellIn lo hi w v xs) (hhi : hi ≤ w.heap.size) (r2 : CellIn lo2 hi2 w v2 ys) (hhi2 : hi2 ≤ w.heap.size) :
    Calls Tryz.prog 27 #[.agg #[.int .i64 n, v], .agg #[.int .i64 m, v2]] w fun e w' => e = .returned (.int .i64 (cmpT (txtA n xs) (txtA m ys))) ∧ Below w.heap.size w w' := by
  obtain ⟨a, cap, rfl⟩ := r.form
  obtain ⟨a2, cap2, rfl⟩ := r2.form
  obtain ⟨G, hG⟩ : ∃ G, G = (w.alloc (.cells #[.int .i64 n, .slice a xs.length cap] 26)).alloc (.cells #[.int .i64 m, .slice a2 ys.length cap2] 26) := ⟨_, rfl⟩
  have HBG : Hid (Below w.heap.size w G) := Lib.hid (by rw [hG]; exact bel_n (bel0 _ _) (Nat.le_refl _) _)
  have D0 : Below G.heap.size G G.drew := ⟨rfl, rfl, rfl, Nat.le_refl _, fun _ _ => rfl⟩
  have S0 : G.drew.cell? ⟨w.heap.size, 0, none⟩ = some (.int .i64 n) ∧ G.drew.cell? ⟨w.heap.size, 1, none⟩ = some (.slice a xs.length cap) ∧ G.drew.cell? ⟨w.heap.size + 1, 0, none⟩ = some (.int .i64 m) ∧ G.drew.cell? ⟨w.heap.size + 1, 1, none⟩ = some (.slice a2 ys.length cap2) ∧ Below G.heap.size G G.drew := by
    have e0 : G.cell? ⟨w.heap.size, 0, none⟩ = some (.int .i64 n) := by rw [hG]; go_simp
    have e1 : G.cell? ⟨w.heap.size, 1, none⟩ = some (.slice a xs.length cap) := by rw [hG]; go_simp
    have e2 : G.cell? ⟨w.heap.size + 1, 0, none⟩ = some (.int .i64 m) := by rw [hG]; go_simp
    have e3 : G.cell? ⟨w.heap.size + 1, 1, none⟩ = some (.slice a2 ys.length cap2) := by rw [hG]; go_simp
    exact ⟨kept D0 e0, kept D0 e1, kept D0 e2, kept D0 e3, D0⟩
  have KP : ∀ u v, Below u.heap.size u v → (u.cell? ⟨w.heap.size, 0, none⟩ = some (.int .i64 n) ∧ u.cell? ⟨w.heap.size, 1, none⟩ = some (.slice a xs.length cap) ∧ u.cell? ⟨w.heap.size + 1, 0, none⟩ = some (.int .i64 m) ∧ u.cell? ⟨w.heap.size + 1, 1, none⟩ = some (.slice a2 ys.length cap2) ∧ Below G.heap.size G u) → (v.cell? ⟨w.heap.size, 0, none⟩ = some (.int .i64 n) ∧ v.cell? ⟨w.heap.size, 1, none⟩ = some (.slice a xs.length cap) ∧ v.cell? ⟨w.heap.size + 1, 0, none⟩ = some (.int .i64 m) ∧ v.cell? ⟨w.heap.size + 1, 1, none⟩ = some (.slice a2 ys.length cap2) ∧ Below G.heap.size G v) := fun u v hb h => ⟨kept hb h.1, kept hb h.2.1, kept hb h.2.2.1, kept hb h.2.2.2.1, bel_c h.2.2.2.2 (Nat.le_refl _) hb⟩
  have HW : Hid (∀ u, Below G.heap.size G u → Below w.heap.size w u) := Lib.hid (fun u h => bel_c HBG.out (Nat.le_refl _) h)
  have K1 : Hid (∀ u, Below G.heap.size G u → Calls Tryz.prog 16 #[.agg #[.int .i64 n, .slice a xs.length cap]] u fun e w' => e = .returned (.string (txtA n xs)) ∧ Below u.heap.size u w') :=
    Lib.hid (fun u h => ImplTextOf_any lo hi n _ xs u (r.below ((HW.out u h).mono hhi)) (Nat.le_trans hhi (HW.out u h).size))
  have K2 : Hid (∀ u, Below G.heap.size G u → Calls Tryz.prog 16 #[.agg #[.int .i64 m, .slice a2 ys.length cap2]] u fun e w' => e = .returned (.string (txtA m ys)) ∧ Below u.heap.size u w') :=
    Lib.hid (fun u h => ImplTextOf_any lo2 hi2 m _ ys u (r2.below ((HW.out u h).mono hhi2)) (Nat.le_trans hhi2 (HW.out u h).size))
  clear r r2
  generalize txtA n xs = tx at K1 ⊢
  generalize txtA m ys = ty at K2 ⊢
  go_enter Tryz.func27, Tryz.ntmps27
  go_upto_region 1 with fail
  rw [← hG]
  clear hG
  go_region_held3 (fun w' => w'.cell? ⟨w.heap.size, 0, none⟩ = some (.int .i64 n) ∧ w'.cell? ⟨w.heap.size, 1, none⟩ = some (.slice a xs.length cap) ∧ w'.cell? ⟨w.heap.size + 1, 0, none⟩ = some (.int .i64 m) ∧ w'.cell? ⟨w.heap.size + 1, 1, none⟩ = some (.slice a2 ys.length cap2) ∧ Below G.heap.size G w') (first | assumption | (refine KP _ _ (by assumption) ?_; assumption))
    ((first
      | (go_at_call 16; refine (args_eq (K1.out _ (And.right (And.right (And.right (And.right (by assumption)))))) (by with_reducible rfl)).mono ?_; rintro e y ⟨rfl, hb⟩)
      | (go_at_call 16; refine (args_eq (K2.out _ (And.right (And.right (And.right (And.right (by assumption)))))) (by with_reducible rfl)).mono ?_; rintro e y ⟨rfl, hb⟩)
      | (go_at_call 48; refine (Compare_any _ _ _).mono ?_; rintro e y ⟨rfl, rfl⟩)))
  all_goals
    have HY := HW.out _ (And.right (And.right (And.right (And.right (by assumption)))))
    go_wp2_with fail
    go_ret
    exact ⟨rfl, HY⟩

end Go.Proofs.YtahbadokkljoaaaGreatDoor

namespace Go.Proofs.YtahbadokkljoaaaGreatDoor
open Go.ChangeShapes Go.WideShapes Go.ChangeAt Go.RowKit

theorem ImplCellOk_yes (s a b : Int) (w : World) (h : OkC s a b) :
    Calls Tryz.prog 53 #[.agg #[.int .i64 s, .int .i64 a, .int .i64 b]] w fun e w' => e = .returned (.bool true) ∧ Below w.heap.size w w' :=
  (ImplOk_any s a b w).mono fun e w' ⟨he, hw⟩ => ⟨by rw [he]; simp [h], by rw [hw]; exact bel0 _ _⟩
theorem ImplCellOk_no (s a b : Int) (w : World) (h : ¬ OkC s a b) :
    Calls Tryz.prog 53 #[.agg #[.int .i64 s, .int .i64 a, .int .i64 b]] w fun e w' => e = .returned (.bool false) ∧ Below w.heap.size w w' :=
  (ImplOk_any s a b w).mono fun e w' ⟨he, hw⟩ => ⟨by rw [he]; simp [h], by rw [hw]; exact bel0 _ _⟩
end Go.Proofs.YtahbadokkljoaaaGreatDoor

namespace Go.Proofs.YtahbadokkljoaaaGreatDoor
open Go.ChangeShapes Go.WideShapes Go.ChangeAt Go.RowKit

/-- What the walk keeps: the cell's box, the answer's. -/
theorem ImplTurnCell_keep (s a b : Int) (w w1 : World) (hb : Below ((w.alloc (.cells #[.int .i64 s, .int .i64 a, .int .i64 b] 50)).alloc (.cells #[.int .i64 0, .int .i64 0, .int .i64 0] 50)).heap.size ((w.alloc (.cells #[.int .i64 s, .int .i64 a, .int .i64 b] 50)).alloc (.cells #[.int .i64 0, .int .i64 0, .int .i64 0] 50)) w1) :
    (w1.cell? ⟨w.heap.size, 0, none⟩ = some (.int .i64 s) ∧ w1.cell? ⟨w.heap.size, 1, none⟩ = some (.int .i64 a) ∧ w1.cell? ⟨w.heap.size, 2, none⟩ = some (.int .i64 b)) ∧
    (w1.cell? ⟨w.heap.size + 1, 0, none⟩ = some (.int .i64 0) ∧ w1.cell? ⟨w.heap.size + 1, 1, none⟩ = some (.int .i64 0) ∧ w1.cell? ⟨w.heap.size + 1, 2, none⟩ = some (.int .i64 0)) ∧
    (w1.frozen? ⟨w.heap.size + 1, 0, none⟩ = false ∧ w1.frozen? ⟨w.heap.size + 1, 1, none⟩ = false ∧ w1.frozen? ⟨w.heap.size + 1, 2, none⟩ = false) ∧ Below w.heap.size w w1 := by
  refine ⟨⟨kept hb ?_, kept hb ?_, kept hb ?_⟩, ⟨kept hb ?_, kept hb ?_, kept hb ?_⟩, ⟨keptF (x := .int .i64 0) hb ?_ ?_, keptF (x := .int .i64 0) hb ?_ ?_, keptF (x := .int .i64 0) hb ?_ ?_⟩, bel_c (bel_n (bel0 w _) (Nat.le_refl _) _) (Nat.le_refl _) hb⟩ <;> go_simp
theorem ImplTurnCell_any (s a b : Int) (w : World) :
    Calls Tryz.prog 81 #[.agg #[.int .i64 s, .int .i64 a, .int .i64 b]] w fun e w' => e = .returned (.agg #[.int .i64 (turnZ ⟨s, a, b⟩).s, .int .i64 (turnZ ⟨s, a, b⟩).a, .int .i64 (turnZ ⟨s, a, b⟩).b]) ∧ Below w.heap.size w w' := by
  have HK := Lib.hid (ImplTurnCell_keep s a b w)
  by_cases h : OkC s a b
  · have HC := Lib.hid h
    have hz : turnZ ⟨s, a, b⟩ = turnC ⟨s, a, b⟩ := if_pos h
    rw [hz]
    have hs : s = 0 ∨ s = 1 ∨ s = 2 := by unfold OkC at h; omega
    clear h hz
    rcases hs with rfl | rfl | rfl
    · have HZ : Hid (turnC ⟨0, a, b⟩ = ⟨0, a, b⟩) := Lib.hid (by simp [turnC])
      rw [HZ.out]
      clear HZ
      go_enter Tryz.func81, Tryz.ntmps81
      go_wp2_with fail
      refine (ImplCellOk_yes _ _ _ _ HC.out).mono ?_
      rintro e w1 ⟨rfl, hb⟩
      obtain ⟨⟨c0, c1, c2⟩, ⟨d0, d1, d2⟩, ⟨f0, f1, f2⟩, B⟩ := HK.out w1 hb
      clear hb HK
      go_wp2_with fail
      refine bodyPost_ret (v := .agg #[.int .i64 0, .int .i64 a, .int .i64 b]) (by simp [results, Tryz.results81, go_sem, d0, d1, d2]) rfl ⟨rfl, ?_⟩
      refine Below.setCell (Below.setCell (Below.setCell B ?_ _) ?_ _) ?_ _ <;> (simp <;> omega)
    · have HZ : Hid (turnC ⟨1, a, b⟩ = ⟨2, b, a⟩) := Lib.hid (by simp [turnC])
      rw [HZ.out]
      clear HZ
      go_enter Tryz.func81, Tryz.ntmps81
      go_wp2_with fail
      refine (ImplCellOk_yes _ _ _ _ HC.out).mono ?_
      rintro e w1 ⟨rfl, hb⟩
      obtain ⟨⟨c0, c1, c2⟩, ⟨d0, d1, d2⟩, ⟨f0, f1, f2⟩, B⟩ := HK.out w1 hb
      clear hb HK
      go_wp2_with fail
      refine bodyPost_ret (v := .agg #[.int .i64 2, .int .i64 b, .int .i64 a]) (by simp [results, Tryz.results81, go_sem, d0, d1, d2]) rfl ⟨rfl, ?_⟩
      refine Below.setCell (Below.setCell (Below.setCell B ?_ _) ?_ _) ?_ _ <;> (simp <;> omega)
    · have HZ : Hid (turnC ⟨2, a, b⟩ = ⟨1, a, b⟩) := Lib.hid (by simp [turnC])
      rw [HZ.out]
      clear HZ
      go_enter Tryz.func81, Tryz.ntmps81
      go_wp2_with fail
      refine (ImplCellOk_yes _ _ _ _ HC.out).mono ?_
      rintro e w1 ⟨rfl, hb⟩
      obtain ⟨⟨c0, c1, c2⟩, ⟨d0, d1, d2⟩, ⟨f0, f1, f2⟩, B⟩ := HK.out w1 hb
      clear hb HK
      go_wp2_with fail
      refine bodyPost_ret (v := .agg #[.int .i64 1, .int .i64 a, .int .i64 b]) (by simp [results, Tryz.results81, go_sem, d0, d1, d2]) rfl ⟨rfl, ?_⟩
      refine Below.setCell (Below.setCell (Below.setCell B ?_ _) ?_ _) ?_ _ <;> (simp <;> omega)
  · have HC := Lib.hid h
    have hz : turnZ ⟨s, a, b⟩ = ⟨0, 0, 0⟩ := if_neg h
    rw [hz]
    clear h hz
    go_enter Tryz.func81, Tryz.ntmps81
    go_wp2_with fail
    refine (ImplCellOk_no _ _ _ _ HC.out).mono ?_
    rintro e w1 ⟨rfl, hb⟩
    obtain ⟨⟨c0, c1, c2⟩, ⟨d0, d1, d2⟩, ⟨f0, f1, f2⟩, B⟩ := HK.out w1 hb
    clear hb HK
    go_wp2_with fail
    refine bodyPost_ret (v := .agg #[.int .i64 0, .int .i64 0, .int .i64 0]) (by simp [results, Tryz.results81, go_sem, d0, d1, d2]) rfl ⟨rfl, ?_⟩
    refine Below.setCell (Below.setCell (Below.setCell B ?_ _) ?_ _) ?_ _ <;> (simp <;> omega)
/-- What the walk keeps: the cell's box, the answer's. -/
theorem ImplMirrorCell_keep (s a b : Int) (w w1 : World) (hb : Below ((w.alloc (.cells #[.int .i64 s, .int .i64 a, .int .i64 b] 50)).alloc (.cells #[.int .i64 0, .int .i64 0, .int .i64 0] 50)).heap.size ((w.alloc (.cells #[.int .i64 s, .int .i64 a, .int .i64 b] 50)).alloc (.cells #[.int .i64 0, .int .i64 0, .int .i64 0] 50)) w1) :
    (w1.cell? ⟨w.heap.size, 0, none⟩ = some (.int .i64 s) ∧ w1.cell? ⟨w.heap.size, 1, none⟩ = some (.int .i64 a) ∧ w1.cell? ⟨w.heap.size, 2, none⟩ = some (.int .i64 b)) ∧
    (w1.cell? ⟨w.heap.size + 1, 0, none⟩ = some (.int .i64 0) ∧ w1.cell? ⟨w.heap.size + 1, 1, none⟩ = some (.int .i64 0) ∧ w1.cell? ⟨w.heap.size + 1, 2, none⟩ = some (.int .i64 0)) ∧
    (w1.frozen? ⟨w.heap.size + 1, 0, none⟩ = false ∧ w1.frozen? ⟨w.heap.size + 1, 1, none⟩ = false ∧ w1.frozen? ⟨w.heap.size + 1, 2, none⟩ = false) ∧ Below w.heap.size w w1 := by
  refine ⟨⟨kept hb ?_, kept hb ?_, kept hb ?_⟩, ⟨kept hb ?_, kept hb ?_, kept hb ?_⟩, ⟨keptF (x := .int .i64 0) hb ?_ ?_, keptF (x := .int .i64 0) hb ?_ ?_, keptF (x := .int .i64 0) hb ?_ ?_⟩, bel_c (bel_n (bel0 w _) (Nat.le_refl _) _) (Nat.le_refl _) hb⟩ <;> go_simp
theorem ImplMirrorCell_any (s a b : Int) (w : World) :
    Calls Tryz.prog 80 #[.agg #[.int .i64 s, .int .i64 a, .int .i64 b]] w fun e w' => e = .returned (.agg #[.int .i64 (mirZ ⟨s, a, b⟩).s, .int .i64 (mirZ ⟨s, a, b⟩).a, .int .i64 (mirZ ⟨s, a, b⟩).b]) ∧ Below w.heap.size w w' := by
  have HK := Lib.hid (ImplMirrorCell_keep s a b w)
  by_cases h : OkC s a b
  · have HC := Lib.hid h
    have hz : mirZ ⟨s, a, b⟩ = mirC ⟨s, a, b⟩ := if_pos h
    rw [hz]
    have hs : s = 0 ∨ s = 1 ∨ s = 2 := by unfold OkC at h; omega
    clear h hz
    rcases hs with rfl | rfl | rfl
    · have HZ : Hid (mirC ⟨0, a, b⟩ = ⟨0, a, b⟩) := Lib.hid (by simp [mirC])
      rw [HZ.out]
      clear HZ
      go_enter Tryz.func80, Tryz.ntmps80
      go_wp2_with fail
      refine (ImplCellOk_yes _ _ _ _ HC.out).mono ?_
      rintro e w1 ⟨rfl, hb⟩
      obtain ⟨⟨c0, c1, c2⟩, ⟨d0, d1, d2⟩, ⟨f0, f1, f2⟩, B⟩ := HK.out w1 hb
      clear hb HK
      go_wp2_with fail
      refine bodyPost_ret (v := .agg #[.int .i64 0, .int .i64 a, .int .i64 b]) (by simp [results, Tryz.results80, go_sem, d0, d1, d2]) rfl ⟨rfl, ?_⟩
      refine Below.setCell (Below.setCell (Below.setCell B ?_ _) ?_ _) ?_ _ <;> (simp <;> omega)
    · have HZ : Hid (mirC ⟨1, a, b⟩ = ⟨2, b, a⟩) := Lib.hid (by simp [mirC])
      rw [HZ.out]
      clear HZ
      go_enter Tryz.func80, Tryz.ntmps80
      go_wp2_with fail
      refine (ImplCellOk_yes _ _ _ _ HC.out).mono ?_
      rintro e w1 ⟨rfl, hb⟩
      obtain ⟨⟨c0, c1, c2⟩, ⟨d0, d1, d2⟩, ⟨f0, f1, f2⟩, B⟩ := HK.out w1 hb
      clear hb HK
      go_wp2_with fail
      refine bodyPost_ret (v := .agg #[.int .i64 2, .int .i64 b, .int .i64 a]) (by simp [results, Tryz.results80, go_sem, d0, d1, d2]) rfl ⟨rfl, ?_⟩
      refine Below.setCell (Below.setCell (Below.setCell B ?_ _) ?_ _) ?_ _ <;> (simp <;> omega)
    · have HZ : Hid (mirC ⟨2, a, b⟩ = ⟨1, b, a⟩) := Lib.hid (by simp [mirC])
      rw [HZ.out]
      clear HZ
      go_enter Tryz.func80, Tryz.ntmps80
      go_wp2_with fail
      refine (ImplCellOk_yes _ _ _ _ HC.out).mono ?_
      rintro e w1 ⟨rfl, hb⟩
      obtain ⟨⟨c0, c1, c2⟩, ⟨d0, d1, d2⟩, ⟨f0, f1, f2⟩, B⟩ := HK.out w1 hb
      clear hb HK
      go_wp2_with fail
      refine bodyPost_ret (v := .agg #[.int .i64 1, .int .i64 b, .int .i64 a]) (by simp [results, Tryz.results80, go_sem, d0, d1, d2]) rfl ⟨rfl, ?_⟩
      refine Below.setCell (Below.setCell (Below.setCell B ?_ _) ?_ _) ?_ _ <;> (simp <;> omega)
  · have HC := Lib.hid h
    have hz : mirZ ⟨s, a, b⟩ = ⟨0, 0, 0⟩ := if_neg h
    rw [hz]
    clear h hz
    go_enter Tryz.func80, Tryz.ntmps80
    go_wp2_with fail
    refine (ImplCellOk_no _ _ _ _ HC.out).mono ?_
    rintro e w1 ⟨rfl, hb⟩
    obtain ⟨⟨c0, c1, c2⟩, ⟨d0, d1, d2⟩, ⟨f0, f1, f2⟩, B⟩ := HK.out w1 hb
    clear hb HK
    go_wp2_with fail
    refine bodyPost_ret (v := .agg #[.int .i64 0, .int .i64 0, .int .i64 0]) (by simp [results, Tryz.results80, go_sem, d0, d1, d2]) rfl ⟨rfl, ?_⟩
    refine Below.setCell (Below.setCell (Below.setCell B ?_ _) ?_ _) ?_ _ <;> (simp <;> omega)

end Go.Proofs.YtahbadokkljoaaaGreatDoor
