/- Cells: CellText of both. Sameness: texts of blocks, and the least of them. Pure. Sameness: the model's TextOf. Sameness: the program's TextOf, strings.Compare, compareTexts. -/
import Derived.Test.YtfidnhhlcdbaeaaGreatDoorM07
import Derived.Test.YtfidnhhlcdbaeaaGreatDoorM20
import Derived.Test.YtfidnhhlcdbaeaaGreatDoorM00
import Derived.Deep.RegionHeld3
import Derived.Test.YtfidnhhlcdbaeaaGreatDoorM19
import Derived.Test.YtfidnhhlcdbaeaaGreatDoorM03
import Derived.Test.YtfidnhhlcdbaeaaGreatDoorM02
import Derived.Test.YtfidnhhlcdbaeaaGreatDoorM09
import Derived.Test.YtfidnhhlcdbaeaaGreatDoorM06
import Derived.Lib.Bytealg
import Derived.Laws.Externs
import Derived.Deep.DeepCutAuto

namespace Go.Proofs.YtfidnhhlcdbaeaaGreatDoor
open Go.ChangeShapes Go.WideShapes Go.ChangeAt Go.RowKit

/-- The text of a cell. -/
def cellTxt (s a b : Int) : ByteArray := if OkC s a b then (if s = 1 then dgt a ++ ⟨#[47]⟩ ++ dgt b else if s = 2 then dgt a ++ ⟨#[92]⟩ ++ dgt b else dgt a) else ⟨#[]⟩
theorem txt_bad {s a b : Int} (k : ¬ OkC s a b) : cellTxt s a b = ⟨#[]⟩ := if_neg k
theorem txt_up {a b : Int} (k : OkC 1 a b) : cellTxt 1 a b = dgt a ++ ⟨#[47]⟩ ++ dgt b := by unfold cellTxt; rw [if_pos k, if_pos rfl]
theorem txt_down {a b : Int} (k : OkC 2 a b) : cellTxt 2 a b = dgt a ++ ⟨#[92]⟩ ++ dgt b := by unfold cellTxt; rw [if_pos k, if_neg (by omega), if_pos rfl]
theorem txt_whole {a b : Int} (k : OkC 0 a b) : cellTxt 0 a b = dgt a := by unfold cellTxt; rw [if_pos k, if_neg (by omega), if_neg (by omega)]

theorem keep_cell {u v : World} {p : Addr} {x : Value} (hb : Below u.heap.size u v) (h : u.cell? p = some x) : v.cell? p = some x :=
  (World.cell?_of_block (hb.block p.block (lt_of_cell h))).trans h
theorem bel_new' {b : Nat} {w u : World} (h : Below b w u) (hb : b ≤ w.heap.size) (o : Obj) : Below b w (u.alloc o) := h.alloc (Nat.le_trans hb h.size) _
theorem bel_call' {b : Nat} {w u v : World} (h : Below b w u) (hb : b ≤ w.heap.size) (k : Below u.heap.size u v) : Below b w v := h.trans (k.mono (Nat.le_trans hb h.size))

theorem bel_drewN {b : Nat} {w u : World} (h : Below b w u) (n : Nat) : Below b w (u.drewN n) := ⟨h.os, h.tape, h.output, h.size, h.block⟩

set_option maxRecDepth 100000 in
theorem ImplText_any (s a b : Int) (w : World) :
    Calls Tryz.prog 37 #[.agg #[.int .i64 s, .int .i64 a, .int .i64 b]] w fun e w' => e = .returned (.string (cellTxt s a b)) ∧ Below w.heap.size w w' := by
  by_cases k : OkC s a b
  · have k' := Lib.hid (decide_eq_true k)
    have hs : s = 0 ∨ s = 1 ∨ s = 2 := by unfold OkC at k; omega
    have ha : 0 ≤ a ∧ a ≤ 5 := by unfold OkC at k; omega
    have hb : 0 ≤ b ∧ b ≤ 5 := by unfold OkC at k; omega
    have CA := fun w => ImplDigit_any a w ha.1 (by omega)
    have CB := fun w => ImplDigit_any b w hb.1 (by omega)
    clear ha hb
    rcases hs with rfl | rfl | rfl
    · rw [txt_whole k]
      clear k
      go_enter Tryz.func37, Tryz.ntmps37
      go_wp2_with (first | (refine (ImplOk_any _ _ _ _).mono ?_; rw [k'.out]; rintro e w' ⟨rfl, rfl⟩) | (refine (CA _).mono ?_; rintro e w' ⟨rfl, rfl⟩))
      go_ret
      exact ⟨rfl, ((Below.refl _ _).alloc (Nat.le_refl _) _).alloc (by simp) _⟩
    · rw [txt_up k]
      clear k
      have za := dgt_size a
      have zb := dgt_size b
      generalize dgt a = ta at CA za ⊢
      generalize dgt b = tb at CB zb ⊢
      go_enter Tryz.func37, Tryz.ntmps37
      go_wp2_with (refine (ImplOk_any _ _ _ _).mono ?_; rw [k'.out]; rintro e w' ⟨rfl, rfl⟩)
      go_quiet (first | (go_at_call 58; first | exact Calls.quiet_of_same (CA _) | exact Calls.quiet_of_same (CB _)))
      go_wp2_with fail
      go_ret
      exact ⟨rfl, bel_drewN (((Below.refl _ _).alloc (Nat.le_refl _) _).alloc (by simp) _) _⟩
    · rw [txt_down k]
      clear k
      have za := dgt_size a
      have zb := dgt_size b
      generalize dgt a = ta at CA za ⊢
      generalize dgt b = tb at CB zb ⊢
      go_enter Tryz.func37, Tryz.ntmps37
      go_wp2_with (refine (ImplOk_any _ _ _ _).mono ?_; rw [k'.out]; rintro e w' ⟨rfl, rfl⟩)
      go_quiet (first | (go_at_call 58; first | exact Calls.quiet_of_same (CA _) | exact Calls.quiet_of_same (CB _)))
      go_wp2_with fail
      go_ret
      exact ⟨rfl, bel_drewN (((Below.refl _ _).alloc (Nat.le_refl _) _).alloc (by simp) _) _⟩
  · rw [txt_bad k]
    have k' := Lib.hid (decide_eq_false k)
    clear k
    go_enter Tryz.func37, Tryz.ntmps37
    go_wp2_with (refine (ImplOk_any _ _ _ _).mono ?_; rw [k'.out]; rintro e w' ⟨rfl, rfl⟩)
    go_ret
    exact ⟨rfl, ((Below.refl _ _).alloc (Nat.le_refl _) _).alloc (by simp) _⟩

end Go.Proofs.YtfidnhhlcdbaeaaGreatDoor

namespace Go.Proofs.YtfidnhhlcdbaeaaGreatDoor
open Go.ChangeShapes Go.WideShapes Go.ChangeAt Go.RowKit

theorem bl_irr : ∀ x : List UInt8, Op.bytesLess x x = false
  | [] => rfl
  | a :: x => by simp [Op.bytesLess, bl_irr x]
theorem bl_tri : ∀ x y : List UInt8, Op.bytesLess x y = false → Op.bytesLess y x = false → x = y
  | [], [], _, _ => rfl
  | [], b :: y, h, _ => by simp [Op.bytesLess] at h
  | a :: x, [], _, h => by simp [Op.bytesLess] at h
  | a :: x, b :: y, h, k => by
    simp only [Op.bytesLess, Bool.or_eq_false_iff, decide_eq_false_iff_not, Bool.and_eq_false_iff, beq_eq_false_iff_ne] at h k
    have e : a = b := UInt8.le_antisymm (UInt8.not_lt.1 k.1) (UInt8.not_lt.1 h.1)
    subst e
    rw [bl_tri x y (h.2.resolve_left (fun c => c rfl)) (k.2.resolve_left (fun c => c rfl))]
theorem bl_trans : ∀ x y z : List UInt8, Op.bytesLess x y = true → Op.bytesLess y z = true → Op.bytesLess x z = true
  | _, [], _, h, _ => by simp [Op.bytesLess] at h
  | _, _ :: _, [], _, h => by simp [Op.bytesLess] at h
  | [], _ :: _, _ :: _, _, _ => rfl
  | a :: x, b :: y, c :: z, h, k => by
    simp only [Op.bytesLess, Bool.or_eq_true, decide_eq_true_eq, Bool.and_eq_true, beq_iff_eq] at h k ⊢
    rcases h with h | ⟨rfl, h⟩
    · rcases k with k | ⟨rfl, k⟩
      · exact .inl (UInt8.lt_trans h k)
      · exact .inl h
    · rcases k with k | ⟨rfl, k⟩
      · exact .inl k
      · exact .inr ⟨rfl, bl_trans x y z h k⟩
/-- x is at most y, y at most z. -/
theorem bl_le_trans {x y z : List UInt8} (h : Op.bytesLess y x = false) (k : Op.bytesLess z y = false) : Op.bytesLess z x = false := by
  by_cases c : Op.bytesLess z x = true
  · exfalso
    by_cases d : Op.bytesLess x y = true
    · rw [bl_trans _ _ _ c d] at k; cases k
    · simp only [Bool.not_eq_true] at d
      rw [bl_tri x y d h] at c
      rw [c] at k; cases k
  · simpa using c
/-- The text of a cell with its semicolon, and of cells. -/
def cellL (c : C3) : List UInt8 := (cellTxt c.s c.a c.b).data.toList ++ [59]
def txtL (xs : List C3) : List UInt8 := xs.flatMap cellL
def txtB (xs : List C3) : ByteArray := ⟨(txtL xs).toArray⟩
theorem bytes_ext {x y : ByteArray} (h : x.data.toList = y.data.toList) : x = y := by
  cases x; cases y; simp only at h ⊢; rw [Array.toList_inj.1 h]
theorem txtB_list (xs : List C3) : (txtB xs).data.toList = txtL xs := rfl
theorem txtB_snoc (xs : List C3) (c : C3) : txtB (xs ++ [c]) = txtB xs ++ cellTxt c.s c.a c.b ++ ⟨#[59]⟩ := by
  refine bytes_ext ?_
  simp [txtB, txtL, cellL, ByteArray.data_append]
theorem txtB_take {xs : List C3} {k : Nat} (hk : k < xs.length) : txtB (xs.take (k + 1)) = txtB (xs.take k) ++ cellTxt (xs.getD k C3.zero).s (xs.getD k C3.zero).a (xs.getD k C3.zero).b ++ ⟨#[59]⟩ := by
  rw [← txtB_snoc, List.take_add_one]
  congr 1
  simp [List.getD, hk]
theorem cellL_ok {c : C3} (h : c.Ok) : cellL c = if c.s = 0 then [UInt8.ofNat (48 + c.a.toNat), 59] else [UInt8.ofNat (48 + c.a.toNat), (if c.s = 1 then 47 else 92), UInt8.ofNat (48 + c.b.toNat), 59] := by
  rcases c with ⟨s, a, b⟩
  have hs : s = 0 ∨ s = 1 ∨ s = 2 := by have h1 : 0 ≤ s ∧ s ≤ 2 := h.1; omega
  unfold cellL
  rcases hs with rfl | rfl | rfl
  · rw [txt_whole h]; rfl
  · rw [txt_up h]; rfl
  · rw [txt_down h]; rfl
theorem cellL_len {c : C3} (h : c.Ok) : 2 ≤ (cellL c).length ∧ (cellL c).length ≤ 4 := by
  rw [cellL_ok h]; split <;> simp
theorem txtL_len {xs : List C3} (h : ∀ c ∈ xs, c.Ok) : 2 * xs.length ≤ (txtL xs).length ∧ (txtL xs).length ≤ 4 * xs.length := by
  induction xs with
  | nil => exact ⟨Nat.le_refl _, Nat.le_refl _⟩
  | cons c r ih =>
    have h1 := cellL_len (h c (by simp))
    have h2 := ih (fun d hd => h d (by simp [hd]))
    simp only [txtL, List.flatMap_cons, List.length_append, List.length_cons] at h2 ⊢
    omega
theorem byte_inj {a b : Int} (ha : Col a) (hb : Col b) (e : UInt8.ofNat a.toNat = UInt8.ofNat b.toNat) : a = b := by
  have := congrArg UInt8.toNat e
  simp only [UInt8.toNat_ofNat'] at this
  unfold Col at ha hb
  omega
theorem cellL_inj {c d : C3} (hc : c.Ok) (hd : d.Ok) {r t : List UInt8} (e : cellL c ++ r = cellL d ++ t) : c = d ∧ r = t := by
  rw [cellL_ok hc, cellL_ok hd] at e
  have cc := okC_col hc
  have cd := okC_col hd
  rcases cell_cases hc with ⟨a, rfl⟩ | ⟨a, b, rfl⟩ | ⟨a, b, rfl⟩ <;> rcases cell_cases hd with ⟨x, rfl⟩ | ⟨x, y, rfl⟩ | ⟨x, y, rfl⟩ <;> simp at e <;> dsimp only at cc cd
  · exact ⟨by rw [byte_inj cc.1 cd.1 e.1], e.2⟩
  · exact ⟨by rw [byte_inj cc.1 cd.1 e.1, byte_inj cc.2 cd.2 e.2.1], e.2.2⟩
  · exact ⟨by rw [byte_inj cc.1 cd.1 e.1, byte_inj cc.2 cd.2 e.2.1], e.2.2⟩
theorem txtL_inj : ∀ {xs ys : List C3}, (∀ c ∈ xs, c.Ok) → (∀ c ∈ ys, c.Ok) → txtL xs = txtL ys → xs = ys
  | [], [], _, _, _ => rfl
  | [], d :: t, _, hy, e => by
    have := txtL_len hy
    rw [← e] at this
    simp [txtL] at this
  | c :: r, [], hx, _, e => by
    have := txtL_len hx
    rw [e] at this
    simp [txtL] at this
  | c :: r, d :: t, hx, hy, e => by
    simp only [txtL, List.flatMap_cons] at e
    obtain ⟨h1, h2⟩ := cellL_inj (hx c (by simp)) (hy d (by simp)) e
    rw [h1, txtL_inj (fun x hc => hx x (by simp [hc])) (fun x hc => hy x (by simp [hc])) h2]
/-- The one of f 0 .. f k with the least text, the first of those. -/
def lstK (f : Nat → List C3) : Nat → List C3
  | 0 => f 0
  | k + 1 => if Op.bytesLess (txtL (f (k + 1))) (txtL (lstK f k)) = true then f (k + 1) else lstK f k
theorem lstK_mem (f : Nat → List C3) : ∀ k, ∃ i, i ≤ k ∧ lstK f k = f i
  | 0 => ⟨0, Nat.le_refl _, rfl⟩
  | k + 1 => by
    unfold lstK
    split
    · exact ⟨k + 1, Nat.le_refl _, rfl⟩
    · obtain ⟨i, h1, h2⟩ := lstK_mem f k
      exact ⟨i, by omega, h2⟩
theorem lstK_le (f : Nat → List C3) : ∀ k i, i ≤ k → Op.bytesLess (txtL (f i)) (txtL (lstK f k)) = false
  | 0, i, h => by
    have : i = 0 := by omega
    subst this
    exact bl_irr _
  | k + 1, i, h => by
    by_cases e : i = k + 1
    · subst e
      unfold lstK
      by_cases c : Op.bytesLess (txtL (f (k + 1))) (txtL (lstK f k)) = true
      · rw [if_pos c]; exact bl_irr _
      · rw [if_neg c]; simpa using c
    · have ih := lstK_le f k i (by omega)
      unfold lstK
      by_cases c : Op.bytesLess (txtL (f (k + 1))) (txtL (lstK f k)) = true
      · rw [if_pos c]
        refine bl_le_trans ?_ ih
        by_cases d : Op.bytesLess (txtL (lstK f k)) (txtL (f (k + 1))) = true
        · have := bl_trans _ _ _ c d
          rw [bl_irr] at this; cases this
        · simpa using d
      · rw [if_neg c]; exact ih
theorem lstK_same {f g : Nat → List C3} {k : Nat} (hf : ∀ i, i ≤ k → ∀ c ∈ f i, c.Ok) (hg : ∀ i, i ≤ k → ∀ c ∈ g i, c.Ok) (h1 : ∀ i, i ≤ k → ∃ j, j ≤ k ∧ f i = g j) (h2 : ∀ j, j ≤ k → ∃ i, i ≤ k ∧ g j = f i) : lstK f k = lstK g k := by
  obtain ⟨i, hi, ei⟩ := lstK_mem f k
  obtain ⟨j, hj, ej⟩ := lstK_mem g k
  refine txtL_inj (ei ▸ hf i hi) (ej ▸ hg j hj) (bl_tri _ _ ?_ ?_)
  · obtain ⟨m, hm, e⟩ := h1 i hi
    rw [ei, e]; exact lstK_le g k m hm
  · obtain ⟨m, hm, e⟩ := h2 j hj
    rw [ej, e]; exact lstK_le f k m hm
theorem lstK_congr {f g : Nat → List C3} : ∀ k, (∀ i, i ≤ k → f i = g i) → lstK f k = lstK g k
  | 0, h => h 0 (Nat.le_refl _)
  | k + 1, h => by
    unfold lstK
    rw [h (k + 1) (Nat.le_refl _), lstK_congr k (fun i hi => h i (by omega))]
/-- The least form and the least pattern of a valid block. -/
def lfL (n : Int) (xs : List C3) : List C3 := lstK (fun k => seeL n k xs) 7
def lpL (n : Int) (xs : List C3) : List C3 := lstK (fun k => plainL (seeL n k xs)) 7
theorem lf_mem (n : Int) (xs : List C3) : ∃ k, k < 8 ∧ lfL n xs = seeL n k xs := by
  obtain ⟨i, hi, e⟩ := lstK_mem (fun k => seeL n k xs) 7
  exact ⟨i, by omega, e⟩
theorem lf_ok {n : Int} {xs : List C3} (h : BlkOk n xs) : BlkOk n (lfL n xs) := by
  obtain ⟨k, _, e⟩ := lf_mem n xs
  rw [e]; exact seeL_ok h
theorem lp_ok {n : Int} {xs : List C3} (h : BlkOk n xs) : BlkOk n (lpL n xs) := by
  obtain ⟨k, _, e⟩ := lstK_mem (fun k => plainL (seeL n k xs)) 7
  show BlkOk n (lstK _ 7)
  rw [e]; exact plainL_ok (seeL_ok h)
theorem lf_view {n : Int} {xs : List C3} (h : BlkOk n xs) {k : Nat} (hk : k < 8) : lfL n (seeL n k xs) = lfL n xs := by
  obtain ⟨h1, h2⟩ := views_of h hk
  refine lstK_same (fun i _ => (seeL_ok (seeL_ok h)).2.2) (fun i _ => (seeL_ok h).2.2) (fun i hi => ?_) (fun j hj => ?_)
  · obtain ⟨m, hm, e⟩ := h1 i (by omega)
    exact ⟨m, by omega, e⟩
  · obtain ⟨m, hm, e⟩ := h2 j (by omega)
    exact ⟨m, by omega, e.symm⟩
theorem lp_view {n : Int} {xs : List C3} (h : BlkOk n xs) {k : Nat} (hk : k < 8) : lpL n (seeL n k xs) = lpL n xs := by
  obtain ⟨h1, h2⟩ := views_of h hk
  refine lstK_same (fun i _ => (plainL_ok (seeL_ok (seeL_ok h))).2.2) (fun i _ => (plainL_ok (seeL_ok h)).2.2) (fun i hi => ?_) (fun j hj => ?_)
  · obtain ⟨m, hm, e⟩ := h1 i (by omega)
    exact ⟨m, by omega, by rw [e]⟩
  · obtain ⟨m, hm, e⟩ := h2 j (by omega)
    exact ⟨m, by omega, by rw [e]⟩
theorem lp_ex {l : List Int} (hl : Exch l) {n : Int} {xs : List C3} (h : BlkOk n xs) : lpL n (exL l xs) = lpL n xs :=
  lstK_congr 7 (fun i _ => by rw [← exL_see h, plainL_ex hl (seeL_ok h)])
/-- Equal forms: one is a view of the other; then the patterns are equal. -/
theorem lf_lp {n : Int} {xs ys : List C3} (hx : BlkOk n xs) (hy : BlkOk n ys) (e : lfL n xs = lfL n ys) : lpL n xs = lpL n ys := by
  obtain ⟨i, hi, ei⟩ := lf_mem n xs
  obtain ⟨j, hj, ej⟩ := lf_mem n ys
  rw [← lp_view hx hi, ← ei, e, ej, lp_view hy hj]
theorem lf_least {n : Int} (xs : List C3) : Op.bytesLess (txtL xs) (txtL (lfL n xs)) = false := lstK_le (fun k => seeL n k xs) 7 0 (by omega)
/-- The answers, for any block. -/
noncomputable def txtA (n : Int) (xs : List C3) : ByteArray := @ite _ (BlkOk n xs) (Classical.propDecidable _) (txtB xs) ⟨#[]⟩
noncomputable def lfB (n : Int) (xs : List C3) : List C3 := @ite _ (BlkOk n xs) (Classical.propDecidable _) (lfL n xs) []
noncomputable def lpB (n : Int) (xs : List C3) : List C3 := @ite _ (BlkOk n xs) (Classical.propDecidable _) (lpL n xs) []
theorem sam_yes {n : Int} {xs : List C3} (h : BlkOk n xs) : txtA n xs = txtB xs ∧ lfB n xs = lfL n xs ∧ lpB n xs = lpL n xs := ⟨if_pos h, if_pos h, if_pos h⟩
theorem sam_no {n : Int} {xs : List C3} (h : ¬ BlkOk n xs) : txtA n xs = ⟨#[]⟩ ∧ lfB n xs = [] ∧ lpB n xs = [] := ⟨if_neg h, if_neg h, if_neg h⟩
/-- AreSame and ArePatternsSame. -/
noncomputable def areF (n m : Int) (xs ys : List C3) : Bool := blkB n xs && (blkB m ys && sameB n m (lfL n xs) (lfL m ys))
noncomputable def areP (n m : Int) (xs ys : List C3) : Bool := blkB n xs && (blkB m ys && sameB n m (lpL n xs) (lpL m ys))

end Go.Proofs.YtfidnhhlcdbaeaaGreatDoor

namespace Go.Proofs.YtfidnhhlcdbaeaaGreatDoor
open Go.ChangeShapes Go.WideShapes Go.ChangeAt Go.RowKit

theorem cellTxt_size (c : C3) : (cellTxt c.s c.a c.b).size ≤ 3 := by
  have h1 : (⟨#[47]⟩ : ByteArray).size = 1 := rfl
  have h2 : (⟨#[92]⟩ : ByteArray).size = 1 := rfl
  have h3 : (⟨#[]⟩ : ByteArray).size = 0 := rfl
  unfold cellTxt
  split
  · split
    · rw [ByteArray.size_append, ByteArray.size_append, dgt_size, dgt_size, h1]; omega
    · split
      · rw [ByteArray.size_append, ByteArray.size_append, dgt_size, dgt_size, h2]; omega
      · rw [dgt_size]; omega
  · rw [h3]; omega
theorem txtB_size {xs : List C3} (h : ∀ c ∈ xs, c.Ok) (k : Nat) : (txtB (xs.take k)).size ≤ 4 * xs.length := by
  have h1 := (txtL_len (xs := xs.take k) (fun c hc => h c (List.mem_of_mem_take hc))).2
  have h2 : (xs.take k).length ≤ xs.length := by simp; omega
  have h3 : (txtB (xs.take k)).size = (txtL (xs.take k)).length := by simp [txtB, ByteArray.size]
  omega
end Go.Proofs.YtfidnhhlcdbaeaaGreatDoor

namespace Go.Proofs.YtfidnhhlcdbaeaaGreatDoor
open Go.ChangeShapes Go.WideShapes Go.ChangeAt Go.RowKit

/-- The order of two texts, as a number. -/
def cmpT (x y : ByteArray) : Int := Lib.compareBytes x.data.toList y.data.toList
theorem cmpB_neg : ∀ x y : List UInt8, Lib.compareBytes x y < 0 ↔ Op.bytesLess x y = true
  | [], [] => by simp [Lib.compareBytes, Op.bytesLess]
  | [], _ :: _ => by simp [Lib.compareBytes, Op.bytesLess]
  | _ :: _, [] => by simp [Lib.compareBytes, Op.bytesLess]
  | a :: x, b :: y => by
    have ih := cmpB_neg x y
    unfold Lib.compareBytes Op.bytesLess
    by_cases h : a < b
    · simp [h]
    · by_cases k : b < a
      · have hne : ¬ a = b := fun e => by subst e; exact h k
        simp [h, k, hne]
      · have e : a = b := UInt8.le_antisymm (UInt8.not_lt.1 k) (UInt8.not_lt.1 h)
        subst e
        simp [h, ih]
theorem cmpT_neg (x y : ByteArray) : cmpT x y < 0 ↔ Op.bytesLess x.data.toList y.data.toList = true := cmpB_neg _ _

set_option maxRecDepth 100000 in
set_option maxHeartbeats 4000000 in
theorem ImplTextOf_any (lo hi : Nat) (n : Int) (v : Value) (xs : List C3) (w : World) (r : CellIn lo hi w v xs) (hhi : hi ≤ w.heap.size) :
    Calls Tryz.prog 16 #[.agg #[.int .i64 n, v]] w fun e w' => e = .returned (.string (txtA n xs)) ∧ Below w.heap.size w w' := by
  obtain ⟨a, cap, rfl⟩ := r.form
  have hl := r.1
  have HR := Lib.hid (fun W (hb : Below w.heap.size w W) => r.below (hb.mono hhi))
  clear r
  by_cases hb : BlkOk n xs
  · rw [(sam_yes hb).1]
    have HB := Lib.hid hb
    have hx := (blk_len hb).2
    have HZ : Hid (∀ k, (txtB (xs.take k)).size ≤ 64) := Lib.hid (fun k => by have := txtB_size hb.2.2 k; omega)
    clear hb
    go_enter Tryz.func16, Tryz.ntmps16
    go_wp2_with fail
    refine (ImplBlockOk_yes lo hi n _ xs _ (HR.out _ (bel0 w _)) (by simp; omega) HB.out).mono ?_
    rintro e w1 ⟨rfl, hb1⟩
    have p1 := kept (p := ⟨w.heap.size, 1, none⟩) (x := .slice a xs.length cap) hb1 (by go_simp)
    have B1 := Lib.hid (bel_c (bel0 w (.cells #[.int .i64 n, .slice a xs.length cap] 26)) (Nat.le_refl _) hb1)
    clear hb1
    go_wp2_with fail
    clear p1
    go_loopw [3, 12] (fun q i wr => ∃ m : Nat, m ≤ xs.length ∧ i = .int .i64 m ∧ q = .string (txtB (xs.take m)) ∧ Hid (Below w.heap.size w wr)) (fun _ i _ => xs.length - (intOf i).toNat)
    case atStart => exact ⟨0, Nat.zero_le _, rfl, rfl, B1⟩
    case round =>
      obtain ⟨m, hk, rfl, rfl, hbel⟩ := hrel
      by_cases hlt : m < xs.length
      · obtain ⟨g, rfl, _, _, ⟨e0, e1, e2⟩, _⟩ := (HR.out _ hbel.out).at (Below.refl _ _) hlt
        have HN := Lib.hid (txtB_take hlt)
        have hc := cellTxt_size (xs.getD m C3.zero)
        have hs := HZ.out m
        generalize xs.getD m C3.zero = c at e0 e1 e2 HN hc
        go_wp2_with fail
        refine (ImplText_any c.s c.a c.b _).mono ?_
        rintro e w2 ⟨rfl, hb2⟩
        have B2 := Lib.hid (bel_c (bel_n hbel.out (Nat.le_refl _) (.cells #[.int .i64 c.s, .int .i64 c.a, .int .i64 c.b] 50)) (Nat.le_refl _) hb2)
        clear hb2 e0 e1 e2
        generalize cellTxt c.s c.a c.b = t at HN hc ⊢
        generalize txtB (xs.take m) = s at HN hs ⊢
        go_wp2_with fail
        go_roundw
        case rel => exact ⟨m + 1, by omega, by go_num, by rw [HN.out, ByteArray.append_assoc], B2⟩
        case measure => simp [intOf] <;> omega
      · obtain rfl : m = xs.length := by omega
        go_wp2_with fail
        go_ret
        exact ⟨by rw [List.take_length]; rfl, hbel.out⟩
  · rw [(sam_no hb).1]
    have HB := Lib.hid hb
    clear hb
    go_enter Tryz.func16, Tryz.ntmps16
    go_wp2_with fail
    refine (ImplBlockOk_no lo hi n _ xs _ (HR.out _ (bel0 w _)) (by simp; omega) HB.out).mono ?_
    rintro e w1 ⟨rfl, hb1⟩
    go_wp2_with fail
    go_ret
    exact ⟨rfl, bel_c (bel0 w _) (Nat.le_refl _) hb1⟩

set_option maxHeartbeats 1000000 in
set_option maxRecDepth 100000 in
theorem CompareS_any (x y : ByteArray) (w : World) :
    Calls Tryz.prog 64 #[.string x, .string y] w fun e w' => e = .returned (.int .i64 (cmpT x y)) ∧ w' = w := by
  go_enter Tryz.func64, Tryz.ntmps64
  go_wp2
  rw [run_callFunc_extern Tryz.func84 (by kernel_rfl) (by kernel_rfl) (by kernel_rfl) (e := Extern.BytealgCompare.compare) (by kernel_rfl), Lib.run_compareString]
  simp only [Result.andThen]
  rw [Oper.upon_value]
  go_wp2
  go_ret
  exact ⟨rfl, rfl⟩
theorem Compare_any (x y : ByteArray) (w : World) :
    Calls Tryz.prog 50 #[.string x, .string y] w fun e w' => e = .returned (.int .i64 (cmpT x y)) ∧ w' = w := by
  go_enter Tryz.func50, Tryz.ntmps50
  go_wp2_with (refine (CompareS_any _ _ _).mono ?_; rintro e w' ⟨rfl, rfl⟩)
  go_ret
  exact ⟨rfl, rfl⟩

/-- Two boxes behind what was there. -/
def BxTwo (p : Nat) (x0 x1 y0 y1 : Value) (u : World) : Prop := u.cell? ⟨p, 0, none⟩ = some x0 ∧ u.cell? ⟨p, 1, none⟩ = some x1 ∧ u.cell? ⟨p + 1, 0, none⟩ = some y0 ∧ u.cell? ⟨p + 1, 1, none⟩ = some y1

set_option maxRecDepth 100000 in
set_option maxHeartbeats 4000000 in
theorem CmpTexts_any (lo hi lo2 hi2 : Nat) (n m : Int) (v v2 : Value) (xs ys : List C3) (w : World) (r : CellIn lo hi w v xs) (hhi : hi ≤ w.heap.size) (r2 : CellIn lo2 hi2 w v2 ys) (hhi2 : hi2 ≤ w.heap.size) :
    Calls Tryz.prog 27 #[.agg #[.int .i64 n, v], .agg #[.int .i64 m, v2]] w fun e w' => e = .returned (.int .i64 (cmpT (txtA n xs) (txtA m ys))) ∧ Below w.heap.size w w' := by
  obtain ⟨a, cap, rfl⟩ := r.form
  obtain ⟨a2, cap2, rfl⟩ := r2.form
  obtain ⟨G, hG⟩ : ∃ G, G = (w.alloc (.cells #[.int .i64 n, .slice a xs.length cap] 26)).alloc (.cells #[.int .i64 m, .slice a2 ys.length cap2] 26) := ⟨_, rfl⟩
  have HBG : Hid (Below w.heap.size w G) := Lib.hid (by rw [hG]; exact bel_n (bel0 _ _) (Nat.le_refl _) _)
  have D0 : Below G.heap.size G G.drew := ⟨rfl, rfl, rfl, Nat.le_refl _, fun _ _ => rfl⟩
  have S0 : G.drew.cell? ⟨w.heap.size, 0, none⟩ = some (.int .i64 n) ∧ G.drew.cell? ⟨w.heap.size, 1, none⟩ = some (.slice a xs.length cap) ∧ G.drew.cell? ⟨w.heap.size + 1, 0, none⟩ = some (.int .i64 m) ∧ G.drew.cell? ⟨w.heap.size + 1, 1, none⟩ = some (.slice a2 ys.length cap2) ∧ Below G.heap.size G G.drew := by
    have e0 : G.cell? ⟨w.heap.size, 0, none⟩ = some (.int .i64 n) := by rw [hG]; go_simp
    have e1 : G.cell? ⟨w.heap.size, 1, none⟩ = some (.slice a xs.length cap) := by rw [hG]; go_simp
    have e2 : G.cell? ⟨w.heap.size + 1, 0, none⟩ = some (.int .i64 m) := by rw [hG]; go_simp
    have e3 : G.cell? ⟨w.heap.size + 1, 1, none⟩ = some (.slice a2 ys.length cap2) := by rw [hG]; go_simp
    exact ⟨kept D0 e0, kept D0 e1, kept D0 e2, kept D0 e3, D0⟩
  have KP : ∀ u v, Below u.heap.size u v → (u.cell? ⟨w.heap.size, 0, none⟩ = some (.int .i64 n) ∧ u.cell? ⟨w.heap.size, 1, none⟩ = some (.slice a xs.length cap) ∧ u.cell? ⟨w.heap.size + 1, 0, none⟩ = some (.int .i64 m) ∧ u.cell? ⟨w.heap.size + 1, 1, none⟩ = some (.slice a2 ys.length cap2) ∧ Below G.heap.size G u) → (v.cell? ⟨w.heap.size, 0, none⟩ = some (.int .i64 n) ∧ v.cell? ⟨w.heap.size, 1, none⟩ = some (.slice a xs.length cap) ∧ v.cell? ⟨w.heap.size + 1, 0, none⟩ = some (.int .i64 m) ∧ v.cell? ⟨w.heap.size + 1, 1, none⟩ = some (.slice a2 ys.length cap2) ∧ Below G.heap.size G v) := fun u v hb h => ⟨kept hb h.1, kept hb h.2.1, kept hb h.2.2.1, kept hb h.2.2.2.1, bel_c h.2.2.2.2 (Nat.le_refl _) hb⟩
  have HW : Hid (∀ u, Below G.heap.size G u → Below w.heap.size w u) := Lib.hid (fun u h => bel_c HBG.out (Nat.le_refl _) h)
  have K1 : Hid (∀ u, Below G.heap.size G u → Calls Tryz.prog 16 #[.agg #[.int .i64 n, .slice a xs.length cap]] u fun e w' => e = .returned (.string (txtA n xs)) ∧ Below u.heap.size u w') :=
    Lib.hid (fun u h => ImplTextOf_any lo hi n _ xs u (r.below ((HW.out u h).mono hhi)) (Nat.le_trans hhi (HW.out u h).size))
  have K2 : Hid (∀ u, Below G.heap.size G u → Calls Tryz.prog 16 #[.agg #[.int .i64 m, .slice a2 ys.length cap2]] u fun e w' => e = .returned (.string (txtA m ys)) ∧ Below u.heap.size u w') :=
    Lib.hid (fun u h => ImplTextOf_any lo2 hi2 m _ ys u (r2.below ((HW.out u h).mono hhi2)) (Nat.le_trans hhi2 (HW.out u h).size))
  clear r r2
  generalize txtA n xs = tx at K1 ⊢
  generalize txtA m ys = ty at K2 ⊢
  go_enter Tryz.func27, Tryz.ntmps27
  go_upto_region 1 with fail
  rw [← hG]
  clear hG
  go_region_held3 (fun w' => w'.cell? ⟨w.heap.size, 0, none⟩ = some (.int .i64 n) ∧ w'.cell? ⟨w.heap.size, 1, none⟩ = some (.slice a xs.length cap) ∧ w'.cell? ⟨w.heap.size + 1, 0, none⟩ = some (.int .i64 m) ∧ w'.cell? ⟨w.heap.size + 1, 1, none⟩ = some (.slice a2 ys.length cap2) ∧ Below G.heap.size G w') (first | assumption | (refine KP _ _ (by assumption) ?_; assumption))
    ((first
      | (go_at_call 16; refine (args_eq (K1.out _ (And.right (And.right (And.right (And.right (by assumption)))))) (by with_reducible rfl)).mono ?_; rintro e y ⟨rfl, hb⟩)
      | (go_at_call 16; refine (args_eq (K2.out _ (And.right (And.right (And.right (And.right (by assumption)))))) (by with_reducible rfl)).mono ?_; rintro e y ⟨rfl, hb⟩)
      | (go_at_call 50; refine (Compare_any _ _ _).mono ?_; rintro e y ⟨rfl, rfl⟩)))
  all_goals
    have HY := HW.out _ (And.right (And.right (And.right (And.right (by assumption)))))
    go_wp2_with fail
    go_ret
    exact ⟨rfl, HY⟩

end Go.Proofs.YtfidnhhlcdbaeaaGreatDoor
