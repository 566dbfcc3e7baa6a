/- Sameness: texts of blocks, and the least of them. Pure. Cells: compared by their fields. Rows of cells, and blocks: compared. A relation of worlds: of the old blocks only those of one span may have changed. -/
import Derived.Test.YtahbadokkljoaaaGreatDoorM04
import Derived.Test.YtahbadokkljoaaaGreatDoorM06
import Derived.Test.YtahbadokkljoaaaGreatDoorM00
import Derived.Test.YtahbadokkljoaaaGreatDoorM01
import Derived.Deep.RegionHeld3

namespace Go.Proofs.YtahbadokkljoaaaGreatDoor
open Go.ChangeShapes Go.WideShapes Go.ChangeAt Go.RowKit

theorem bl_irr : ∀ x : List UInt8, Op.bytesLess x x = false
  | [] => rfl
  | a :: x => by simp [Op.bytesLess, bl_irr x]
theorem bl_tri : ∀ x y : List UInt8, Op.bytesLess x y = false → Op.bytesLess y x = false → x = y
  | [], [], _, _ => rfl
  | [], b :: y, h, _ => by simp [Op.bytesLess] at h
  | a :: x, [], _, h => by simp [Op.bytesLess] at h
  | a :: x, b :: y, h, k => by
    simp only [Op.bytesLess, Bool.or_eq_false_iff, decide_eq_false_iff_not, Bool.and_eq_false_iff, beq_eq_false_iff_ne] at h k
    have e : a = b := UInt8.le_antisymm (UInt8.not_lt.1 k.1) (UInt8.not_lt.1 h.1)
    subst e
    rw [bl_tri x y (h.2.resolve_left (fun c => c rfl)) (k.2.resolve_left (fun c => c rfl))]
theorem bl_trans : ∀ x y z : List UInt8, Op.bytesLess x y = true → Op.bytesLess y z = true → Op.bytesLess x z = true
  | _, [], _, h, _ => by simp [Op.bytesLess] at h
  | _, _ :: _, [], _, h => by simp [Op.bytesLess] at h
  | [], _ :: _, _ :: _, _, _ => rfl
  | a :: x, b :: y, c :: z, h, k => by
    simp only [Op.bytesLess, Bool.or_eq_true, decide_eq_true_eq, Bool.and_eq_true, beq_iff_eq] at h k ⊢
    rcases h with h | ⟨rfl, h⟩
    · rcases k with k | ⟨rfl, k⟩
      · exact .inl (UInt8.lt_trans h k)
      · exact .inl h
    · rcases k with k | ⟨rfl, k⟩
      · exact .inl k
      · exact .inr ⟨rfl, bl_trans x y z h k⟩
/-- x is at most y, y at most z. -/
theorem bl_le_trans {x y z : List UInt8} (h : Op.bytesLess y x = false) (k : Op.bytesLess z y = false) : Op.bytesLess z x = false := by
  by_cases c : Op.bytesLess z x = true
  · exfalso
    by_cases d : Op.bytesLess x y = true
    · rw [bl_trans _ _ _ c d] at k; cases k
    · simp only [Bool.not_eq_true] at d
      rw [bl_tri x y d h] at c
      rw [c] at k; cases k
  · simpa using c
/-- The text of a cell with its semicolon, and of cells. -/
def cellL (c : C3) : List UInt8 := (cellTxt c.s c.a c.b).data.toList ++ [59]
def txtL (xs : List C3) : List UInt8 := xs.flatMap cellL
def txtB (xs : List C3) : ByteArray := ⟨(txtL xs).toArray⟩
theorem bytes_ext {x y : ByteArray} (h : x.data.toList = y.data.toList) : x = y := by
  cases x; cases y; simp only at h ⊢; rw [Array.toList_inj.1 h]
theorem txtB_list (xs : List C3) : (txtB xs).data.toList = txtL xs := rfl
theorem txtB_snoc (xs : List C3) (c : C3) : txtB (xs ++ [c]) = txtB xs ++ cellTxt c.s c.a c.b ++ ⟨#[59]⟩ := by
  refine bytes_ext ?_
  simp [txtB, txtL, cellL, ByteArray.data_append]
theorem txtB_take {xs : List C3} {k : Nat} (hk : k < xs.length) : txtB (xs.take (k + 1)) = txtB (xs.take k) ++ cellTxt (xs.getD k C3.zero).s (xs.getD k C3.zero).a (xs.getD k C3.zero).b ++ ⟨#[59]⟩ := by
  rw [← txtB_snoc, List.take_add_one]
  congr 1
  simp [List.getD, hk]
theorem cellL_ok {c : C3} (h : c.Ok) : cellL c = if c.s = 0 then [UInt8.ofNat (48 + c.a.toNat), 59] else [UInt8.ofNat (48 + c.a.toNat), (if c.s = 1 then 47 else 92), UInt8.ofNat (48 + c.b.toNat), 59] := by
  rcases c with ⟨s, a, b⟩
  have hs : s = 0 ∨ s = 1 ∨ s = 2 := by have h1 : 0 ≤ s ∧ s ≤ 2 := h.1; omega
  unfold cellL
  rcases hs with rfl | rfl | rfl
  · rw [txt_whole h]; rfl
  · rw [txt_up h]; rfl
  · rw [txt_down h]; rfl
theorem cellL_len {c : C3} (h : c.Ok) : 2 ≤ (cellL c).length ∧ (cellL c).length ≤ 4 := by
  rw [cellL_ok h]; split <;> simp
theorem txtL_len {xs : List C3} (h : ∀ c ∈ xs, c.Ok) : 2 * xs.length ≤ (txtL xs).length ∧ (txtL xs).length ≤ 4 * xs.length := by
  induction xs with
  | nil => exact ⟨Nat.le_refl _, Nat.le_refl _⟩
  | cons c r ih =>
    have h1 := cellL_len (h c (by simp))
    have h2 := ih (fun d hd => h d (by simp [hd]))
    simp only [txtL, List.flatMap_cons, List.length_append, List.length_cons] at h2 ⊢
    omega
theorem byte_inj {a b : Int} (ha : Col a) (hb : Col b) (e : UInt8.ofNat a.toNat = UInt8.ofNat b.toNat) : a = b := by
  have := congrArg UInt8.toNat e
  simp only [UInt8.toNat_ofNat'] at this
  unfold Col at ha hb
  omega
theorem cellL_inj {c d : C3} (hc : c.Ok) (hd : d.Ok) {r t : List UInt8} (e : cellL c ++ r = cellL d ++ t) : c = d ∧ r = t := by
  rw [cellL_ok hc, cellL_ok hd] at e
  have cc := okC_col hc
  have cd := okC_col hd
  rcases cell_cases hc with ⟨a, rfl⟩ | ⟨a, b, rfl⟩ | ⟨a, b, rfl⟩ <;> rcases cell_cases hd with ⟨x, rfl⟩ | ⟨x, y, rfl⟩ | ⟨x, y, rfl⟩ <;> simp at e <;> dsimp only at cc cd
  · exact ⟨by rw [byte_inj cc.1 cd.1 e.1], e.2⟩
  · exact ⟨by rw [byte_inj cc.1 cd.1 e.1, byte_inj cc.2 cd.2 e.2.1], e.2.2⟩
  · exact ⟨by rw [byte_inj cc.1 cd.1 e.1, byte_inj cc.2 cd.2 e.2.1], e.2.2⟩
theorem txtL_inj : ∀ {xs ys : List C3}, (∀ c ∈ xs, c.Ok) → (∀ c ∈ ys, c.Ok) → txtL xs = txtL ys → xs = ys
  | [], [], _, _, _ => rfl
  | [], d :: t, _, hy, e => by
    have := txtL_len hy
    rw [← e] at this
    simp [txtL] at this
  | c :: r, [], hx, _, e => by
    have := txtL_len hx
    rw [e] at this
    simp [txtL] at this
  | c :: r, d :: t, hx, hy, e => by
    simp only [txtL, List.flatMap_cons] at e
    obtain ⟨h1, h2⟩ := cellL_inj (hx c (by simp)) (hy d (by simp)) e
    rw [h1, txtL_inj (fun x hc => hx x (by simp [hc])) (fun x hc => hy x (by simp [hc])) h2]
/-- The one of f 0 .. f k with the least text, the first of those. -/
def lstK (f : Nat → List C3) : Nat → List C3
  | 0 => f 0
  | k + 1 => if Op.bytesLess (txtL (f (k + 1))) (txtL (lstK f k)) = true then f (k + 1) else lstK f k
theorem lstK_mem (f : Nat → List C3) : ∀ k, ∃ i, i ≤ k ∧ lstK f k = f i
  | 0 => ⟨0, Nat.le_refl _, rfl⟩
  | k + 1 => by
    unfold lstK
    split
    · exact ⟨k + 1, Nat.le_refl _, rfl⟩
    · obtain ⟨i, h1, h2⟩ := lstK_mem f k
      exact ⟨i, by omega, h2⟩
theorem lstK_le (f : Nat → List C3) : ∀ k i, i ≤ k → Op.bytesLess (txtL (f i)) (txtL (lstK f k)) = false
  | 0, i, h => by
    have : i = 0 := by omega
    subst this
    exact bl_irr _
  | k + 1, i, h => by
    by_cases e : i = k + 1
    · subst e
      unfold lstK
      by_cases c : Op.bytesLess (txtL (f (k + 1))) (txtL (lstK f k)) = true
      · rw [if_pos c]; exact bl_irr _
      · rw [if_neg c]; simpa using c
    · have ih := lstK_le f k i (by omega)
      unfold lstK
      by_cases c : Op.bytesLess (txtL (f (k + 1))) (txtL (lstK f k)) = true
      · rw [if_pos c]
        refine bl_le_trans ?_ ih
        by_cases d : Op.bytesLess (txtL (lstK f k)) (txtL (f (k + 1))) = true
        · have := bl_trans _ _ _ c d
          rw [bl_irr] at this; cases this
        · simpa using d
      · rw [if_neg c]; exact ih
theorem lstK_same {f g : Nat → List C3} {k : Nat} (hf : ∀ i, i ≤ k → ∀ c ∈ f i, c.Ok) (hg : ∀ i, i ≤ k → ∀ c ∈ g i, c.Ok) (h1 : ∀ i, i ≤ k → ∃ j, j ≤ k ∧ f i = g j) (h2 : ∀ j, j ≤ k → ∃ i, i ≤ k ∧ g j = f i) : lstK f k = lstK g k := by
  obtain ⟨i, hi, ei⟩ := lstK_mem f k
  obtain ⟨j, hj, ej⟩ := lstK_mem g k
  refine txtL_inj (ei ▸ hf i hi) (ej ▸ hg j hj) (bl_tri _ _ ?_ ?_)
  · obtain ⟨m, hm, e⟩ := h1 i hi
    rw [ei, e]; exact lstK_le g k m hm
  · obtain ⟨m, hm, e⟩ := h2 j hj
    rw [ej, e]; exact lstK_le f k m hm
theorem lstK_congr {f g : Nat → List C3} : ∀ k, (∀ i, i ≤ k → f i = g i) → lstK f k = lstK g k
  | 0, h => h 0 (Nat.le_refl _)
  | k + 1, h => by
    unfold lstK
    rw [h (k + 1) (Nat.le_refl _), lstK_congr k (fun i hi => h i (by omega))]
/-- The least form and the least pattern of a valid block. -/
def lfL (n : Int) (xs : List C3) : List C3 := lstK (fun k => seeL n k xs) 7
def lpL (n : Int) (xs : List C3) : List C3 := lstK (fun k => plainL (seeL n k xs)) 7
theorem lf_mem (n : Int) (xs : List C3) : ∃ k, k < 8 ∧ lfL n xs = seeL n k xs := by
  obtain ⟨i, hi, e⟩ := lstK_mem (fun k => seeL n k xs) 7
  exact ⟨i, by omega, e⟩
theorem lf_ok {n : Int} {xs : List C3} (h : BlkOk n xs) : BlkOk n (lfL n xs) := by
  obtain ⟨k, _, e⟩ := lf_mem n xs
  rw [e]; exact seeL_ok h
theorem lp_ok {n : Int} {xs : List C3} (h : BlkOk n xs) : BlkOk n (lpL n xs) := by
  obtain ⟨k, _, e⟩ := lstK_mem (fun k => plainL (seeL n k xs)) 7
  show BlkOk n (lstK _ 7)
  rw [e]; exact plainL_ok (seeL_ok h)
theorem lf_view {n : Int} {xs : List C3} (h : BlkOk n xs) {k : Nat} (hk : k < 8) : lfL n (seeL n k xs) = lfL n xs := by
  obtain ⟨h1, h2⟩ := views_of h hk
  refine lstK_same (fun i _ => (seeL_ok (seeL_ok h)).2.2) (fun i _ => (seeL_ok h).2.2) (fun i hi => ?_) (fun j hj => ?_)
  · obtain ⟨m, hm, e⟩ := h1 i (by omega)
    exact ⟨m, by omega, e⟩
  · obtain ⟨m, hm, e⟩ := h2 j (by omega)
    exact ⟨m, by omega, e.symm⟩
theorem lp_view {n : Int} {xs : List C3} (h : BlkOk n xs) {k : Nat} (hk : k < 8) : lpL n (seeL n k xs) = lpL n xs := by
  obtain ⟨h1, h2⟩ := views_of h hk
  refine lstK_same (fun i _ => (plainL_ok (seeL_ok (seeL_ok h))).2.2) (fun i _ => (plainL_ok (seeL_ok h)).2.2) (fun i hi => ?_) (fun j hj => ?_)
  · obtain ⟨m, hm, e⟩ := h1 i (by omega)
    exact ⟨m, by omega, by rw [e]⟩
  · obtain ⟨m, hm, e⟩ := h2 j (by omega)
    exact ⟨m, by omega, by rw [e]⟩
theorem lp_ex {l : List Int} (hl : Exch l) {n : Int} {xs : List C3} (h : BlkOk n xs) : lpL n (exL l xs) = lpL n xs :=
  lstK_congr 7 (fun i _ => by rw [← exL_see h, plainL_ex hl (seeL_ok h)])
/-- Equal forms: one is a view of the other; then the patterns are equal. -/
theorem lf_lp {n : Int} {xs ys : List C3} (hx : BlkOk n xs) (hy : BlkOk n ys) (e : lfL n xs = lfL n ys) : lpL n xs = lpL n ys := by
  obtain ⟨i, hi, ei⟩ := lf_mem n xs
  obtain ⟨j, hj, ej⟩ := lf_mem n ys
  rw [← lp_view hx hi, ← ei, e, ej, lp_view hy hj]
theorem lf_least {n : Int} (xs : List C3) : Op.bytesLess (txtL xs) (txtL (lfL n xs)) = false := lstK_le (fun k => seeL n k xs) 7 0 (by omega)
/-- The answers, for any block. -/
noncomputable def txtA (n : Int) (xs : List C3) : ByteArray := @ite _ (BlkOk n xs) (Classical.propDecidable _) (txtB xs) ⟨#[]⟩
noncomputable def lfB (n : Int) (xs : List C3) : List C3 := @ite _ (BlkOk n xs) (Classical.propDecidable _) (lfL n xs) []
noncomputable def lpB (n : Int) (xs : List C3) : List C3 := @ite _ (BlkOk n xs) (Classical.propDecidable _) (lpL n xs) []
theorem sam_yes {n : Int} {xs : List C3} (h : BlkOk n xs) : txtA n xs = txtB xs ∧ lfB n xs = lfL n xs ∧ lpB n xs = lpL n xs := ⟨if_pos h, if_pos h, if_pos h⟩
theorem sam_no {n : Int} {xs : List C3} (h : ¬ BlkOk n xs) : txtA n xs = ⟨#[]⟩ ∧ lfB n xs = [] ∧ lpB n xs = [] := ⟨if_neg h, if_neg h, if_neg h⟩
/-- AreSame and ArePatternsSame. -/
noncomputable def areF (n m : Int) (xs ys : List C3) : Bool := blkB n xs && (blkB m ys && sameB n m (lfL n xs) (lfL m ys))
noncomputable def areP (n m : Int) (xs ys : List C3) : Bool := blkB n xs && (blkB m ys && sameB n m (lpL n xs) (lpL m ys))

end Go.Proofs.YtahbadokkljoaaaGreatDoor

namespace Go.Proofs.YtahbadokkljoaaaGreatDoor
open Go.ChangeShapes Go.WideShapes Go.ChangeAt Go.RowKit

end Go.Proofs.YtahbadokkljoaaaGreatDoor

namespace Go.Proofs.YtahbadokkljoaaaGreatDoor
open Go.ChangeShapes Go.WideShapes Go.ChangeAt Go.RowKit

end Go.Proofs.YtahbadokkljoaaaGreatDoor

namespace Go.Proofs.YtahbadokkljoaaaGreatDoor
open Go.RowKit

/-- Of the blocks that stood, only those from lo on, below hi, may have changed. -/
structure Within (lo hi : Nat) (w w' : World) : Prop where
  os : w'.os = w.os
  tape : w'.tape = w.tape
  output : w'.output = w.output
  size : w.heap.size ≤ w'.heap.size
  block : ∀ k, k < w.heap.size → (k < lo ∨ hi ≤ k) → w'.heap[k]? = w.heap[k]?
theorem Within.refl (lo hi : Nat) (w : World) : Within lo hi w w := ⟨rfl, rfl, rfl, Nat.le_refl _, fun _ _ _ => rfl⟩
theorem Within.trans {lo hi : Nat} {u v w : World} (h : Within lo hi u v) (k : Within lo hi v w) : Within lo hi u w :=
  ⟨k.os.trans h.os, k.tape.trans h.tape, k.output.trans h.output, Nat.le_trans h.size k.size, fun i hi ho => (k.block i (by have := h.size; omega) ho).trans (h.block i hi ho)⟩
theorem Within.of_below {lo hi : Nat} {u w : World} (h : Below u.heap.size u w) : Within lo hi u w := ⟨h.os, h.tape, h.output, h.size, fun k hk _ => h.block k hk⟩
theorem Within.setCell {lo hi : Nat} {u w : World} (h : Within lo hi u w) {p : Addr} (h0 : lo ≤ p.block) (h1 : p.block < hi) (v : Value) : Within lo hi u (w.setCell p v) :=
  ⟨h.os, h.tape, h.output, by simp [World.setCell]; exact h.size, fun k hk ho => by rw [Below.heap_setCell _ _ _ _ (by omega)]; exact h.block k hk ho⟩
theorem Within.below {lo hi : Nat} {u w : World} (h : Within lo hi u w) (hl : lo ≤ u.heap.size) : Below lo u w := ⟨h.os, h.tape, h.output, h.size, fun k hk => h.block k (by omega) (.inl hk)⟩
theorem Within.cell {lo hi : Nat} {u w : World} (h : Within lo hi u w) {p : Addr} {x : Value} (hc : u.cell? p = some x) (ho : p.block < lo ∨ hi ≤ p.block) : w.cell? p = some x :=
  (World.cell?_of_block (w := u) (h.block p.block (lt_of_cell hc) ho)).trans hc

end Go.Proofs.YtahbadokkljoaaaGreatDoor
