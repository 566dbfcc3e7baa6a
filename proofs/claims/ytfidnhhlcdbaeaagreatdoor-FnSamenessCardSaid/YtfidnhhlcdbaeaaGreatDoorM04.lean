/- Blocks: the model's WithCell. Cells: the model's WholeCell. Blocks: the model's PlainBlock. Blocks: the model's StarBlock. -/
import Derived.Test.YtfidnhhlcdbaeaaGreatDoorM03
import Derived.Test.YtfidnhhlcdbaeaaGreatDoorM00
import Derived.Deep.RegionLaw
import Derived.Test.YtfidnhhlcdbaeaaGreatDoorM01

namespace Go.Proofs.YtfidnhhlcdbaeaaGreatDoor
open Go.ChangeShapes Go.WideShapes Go.ChangeAt Go.RowKit

theorem SpecOk_yes (s a b : Int) (w : World) (k : OkC s a b) :
    Calls Tryz.prog 42 #[.agg #[.int .i64 s, .int .i64 a, .int .i64 b]] w fun e w' => e = .returned (.bool true) ∧ Below w.heap.size w w' := by
  refine (SpecOk_any s a b w).mono ?_
  rintro e w' ⟨rfl, rfl⟩
  exact ⟨ret_bool (decide_eq_true k), bel0 _ _⟩
theorem SpecOk_no (s a b : Int) (w : World) (k : ¬ OkC s a b) :
    Calls Tryz.prog 42 #[.agg #[.int .i64 s, .int .i64 a, .int .i64 b]] w fun e w' => e = .returned (.bool false) ∧ Below w.heap.size w w' := by
  refine (SpecOk_any s a b w).mono ?_
  rintro e w' ⟨rfl, rfl⟩
  exact ⟨ret_bool (decide_eq_false k), bel0 _ _⟩

/-- A new block and a truth value are handed back. -/
def FreshBB (n : Int) (ys : List C3) (ok : Bool) (w : World) (e : Ending) (w' : World) : Prop := ∃ v, e = .returned (.tuple #[.agg #[.int .i64 n, v], .bool ok]) ∧ CellIn w.heap.size w'.heap.size w' v ys ∧ Below w.heap.size w w'
/-- What WithCell makes. -/
noncomputable def withC (n : Int) (xs : List C3) (x y : Int) (c : C3) : List C3 := @ite _ (BlkOk n xs ∧ c.Ok ∧ InB n x y) (Classical.propDecidable _) (xs.set (y * n + x).toNat c) xs
noncomputable def withB (n : Int) (xs : List C3) (x y : Int) (c : C3) : Bool := @decide (BlkOk n xs ∧ c.Ok ∧ InB n x y) (Classical.propDecidable _)
theorem with_yes {n : Int} {xs : List C3} {x y : Int} {c : C3} (h : BlkOk n xs ∧ c.Ok ∧ InB n x y) : withC n xs x y c = xs.set (y * n + x).toNat c ∧ withB n xs x y c = true := ⟨if_pos h, by unfold withB; simp [h]⟩
theorem with_no {n : Int} {xs : List C3} {x y : Int} {c : C3} (h : ¬ (BlkOk n xs ∧ c.Ok ∧ InB n x y)) : withC n xs x y c = xs ∧ withB n xs x y c = false := ⟨if_neg h, by unfold withB; simp [h]⟩

/-- What the walk keeps in view: the argument's box, the cell's, the answer's, the copy's. -/
def SW (p q : Nat) (n s a b : Int) (sl cp : Value) (u : World) : Prop :=
  u.cell? ⟨p, 0, none⟩ = some (.int .i64 n) ∧ u.cell? ⟨p, 1, none⟩ = some sl ∧
  u.cell? ⟨p + 1, 0, none⟩ = some (.int .i64 s) ∧ u.cell? ⟨p + 1, 1, none⟩ = some (.int .i64 a) ∧ u.cell? ⟨p + 1, 2, none⟩ = some (.int .i64 b) ∧
  u.cell? ⟨p + 1 + 1, 0, none⟩ = some (.int .i64 0) ∧ u.cell? ⟨p + 1 + 1, 1, none⟩ = some (.slice none 0 0) ∧ u.frozen? ⟨p + 1 + 1, 0, none⟩ = false ∧ u.frozen? ⟨p + 1 + 1, 1, none⟩ = false ∧
  u.cell? ⟨q, 0, none⟩ = some (.int .i64 n) ∧ u.cell? ⟨q, 1, none⟩ = some cp
theorem SW.keep {p q : Nat} {n s a b : Int} {sl cp : Value} {u v : World} (h : SW p q n s a b sl cp u) (hb : Below u.heap.size u v) : SW p q n s a b sl cp v := by
  obtain ⟨h0, h1, h2, h3, h4, h5, h6, f5, f6, h7, h8⟩ := h
  exact ⟨kept hb h0, kept hb h1, kept hb h2, kept hb h3, kept hb h4, kept hb h5, kept hb h6, keptF hb h5 f5, keptF hb h6 f6, kept hb h7, kept hb h8⟩

end Go.Proofs.YtfidnhhlcdbaeaaGreatDoor

namespace Go.Proofs.YtfidnhhlcdbaeaaGreatDoor
open Go.ChangeShapes Go.WideShapes Go.ChangeAt Go.RowKit

/-- The color of a whole cell. -/
def wh (a : Int) : Int := if 0 ≤ a ∧ a ≤ 5 then a else 0
theorem wh_yes {a : Int} (h : 0 ≤ a ∧ a ≤ 5) : wh a = a := if_pos h
theorem wh_no {a : Int} (h : ¬ (0 ≤ a ∧ a ≤ 5)) : wh a = 0 := if_neg h

theorem SpecWhole_any (a : Int) (w : World) :
    Calls Tryz.prog 60 #[.int .i64 a] w fun e w' => e = .returned (.agg #[.int .i64 0, .int .i64 (wh a), .int .i64 (wh a)]) ∧ w' = w.alloc (.cells #[.int .i64 0, .int .i64 (wh a), .int .i64 (wh a)] 50) := by
  by_cases h : 0 ≤ a ∧ a ≤ 5
  · rw [wh_yes h]
    obtain ⟨a0, a1⟩ := h
    go_enter Tryz.func60, Tryz.ntmps60
    go_wp2_with (refine (In_yes _ _ _ _ (by assumption) (by assumption)).mono ?_; rintro e w' ⟨rfl, rfl⟩)
    exact bodyPost_ret (v := .agg #[.int .i64 0, .int .i64 a, .int .i64 a]) (by simp [results, Tryz.results60, go_sem]) rfl ⟨rfl, rfl⟩
  · rw [wh_no h]
    have h' : a < 0 ∨ 5 < a := by omega
    clear h
    go_enter Tryz.func60, Tryz.ntmps60
    go_wp2_with (refine (In_no _ _ _ _ (by assumption)).mono ?_; rintro e w' ⟨rfl, rfl⟩)
    exact bodyPost_ret (v := .agg #[.int .i64 0, .int .i64 0, .int .i64 0]) (by simp [results, Tryz.results60, go_sem]) rfl ⟨rfl, rfl⟩

end Go.Proofs.YtfidnhhlcdbaeaaGreatDoor

namespace Go.Proofs.YtfidnhhlcdbaeaaGreatDoor
open Go.ChangeShapes Go.WideShapes Go.ChangeAt Go.RowKit

def PlOk (n a : Int) : Prop := (1 ≤ n ∧ n ≤ 4) ∧ 0 ≤ a ∧ a ≤ 5
noncomputable def plN (n a : Int) : Int := @ite _ (PlOk n a) (Classical.propDecidable _) n 0
noncomputable def plC (n a : Int) : List C3 := @ite _ (PlOk n a) (Classical.propDecidable _) (List.replicate (n * n).toNat ⟨0, a, a⟩) []
noncomputable def plB (n a : Int) : Bool := @decide (PlOk n a) (Classical.propDecidable _)
theorem pl_yes {n a : Int} (h : PlOk n a) : plN n a = n ∧ plC n a = List.replicate (n * n).toNat ⟨0, a, a⟩ ∧ plB n a = true := ⟨if_pos h, if_pos h, by unfold plB; simp [h]⟩
theorem pl_no {n a : Int} (h : ¬ PlOk n a) : plN n a = 0 ∧ plC n a = [] ∧ plB n a = false := ⟨if_neg h, if_neg h, by unfold plB; simp [h]⟩

theorem owns_below {w w' : World} {b e size n : Nat} {v : Value} {xs : List Value} (h : w.ownsRow b e size v n xs) (hb : Below w.heap.size w w') : w'.ownsRow b e size v n xs := by
  obtain ⟨h1, h2 | ⟨g, cap, cur, hv, hg, hh, r⟩⟩ := h
  · exact ⟨h1, .inl h2⟩
  · exact ⟨h1, .inr ⟨g, cap, cur, hv, hg, by rw [hb.block g (lt_of_heap hh)]; exact hh, r⟩⟩
theorem places_snoc (k : Nat) (c : C3) : places (List.replicate (k + 1) c) = places (List.replicate k c) ++ [.int .i64 c.s, .int .i64 c.a, .int .i64 c.b] := by
  rw [List.replicate_succ', places_append]; rfl
theorem news_at (W : World) (q : Nat) (cs : Array Value) (t : TypeId) (h : W.heap.size = q) : ∀ (j : Nat) u, cs.toList[j]? = some u → (W.alloc (.cells cs t)).cell? ((⟨q, 0, none⟩ : Addr).add j) = some u := by
  subst h
  exact World.news_of_block (fr := (0, 0)) (heap_alloc_new W _)

/-- What the walk keeps in view: the answer's box, and the block under way. -/
def PF (p : Nat) (n : Int) (v : Value) (u : World) : Prop :=
  u.cell? ⟨p + 1, 1, none⟩ = some v ∧ u.cell? ⟨p + 1, 0, none⟩ = some (.int .i64 n) ∧ u.frozen? ⟨p + 1, 1, none⟩ = false ∧ u.cell? ⟨p, 0, none⟩ = some (.int .i64 0) ∧ u.cell? ⟨p, 1, none⟩ = some (.slice none 0 0) ∧ u.frozen? ⟨p, 0, none⟩ = false ∧ u.frozen? ⟨p, 1, none⟩ = false
theorem PF.far {p : Nat} {n : Int} {v : Value} {u w : World} (h : PF p n v u) (hb : Below (p + 1 + 1) u w) : PF p n v w := by
  obtain ⟨h0, h1, h2, h3, h4, h5, h6⟩ := h
  have l1 : p < p + 1 + 1 := by omega
  have l2 : p + 1 < p + 1 + 1 := by omega
  exact ⟨(hb.cell (p := ⟨p + 1, 1, none⟩) l2).trans h0, (hb.cell (p := ⟨p + 1, 0, none⟩) l2).trans h1, (hb.frozen (p := ⟨p + 1, 1, none⟩) l2).trans h2, (hb.cell (p := ⟨p, 0, none⟩) l1).trans h3, (hb.cell (p := ⟨p, 1, none⟩) l1).trans h4, (hb.frozen (p := ⟨p, 0, none⟩) l1).trans h5, (hb.frozen (p := ⟨p, 1, none⟩) l1).trans h6⟩
theorem PF.store {p : Nat} {n : Int} {v : Value} {u : World} (h : PF p n v u) (v' : Value) : PF p n v' (u.setCell ⟨p + 1, 1, none⟩ v') := by
  obtain ⟨h0, h1, h2, h3, h4, h5, h6⟩ := h
  have hn : ∀ o : Nat, (⟨p + 1, 1, none⟩ : Addr) ≠ ⟨p, o, none⟩ := by intro o; simp
  exact ⟨World.cell?_setCell_same _ _ _ h0, (World.cell?_setCell_other _ _ _ _ (by simp)).trans h1, (World.frozen?_setCell _ _ _ _).trans h2, (World.cell?_setCell_other _ _ _ _ (hn 0)).trans h3, (World.cell?_setCell_other _ _ _ _ (hn 1)).trans h4, (World.frozen?_setCell _ _ _ _).trans h5, (World.frozen?_setCell _ _ _ _).trans h6⟩
theorem own_ge3 {w : World} {base e size n : Nat} {v : Value} {xs : List Value} (h : w.ownsRow base e size v n xs) : ∀ k, v.ownBlock = some k → base ≤ k := by
  intro k hk
  obtain ⟨_, h | ⟨g, cap, cur, hv, hg, _⟩⟩ := h
  · rw [h.1] at hk; cases hk
  · rw [hv] at hk; simp [Value.ownBlock] at hk; omega
theorem owns_set {w : World} {b e size n : Nat} {v : Value} {xs : List Value} (h : w.ownsRow b e size v n xs) {p : Addr} (hp : p.block < b) (x : Value) : (w.setCell p x).ownsRow b e size v n xs := by
  obtain ⟨h1, h2 | ⟨g, cap, cur, hv, hg, hh, r⟩⟩ := h
  · exact ⟨h1, .inl h2⟩
  · exact ⟨h1, .inr ⟨g, cap, cur, hv, hg, by rw [Below.heap_setCell _ _ _ _ (by omega)]; exact hh, r⟩⟩

set_option maxHeartbeats 1000000 in
theorem SpecPlain_any (n a : Int) (w : World) :
    Calls Tryz.prog 40 #[.int .i64 n, .int .i64 a] w (FreshBB (plN n a) (plC n a) (plB n a) w) := by
  by_cases h : PlOk n a
  · obtain ⟨i0, hi0, hz0, hz1, hz2⟩ := info_parts3 info_cell
    obtain ⟨e1, e2, e3⟩ := pl_yes h
    rw [e1, e2, e3]
    clear e1 e2 e3
    obtain ⟨⟨n0, n1⟩, a0, a1⟩ := h
    obtain ⟨hw, s0, s1⟩ := sq_wrap n0 n1
    obtain ⟨m, hm⟩ : ∃ m : Nat, n * n = m := ⟨(n * n).toNat, by omega⟩
    rw [hm] at s0 s1
    have HM := Lib.hid hm
    have hmt : (n * n).toNat = m := by rw [hm]; simp
    rw [hmt]
    have hwh : wh a = a := wh_yes ⟨a0, a1⟩
    have CW : ∀ w, Calls Tryz.prog 60 #[.int .i64 a] w fun e w' => e = .returned (.agg #[.int .i64 0, .int .i64 a, .int .i64 a]) ∧ w' = w.alloc (.cells #[.int .i64 0, .int .i64 a, .int .i64 a] 50) := fun w => by have := SpecWhole_any a w; rw [hwh] at this; exact this
    clear hm hmt hwh
    go_enter Tryz.func40, Tryz.ntmps40
    go_wp2_with fail
    refine (In_yes _ _ _ _ n0 n1).mono ?_
    rintro e w' ⟨rfl, rfl⟩
    go_wp2_with fail
    refine (In_yes _ _ _ _ a0 a1).mono ?_
    rintro e w' ⟨rfl, rfl⟩
    go_wp2_with fail
    go_loopw [7] (fun i wr => ∃ (k : Nat) (v : Value), k ≤ m ∧ i = .int .i64 k ∧ Hid (wr.ownsRow (w.heap.size + 1 + 1) 50 3 v k (places (List.replicate k ⟨0, a, a⟩))) ∧
      Hid (PF w.heap.size n v wr) ∧ Below w.heap.size w wr ∧ w.heap.size + 1 + 1 ≤ wr.heap.size) (fun i _ => m - (intOf i).toNat)
    case atStart => exact ⟨0, .slice none 0 0, Nat.zero_le _, rfl, ⟨rfl, .inl ⟨rfl, rfl⟩⟩, ⟨by go_simp, by go_simp, by go_simp, by go_simp, by go_simp, by go_simp, by go_simp⟩, bel_n (bel0 _ _) (Nat.le_refl _) _, by simp⟩
    case round =>
      obtain ⟨k, v, hk, rfl, hown, hcs, hbel, hsz⟩ := hrel
      by_cases hlt : k < m
      · obtain ⟨q1, q0, f1, d0, d1, g0, g1⟩ := hcs.out
        have hd : decide ((k : Int) < n * n) = true := by rw [HM.out]; simpa using hlt
        have KK : ∀ o, (wr.alloc o).cell? ⟨w.heap.size + 1, 1, none⟩ = some v := fun o => kept (bel0 wr o) q1
        have KK2 : ∀ o o', ((wr.alloc o).alloc o').cell? ⟨w.heap.size + 1, 1, none⟩ = some v := fun o o' => kept (bel0 _ o') (KK o)
        have HO := Lib.hid (owns_below hown.out (bel_dr (bel_n (bel0 wr (.cells #[.int .i64 0, .int .i64 a, .int .i64 a] 50)) (Nat.le_refl _) (.cells #[.int .i64 0, .int .i64 a, .int .i64 a] 50))))
        have HNW : Hid (∀ (j : Nat) u, ([.int .i64 0, .int .i64 a, .int .i64 a] : List Value)[j]? = some u → (((wr.alloc (.cells #[.int .i64 0, .int .i64 a, .int .i64 a] 50)).alloc (.cells #[.int .i64 0, .int .i64 a, .int .i64 a] 50)).drew).cell? ((⟨wr.heap.size + 1, 0, none⟩ : Addr).add j) = some u) :=
          Lib.hid (fun j u hu => news_at (wr.alloc (.cells #[.int .i64 0, .int .i64 a, .int .i64 a] 50)) (wr.heap.size + 1) #[.int .i64 0, .int .i64 a, .int .i64 a] 50 (by simp) j u hu)
        have hb1 : w.heap.size + 1 + 1 ≤ (((wr.alloc (.cells #[.int .i64 0, .int .i64 a, .int .i64 a] 50)).alloc (.cells #[.int .i64 0, .int .i64 a, .int .i64 a] 50)).drew).heap.size := by simp; omega
        have HB1 := Lib.hid hb1
        clear hb1
        have bw : Below wr.heap.size wr (((wr.alloc (.cells #[.int .i64 0, .int .i64 a, .int .i64 a] 50)).alloc (.cells #[.int .i64 0, .int .i64 a, .int .i64 a] 50)).drew) := bel_dr (bel_n (bel0 wr (.cells #[.int .i64 0, .int .i64 a, .int .i64 a] 50)) (Nat.le_refl _) (.cells #[.int .i64 0, .int .i64 a, .int .i64 a] 50))
        have HF := Lib.hid (hcs.out.far (bw.mono hsz))
        have HBW := Lib.hid (bel_c hbel (Nat.le_refl _) bw)
        clear bw hcs
        go_wp2_with fail
        go_region_law (first
          | (go_simp; go_at_call 60; refine (CW _).mono ?_; rintro e w' ⟨rfl, rfl⟩)
          | (refine step_append_lies _ (by rfl) _ _ _ (by rfl) (w.heap.size + 1 + 1) 50 i0 _ 3 24 Tryz.underlying24 hi0 hz0 hz1 hz2 rfl (by omega) v k _ (by rfl) HO.out ⟨wr.heap.size + 1, 0, none⟩ 1 1 [.int .i64 0, .int .i64 a, .int .i64 a] (by rfl) (by rfl) HNW.out (by simp [Value.oneCell']) (by omega) (by unfold maxLen; omega) (by omega) HB1.out (wr.heap.size + 1 + 1) (by simp) ?_; intro gg cc w1 hown1 hgrow hat hlt1; have hbw := (Below.refl (w.heap.size + 1 + 1) _).grown hgrow HB1.out (own_ge3 HO.out); have hP := Lib.hid (HF.out.far hbw); have p1 := hP.out.1; have p2 := hP.out.2.2.1))
        all_goals
          have hl1 : k + 1 ≤ m := by omega
          have HN : Hid ((w1.setCell ⟨w.heap.size + 1, 1, none⟩ (.slice (some ⟨gg, 0, none⟩) (k + 1) cc)).ownsRow (w.heap.size + 1 + 1) 50 3 (.slice (some ⟨gg, 0, none⟩) (k + 1) cc) (k + 1) (places (List.replicate (k + 1) ⟨0, a, a⟩))) := Lib.hid (owns_set (by rw [places_snoc]; exact hown1) (by simp) _)
          have HP2 := Lib.hid (hP.out.store (.slice (some ⟨gg, 0, none⟩) (k + 1) cc))
          have HB2 := Lib.hid (Below.setCell (HBW.out.trans (hbw.mono (by omega))) (p := ⟨w.heap.size + 1, 1, none⟩) (by simp) (.slice (some ⟨gg, 0, none⟩) (k + 1) cc))
          have hs2 : w.heap.size + 1 + 1 ≤ w1.heap.size := Nat.le_trans HB1.out hbw.size
          clear hown1 hgrow hat hlt1 hbw hP p1 p2
          go_wp2_with fail
          go_roundw
          case rel => exact ⟨k + 1, _, hl1, by go_num, HN, HP2, HB2.out, by simp [World.setCell]; exact hs2⟩
          case measure => simp [intOf] <;> omega
      · obtain rfl : k = m := by omega
        obtain ⟨q1, q0, f1, d0, d1, g0, g1⟩ := hcs.out
        have hd : decide ((k : Int) < n * n) = false := by rw [HM.out]; simp
        have hin : CellIn (w.heap.size + 1 + 1) wr.heap.size wr v (List.replicate k ⟨0, a, a⟩) := CellIn.of_owns (by rw [List.length_replicate]; exact hown.out) (by rw [List.length_replicate]; omega)
        obtain ⟨av, cv, hv⟩ := hin.form
        subst hv
        have HI := Lib.hid hin
        clear hin hown hcs
        go_wp2_with fail
        refine bodyPost_ret (v := .tuple #[.agg #[.int .i64 n, .slice av (List.replicate k (⟨0, a, a⟩ : C3)).length cv], .bool true]) (by simp [results, Tryz.results40, go_sem, d0, d1]) rfl ⟨_, rfl, ?_, ?_⟩
        · refine CellIn.wide (lo := w.heap.size + 1 + 1) (hi := wr.heap.size) ?_ (by omega) (by simp [World.setCell])
          refine CellIn.set_far (CellIn.set_far HI.out ?_ _) ?_ _ <;> (simp <;> omega)
        · refine Below.setCell (Below.setCell hbel ?_ _) ?_ _ <;> (simp <;> omega)
  · obtain ⟨e1, e2, e3⟩ := pl_no h
    rw [e1, e2, e3]
    clear e1 e2 e3
    by_cases hn : 1 ≤ n ∧ n ≤ 4
    · have ha : a < 0 ∨ 5 < a := by unfold PlOk at h; omega
      obtain ⟨n0, n1⟩ := hn
      clear h
      go_enter Tryz.func40, Tryz.ntmps40
      go_wp2_with fail
      refine (In_yes _ _ _ _ n0 n1).mono ?_
      rintro e w' ⟨rfl, rfl⟩
      go_wp2_with fail
      refine (In_no _ _ _ _ ha).mono ?_
      rintro e w' ⟨rfl, rfl⟩
      go_wp2_with fail
      exact bodyPost_ret (v := .tuple #[.agg #[.int .i64 0, .slice none 0 0], .bool false]) (by simp [results, Tryz.results40, go_sem]) rfl ⟨.slice none 0 0, rfl, ⟨by simp, .inl ⟨rfl, _, _, rfl⟩⟩, bel0 _ _⟩
    · have hn' : n < 1 ∨ 4 < n := by omega
      clear h hn
      go_enter Tryz.func40, Tryz.ntmps40
      go_wp2_with fail
      refine (In_no _ _ _ _ hn').mono ?_
      rintro e w' ⟨rfl, rfl⟩
      go_wp2_with fail
      exact bodyPost_ret (v := .tuple #[.agg #[.int .i64 0, .slice none 0 0], .bool false]) (by simp [results, Tryz.results40, go_sem]) rfl ⟨.slice none 0 0, rfl, ⟨by simp, .inl ⟨rfl, _, _, rfl⟩⟩, bel0 _ _⟩

end Go.Proofs.YtfidnhhlcdbaeaaGreatDoor

namespace Go.Proofs.YtfidnhhlcdbaeaaGreatDoor
open Go.ChangeShapes Go.WideShapes Go.ChangeAt Go.RowKit

/-- The cells of the star. -/
def starC : List C3 := [⟨1, 0, 1⟩, ⟨0, 1, 1⟩, ⟨2, 1, 0⟩, ⟨0, 1, 1⟩, ⟨0, 1, 1⟩, ⟨0, 1, 1⟩, ⟨2, 0, 1⟩, ⟨0, 1, 1⟩, ⟨1, 1, 0⟩]
theorem star_ok : BlkOk 3 starC := by
  refine ⟨by decide, by decide, ?_⟩
  intro c hc
  simp only [starC, List.mem_cons, List.not_mem_nil, or_false] at hc
  rcases hc with rfl | rfl | rfl | rfl | rfl | rfl | rfl | rfl | rfl <;> (unfold C3.Ok OkC; decide)

theorem owns_whole {w : World} {g e : Nat} {base : Nat} {xs : List C3} (h : w.heap[g]? = some (.cells (places xs).toArray e (0, 0))) (hb : base ≤ g) (hl : xs.length ≤ 1048576) :
    w.ownsRow base e 3 (.slice (some ⟨g, 0, none⟩) xs.length xs.length) xs.length (places xs) :=
  ⟨places_length xs, .inr ⟨g, xs.length, (places xs).toArray, rfl, hb, h, Nat.le_refl _, by unfold maxLen; omega, by simp [places_length], by simp [← places_length]⟩⟩

theorem heap_at (W : World) (q : Nat) (cs : Array Value) (t : TypeId) (h : W.heap.size = q) : (W.alloc (.cells cs t)).heap[q]? = some (.cells cs t (0, 0)) := by
  subst h; exact heap_alloc_new W _

set_option maxHeartbeats 400000 in
theorem SpecStar_any (w : World) :
    Calls Tryz.prog 39 #[] w (FreshB 3 starC w) := by
  have CW : ∀ w, Calls Tryz.prog 60 #[.int .i64 1] w fun e w' => e = .returned (.agg #[.int .i64 0, .int .i64 1, .int .i64 1]) ∧ w' = w.alloc (.cells #[.int .i64 0, .int .i64 1, .int .i64 1] 50) := fun w => by have := SpecWhole_any 1 w; rw [wh_yes (by omega)] at this; exact this
  go_enter Tryz.func39, Tryz.ntmps39
  go_wp2_with fail
  refine (CW _).mono ?_
  rintro e w' ⟨rfl, rfl⟩
  go_wp2_with fail
  refine bodyPost_ret (v := .agg #[.int .i64 3, .slice (some ⟨w.heap.size + 1 + 1 + 1, 0, none⟩) 9 9]) (by simp [results, Tryz.results39, go_sem]) rfl ⟨.slice (some ⟨w.heap.size + 1 + 1 + 1, 0, none⟩) 9 9, rfl, ?_, ?_⟩
  · exact CellIn.of_owns (xs := starC) (owns_whole (heap_at _ _ (places starC).toArray 50 (by simp)) (by omega) (by decide)) (by decide)
  · exact bel_n (bel_n (bel_n (bel0 w _) (Nat.le_refl _) _) (Nat.le_refl _) _) (Nat.le_refl _) _

end Go.Proofs.YtfidnhhlcdbaeaaGreatDoor
