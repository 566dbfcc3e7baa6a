/- Exchanges: DrawExchangeBlock: a block, valid or not, and a list. Exchanges: the model's BlockOk on a block as drawn, cut or not; the program's contracts that FnExchanges wants of a cut block. Exchanges: the program's FirstUse. Exchanges: the model's ExchangeCell. -/
import Derived.Test.YtfidnhhlcdbaeaaGreatDoorM13
import Derived.Test.YtfidnhhlcdbaeaaGreatDoorM12
import Derived.Test.YtfidnhhlcdbaeaaGreatDoorM11
import Derived.Test.YtfidnhhlcdbaeaaGreatDoorM08

namespace Go.Proofs.YtfidnhhlcdbaeaaGreatDoor
open Go.ChangeShapes Go.WideShapes Go.ChangeAt Go.RowKit

/-- A row of as many cells as the block has places or any other number, or a cut row. -/
def RowX (lo hi : Nat) (n : Int) (u : World) (v : Value) (xs : List C3) : Prop :=
  CellIn lo hi u v xs ∨ ((1 ≤ n ∧ n ≤ 4 ∧ (xs.length : Int) + 1 = n * n) ∧ CellO lo hi u v xs)
theorem RowX.form {lo hi : Nat} {n : Int} {w : World} {v : Value} {xs : List C3} (h : RowX lo hi n w v xs) : ∃ a cap, v = .slice a xs.length cap := by
  rcases h with h | ⟨_, h⟩
  · exact h.form
  · exact h.form
theorem RowX.below {lo hi : Nat} {n : Int} {w w' : World} {v : Value} {xs : List C3} (h : RowX lo hi n w v xs) (hb : Below hi w w') : RowX lo hi n w' v xs := by
  rcases h with h | ⟨k, h⟩
  · exact .inl (h.below hb)
  · exact .inr ⟨k, h.below hb⟩
theorem RowX.wide {lo hi lo' hi' : Nat} {n : Int} {w : World} {v : Value} {xs : List C3} (h : RowX lo hi n w v xs) (h1 : lo' ≤ lo) (h2 : hi ≤ hi') : RowX lo' hi' n w v xs := by
  rcases h with h | ⟨k, h⟩
  · exact .inl (h.wide h1 h2)
  · exact .inr ⟨k, h.wide h1 h2⟩
theorem RowX.set_far {lo hi : Nat} {n : Int} {w : World} {v : Value} {xs : List C3} (h : RowX lo hi n w v xs) {p : Addr} (hp : p.block < lo ∨ hi ≤ p.block) (x : Value) : RowX lo hi n (w.setCell p x) v xs := by
  rcases h with h | ⟨k, h⟩
  · exact .inl (h.set_out hp x)
  · exact .inr ⟨k, h.set_far hp x⟩
theorem CellO.but {lo hi b : Nat} {w w' : World} {v : Value} {xs : List C3} (h : CellO lo hi w v xs) (hb : But b w w') (hl : b < lo) (hh : hi ≤ w.heap.size) : CellO lo hi w' v xs := by
  obtain ⟨hl', h | ⟨g, k, cap, hv, hg, hlt, hc⟩⟩ := h
  · exact ⟨hl', .inl h⟩
  · refine ⟨hl', .inr ⟨g, k, cap, hv, hg, hlt, fun i hi => ?_⟩⟩
    have hg1 : g < w.heap.size := by omega
    have hg2 : g ≠ b := by omega
    obtain ⟨⟨e0, e1, e2⟩, f0, f1, f2⟩ := hc i hi
    exact ⟨⟨(hb.cell (p := ⟨g, _, none⟩) hg1 hg2).trans e0, (hb.cell (p := ⟨g, _, none⟩) hg1 hg2).trans e1, (hb.cell (p := ⟨g, _, none⟩) hg1 hg2).trans e2⟩,
      (hb.frozen (p := ⟨g, _, none⟩) hg1 hg2).trans f0, (hb.frozen (p := ⟨g, _, none⟩) hg1 hg2).trans f1, (hb.frozen (p := ⟨g, _, none⟩) hg1 hg2).trans f2⟩
theorem RowX.but {lo hi b : Nat} {n : Int} {w w' : World} {v : Value} {xs : List C3} (h : RowX lo hi n w v xs) (hb : But b w w') (hl : b < lo) (hh : hi ≤ w.heap.size) : RowX lo hi n w' v xs := by
  rcases h with h | ⟨k, h⟩
  · exact .inl (h.but hb hl hh)
  · exact .inr ⟨k, h.but hb hl hh⟩
theorem IntO.set_far {lo hi : Nat} {w : World} {v : Value} {zs : List Int} (h : IntO lo hi w v zs) {p : Addr} (hp : p.block < lo) (x : Value) : IntO lo hi (w.setCell p x) v zs := by
  obtain ⟨hl, h | ⟨g, o, cap, hv, hg, hlt, hc⟩⟩ := h
  · exact ⟨hl, .inl h⟩
  · refine ⟨hl, .inr ⟨g, o, cap, hv, hg, hlt, fun i hi => ⟨?_, by rw [World.frozen?_setCell]; exact (hc i hi).2⟩⟩⟩
    have hn : p ≠ ⟨g, o + i, none⟩ := fun e => by rw [e] at hp; simp at hp; omega
    rw [World.cell?_setCell_other _ _ _ _ hn]; exact (hc i hi).1
theorem Cur.set_far {w : World} {b : Nat} {a : Option Addr} {len cap : Nat} (h : Cur w b a len cap) {p : Addr} (hp : p.block ≠ b) (x : Value) (hs : Src (w.setCell p x) b a len) : Cur (w.setCell p x) b a len cap := by
  obtain ⟨k, h, hk, c0, c1, c2, f1, f2, _⟩ := h
  have hn : ∀ o : Nat, p ≠ ⟨b, o, none⟩ := fun o e => hp (by rw [e])
  exact ⟨k, h, hk, by rw [World.cell?_setCell_other _ _ _ _ (hn _)]; exact c0, by rw [World.cell?_setCell_other _ _ _ _ (hn _)]; exact c1, by rw [World.cell?_setCell_other _ _ _ _ (hn _)]; exact c2, by rw [World.frozen?_setCell]; exact f1, by rw [World.frozen?_setCell]; exact f2, hs⟩
theorem BoxB.store0 {p : Nat} {x y : Value} {u : World} (h : BoxB p x y u) (z : Value) : BoxB p z y (u.setCell ⟨p, 0, none⟩ z) := by
  obtain ⟨h0, h1, h2, h3⟩ := h
  exact ⟨World.cell?_setCell_same _ _ _ h0, (World.cell?_setCell_other _ _ _ _ (by simp)).trans h1, (World.frozen?_setCell _ _ _ _).trans h2, (World.frozen?_setCell _ _ _ _).trans h3⟩
/-- A block and a list are handed back. -/
def GivenX (w : World) (e : Ending) (w' : World) : Prop :=
  ∃ (n : Int) (v vl : Value) (xs : List C3) (zs : List Int), xs.length ≤ 16 ∧ NearL zs ∧ e = .returned (.tuple #[.agg #[.int .i64 n, v], vl]) ∧ RowX w.heap.size w'.heap.size n w' v xs ∧ IntO w.heap.size w'.heap.size w' vl zs ∧ Below w.heap.size w w'

end Go.Proofs.YtfidnhhlcdbaeaaGreatDoor

namespace Go.Proofs.YtfidnhhlcdbaeaaGreatDoor
open Go.ChangeShapes Go.WideShapes Go.ChangeAt Go.RowKit

/-- A block of a valid size with a number of cells that does not fit: BlockOk reads no cell. -/
theorem SpecBlockOk_len (n : Int) (a : Option Addr) (k cap : Nat) (w : World) (n0 : 1 ≤ n) (n1 : n ≤ 4) (_hk : k ≤ 1048576) (h2 : ¬ (k : Int) = n * n) :
    Calls Tryz.prog 19 #[.agg #[.int .i64 n, .slice a k cap]] w fun e w' => e = .returned (.bool false) ∧ Below w.heap.size w w' := by
  obtain ⟨hw, s0, s1⟩ := sq_wrap n0 n1
  have e2 := ne_bool h2
  clear h2 s0 s1
  go_enter Tryz.func19, Tryz.ntmps19
  go_wp2_with fail
  refine (In_yes _ _ _ _ n0 n1).mono ?_
  rintro e w' ⟨rfl, rfl⟩
  go_wp2_with fail
  go_ret
  exact ⟨rfl, (Below.refl _ _).alloc (Nat.le_refl _) _⟩
theorem cut_len {n : Int} {k : Nat} (h : (k : Int) + 1 = n * n) : ¬ (k : Int) = n * n := by omega
/-- What BlockOk answers of a drawn block. -/
theorem SpecBlockOk_row (lo hi : Nat) (n : Int) (v : Value) (xs : List C3) (w : World) (r : RowX lo hi n w v xs) (hhi : hi ≤ w.heap.size) :
    Calls Tryz.prog 19 #[.agg #[.int .i64 n, v]] w fun e w' => e = .returned (.bool (blkB n xs)) ∧ Below w.heap.size w w' := by
  rcases r with r | ⟨⟨n0, n1, hk⟩, r⟩
  · exact SpecBlockOk_any lo hi n v xs w r hhi
  · obtain ⟨a, cap, rfl⟩ := r.form
    have hno : blkB n xs = false := (blk_no (n := n) (xs := xs) (fun h => cut_len hk h.2.1)).symm
    rw [hno]
    exact SpecBlockOk_len n a xs.length cap w n0 n1 r.1 (cut_len hk)
end Go.Proofs.YtfidnhhlcdbaeaaGreatDoor

namespace Go.Proofs.YtfidnhhlcdbaeaaGreatDoor
open Go.ChangeShapes Go.WideShapes Go.ChangeAt Go.RowKit

/-! ### Numbers -/
theorem fuD_exch {n : Int} {xs : List C3} (h : BlkOk n xs) : Exch (fuD xs) := by
  have h6 : (fuD xs).length = 6 := by
    have h1 := fuD_len h
    have h2 := pigeon idL (fuD xs) (by decide) (fun a ha => fuD_mem xs (col_mem.2 ha))
    have : idL.length = 6 := rfl
    omega
  refine ⟨⟨h6, fun z hz => ?_⟩, fuD_nodup xs⟩
  rcases (dd_mem _ _ z).1 hz with h1 | h1
  · cases h1
  · rw [List.mem_append] at h1
    rcases h1 with h1 | h1
    · exact seq_col h z h1
    · exact col_mem.2 h1
theorem fuD_und {n : Int} {xs : List C3} (h : BlkOk n xs) : undL (fuD xs) = fuL xs := by
  refine lst_ext (und_ok (fuD_exch h)).1 (fuL_len h) (fun a ha => ?_)
  rw [und_at ha, fuL_at h ha]
theorem seq_take (xs : List C3) {k : Nat} (h : k < xs.length) : fuSeq (xs.take (k + 1)) = fuSeq (xs.take k) ++ [(xs.getD k C3.zero).a, (xs.getD k C3.zero).b] := by
  rw [List.take_succ_eq_append_getElem h]
  unfold fuSeq
  rw [List.flatMap_append]
  simp [List.getD, h]
theorem dd_two (t : List Int) (a b : Int) : dd (t ++ [a, b]) = [a, b].foldl ddStep (dd t) := by unfold dd; rw [List.foldl_append]
theorem fuD_two (xs : List C3) : idL.foldl ddStep (dd (fuSeq xs)) = fuD xs := by unfold fuD dd; rw [List.foldl_append]
theorem dd_short {n : Int} {xs : List C3} (h : BlkOk n xs) (k : Nat) : (dd (fuSeq (xs.take k))).length ≤ 6 := by
  refine pigeon _ idL (dd_nodup _ _ List.nodup_nil) (fun x hx => ?_)
  rcases (dd_mem _ _ x).1 hx with h1 | h1
  · cases h1
  · unfold fuSeq at h1
    rw [List.mem_flatMap] at h1
    obtain ⟨c, hc, hac⟩ := h1
    obtain ⟨h1, h2⟩ := okC_col (h.2.2 c (List.mem_of_mem_take hc))
    simp at hac
    rcases hac with rfl | rfl
    · exact col_mem.1 h1
    · exact col_mem.1 h2

/-! ### FirstUse -/
theorem two_in (W : World) (a b : Int) : IntO W.heap.size (W.heap.size + 1) (W.alloc (.cells #[.int .i64 a, .int .i64 b] 3)) (.slice (some ⟨W.heap.size, 0, none⟩) 2 2) [a, b] := by
  refine ⟨by simp, .inr ⟨W.heap.size, 0, 2, rfl, Nat.le_refl _, Nat.lt_succ_self _, fun i hi => ?_⟩⟩
  have : i = 0 ∨ i = 1 := by simp at hi; omega
  rcases this with rfl | rfl <;> exact ⟨by go_simp, by go_simp⟩
set_option maxRecDepth 100000 in
set_option maxHeartbeats 1000000 in
theorem ImplFirstUse_no (n : Int) (a : Option Addr) (len cap : Nat) (w : World)
    (HBk : Calls Tryz.prog 32 #[.agg #[.int .i64 n, .slice a len cap]] (w.alloc (.cells #[.int .i64 n, .slice a len cap] 26)) fun e w' => e = .returned (.bool false) ∧ Below (w.alloc (.cells #[.int .i64 n, .slice a len cap] 26)).heap.size (w.alloc (.cells #[.int .i64 n, .slice a len cap] 26)) w') :
    Calls Tryz.prog 52 #[.agg #[.int .i64 n, .slice a len cap]] w (FreshI [] w) := by
  have C := Lib.hid HBk
  clear HBk
  go_enter Tryz.func52, Tryz.ntmps52
  go_wp2_with fail
  refine C.out.mono ?_
  rintro e w1 ⟨rfl, hb1⟩
  have HB1 := Lib.hid (bel_c (bel0 w (.cells #[.int .i64 n, .slice a len cap] 26)) (Nat.le_refl _) hb1)
  clear hb1 C
  go_wp2_with fail
  go_ret
  exact ⟨_, rfl, ⟨by simp, .inl ⟨rfl, _, _, rfl⟩⟩, HB1.out⟩
set_option maxRecDepth 100000 in
set_option maxHeartbeats 1000000 in
theorem ImplFirstUse_any (lo hi : Nat) (n : Int) (v : Value) (xs : List C3) (w : World) (r : CellIn lo hi w v xs) (hhi : hi ≤ w.heap.size) : Calls Tryz.prog 52 #[.agg #[.int .i64 n, v]] w (FreshI (fuAns n xs) w) := by
  obtain ⟨a, cap, rfl⟩ := r.form
  have HR := Lib.hid (fun W (hb : Below w.heap.size w W) => r.below (hb.mono hhi))
  have hl := r.1
  clear r
  by_cases hb : BlkOk n xs
  · rw [fu_yes hb]
    have HB := Lib.hid hb
    have hx16 := (blk_len hb).2
    clear hb
    go_enter Tryz.func52, Tryz.ntmps52
    go_wp2_with fail
    refine (ImplBlockOk_yes lo hi n _ xs _ (HR.out _ (bel0 w _)) (by simp; omega) HB.out).mono ?_
    rintro e w1 ⟨rfl, hb1⟩
    have p1 := kept (p := ⟨w.heap.size, 1, none⟩) (x := .slice a xs.length cap) hb1 (by go_simp)
    have HB1 := Lib.hid (bel_c (bel0 w (.cells #[.int .i64 n, .slice a xs.length cap] 26)) (Nat.le_refl _) hb1)
    have hs1 : w.heap.size + 1 ≤ w1.heap.size := by have := hb1.size; simpa using this
    clear hb1
    go_wp2_with fail
    clear p1
    have HOW : Hid (OwnI w.heap.size w1 (.slice none 0 0) (dd (fuSeq (xs.take 0)))) := Lib.hid (by show OwnI _ _ _ (dd (fuSeq [])); exact OwnI.none _ _)
    go_loopw [3, 12] (fun q i wr => ∃ k : Nat, k ≤ xs.length ∧ i = .int .i64 k ∧ Hid (OwnI w.heap.size wr q (dd (fuSeq (xs.take k)))) ∧ Hid (Below w.heap.size w wr) ∧ w.heap.size ≤ wr.heap.size) (fun _ i _ => xs.length - (intOf i).toNat)
    case atStart => exact ⟨0, Nat.zero_le _, rfl, HOW, HB1, by omega⟩
    case round =>
      clear HOW HB1
      obtain ⟨k, hk, rfl, hown, hbel, hsz⟩ := hrel
      by_cases hlt : k < xs.length
      · have hds := dd_short HB.out k
        have HN := Lib.hid (show dd (fuSeq (xs.take (k + 1))) = [(xs.getD k C3.zero).a, (xs.getD k C3.zero).b].foldl ddStep (dd (fuSeq (xs.take k))) by rw [seq_take xs hlt, dd_two])
        obtain ⟨g, rfl, _, _, ⟨e0, e1, e2⟩, _⟩ := (HR.out _ hbel.out).at (Below.refl _ _) hlt
        generalize xs.getD k C3.zero = c at e0 e1 e2 HN
        obtain ⟨cs, ca, cb⟩ := c
        dsimp only at e0 e1 e2 HN
        generalize dd (fuSeq (xs.take k)) = ds at hown hds HN
        have hbb := bel_n (bel0 wr (.cells #[.int .i64 cs, .int .i64 ca, .int .i64 cb] 50)) (Nat.le_refl _) (.cells #[.int .i64 ca, .int .i64 cb] 3)
        have hfr : ∀ q : Value, OwnI w.heap.size wr q ds → Far (wr.heap.size + 1) (wr.heap.size + 1 + 1) q := fun q ho k hk => .inl (by have := ho.lt k hk; omega)
        have C := Lib.hid (fun q (ho : OwnI w.heap.size wr q ds) => AppendNew_any w.heap.size (wr.heap.size + 1) (wr.heap.size + 1 + 1) q (.slice (some ⟨wr.heap.size + 1, 0, none⟩) 2 2) ds [ca, cb] ((wr.alloc (.cells #[.int .i64 cs, .int .i64 ca, .int .i64 cb] 50)).alloc (.cells #[.int .i64 ca, .int .i64 cb] 3)) (ho.below hbb) (by simpa using two_in (wr.alloc (.cells #[.int .i64 cs, .int .i64 ca, .int .i64 cb] 50)) ca cb) (by simp) (by simp; omega) (hfr q ho) (by simp; omega))
        rw [← HN.out] at C
        have C' := Lib.hid (C.out _ hown.out)
        have HB2 := Lib.hid (hbel.out.trans (hbb.mono hsz))
        clear C hfr hbb hown hbel HN
        go_wp2_with fail
        refine C'.out.mono ?_
        rintro e w2 ⟨v2, rfl, hown2, hb2⟩
        have HO2 := Lib.hid hown2
        have HB3 := Lib.hid (HB2.out.trans hb2)
        have hsz2 := HB3.out.size
        clear hown2 hb2 C'
        go_wp2_with fail
        go_roundw
        case rel => exact ⟨k + 1, by omega, by go_num, HO2, HB3, hsz2⟩
        case measure => simp [intOf] <;> omega
      · obtain rfl : k = xs.length := by omega
        rw [List.take_length] at hown
        have hds := dd_short HB.out xs.length
        rw [List.take_length] at hds
        have CK := Lib.hid (Kept_any wr)
        have HX := Lib.hid (fuD_exch HB.out)
        have HU := Lib.hid (fuD_und HB.out)
        have CA := Lib.hid (fun (vl : Value) (w2 : World) (hin : IntIn wr.heap.size w2.heap.size w2 vl idL) (hb2 : Below wr.heap.size wr w2) => AppendNew_any w.heap.size wr.heap.size w2.heap.size _ vl (dd (fuSeq xs)) idL w2 (hown.out.below hb2) hin.o (Nat.le_refl _) (Nat.le_trans hsz hb2.size) (fun k hk => .inl (hown.out.lt k hk)) (by have : idL.length = 6 := rfl; omega))
        rw [fuD_two] at CA
        clear hown hds
        go_wp2_with fail
        refine CK.out.mono ?_
        rintro e w2 ⟨v2, rfl, hin2, hb2⟩
        have CA2 := Lib.hid (CA.out _ _ hin2 hb2)
        have HB2 := Lib.hid (bel_c hbel.out (Nat.le_refl _) hb2)
        clear CA hin2 hb2 CK
        go_wp2_with fail
        refine CA2.out.mono ?_
        rintro e w3 ⟨v3, rfl, hown3, hb3⟩
        have hin3 := hown3.row (by rw [HX.out.1.1]; decide)
        have CN := Lib.hid (Number_any w.heap.size w3.heap.size v3 _ w3 hin3.o (Nat.le_refl _) HX.out)
        rw [HU.out] at CN
        have HB3 := Lib.hid (HB2.out.trans hb3)
        clear hown3 hb3 hin3 CA2
        go_wp2_with fail
        refine CN.out.mono ?_
        rintro e w4 ⟨v4, rfl, hin4, hb4⟩
        have HI := Lib.hid (hin4.wide HB3.out.size (Nat.le_refl _))
        have HB4 := Lib.hid (bel_c HB3.out (Nat.le_refl _) hb4)
        clear hin4 hb4
        go_wp2_with fail
        go_ret
        exact ⟨_, rfl, HI.out, HB4.out⟩
  · rw [fu_no hb]
    exact ImplFirstUse_no n a xs.length cap w (ImplBlockOk_no lo hi n _ xs _ (HR.out _ (bel0 w _)) (by simp; omega) hb)

/-! ### A cut row -/
theorem ImplBlockOk_len (n : Int) (a : Option Addr) (k cap : Nat) (w : World) (n0 : 1 ≤ n) (n1 : n ≤ 4) (_hk : k ≤ 1048576) (h2 : ¬ (k : Int) = n * n) :
    Calls Tryz.prog 32 #[.agg #[.int .i64 n, .slice a k cap]] w fun e w' => e = .returned (.bool false) ∧ Below w.heap.size w w' := by
  obtain ⟨hw, s0, s1⟩ := sq_wrap n0 n1
  have e2 := ne_bool h2
  clear h2 s0 s1
  go_enter Tryz.func32, Tryz.ntmps32
  go_wp2_with fail
  refine (Size_yes _ _ n0 n1).mono ?_
  rintro e w' ⟨rfl, rfl⟩
  go_wp2_with fail
  go_ret
  exact ⟨rfl, (Below.refl _ _).alloc (Nat.le_refl _) _⟩
theorem ImplFirstUse_row (lo hi : Nat) (n : Int) (v : Value) (xs : List C3) (w : World) (r : RowX lo hi n w v xs) (hhi : hi ≤ w.heap.size) : Calls Tryz.prog 52 #[.agg #[.int .i64 n, v]] w (FreshI (fuAns n xs) w) := by
  rcases r with r | ⟨⟨n0, n1, hk⟩, r⟩
  · exact ImplFirstUse_any lo hi n v xs w r hhi
  · obtain ⟨a, cap, rfl⟩ := r.form
    rw [fu_no (fun h => cut_len hk h.2.1)]
    exact ImplFirstUse_no n a xs.length cap w (ImplBlockOk_len n a xs.length cap _ n0 n1 r.1 (cut_len hk))

end Go.Proofs.YtfidnhhlcdbaeaaGreatDoor

namespace Go.Proofs.YtfidnhhlcdbaeaaGreatDoor
open Go.ChangeShapes Go.WideShapes Go.ChangeAt Go.RowKit

theorem bel_set3 (u : World) (p : Nat) (x y z : Value) : Below p u (((u.setCell ⟨p, 0, none⟩ x).setCell ⟨p, 1, none⟩ y).setCell ⟨p, 2, none⟩ z) := (((Below.refl p u).setCell (p := ⟨p, 0, none⟩) (Nat.le_refl _) x).setCell (p := ⟨p, 1, none⟩) (Nat.le_refl _) y).setCell (p := ⟨p, 2, none⟩) (Nat.le_refl _) z
set_option maxRecDepth 100000 in
set_option maxHeartbeats 2000000 in
theorem SpecExchangeCell_any (lo hi : Nat) (s a b : Int) (v : Value) (zs : List Int) (w : World) (r : IntO lo hi w v zs) (hhi : hi ≤ w.heap.size) :
    Calls Tryz.prog 31 #[.agg #[.int .i64 s, .int .i64 a, .int .i64 b], v] w fun e w' => e = .returned (.agg #[.int .i64 (exZ zs ⟨s, a, b⟩).s, .int .i64 (exZ zs ⟨s, a, b⟩).a, .int .i64 (exZ zs ⟨s, a, b⟩).b]) ∧ Below w.heap.size w w' := by
  obtain ⟨al, cap, rfl⟩ := r.form
  have HR := Lib.hid (fun W (hb : Below w.heap.size w W) => r.below (hb.mono hhi))
  have hl := r.1
  clear r
  have HK := Lib.hid (SpecTurnCell_keep s a b w)
  by_cases hc : OkC s a b
  · have HC := Lib.hid hc
    by_cases hz : LstOk zs
    · have HL := Lib.hid hz
      have hl6 : zs.length ≤ 6 := by rw [hz.1]; exact Nat.le_refl _
      have hl6' : 6 ≤ zs.length := by rw [hz.1]; exact Nat.le_refl _
      rw [exZ_yes (c := ⟨s, a, b⟩) hc hz]
      obtain ⟨sp1, sp2, sp3⟩ := sp_exC (c := ⟨s, a, b⟩) hz hc
      have ha : 0 ≤ a ∧ a ≤ 5 := by unfold OkC at hc; omega
      have hb5 : 0 ≤ b ∧ b ≤ 5 := by unfold OkC at hc; omega
      obtain ⟨i, rfl⟩ : ∃ i : Nat, a = i := ⟨a.toNat, by omega⟩
      obtain ⟨j, rfl⟩ : ∃ j : Nat, b = j := ⟨b.toNat, by omega⟩
      have CS := Lib.hid (fun u => SpecSplit_any s (zs.getD i 0) (zs.getD j 0) u)
      dsimp only [atL, Int.toNat_natCast] at sp1 sp2 sp3
      rw [sp1, sp2, sp3] at CS
      clear sp1 sp2 sp3 hc hz
      generalize exC zs ⟨s, i, j⟩ = z at CS ⊢
      have hi5 : i < 6 := by omega
      have hj5 : j < 6 := by omega
      go_enter Tryz.func31, Tryz.ntmps31
      go_wp2_with fail
      refine (SpecOk_yes _ _ _ _ HC.out).mono ?_
      rintro e w1 ⟨rfl, hb⟩
      obtain ⟨⟨c0, c1, c2⟩, ⟨d0, d1, d2⟩, ⟨f0, f1, f2⟩, B⟩ := HK.out w1 hb
      clear hb HK
      go_wp2_with fail
      refine (SpecListOk_any lo hi _ zs _ (HR.out _ B)).mono ?_
      rw [← lst_yes HL.out]
      rintro e w' ⟨rfl, hw⟩
      have hw' := hw.symm
      subst hw'
      clear hw
      obtain ⟨g, o, rfl, hg1, hg2, e0, _⟩ := (HR.out _ B).at (Below.refl _ _) (i := i) (by omega)
      obtain ⟨g2, o2, hge, _, _, e1, _⟩ := (HR.out _ B).at (Below.refl _ _) (i := j) (by omega)
      simp only [Option.some.injEq, Addr.mk.injEq, and_true] at hge
      obtain ⟨rfl, rfl⟩ := hge
      generalize zs.getD i 0 = x at e0 CS
      generalize zs.getD j 0 = y at e1 CS
      have hil : (i : Int) < (zs.length : Int) := by omega
      have hjl : (j : Int) < (zs.length : Int) := by omega
      have hS0 : Hid (w1.drew.cell? ⟨w.heap.size, 0, none⟩ = some (.int .i64 s) ∧ w1.drew.cell? ⟨w.heap.size, 1, none⟩ = some (.int .i64 (i : Nat)) ∧ w1.drew.cell? ⟨w.heap.size, 2, none⟩ = some (.int .i64 (j : Nat)) ∧ w1.drew.cell? ⟨g, o + i, none⟩ = some (.int .i64 x) ∧ w1.drew.cell? ⟨g, o + j, none⟩ = some (.int .i64 y)) := Lib.hid ⟨c0, c1, c2, e0, e1⟩
      have HB := Lib.hid (bel_draw B)
      have KP : Hid (∀ u v, Below (w.heap.size + 1) u v → (u.cell? ⟨w.heap.size, 0, none⟩ = some (.int .i64 s) ∧ u.cell? ⟨w.heap.size, 1, none⟩ = some (.int .i64 (i : Nat)) ∧ u.cell? ⟨w.heap.size, 2, none⟩ = some (.int .i64 (j : Nat)) ∧ u.cell? ⟨g, o + i, none⟩ = some (.int .i64 x) ∧ u.cell? ⟨g, o + j, none⟩ = some (.int .i64 y)) → (v.cell? ⟨w.heap.size, 0, none⟩ = some (.int .i64 s) ∧ v.cell? ⟨w.heap.size, 1, none⟩ = some (.int .i64 (i : Nat)) ∧ v.cell? ⟨w.heap.size, 2, none⟩ = some (.int .i64 (j : Nat)) ∧ v.cell? ⟨g, o + i, none⟩ = some (.int .i64 x) ∧ v.cell? ⟨g, o + j, none⟩ = some (.int .i64 y))) := Lib.hid (fun u v hb h => ⟨(hb.cell (p := ⟨w.heap.size, 0, none⟩) (Nat.lt_succ_self _)).trans h.1, (hb.cell (p := ⟨w.heap.size, 1, none⟩) (Nat.lt_succ_self _)).trans h.2.1, (hb.cell (p := ⟨w.heap.size, 2, none⟩) (Nat.lt_succ_self _)).trans h.2.2.1, (hb.cell (p := ⟨g, o + i, none⟩) (by show g < _; omega)).trans h.2.2.2.1, (hb.cell (p := ⟨g, o + j, none⟩) (by show g < _; omega)).trans h.2.2.2.2⟩)
      have HD := Lib.hid (⟨⟨d0, d1, d2⟩, f0, f1, f2⟩ : (_ ∧ _ ∧ _) ∧ _ ∧ _ ∧ _)
      have hsz : w.heap.size + 1 ≤ w1.drew.heap.size := by have := lt_of_cell d0; simp at this; show _ ≤ w1.heap.size; omega
      clear c0 c1 c2 e0 e1 d0 d1 d2 f0 f1 f2 B
      go_wp2_with fail
      (try simp only [List.append_eq, List.cons_append, List.nil_append])
      have hS := hS0.out
      clear hS0
      refine reg_begin (fun u => u.cell? ⟨w.heap.size, 0, none⟩ = some (.int .i64 s) ∧ u.cell? ⟨w.heap.size, 1, none⟩ = some (.int .i64 (i : Nat)) ∧ u.cell? ⟨w.heap.size, 2, none⟩ = some (.int .i64 (j : Nat)) ∧ u.cell? ⟨g, o + i, none⟩ = some (.int .i64 x) ∧ u.cell? ⟨g, o + j, none⟩ = some (.int .i64 y)) (by kernel_rfl) hS ?_
      refine reg_take 0 (v := ?_) rfl (by kernel_rfl) (by kernel_rfl) (by kernel_rfl) (fun _ _ _ h => h) (by rfl) (by intro w hSw; (try dsimp only at hSw); go_simp; first | done | with_reducible rfl) hS ?_
      (try simp only [Act.put, List.setIfInBounds_toArray, List.set_cons_zero, List.set_cons_succ])
      refine reg_take 1 (v := ?_) rfl (by kernel_rfl) (by kernel_rfl) (by kernel_rfl) (fun _ _ _ h => h) (by rfl) (by intro w hSw; (try dsimp only at hSw); go_simp; first | done | with_reducible rfl) hS ?_
      (try simp only [Act.put, List.setIfInBounds_toArray, List.set_cons_zero, List.set_cons_succ])
      refine reg_take 2 (v := ?_) rfl (by kernel_rfl) (by kernel_rfl) (by kernel_rfl) (fun _ _ _ h => h) (by rfl) (by intro w hSw; (try dsimp only at hSw); go_simp; first | done | with_reducible rfl) hS ?_
      (try simp only [Act.put, List.setIfInBounds_toArray, List.set_cons_zero, List.set_cons_succ])
      refine reg_take 3 (v := ?_) rfl (by kernel_rfl) (by kernel_rfl) (by kernel_rfl) (fun _ _ _ h => h) (by rfl) (by intro w hSw; (try dsimp only at hSw); go_simp; first | done | with_reducible rfl) hS ?_
      (try simp only [Act.put, List.setIfInBounds_toArray, List.set_cons_zero, List.set_cons_succ])
      refine reg_take 4 (v := ?_) rfl (by kernel_rfl) (by kernel_rfl) (by kernel_rfl) (fun _ _ _ h => h) (by rfl) (by intro w hSw; (try dsimp only at hSw); go_simp; first | done | with_reducible rfl) hS ?_
      (try simp only [Act.put, List.setIfInBounds_toArray, List.set_cons_zero, List.set_cons_succ])
      refine reg_take 5 (v := ?_) rfl (by kernel_rfl) (by kernel_rfl) (by kernel_rfl) (fun _ _ _ h => h) (by rfl) (by intro w hSw; (try dsimp only at hSw); go_simp; first | done | with_reducible rfl) hS ?_
      (try simp only [Act.put, List.setIfInBounds_toArray, List.set_cons_zero, List.set_cons_succ])
      refine reg_take 6 (v := ?_) rfl (by kernel_rfl) (by kernel_rfl) (by kernel_rfl) (fun _ _ _ h => h) (by rfl) (by intro w hSw; (try dsimp only at hSw); go_simp; first | done | with_reducible rfl) hS ?_
      (try simp only [Act.put, List.setIfInBounds_toArray, List.set_cons_zero, List.set_cons_succ])
      refine reg_take 7 (v := ?_) rfl (by kernel_rfl) (by kernel_rfl) (by kernel_rfl) (fun _ _ _ h => h) (by rfl) (by intro w hSw; (try dsimp only at hSw); go_simp; first | done | with_reducible rfl) hS ?_
      (try simp only [Act.put, List.setIfInBounds_toArray, List.set_cons_zero, List.set_cons_succ])
      refine reg_take 8 (v := ?_) rfl (by kernel_rfl) (by kernel_rfl) (by kernel_rfl) (fun _ _ _ h => h) (by rfl) (by intro w hSw; (try dsimp only at hSw); go_simp; first | done | with_reducible rfl) hS ?_
      (try simp only [Act.put, List.setIfInBounds_toArray, List.set_cons_zero, List.set_cons_succ])
      refine reg_take 9 (v := ?_) rfl (by kernel_rfl) (by kernel_rfl) (by kernel_rfl) (fun _ _ _ h => h) (by rfl) (by intro w hSw; (try dsimp only at hSw); go_simp; first | done | with_reducible rfl) hS ?_
      (try simp only [Act.put, List.setIfInBounds_toArray, List.set_cons_zero, List.set_cons_succ])
      refine reg_take 10 (v := ?_) rfl (by kernel_rfl) (by kernel_rfl) (by kernel_rfl) (fun _ _ _ h => h) (by rfl) (by intro w hSw; (try dsimp only at hSw); go_simp; first | done | with_reducible rfl) hS ?_
      (try simp only [Act.put, List.setIfInBounds_toArray, List.set_cons_zero, List.set_cons_succ])
      refine reg_take 11 (v := ?_) rfl (by kernel_rfl) (by kernel_rfl) (by kernel_rfl) (fun _ _ _ h => h) (by rfl) (by intro w hSw; (try dsimp only at hSw); go_simp; first | done | with_reducible rfl) hS ?_
      (try simp only [Act.put, List.setIfInBounds_toArray, List.set_cons_zero, List.set_cons_succ])
      refine reg_call 12 rfl (by kernel_rfl) (by rfl) (fun K hK => ?_)
      go_simp
      go_at_call 53
      refine (CS.out _).mono ?_
      rintro e w2 ⟨rfl, hb2⟩
      have HB2 := Lib.hid (bel_c HB.out (Nat.le_refl _) hb2)
      obtain ⟨⟨d0, d1, d2⟩, f0, f1, f2⟩ := HD.out
      have q0 := kept (p := ⟨w.heap.size + 1, 0, none⟩) hb2 d0
      have q1 := kept (p := ⟨w.heap.size + 1, 1, none⟩) hb2 d1
      have q2 := kept (p := ⟨w.heap.size + 1, 2, none⟩) hb2 d2
      have r0 := keptF (p := ⟨w.heap.size + 1, 0, none⟩) hb2 d0 f0
      have r1 := keptF (p := ⟨w.heap.size + 1, 1, none⟩) hb2 d1 f1
      have r2 := keptF (p := ⟨w.heap.size + 1, 2, none⟩) hb2 d2 f2
      have HS := Lib.hid (KP.out _ _ (hb2.mono hsz) hS)
      clear hb2 d0 d1 d2 f0 f1 f2 HD
      refine hK.out _ _ HS.out (fun hS' => ?_)
      clear HS
      clear hK K
      replace hS := hS'
      clear hS'
      (try simp only [Act.put, List.setIfInBounds_toArray, List.set_cons_zero, List.set_cons_succ])
      refine reg_call 13 rfl (by kernel_rfl) (by rfl) (fun K hK => ?_)
      have HS := Lib.hid (KP.out w2 (((w2.setCell ⟨w.heap.size + 1, 0, none⟩ (.int .i64 z.s)).setCell ⟨w.heap.size + 1, 1, none⟩ (.int .i64 z.a)).setCell ⟨w.heap.size + 1, 2, none⟩ (.int .i64 z.b)) (bel_set3 w2 (w.heap.size + 1) _ _ _) hS)
      go_simp
      refine hK.out _ _ HS.out (fun hS' => ?_)
      clear HS hS' hK K hS
      (try simp only [Act.put, List.setIfInBounds_toArray, List.set_cons_zero, List.set_cons_succ])
      refine wpAnyH_done (by kernel_rfl) ?_ _
      go_wp2_with fail
      refine bodyPost_ret (v := .agg #[.int .i64 z.s, .int .i64 z.a, .int .i64 z.b]) (by simp [results, Tryz.results31, go_sem, q0, q1, q2]) rfl ⟨rfl, ?_⟩
      refine Below.setCell (Below.setCell (Below.setCell HB2.out ?_ _) ?_ _) ?_ _ <;> (simp <;> omega)
    · have HL := Lib.hid hz
      rw [exZ_no (c := ⟨s, a, b⟩) (fun h => hz h.2)]
      clear hc hz
      show Calls _ _ _ _ fun e w' => e = .returned (.agg #[.int .i64 0, .int .i64 0, .int .i64 0]) ∧ _
      go_enter Tryz.func31, Tryz.ntmps31
      go_wp2_with fail
      refine (SpecOk_yes _ _ _ _ HC.out).mono ?_
      rintro e w1 ⟨rfl, hb⟩
      obtain ⟨⟨c0, c1, c2⟩, ⟨d0, d1, d2⟩, ⟨f0, f1, f2⟩, B⟩ := HK.out w1 hb
      clear hb HK
      go_wp2_with fail
      refine (SpecListOk_any lo hi _ zs _ (HR.out _ B)).mono ?_
      rw [← lst_no HL.out]
      rintro e w' ⟨rfl, rfl⟩
      go_wp2_with fail
      refine bodyPost_ret (v := .agg #[.int .i64 0, .int .i64 0, .int .i64 0]) (by simp [results, Tryz.results31, go_sem, d0, d1, d2]) rfl ⟨rfl, ?_⟩
      refine Below.setCell (Below.setCell (Below.setCell B ?_ _) ?_ _) ?_ _ <;> (simp <;> omega)
  · have HC := Lib.hid hc
    rw [exZ_no (c := ⟨s, a, b⟩) (fun h => hc h.1)]
    clear hc
    show Calls _ _ _ _ fun e w' => e = .returned (.agg #[.int .i64 0, .int .i64 0, .int .i64 0]) ∧ _
    go_enter Tryz.func31, Tryz.ntmps31
    go_wp2_with fail
    refine (SpecOk_no _ _ _ _ HC.out).mono ?_
    rintro e w1 ⟨rfl, hb⟩
    obtain ⟨⟨c0, c1, c2⟩, ⟨d0, d1, d2⟩, ⟨f0, f1, f2⟩, B⟩ := HK.out w1 hb
    clear hb HK
    go_wp2_with fail
    refine bodyPost_ret (v := .agg #[.int .i64 0, .int .i64 0, .int .i64 0]) (by simp [results, Tryz.results31, go_sem, d0, d1, d2]) rfl ⟨rfl, ?_⟩
    refine Below.setCell (Below.setCell (Below.setCell B ?_ _) ?_ _) ?_ _ <;> (simp <;> omega)

end Go.Proofs.YtfidnhhlcdbaeaaGreatDoor
