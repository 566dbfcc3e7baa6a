/- Blocks: DrawBlock, and small helpers of the laws. Exchanges: DrawExchangeBlock: a block, valid or not, and a list. Exchanges: the model's BlockOk on a block as drawn, cut or not; the program's contracts that FnExchanges wants of a cut block. Exchanges: the program's FirstUse. -/
import Derived.Test.YtbnokmlmajcibaaM09
import Derived.Test.YtbnokmlmajcibaaM02
import Derived.Deep.QuietTactic
import Derived.Test.YtbnokmlmajcibaaM14
import Derived.Test.YtbnokmlmajcibaaM13

namespace Go.Proofs.Ytbnokmlmajcibaa
open Go.ChangeShapes Go.WideShapes Go.ChangeAt Go.RowKit

theorem Src.up2 {w : World} {b b' : Nat} {a : Option Addr} {len : Nat} (h : Src w b a len) (hb : b ≤ b') : Src w b' a len := by
  obtain ⟨hm, h | ⟨xb, xo, ha, hlt, hc⟩⟩ := h
  · exact ⟨hm, .inl h⟩
  · exact ⟨hm, .inr ⟨xb, xo, ha, Nat.lt_of_lt_of_le hlt hb, hc⟩⟩

/-- A valid block is handed back. -/
def GivenB (w : World) (e : Ending) (w' : World) : Prop :=
  ∃ (n : Int) (v : Value) (xs : List C3), BlkOk n xs ∧ e = .returned (.agg #[.int .i64 n, v]) ∧ CellIn w.heap.size w'.heap.size w' v xs ∧ Below w.heap.size w w'

set_option maxHeartbeats 400000 in
theorem DrawBlock_any (a : Option Addr) (len cap : Nat) (w : World) (hs : Src w w.heap.size a len) (hlen : len ≤ 1048576) :
    Calls Try.prog 11 #[.slice a len cap] w (GivenB w) := by
  have HS := Lib.hid (fun o => (hs.but ((But.refl _ _).alloc o)).up2 (b' := w.heap.size + 1) (by omega))
  clear hs
  go_enter Try.func11, Try.ntmps11
  go_wp2_with fail
  refine (New_any a len cap _ (by simpa using HS.out _) hlen).mono ?_
  rintro e w1 ⟨rfl, hc1, hb1⟩
  go_wp2_with fail
  refine (BlockDraw_any _ a len cap _ (by simpa using hc1)).mono ?_
  rintro e w2 ⟨n, v, xs, hv, rfl, hin, hc2, hb2⟩
  obtain ⟨av, cv, rfl⟩ := hin.form
  have z1 : w.heap.size + 1 ≤ w1.heap.size := by have := hb1.size; simpa using this
  have hb3 : Below (w.heap.size + 1) (w.alloc (.cells #[.int .i64 0, .slice none 0 0] 26)) w2 := (hb1.mono (by simp)).trans (hb2.below (Nat.le_refl _) z1)
  have P := (BoxB.new w (.int .i64 0) (.slice none 0 0) 26).below hb3 (Nat.lt_succ_self _)
  obtain ⟨p0, p1, f0, f1⟩ := P
  have hb5 : Below w.heap.size w w2 := (bel0 w _).trans (hb3.mono (by omega))
  have HI := Lib.hid hin
  have HV := Lib.hid hv
  clear hb1 hb2 hb3 hc1 hc2 hin hv
  go_wp2_with fail
  refine bodyPost_ret (v := .agg #[.int .i64 n, .slice av xs.length cv]) (by simp [results, Try.results11, go_sem, p0, p1]) rfl ⟨n, _, xs, HV.out, rfl, ?_, ?_⟩
  · refine CellIn.wide (lo := w1.heap.size) (hi := w2.heap.size) ?_ (by omega) (by simp [World.setCell])
    refine CellIn.set_far (CellIn.set_far HI.out ?_ _) ?_ _ <;> (simp <;> omega)
  · refine Below.setCell (Below.setCell hb5 ?_ _) ?_ _ <;> exact Nat.le_refl _

/-- A number from 0 to 255 is handed back. -/
def ByteV (w : World) (e : Ending) (w' : World) : Prop := ∃ x : Int, 0 ≤ x ∧ x ≤ 255 ∧ e = .returned (.int .i64 x) ∧ w' = w
theorem At_any (a : Option Addr) (len cap : Nat) (i : Int) (w : World) (b : Nat) (hs : Src w b a len) (h0 : 0 ≤ i) (h1 : i ≤ 1000000) :
    Calls Try.prog 14 #[.slice a len cap, .int .i64 i] w (ByteV w) := by
  obtain ⟨hm, hs⟩ := hs
  unfold maxLen at hm
  rcases hs with h | ⟨xb, xo, rfl, _, hc⟩
  · subst h
    go_enter Try.func14, Try.ntmps14
    go_wp2_with fail
    go_ret
    exact ⟨0, by omega, by omega, rfl, rfl⟩
  · by_cases hl : len = 0
    · subst hl
      clear hc
      go_enter Try.func14, Try.ntmps14
      go_wp2_with fail
      go_ret
      exact ⟨0, by omega, by omega, rfl, rfl⟩
    · have hz : ((len : Int) == 0) = false := by simp; exact hl
      have hz2 : ¬ (len : Int) = 0 := by omega
      obtain ⟨j, hj⟩ : ∃ j : Nat, (i * 5 + 1).tmod (len : Int) = j := ⟨((i * 5 + 1).tmod (len : Int)).toNat, by have := Int.tmod_nonneg (len : Int) (show 0 ≤ i * 5 + 1 by omega); omega⟩
      have hjl : j < len := by have := Int.tmod_lt_of_pos (i * 5 + 1) (show (0 : Int) < len by omega); omega
      obtain ⟨x, hx, x0, x1⟩ := hc j hjl
      have w1 : IntKind.i64.wrap (i * 5) = i * 5 := by rw [IntKind.wrap_i64]; omega
      have w2 : IntKind.i64.wrap (i * 5 + 1) = i * 5 + 1 := by rw [IntKind.wrap_i64]; omega
      clear hc
      go_enter Try.func14, Try.ntmps14
      go_wp2_with fail
      go_ret
      exact ⟨x, x0, x1, rfl, rfl⟩

end Go.Proofs.Ytbnokmlmajcibaa

namespace Go.Proofs.Ytbnokmlmajcibaa
open Go.ChangeShapes Go.WideShapes Go.ChangeAt Go.RowKit

/-- A row of as many cells as the block has places or any other number, or a cut row. -/
def RowX (lo hi : Nat) (n : Int) (u : World) (v : Value) (xs : List C3) : Prop :=
  CellIn lo hi u v xs ∨ ((1 ≤ n ∧ n ≤ 4 ∧ (xs.length : Int) + 1 = n * n) ∧ CellO lo hi u v xs)
theorem RowX.form {lo hi : Nat} {n : Int} {w : World} {v : Value} {xs : List C3} (h : RowX lo hi n w v xs) : ∃ a cap, v = .slice a xs.length cap := by
  rcases h with h | ⟨_, h⟩
  · exact h.form
  · exact h.form
theorem RowX.below {lo hi : Nat} {n : Int} {w w' : World} {v : Value} {xs : List C3} (h : RowX lo hi n w v xs) (hb : Below hi w w') : RowX lo hi n w' v xs := by
  rcases h with h | ⟨k, h⟩
  · exact .inl (h.below hb)
  · exact .inr ⟨k, h.below hb⟩
theorem RowX.wide {lo hi lo' hi' : Nat} {n : Int} {w : World} {v : Value} {xs : List C3} (h : RowX lo hi n w v xs) (h1 : lo' ≤ lo) (h2 : hi ≤ hi') : RowX lo' hi' n w v xs := by
  rcases h with h | ⟨k, h⟩
  · exact .inl (h.wide h1 h2)
  · exact .inr ⟨k, h.wide h1 h2⟩
theorem RowX.set_far {lo hi : Nat} {n : Int} {w : World} {v : Value} {xs : List C3} (h : RowX lo hi n w v xs) {p : Addr} (hp : p.block < lo ∨ hi ≤ p.block) (x : Value) : RowX lo hi n (w.setCell p x) v xs := by
  rcases h with h | ⟨k, h⟩
  · exact .inl (h.set_out hp x)
  · exact .inr ⟨k, h.set_far hp x⟩
theorem CellO.but {lo hi b : Nat} {w w' : World} {v : Value} {xs : List C3} (h : CellO lo hi w v xs) (hb : But b w w') (hl : b < lo) (hh : hi ≤ w.heap.size) : CellO lo hi w' v xs := by
  obtain ⟨hl', h | ⟨g, k, cap, hv, hg, hlt, hc⟩⟩ := h
  · exact ⟨hl', .inl h⟩
  · refine ⟨hl', .inr ⟨g, k, cap, hv, hg, hlt, fun i hi => ?_⟩⟩
    have hg1 : g < w.heap.size := by omega
    have hg2 : g ≠ b := by omega
    obtain ⟨⟨e0, e1, e2⟩, f0, f1, f2⟩ := hc i hi
    exact ⟨⟨(hb.cell (p := ⟨g, _, none⟩) hg1 hg2).trans e0, (hb.cell (p := ⟨g, _, none⟩) hg1 hg2).trans e1, (hb.cell (p := ⟨g, _, none⟩) hg1 hg2).trans e2⟩,
      (hb.frozen (p := ⟨g, _, none⟩) hg1 hg2).trans f0, (hb.frozen (p := ⟨g, _, none⟩) hg1 hg2).trans f1, (hb.frozen (p := ⟨g, _, none⟩) hg1 hg2).trans f2⟩
theorem RowX.but {lo hi b : Nat} {n : Int} {w w' : World} {v : Value} {xs : List C3} (h : RowX lo hi n w v xs) (hb : But b w w') (hl : b < lo) (hh : hi ≤ w.heap.size) : RowX lo hi n w' v xs := by
  rcases h with h | ⟨k, h⟩
  · exact .inl (h.but hb hl hh)
  · exact .inr ⟨k, h.but hb hl hh⟩
theorem IntO.set_far {lo hi : Nat} {w : World} {v : Value} {zs : List Int} (h : IntO lo hi w v zs) {p : Addr} (hp : p.block < lo) (x : Value) : IntO lo hi (w.setCell p x) v zs := by
  obtain ⟨hl, h | ⟨g, o, cap, hv, hg, hlt, hc⟩⟩ := h
  · exact ⟨hl, .inl h⟩
  · refine ⟨hl, .inr ⟨g, o, cap, hv, hg, hlt, fun i hi => ⟨?_, by rw [World.frozen?_setCell]; exact (hc i hi).2⟩⟩⟩
    have hn : p ≠ ⟨g, o + i, none⟩ := fun e => by rw [e] at hp; simp at hp; omega
    rw [World.cell?_setCell_other _ _ _ _ hn]; exact (hc i hi).1
theorem Cur.set_far {w : World} {b : Nat} {a : Option Addr} {len cap : Nat} (h : Cur w b a len cap) {p : Addr} (hp : p.block ≠ b) (x : Value) (hs : Src (w.setCell p x) b a len) : Cur (w.setCell p x) b a len cap := by
  obtain ⟨k, h, hk, c0, c1, c2, f1, f2, _⟩ := h
  have hn : ∀ o : Nat, p ≠ ⟨b, o, none⟩ := fun o e => hp (by rw [e])
  exact ⟨k, h, hk, by rw [World.cell?_setCell_other _ _ _ _ (hn _)]; exact c0, by rw [World.cell?_setCell_other _ _ _ _ (hn _)]; exact c1, by rw [World.cell?_setCell_other _ _ _ _ (hn _)]; exact c2, by rw [World.frozen?_setCell]; exact f1, by rw [World.frozen?_setCell]; exact f2, hs⟩
theorem BoxB.store0 {p : Nat} {x y : Value} {u : World} (h : BoxB p x y u) (z : Value) : BoxB p z y (u.setCell ⟨p, 0, none⟩ z) := by
  obtain ⟨h0, h1, h2, h3⟩ := h
  exact ⟨World.cell?_setCell_same _ _ _ h0, (World.cell?_setCell_other _ _ _ _ (by simp)).trans h1, (World.frozen?_setCell _ _ _ _).trans h2, (World.frozen?_setCell _ _ _ _).trans h3⟩
/-- A block and a list are handed back. -/
def GivenX (w : World) (e : Ending) (w' : World) : Prop :=
  ∃ (n : Int) (v vl : Value) (xs : List C3) (zs : List Int), xs.length ≤ 16 ∧ NearL zs ∧ e = .returned (.tuple #[.agg #[.int .i64 n, v], vl]) ∧ RowX w.heap.size w'.heap.size n w' v xs ∧ IntO w.heap.size w'.heap.size w' vl zs ∧ Below w.heap.size w w'

end Go.Proofs.Ytbnokmlmajcibaa

namespace Go.Proofs.Ytbnokmlmajcibaa
open Go.ChangeShapes Go.WideShapes Go.ChangeAt Go.RowKit

/-- A block of a valid size with a number of cells that does not fit: BlockOk reads no cell. -/
theorem SpecBlockOk_len (n : Int) (a : Option Addr) (k cap : Nat) (w : World) (n0 : 1 ≤ n) (n1 : n ≤ 4) (_hk : k ≤ 1048576) (h2 : ¬ (k : Int) = n * n) :
    Calls Try.prog 46 #[.agg #[.int .i64 n, .slice a k cap]] w fun e w' => e = .returned (.bool false) ∧ Below w.heap.size w w' := by
  obtain ⟨hw, s0, s1⟩ := sq_wrap n0 n1
  have e2 := ne_bool h2
  clear h2 s0 s1
  go_enter Try.func46, Try.ntmps46
  go_wp2_with fail
  refine (In_yes _ _ _ _ n0 n1).mono ?_
  rintro e w' ⟨rfl, rfl⟩
  go_wp2_with fail
  go_ret
  exact ⟨rfl, (Below.refl _ _).alloc (Nat.le_refl _) _⟩
theorem cut_len {n : Int} {k : Nat} (h : (k : Int) + 1 = n * n) : ¬ (k : Int) = n * n := by omega
/-- What BlockOk answers of a drawn block. -/
theorem SpecBlockOk_row (lo hi : Nat) (n : Int) (v : Value) (xs : List C3) (w : World) (r : RowX lo hi n w v xs) (hhi : hi ≤ w.heap.size) :
    Calls Try.prog 46 #[.agg #[.int .i64 n, v]] w fun e w' => e = .returned (.bool (blkB n xs)) ∧ Below w.heap.size w w' := by
  rcases r with r | ⟨⟨n0, n1, hk⟩, r⟩
  · exact SpecBlockOk_any lo hi n v xs w r hhi
  · obtain ⟨a, cap, rfl⟩ := r.form
    have hno : blkB n xs = false := (blk_no (n := n) (xs := xs) (fun h => cut_len hk h.2.1)).symm
    rw [hno]
    exact SpecBlockOk_len n a xs.length cap w n0 n1 r.1 (cut_len hk)
end Go.Proofs.Ytbnokmlmajcibaa

namespace Go.Proofs.Ytbnokmlmajcibaa
open Go.ChangeShapes Go.WideShapes Go.ChangeAt Go.RowKit

/-! ### Numbers -/
theorem fuD_exch {n : Int} {xs : List C3} (h : BlkOk n xs) : Exch (fuD xs) := by
  have h6 : (fuD xs).length = 6 := by
    have h1 := fuD_len h
    have h2 := pigeon idL (fuD xs) (by decide) (fun a ha => fuD_mem xs (col_mem.2 ha))
    have : idL.length = 6 := rfl
    omega
  refine ⟨⟨h6, fun z hz => ?_⟩, fuD_nodup xs⟩
  rcases (dd_mem _ _ z).1 hz with h1 | h1
  · cases h1
  · rw [List.mem_append] at h1
    rcases h1 with h1 | h1
    · exact seq_col h z h1
    · exact col_mem.2 h1
theorem fuD_und {n : Int} {xs : List C3} (h : BlkOk n xs) : undL (fuD xs) = fuL xs := by
  refine lst_ext (und_ok (fuD_exch h)).1 (fuL_len h) (fun a ha => ?_)
  rw [und_at ha, fuL_at h ha]
theorem seq_take (xs : List C3) {k : Nat} (h : k < xs.length) : fuSeq (xs.take (k + 1)) = fuSeq (xs.take k) ++ [(xs.getD k C3.zero).a, (xs.getD k C3.zero).b] := by
  rw [List.take_succ_eq_append_getElem h]
  unfold fuSeq
  rw [List.flatMap_append]
  simp [List.getD, h]
theorem dd_two (t : List Int) (a b : Int) : dd (t ++ [a, b]) = [a, b].foldl ddStep (dd t) := by unfold dd; rw [List.foldl_append]
theorem fuD_two (xs : List C3) : idL.foldl ddStep (dd (fuSeq xs)) = fuD xs := by unfold fuD dd; rw [List.foldl_append]
theorem dd_short {n : Int} {xs : List C3} (h : BlkOk n xs) (k : Nat) : (dd (fuSeq (xs.take k))).length ≤ 6 := by
  refine pigeon _ idL (dd_nodup _ _ List.nodup_nil) (fun x hx => ?_)
  rcases (dd_mem _ _ x).1 hx with h1 | h1
  · cases h1
  · unfold fuSeq at h1
    rw [List.mem_flatMap] at h1
    obtain ⟨c, hc, hac⟩ := h1
    obtain ⟨h1, h2⟩ := okC_col (h.2.2 c (List.mem_of_mem_take hc))
    simp at hac
    rcases hac with rfl | rfl
    · exact col_mem.1 h1
    · exact col_mem.1 h2

/-! ### FirstUse -/
theorem two_in (W : World) (a b : Int) : IntO W.heap.size (W.heap.size + 1) (W.alloc (.cells #[.int .i64 a, .int .i64 b] 3)) (.slice (some ⟨W.heap.size, 0, none⟩) 2 2) [a, b] := by
  refine ⟨by simp, .inr ⟨W.heap.size, 0, 2, rfl, Nat.le_refl _, Nat.lt_succ_self _, fun i hi => ?_⟩⟩
  have : i = 0 ∨ i = 1 := by simp at hi; omega
  rcases this with rfl | rfl <;> exact ⟨by go_simp, by go_simp⟩
set_option maxRecDepth 100000 in
set_option maxHeartbeats 1000000 in
theorem ImplFirstUse_no (n : Int) (a : Option Addr) (len cap : Nat) (w : World)
    (HBk : Calls Try.prog 66 #[.agg #[.int .i64 n, .slice a len cap]] (w.alloc (.cells #[.int .i64 n, .slice a len cap] 26)) fun e w' => e = .returned (.bool false) ∧ Below (w.alloc (.cells #[.int .i64 n, .slice a len cap] 26)).heap.size (w.alloc (.cells #[.int .i64 n, .slice a len cap] 26)) w') :
    Calls Try.prog 71 #[.agg #[.int .i64 n, .slice a len cap]] w (FreshI [] w) := by
  have C := Lib.hid HBk
  clear HBk
  go_enter Try.func71, Try.ntmps71
  go_wp2_with fail
  refine C.out.mono ?_
  rintro e w1 ⟨rfl, hb1⟩
  have HB1 := Lib.hid (bel_c (bel0 w (.cells #[.int .i64 n, .slice a len cap] 26)) (Nat.le_refl _) hb1)
  clear hb1 C
  go_wp2_with fail
  go_ret
  exact ⟨_, rfl, ⟨by simp, .inl ⟨rfl, _, _, rfl⟩⟩, HB1.out⟩
set_option maxRecDepth 100000 in
set_option maxHeartbeats 1000000 in
theorem ImplFirstUse_any (lo hi : Nat) (n : Int) (v : Value) (xs : List C3) (w : World) (r : CellIn lo hi w v xs) (hhi : hi ≤ w.heap.size) : Calls Try.prog 71 #[.agg #[.int .i64 n, v]] w (FreshI (fuAns n xs) w) := by
  obtain ⟨a, cap, rfl⟩ := r.form
  have HR := Lib.hid (fun W (hb : Below w.heap.size w W) => r.below (hb.mono hhi))
  have hl := r.1
  clear r
  by_cases hb : BlkOk n xs
  · rw [fu_yes hb]
    have HB := Lib.hid hb
    have hx16 := (blk_len hb).2
    clear hb
    go_enter Try.func71, Try.ntmps71
    go_wp2_with fail
    refine (ImplBlockOk_yes lo hi n _ xs _ (HR.out _ (bel0 w _)) (by simp; omega) HB.out).mono ?_
    rintro e w1 ⟨rfl, hb1⟩
    have p1 := kept (p := ⟨w.heap.size, 1, none⟩) (x := .slice a xs.length cap) hb1 (by go_simp)
    have HB1 := Lib.hid (bel_c (bel0 w (.cells #[.int .i64 n, .slice a xs.length cap] 26)) (Nat.le_refl _) hb1)
    have hs1 : w.heap.size + 1 ≤ w1.heap.size := by have := hb1.size; simpa using this
    clear hb1
    go_wp2_with fail
    clear p1
    have HOW : Hid (OwnI w.heap.size w1 (.slice none 0 0) (dd (fuSeq (xs.take 0)))) := Lib.hid (by show OwnI _ _ _ (dd (fuSeq [])); exact OwnI.none _ _)
    go_loopw [3, 12] (fun q i wr => ∃ k : Nat, k ≤ xs.length ∧ i = .int .i64 k ∧ Hid (OwnI w.heap.size wr q (dd (fuSeq (xs.take k)))) ∧ Hid (Below w.heap.size w wr) ∧ w.heap.size ≤ wr.heap.size) (fun _ i _ => xs.length - (intOf i).toNat)
    case atStart => exact ⟨0, Nat.zero_le _, rfl, HOW, HB1, by omega⟩
    case round =>
      clear HOW HB1
      obtain ⟨k, hk, rfl, hown, hbel, hsz⟩ := hrel
      by_cases hlt : k < xs.length
      · have hds := dd_short HB.out k
        have HN := Lib.hid (show dd (fuSeq (xs.take (k + 1))) = [(xs.getD k C3.zero).a, (xs.getD k C3.zero).b].foldl ddStep (dd (fuSeq (xs.take k))) by rw [seq_take xs hlt, dd_two])
        obtain ⟨g, rfl, _, _, ⟨e0, e1, e2⟩, _⟩ := (HR.out _ hbel.out).at (Below.refl _ _) hlt
        generalize xs.getD k C3.zero = c at e0 e1 e2 HN
        obtain ⟨cs, ca, cb⟩ := c
        dsimp only at e0 e1 e2 HN
        generalize dd (fuSeq (xs.take k)) = ds at hown hds HN
        have hbb := bel_n (bel0 wr (.cells #[.int .i64 cs, .int .i64 ca, .int .i64 cb] 58)) (Nat.le_refl _) (.cells #[.int .i64 ca, .int .i64 cb] 3)
        have hfr : ∀ q : Value, OwnI w.heap.size wr q ds → Far (wr.heap.size + 1) (wr.heap.size + 1 + 1) q := fun q ho k hk => .inl (by have := ho.lt k hk; omega)
        have C := Lib.hid (fun q (ho : OwnI w.heap.size wr q ds) => AppendNew_any w.heap.size (wr.heap.size + 1) (wr.heap.size + 1 + 1) q (.slice (some ⟨wr.heap.size + 1, 0, none⟩) 2 2) ds [ca, cb] ((wr.alloc (.cells #[.int .i64 cs, .int .i64 ca, .int .i64 cb] 58)).alloc (.cells #[.int .i64 ca, .int .i64 cb] 3)) (ho.below hbb) (by simpa using two_in (wr.alloc (.cells #[.int .i64 cs, .int .i64 ca, .int .i64 cb] 58)) ca cb) (by simp) (by simp; omega) (hfr q ho) (by simp; omega))
        rw [← HN.out] at C
        have C' := Lib.hid (C.out _ hown.out)
        have HB2 := Lib.hid (hbel.out.trans (hbb.mono hsz))
        clear C hfr hbb hown hbel HN
        go_wp2_with fail
        refine C'.out.mono ?_
        rintro e w2 ⟨v2, rfl, hown2, hb2⟩
        have HO2 := Lib.hid hown2
        have HB3 := Lib.hid (HB2.out.trans hb2)
        have hsz2 := HB3.out.size
        clear hown2 hb2 C'
        go_wp2_with fail
        go_roundw
        case rel => exact ⟨k + 1, by omega, by go_num, HO2, HB3, hsz2⟩
        case measure => simp [intOf] <;> omega
      · obtain rfl : k = xs.length := by omega
        rw [List.take_length] at hown
        have hds := dd_short HB.out xs.length
        rw [List.take_length] at hds
        have CK := Lib.hid (Kept_any wr)
        have HX := Lib.hid (fuD_exch HB.out)
        have HU := Lib.hid (fuD_und HB.out)
        have CA := Lib.hid (fun (vl : Value) (w2 : World) (hin : IntIn wr.heap.size w2.heap.size w2 vl idL) (hb2 : Below wr.heap.size wr w2) => AppendNew_any w.heap.size wr.heap.size w2.heap.size _ vl (dd (fuSeq xs)) idL w2 (hown.out.below hb2) hin.o (Nat.le_refl _) (Nat.le_trans hsz hb2.size) (fun k hk => .inl (hown.out.lt k hk)) (by have : idL.length = 6 := rfl; omega))
        rw [fuD_two] at CA
        clear hown hds
        go_wp2_with fail
        refine CK.out.mono ?_
        rintro e w2 ⟨v2, rfl, hin2, hb2⟩
        have CA2 := Lib.hid (CA.out _ _ hin2 hb2)
        have HB2 := Lib.hid (bel_c hbel.out (Nat.le_refl _) hb2)
        clear CA hin2 hb2 CK
        go_wp2_with fail
        refine CA2.out.mono ?_
        rintro e w3 ⟨v3, rfl, hown3, hb3⟩
        have hin3 := hown3.row (by rw [HX.out.1.1]; decide)
        have CN := Lib.hid (Number_any w.heap.size w3.heap.size v3 _ w3 hin3.o (Nat.le_refl _) HX.out)
        rw [HU.out] at CN
        have HB3 := Lib.hid (HB2.out.trans hb3)
        clear hown3 hb3 hin3 CA2
        go_wp2_with fail
        refine CN.out.mono ?_
        rintro e w4 ⟨v4, rfl, hin4, hb4⟩
        have HI := Lib.hid (hin4.wide HB3.out.size (Nat.le_refl _))
        have HB4 := Lib.hid (bel_c HB3.out (Nat.le_refl _) hb4)
        clear hin4 hb4
        go_wp2_with fail
        go_ret
        exact ⟨_, rfl, HI.out, HB4.out⟩
  · rw [fu_no hb]
    exact ImplFirstUse_no n a xs.length cap w (ImplBlockOk_no lo hi n _ xs _ (HR.out _ (bel0 w _)) (by simp; omega) hb)

/-! ### A cut row -/
theorem ImplBlockOk_len (n : Int) (a : Option Addr) (k cap : Nat) (w : World) (n0 : 1 ≤ n) (n1 : n ≤ 4) (_hk : k ≤ 1048576) (h2 : ¬ (k : Int) = n * n) :
    Calls Try.prog 66 #[.agg #[.int .i64 n, .slice a k cap]] w fun e w' => e = .returned (.bool false) ∧ Below w.heap.size w w' := by
  obtain ⟨hw, s0, s1⟩ := sq_wrap n0 n1
  have e2 := ne_bool h2
  clear h2 s0 s1
  go_enter Try.func66, Try.ntmps66
  go_wp2_with fail
  refine (Size_yes _ _ n0 n1).mono ?_
  rintro e w' ⟨rfl, rfl⟩
  go_wp2_with fail
  go_ret
  exact ⟨rfl, (Below.refl _ _).alloc (Nat.le_refl _) _⟩
theorem ImplFirstUse_row (lo hi : Nat) (n : Int) (v : Value) (xs : List C3) (w : World) (r : RowX lo hi n w v xs) (hhi : hi ≤ w.heap.size) : Calls Try.prog 71 #[.agg #[.int .i64 n, v]] w (FreshI (fuAns n xs) w) := by
  rcases r with r | ⟨⟨n0, n1, hk⟩, r⟩
  · exact ImplFirstUse_any lo hi n v xs w r hhi
  · obtain ⟨a, cap, rfl⟩ := r.form
    rw [fu_no (fun h => cut_len hk h.2.1)]
    exact ImplFirstUse_no n a xs.length cap w (ImplBlockOk_len n a xs.length cap _ n0 n1 r.1 (cut_len hk))

end Go.Proofs.Ytbnokmlmajcibaa
