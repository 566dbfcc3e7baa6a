/- Blocks: what a statement leaves that lays a variable and calls. Turns: the program's SeenFrom. Turns: the program's contracts. Exchanges: what a list of colors makes of cells. -/
import Derived.Test.YtfidnhhlcdbaeaaGreatDoorM02
import Derived.Test.YtfidnhhlcdbaeaaGreatDoorM05
import Derived.Test.YtfidnhhlcdbaeaaGreatDoorM09
import Derived.Test.YtfidnhhlcdbaeaaGreatDoorM03
import Derived.Deep.DeepCutAuto
import Derived.Deep.RegionHeld3
import Derived.Test.YtfidnhhlcdbaeaaGreatDoorM07

namespace Go.Proofs.YtfidnhhlcdbaeaaGreatDoor
open Go.ChangeShapes Go.WideShapes Go.ChangeAt Go.RowKit

/-- What such a statement leaves: the new variable's block, and the row that it leads to. -/
def WR (n : Int) (ok : Bool) (ys : List C3) (w0 : World) (q t : Value) (wx : World) : Prop :=
  ∃ (p : Nat) (a : Option Addr) (c l h : Nat), q = .pointer (some ⟨p, 0, none⟩) ∧ t = .bool ok ∧ BoxB p (.int .i64 n) (.slice a ys.length c) wx ∧ CellIn l h wx (.slice a ys.length c) ys ∧ (p < l ∨ h ≤ p) ∧ w0.heap.size ≤ l ∧ w0.heap.size ≤ p ∧ h ≤ wx.heap.size ∧ Below w0.heap.size w0 wx
theorem Three.within {p lo hi : Nat} {c : C3} {u v : World} (h : Three p c u) (hb : Within lo hi u v) (ho : p < lo ∨ hi ≤ p) : Three p c v := ⟨hb.cell h.1 ho, hb.cell h.2.1 ho, hb.cell h.2.2 ho⟩
theorem BoxB.two {p : Nat} {x y x' y' : Value} {u : World} (h : BoxB p x y u) : BoxB p x' y' ((u.setCell ⟨p, 0, none⟩ x').setCell ⟨p, 1, none⟩ y') := by
  obtain ⟨h0, h1, h2, h3⟩ := h
  have h1' : (u.setCell ⟨p, 0, none⟩ x').cell? ⟨p, 1, none⟩ = some y := (World.cell?_setCell_other _ _ _ _ (by simp)).trans h1
  exact ⟨(World.cell?_setCell_other _ _ _ _ (by simp)).trans (World.cell?_setCell_same _ _ _ h0), World.cell?_setCell_same _ _ _ h1', by rw [World.frozen?_setCell, World.frozen?_setCell]; exact h2, by rw [World.frozen?_setCell, World.frozen?_setCell]; exact h3⟩
theorem WR.old {n : Int} {ok : Bool} {ys : List C3} {w0 z : World} {a : Option Addr} {c l p : Nat} {x y : Value} (R : CellIn l z.heap.size z (.slice a ys.length c) ys) (b : BoxB p x y z) (B : Below w0.heap.size w0 z) (hl : w0.heap.size ≤ l) (hp : w0.heap.size ≤ p) (hpl : p < l ∨ p < l) :
    WR n ok ys w0 (.pointer (some ⟨p, 0, none⟩)) (.bool ok) ((z.setCell ⟨p, 0, none⟩ (.int .i64 n)).setCell ⟨p, 1, none⟩ (.slice a ys.length c)) :=
  ⟨p, a, c, l, z.heap.size, rfl, rfl, b.two, (R.set_far (by show p < l; omega) _).set_far (by show p < l; omega) _, .inl (by omega), hl, hp, by simp [World.setCell], (B.setCell (p := ⟨p, 0, none⟩) hp _).setCell (p := ⟨p, 1, none⟩) hp _⟩
theorem WR.new {n : Int} {ok : Bool} {ys : List C3} {w0 z : World} {a : Option Addr} {c l : Nat} (R : CellIn l z.heap.size z (.slice a ys.length c) ys) (B : Below w0.heap.size w0 z) (hl : w0.heap.size ≤ l) :
    WR n ok ys w0 (.pointer (some ⟨z.heap.size, 0, none⟩)) (.bool ok) (z.alloc (.cells #[.int .i64 n, .slice a ys.length c] 26)) :=
  ⟨z.heap.size, a, c, l, z.heap.size, rfl, rfl, BoxB.new _ _ _ _, R.below (bel0 _ _), .inr (Nat.le_refl _), hl, B.size, by simp, bel_n B (Nat.le_refl _) _⟩

end Go.Proofs.YtfidnhhlcdbaeaaGreatDoor

namespace Go.Proofs.YtfidnhhlcdbaeaaGreatDoor
open Go.ChangeShapes Go.WideShapes Go.ChangeAt Go.RowKit

theorem nilC_yes (n cap : Nat) (w : World) : (Sem.run Tryz.prog (binOp BinOp.eql 24 (Value.slice none n cap) (Value.slice none 0 0)) w) = Result.ok (.bool true) w := by kernel_rfl
theorem nilC_no (g : Addr) (n cap : Nat) (w : World) : (Sem.run Tryz.prog (binOp BinOp.eql 24 (Value.slice (some g) n cap) (Value.slice none 0 0)) w) = Result.ok (.bool false) w := by kernel_rfl
set_option maxHeartbeats 400000 in
theorem CloneC_any (lo hi : Nat) (v : Value) (xs : List C3) (w : World) (r : CellIn lo hi w v xs) (hhi : hi ≤ w.heap.size) : Calls Tryz.prog 46 #[v] w (FreshC xs w) := by
  obtain ⟨i0, hi0, hz0, hz1, hz2⟩ := info_parts3 info_cell
  obtain ⟨a, cap, rfl⟩ := r.form
  have hl := r.1
  rcases Nat.eq_zero_or_pos xs.length with h0 | h0
  · have hx : xs = [] := List.length_eq_zero_iff.1 h0
    subst hx
    clear r hl h0
    cases a
    · have hN := nilC_yes 0 cap
      go_enter Tryz.func46, Tryz.ntmps46
      go_wp2_with fail
      go_ret
      exact ⟨_, rfl, ⟨by simp, .inl ⟨rfl, _, _, rfl⟩⟩, Below.refl _ _⟩
    · rename_i g0
      have hN := nilC_no g0 0 cap
      go_enter Tryz.func46, Tryz.ntmps46
      go_wp2_with fail
      go_ret
      exact ⟨_, rfl, ⟨by simp, .inl ⟨rfl, _, _, rfl⟩⟩, bel0 w _⟩
  · obtain ⟨g, rfl, hg, hg1, hn⟩ := r.news h0
    have HR := Lib.hid (hn (w.alloc (.cells #[] 50)) ((bel0 w _).mono hhi))
    have HO := Lib.hid (own_new3 w 50)
    clear r hn
    have hN := nilC_no ⟨g, 0, none⟩ xs.length cap
    go_enter Tryz.func46, Tryz.ntmps46
    go_wp2_with (at_builtin; refine wpList_append_lies _ rfl _ _ 24 rfl w.heap.size 50 i0 _ 3 24 Tryz.underlying24 hi0 hz0 hz1 hz2 rfl (by decide) _ _ _ rfl HO.out ⟨g, 0, none⟩ xs.length cap (places xs) rfl (places_length xs) HR.out (places_one xs) h0 (by unfold maxLen; omega) (by omega) (by simp) (w.heap.size + 1) (by simp) ?_; intro gg cc w1 hown1 hgrow hat hlt1)
    have hbw := (Below.refl w.heap.size _).grown hgrow (by simp) (own_ge3 HO.out)
    have hB : Below w.heap.size w w1 := (bel0 w _).trans hbw
    have hin : CellIn w.heap.size w1.heap.size w1 (.slice (some ⟨gg, 0, none⟩) xs.length cc) xs := CellIn.of_owns (xs := xs) (by simpa using hown1) hl
    clear hown1 hgrow hat hlt1 hbw HO HR
    go_ret
    exact ⟨_, rfl, by simpa using hin, hB⟩

set_option maxRecDepth 100000 in
set_option maxHeartbeats 4000000 in
theorem ImplSeenFrom_any (lo hi : Nat) (n k : Int) (v : Value) (xs : List C3) (w : World) (r : CellIn lo hi w v xs) (hhi : hi ≤ w.heap.size) :
    Calls Tryz.prog 26 #[.agg #[.int .i64 n, v], .int .i64 k] w (FreshB (seeN n k xs) (seeB n k xs) w) := by
  obtain ⟨a, cap, rfl⟩ := r.form
  have hl := r.1
  have HR := Lib.hid (fun W (hb : Below w.heap.size w W) => r.below (hb.mono hhi))
  clear r
  by_cases hb : BlkOk n xs
  · have HB := Lib.hid hb
    by_cases hk : 0 ≤ k ∧ k ≤ 7
    · obtain ⟨k0, k7⟩ := hk
      rw [(see_yes (n := n) (k := k) ⟨hb, k0, k7⟩).1, (see_yes (n := n) (k := k) ⟨hb, k0, k7⟩).2]
      obtain ⟨kk, hkk⟩ : ∃ kk : Nat, k % 4 = kk := ⟨(k % 4).toNat, by omega⟩
      have hkt : (k % 4).toNat = kk := by omega
      rw [hkt]
      have HK := Lib.hid hkk
      have hkb : kk ≤ 3 := by omega
      have hk0 : ¬ k < 0 := by omega
      have hk8 : ¬ 8 ≤ k := by omega
      clear hkk hkt
      by_cases hge : 4 ≤ k
      · rw [if_pos hge]
        have HBB := Lib.hid (mir_ok hb)
        clear hb
        obtain ⟨base, hbase⟩ : ∃ base, base = mirL n xs := ⟨_, rfl⟩
        rw [← hbase] at HBB ⊢
        have HBS := Lib.hid hbase
        clear hbase
        go_enter Tryz.func26, Tryz.ntmps26
        go_wp2_with fail
        refine (ImplBlockOk_yes lo hi n _ xs _ (HR.out _ (bel_n (bel0 w _) (Nat.le_refl _) _)) (by simp; omega) HB.out).mono ?_
        rintro e w1 ⟨rfl, hb1⟩
        have HP1 : Hid (BoxB w.heap.size (.int .i64 n) (.slice a xs.length cap) w1) := Lib.hid (((BoxB.new w (.int .i64 n) (.slice a xs.length cap) 26).below (bel0 _ _) (by simp)).below hb1 (by simp; omega))
        have HD1 : Hid (BoxB (w.heap.size + 1) (.int .i64 0) (.slice none 0 0) w1) := Lib.hid (by
          have h := BoxB.new (w.alloc (.cells #[.int .i64 n, .slice a xs.length cap] 26)) (.int .i64 0) (.slice none 0 0) 26
          exact (show BoxB (w.heap.size + 1) _ _ _ by simpa using h).below hb1 (by simp))
        have HB1 := Lib.hid (bel_c (bel_n (bel0 w (.cells #[.int .i64 n, .slice a xs.length cap] 26)) (Nat.le_refl _) (.cells #[.int .i64 0, .slice none 0 0] 26)) (Nat.le_refl _) hb1)
        clear hb1
        go_wp2_with fail
        refine (ViewOk_yes k _ k0 k7).mono ?_
        rintro e uu ⟨rfl, huu⟩
        have huu := huu.symm
        subst huu
        go_upto_region 3 with fail
        have HPW := HD1.out.lt
        have D0 : Below w1.heap.size w1 w1.drew := ⟨rfl, rfl, rfl, Nat.le_refl _, fun _ _ => rfl⟩
        have KP : ∀ u v, Below u.heap.size u v → (u.cell? ⟨w.heap.size, 0, none⟩ = some (.int .i64 n) ∧ u.cell? ⟨w.heap.size, 1, none⟩ = some (.slice a xs.length cap)) → (v.cell? ⟨w.heap.size, 0, none⟩ = some (.int .i64 n) ∧ v.cell? ⟨w.heap.size, 1, none⟩ = some (.slice a xs.length cap)) := fun u v hb h => ⟨kept hb h.1, kept hb h.2⟩
        have KS : ∀ (u : World) (p : Nat) (v0 v1 : Value), w.heap.size < p → (u.cell? ⟨w.heap.size, 0, none⟩ = some (.int .i64 n) ∧ u.cell? ⟨w.heap.size, 1, none⟩ = some (.slice a xs.length cap)) → (((u.setCell ⟨p, 0, none⟩ v0).setCell ⟨p, 1, none⟩ v1).cell? ⟨w.heap.size, 0, none⟩ = some (.int .i64 n) ∧ ((u.setCell ⟨p, 0, none⟩ v0).setCell ⟨p, 1, none⟩ v1).cell? ⟨w.heap.size, 1, none⟩ = some (.slice a xs.length cap)) := by
          intro u p v0 v1 hp h
          have h1 : p ≠ w.heap.size := by omega
          have f : ∀ (q o : Nat), p ≠ q → ((u.setCell ⟨p, 0, none⟩ v0).setCell ⟨p, 1, none⟩ v1).cell? ⟨q, o, none⟩ = u.cell? ⟨q, o, none⟩ := fun q o hq => by
            rw [World.cell?_setCell_other _ _ _ _ (by simp), World.cell?_setCell_other _ _ _ _ (by simp)]
          simpa only [f _ _ h1] using h
        have N1 := Lib.hid (CloneC_any lo hi _ xs w1.drew (HR.out _ (bel_c HB1.out (Nat.le_refl _) D0)) (Nat.le_trans hhi HB1.out.size))
        have N2 := Lib.hid (CloneC_any lo hi _ xs (w1.drew.alloc (.cells #[.int .i64 0, .slice none 0 0] 26)) (HR.out _ (bel_n (bel_c HB1.out (Nat.le_refl _) D0) (Nat.le_refl _) (.cells #[.int .i64 0, .slice none 0 0] 26))) (Nat.le_trans hhi (bel_n (bel_c HB1.out (Nat.le_refl _) D0) (Nat.le_refl _) (.cells #[.int .i64 0, .slice none 0 0] 26)).size))
        obtain ⟨c0, c1, _, _⟩ := HP1.out
        go_cut [5] (fun q wx => WR n true xs w1 q (.bool true) wx)
        case first =>
          go_region_held3 (fun w' => w'.cell? ⟨w.heap.size, 0, none⟩ = some (.int .i64 n) ∧ w'.cell? ⟨w.heap.size, 1, none⟩ = some (.slice a xs.length cap)) (first | exact S4 | exact KP _ _ (bel0 _ _) S4 | exact KS _ _ _ _ (by omega) S4 | (refine KP _ _ (by assumption) ?_; assumption) | exact KP _ _ (bel0 _ _) (by assumption) | go_keep)
            ((first
              | (go_at_call 46; refine N1.out.mono ?_; rintro e w2 ⟨v2, rfl, hin2, hb2⟩; obtain ⟨a2, d2, rfl⟩ := hin2.form; have hbz : Below w1.heap.size w1 w2 := D0.trans hb2; have S4 := KP w1.drew w2 hb2 (by assumption); have R1 := Lib.hid hin2; clear hin2 hb2)
              | (go_at_call 46; refine N2.out.mono ?_; rintro e w2 ⟨v2, rfl, hin2, hb2⟩; obtain ⟨a2, d2, rfl⟩ := hin2.form; have hbz : Below w1.heap.size w1 w2 := bel_c (bel_n D0 (Nat.le_refl _) (.cells #[.int .i64 0, .slice none 0 0] 26)) (Nat.le_refl _) hb2; have bz3 := Lib.hid (show BoxB w1.heap.size (.int .i64 0) (.slice none 0 0) w2 from (BoxB.new w1.drew (.int .i64 0) (.slice none 0 0) 26).below hb2 (by simp)); obtain ⟨k0, k1, k2, k3⟩ := bz3.out; have S4 := KP (w1.drew.alloc (.cells #[.int .i64 0, .slice none 0 0] 26)) w2 hb2 (by assumption); have R1 := Lib.hid hin2; clear hin2 hb2)))
          all_goals
            go_wp2_with fail
            go_meet
            first
            | exact WR.old R1.out bz3.out hbz (by simp) (Nat.le_refl _) (.inl (by simp))
            | exact WR.new R1.out hbz (Nat.le_refl _)
        case rest =>
          obtain ⟨o, a4, c4, l4, h4, rfl, -, bx4, R4, ho4, zl4, zp4, zh4, hb⟩ := hcut
          have HPO : Hid (w.heap.size + 1 < o) := Lib.hid (Nat.lt_of_lt_of_le HPW zp4)
          have HX3 := Lib.hid bx4
          have HD3 := Lib.hid (HD1.out.below hb HPW)
          have HB3 := Lib.hid (bel_c HB1.out (Nat.le_refl _) hb)
          have HC3 := Lib.hid R4
          have HZ3 : Hid ((o < l4 ∨ h4 ≤ o) ∧ w.heap.size + 1 < l4 ∧ h4 ≤ wc.heap.size) := Lib.hid ⟨ho4, Nat.lt_of_lt_of_le HPW zl4, zh4⟩
          clear bx4 R4 ho4 zl4 zp4 zh4 hb HP1 HD1 HB1 D0 KP KS N1 N2 c0 c1
          have hk4 : 4 ≤ k := by omega
          have hrem : k % 4 = (kk : Int) := HK.out
          have q0 := HX3.out.1
          have q1 := HX3.out.2.1
          have HOL : Hid (o < wc.heap.size) := Lib.hid HX3.out.lt
          have CM := Lib.hid (ImplMirrorBlock_any l4 h4 n _ xs wc HC3.out HZ3.out.2.2)
          rw [(turnB_yes HB.out).1, (turnB_yes HB.out).2.2] at CM
          obtain ⟨ys, hys⟩ : ∃ ys, mirL n xs = ys := ⟨_, rfl⟩
          rw [hys] at CM
          have HYM := Lib.hid hys
          clear hys
          go_wp2_with fail
          refine (MirV_yes k _ hk4).mono ?_
          rintro e uu ⟨rfl, huu⟩
          have huu := huu.symm
          subst huu
          go_wp2_with fail
          refine CM.out.mono ?_
          rintro e w5 ⟨v5, rfl, hin5, hb5⟩
          obtain ⟨a5, c5, rfl⟩ := hin5.form
          have hx5 := HX3.out.below hb5 HOL.out
          have HX0 := Lib.hid (BoxB.two (x' := .int .i64 n) (y' := .slice a5 ys.length c5) hx5)
          have hd5 := HD3.out.below hb5 HD3.out.lt
          have HD0 := Lib.hid ((hd5.set_far (q := o) (o := 0) (by have := HPO.out; omega) (.int .i64 n)).set_far (q := o) (o := 1) (by have := HPO.out; omega) (.slice a5 ys.length c5))
          have HI5 := Lib.hid ((hin5.set_far (p := ⟨o, 0, none⟩) HOL.out (.int .i64 n)).set_far (p := ⟨o, 1, none⟩) HOL.out (.slice a5 ys.length c5))
          have HB0 := Lib.hid (Below.setCell (Below.setCell (bel_c HB3.out (Nat.le_refl _) hb5) (p := ⟨o, 0, none⟩) (by show _ ≤ o; have := HPO.out; omega) (.int .i64 n)) (p := ⟨o, 1, none⟩) (by show _ ≤ o; have := HPO.out; omega) (.slice a5 ys.length c5))
          have HZ0 : Hid ((o < wc.heap.size ∨ w5.heap.size ≤ o) ∧ w.heap.size + 1 < wc.heap.size ∧ w5.heap.size ≤ ((w5.setCell ⟨o, 0, none⟩ (.int .i64 n)).setCell ⟨o, 1, none⟩ (.slice a5 ys.length c5)).heap.size) := Lib.hid ⟨.inl HOL.out, HD3.out.lt, by simp [World.setCell]⟩
          obtain ⟨q50, q51, f0, f1⟩ := hx5
          have HC0 : Hid (CellIn wc.heap.size w5.heap.size ((w5.setCell ⟨o, 0, none⟩ (.int .i64 n)).setCell ⟨o, 1, none⟩ (.slice a5 ys.length c5)) (.slice a5 ys.length c5) (turnK n base 0)) := Lib.hid (by show CellIn _ _ _ _ base; rw [HBS.out, HYM.out]; exact HI5.out)
          clear q0 q1 hin5 hb5 hd5 HC3 HX3 HD3 HB3 HZ3 HI5
          go_wp2_with fail
          clear f0 f1 q50 q51
          (try rw [hrem])
          go_loopw [27] (fun i wr => ∃ (c : Nat) (v : Value) (l h : Nat), c ≤ kk ∧ i = .int .i64 c ∧ Hid (CellIn l h wr v (turnK n base c)) ∧ Hid (BoxB o (.int .i64 n) v wr) ∧ Hid (BoxB (w.heap.size + 1) (.int .i64 0) (.slice none 0 0) wr) ∧ Hid (Below w.heap.size w wr) ∧ Hid ((o < l ∨ h ≤ o) ∧ w.heap.size + 1 < l ∧ h ≤ wr.heap.size)) (fun i _ => kk - (intOf i).toNat)
          case atStart => exact ⟨0, _, _, _, Nat.zero_le _, rfl, HC0, HX0, HD0, HB0, HZ0⟩
          case round =>
            clear HC0 HX0 HD0 HB0 HZ0
            obtain ⟨c, v, l, h, hc, rfl, hin, hx, hd, hbel, hz⟩ := hrel
            by_cases hlt : c < kk
            · obtain ⟨av, cv, rfl⟩ := hin.out.form
              have q0 := hx.out.1
              have q1 := hx.out.2.1
              have CT := Lib.hid (ImplTurnBlock_any l h n (.slice av (turnK n base c).length cv) (turnK n base c) wr hin.out hz.out.2.2)
              rw [(turnB_yes (turnK_ok HBB.out c)).1, (turnB_yes (turnK_ok HBB.out c)).2.1] at CT
              change Hid (Calls _ _ _ _ (FreshB n (turnK n base (c + 1)) wr)) at CT
              obtain ⟨ys, hys⟩ : ∃ ys, turnK n base (c + 1) = ys := ⟨_, rfl⟩
              rw [hys] at CT
              have HYS := Lib.hid hys
              clear hys
              generalize turnK n base c = zs at CT hin hx q1
              have HOL : Hid (o < wr.heap.size) := Lib.hid hx.out.lt
              go_wp2_with fail
              refine CT.out.mono ?_
              rintro e w5 ⟨v5, rfl, hin5, hb5⟩
              obtain ⟨a5, c5, rfl⟩ := hin5.form
              have hx5 := hx.out.below hb5 HOL.out
              have HX5 := Lib.hid (BoxB.two (x' := .int .i64 n) (y' := .slice a5 ys.length c5) hx5)
              have hd5 := hd.out.below hb5 hd.out.lt
              have HD5 := Lib.hid ((hd5.set_far (q := o) (o := 0) (by have := HPO.out; omega) (.int .i64 n)).set_far (q := o) (o := 1) (by have := HPO.out; omega) (.slice a5 ys.length c5))
              have HI5 := Lib.hid ((hin5.set_far (p := ⟨o, 0, none⟩) HOL.out (.int .i64 n)).set_far (p := ⟨o, 1, none⟩) HOL.out (.slice a5 ys.length c5))
              have HB5 := Lib.hid (Below.setCell (Below.setCell (bel_c hbel.out (Nat.le_refl _) hb5) (p := ⟨o, 0, none⟩) (by show _ ≤ o; have := HPO.out; omega) (.int .i64 n)) (p := ⟨o, 1, none⟩) (by show _ ≤ o; have := HPO.out; omega) (.slice a5 ys.length c5))
              have HZ5 : Hid ((o < wr.heap.size ∨ w5.heap.size ≤ o) ∧ w.heap.size + 1 < wr.heap.size ∧ w5.heap.size ≤ ((w5.setCell ⟨o, 0, none⟩ (.int .i64 n)).setCell ⟨o, 1, none⟩ (.slice a5 ys.length c5)).heap.size) := Lib.hid ⟨.inl HOL.out, hd.out.lt, by simp [World.setCell]⟩
              obtain ⟨q50, q51, f0, f1⟩ := hx5
              clear q0 q1 hin5 hb5 hin hx hd hbel hd5 hz
              go_wp2_with fail
              clear f0 f1 q50 q51
              go_roundw
              case rel => exact ⟨c + 1, _, _, _, by omega, by go_num, by rw [HYS.out]; exact HI5, HX5, HD5, HB5, HZ5⟩
              case measure => simp [intOf] <;> omega
            · obtain rfl : c = kk := by omega
              obtain ⟨av, cv, rfl⟩ := hin.out.form
              obtain ⟨zs, hzs⟩ : ∃ zs, turnK n base c = zs := ⟨_, rfl⟩
              rw [hzs] at hin hx
              have HZS := Lib.hid hzs
              clear hzs
              obtain ⟨q0, q1, _, _⟩ := hx.out
              obtain ⟨d0, d1, f0, f1⟩ := hd.out
              have zl := hz.out.2.1
              have zh := hz.out.2.2
              clear hx hd hz
              go_wp2_with fail
              refine bodyPost_ret (v := .agg #[.int .i64 n, .slice av zs.length cv]) (by simp [results, Tryz.results26, go_sem, d0, d1]) rfl ⟨_, rfl, ?_, ?_⟩
              · rw [HZS.out]
                refine CellIn.wide (lo := l) (hi := h) ?_ (by omega) (by simp [World.setCell]; omega)
                refine CellIn.set_far (CellIn.set_far hin.out ?_ _) ?_ _ <;> (simp <;> omega)
              · refine Below.setCell (Below.setCell hbel.out ?_ _) ?_ _ <;> (simp <;> omega)
      · rw [if_neg hge]
        have HBB := Lib.hid hb
        clear hb
        obtain ⟨base, hbase⟩ : ∃ base, base = xs := ⟨_, rfl⟩
        have HBB2 : Hid (BlkOk n base) := Lib.hid (by rw [hbase]; exact HBB.out)
        rw [show turnK n xs kk = turnK n base kk by rw [hbase]]
        have HBS := Lib.hid hbase
        clear hbase HBB
        go_enter Tryz.func26, Tryz.ntmps26
        go_wp2_with fail
        refine (ImplBlockOk_yes lo hi n _ xs _ (HR.out _ (bel_n (bel0 w _) (Nat.le_refl _) _)) (by simp; omega) HB.out).mono ?_
        rintro e w1 ⟨rfl, hb1⟩
        have HP1 : Hid (BoxB w.heap.size (.int .i64 n) (.slice a xs.length cap) w1) := Lib.hid (((BoxB.new w (.int .i64 n) (.slice a xs.length cap) 26).below (bel0 _ _) (by simp)).below hb1 (by simp; omega))
        have HD1 : Hid (BoxB (w.heap.size + 1) (.int .i64 0) (.slice none 0 0) w1) := Lib.hid (by
          have h := BoxB.new (w.alloc (.cells #[.int .i64 n, .slice a xs.length cap] 26)) (.int .i64 0) (.slice none 0 0) 26
          exact (show BoxB (w.heap.size + 1) _ _ _ by simpa using h).below hb1 (by simp))
        have HB1 := Lib.hid (bel_c (bel_n (bel0 w (.cells #[.int .i64 n, .slice a xs.length cap] 26)) (Nat.le_refl _) (.cells #[.int .i64 0, .slice none 0 0] 26)) (Nat.le_refl _) hb1)
        clear hb1
        go_wp2_with fail
        refine (ViewOk_yes k _ k0 k7).mono ?_
        rintro e uu ⟨rfl, huu⟩
        have huu := huu.symm
        subst huu
        go_upto_region 3 with fail
        have HPW := HD1.out.lt
        have D0 : Below w1.heap.size w1 w1.drew := ⟨rfl, rfl, rfl, Nat.le_refl _, fun _ _ => rfl⟩
        have KP : ∀ u v, Below u.heap.size u v → (u.cell? ⟨w.heap.size, 0, none⟩ = some (.int .i64 n) ∧ u.cell? ⟨w.heap.size, 1, none⟩ = some (.slice a xs.length cap)) → (v.cell? ⟨w.heap.size, 0, none⟩ = some (.int .i64 n) ∧ v.cell? ⟨w.heap.size, 1, none⟩ = some (.slice a xs.length cap)) := fun u v hb h => ⟨kept hb h.1, kept hb h.2⟩
        have KS : ∀ (u : World) (p : Nat) (v0 v1 : Value), w.heap.size < p → (u.cell? ⟨w.heap.size, 0, none⟩ = some (.int .i64 n) ∧ u.cell? ⟨w.heap.size, 1, none⟩ = some (.slice a xs.length cap)) → (((u.setCell ⟨p, 0, none⟩ v0).setCell ⟨p, 1, none⟩ v1).cell? ⟨w.heap.size, 0, none⟩ = some (.int .i64 n) ∧ ((u.setCell ⟨p, 0, none⟩ v0).setCell ⟨p, 1, none⟩ v1).cell? ⟨w.heap.size, 1, none⟩ = some (.slice a xs.length cap)) := by
          intro u p v0 v1 hp h
          have h1 : p ≠ w.heap.size := by omega
          have f : ∀ (q o : Nat), p ≠ q → ((u.setCell ⟨p, 0, none⟩ v0).setCell ⟨p, 1, none⟩ v1).cell? ⟨q, o, none⟩ = u.cell? ⟨q, o, none⟩ := fun q o hq => by
            rw [World.cell?_setCell_other _ _ _ _ (by simp), World.cell?_setCell_other _ _ _ _ (by simp)]
          simpa only [f _ _ h1] using h
        have N1 := Lib.hid (CloneC_any lo hi _ xs w1.drew (HR.out _ (bel_c HB1.out (Nat.le_refl _) D0)) (Nat.le_trans hhi HB1.out.size))
        have N2 := Lib.hid (CloneC_any lo hi _ xs (w1.drew.alloc (.cells #[.int .i64 0, .slice none 0 0] 26)) (HR.out _ (bel_n (bel_c HB1.out (Nat.le_refl _) D0) (Nat.le_refl _) (.cells #[.int .i64 0, .slice none 0 0] 26))) (Nat.le_trans hhi (bel_n (bel_c HB1.out (Nat.le_refl _) D0) (Nat.le_refl _) (.cells #[.int .i64 0, .slice none 0 0] 26)).size))
        obtain ⟨c0, c1, _, _⟩ := HP1.out
        go_cut [5] (fun q wx => WR n true xs w1 q (.bool true) wx)
        case first =>
          go_region_held3 (fun w' => w'.cell? ⟨w.heap.size, 0, none⟩ = some (.int .i64 n) ∧ w'.cell? ⟨w.heap.size, 1, none⟩ = some (.slice a xs.length cap)) (first | exact S4 | exact KP _ _ (bel0 _ _) S4 | exact KS _ _ _ _ (by omega) S4 | (refine KP _ _ (by assumption) ?_; assumption) | exact KP _ _ (bel0 _ _) (by assumption) | go_keep)
            ((first
              | (go_at_call 46; refine N1.out.mono ?_; rintro e w2 ⟨v2, rfl, hin2, hb2⟩; obtain ⟨a2, d2, rfl⟩ := hin2.form; have hbz : Below w1.heap.size w1 w2 := D0.trans hb2; have S4 := KP w1.drew w2 hb2 (by assumption); have R1 := Lib.hid hin2; clear hin2 hb2)
              | (go_at_call 46; refine N2.out.mono ?_; rintro e w2 ⟨v2, rfl, hin2, hb2⟩; obtain ⟨a2, d2, rfl⟩ := hin2.form; have hbz : Below w1.heap.size w1 w2 := bel_c (bel_n D0 (Nat.le_refl _) (.cells #[.int .i64 0, .slice none 0 0] 26)) (Nat.le_refl _) hb2; have bz3 := Lib.hid (show BoxB w1.heap.size (.int .i64 0) (.slice none 0 0) w2 from (BoxB.new w1.drew (.int .i64 0) (.slice none 0 0) 26).below hb2 (by simp)); obtain ⟨k0, k1, k2, k3⟩ := bz3.out; have S4 := KP (w1.drew.alloc (.cells #[.int .i64 0, .slice none 0 0] 26)) w2 hb2 (by assumption); have R1 := Lib.hid hin2; clear hin2 hb2)))
          all_goals
            go_wp2_with fail
            go_meet
            first
            | exact WR.old R1.out bz3.out hbz (by simp) (Nat.le_refl _) (.inl (by simp))
            | exact WR.new R1.out hbz (Nat.le_refl _)
        case rest =>
          obtain ⟨o, a4, c4, l4, h4, rfl, -, bx4, R4, ho4, zl4, zp4, zh4, hb⟩ := hcut
          have HPO : Hid (w.heap.size + 1 < o) := Lib.hid (Nat.lt_of_lt_of_le HPW zp4)
          have HX3 := Lib.hid bx4
          have HD3 := Lib.hid (HD1.out.below hb HPW)
          have HB3 := Lib.hid (bel_c HB1.out (Nat.le_refl _) hb)
          have HC3 := Lib.hid R4
          have HZ3 : Hid ((o < l4 ∨ h4 ≤ o) ∧ w.heap.size + 1 < l4 ∧ h4 ≤ wc.heap.size) := Lib.hid ⟨ho4, Nat.lt_of_lt_of_le HPW zl4, zh4⟩
          clear bx4 R4 ho4 zl4 zp4 zh4 hb HP1 HD1 HB1 D0 KP KS N1 N2 c0 c1
          have hk4 : ¬ 4 ≤ k := by omega
          have hrem : k % 4 = (kk : Int) := HK.out
          go_wp2_with fail
          refine (MirV_no k _ (by omega)).mono ?_
          rintro e uu ⟨rfl, huu⟩
          have huu := huu.symm
          subst huu
          go_wp2_with fail
          have HC0 : Hid (CellIn l4 h4 wc (.slice a4 xs.length c4) (turnK n base 0)) := Lib.hid (by show CellIn _ _ _ _ base; rw [HBS.out]; exact HC3.out)
          have HX0 := HX3
          have HD0 := HD3
          have HB0 := HB3
          have HZ0 := HZ3
          clear HC3 HX3 HD3 HB3 HZ3
          (try rw [hrem])
          go_loopw [27] (fun i wr => ∃ (c : Nat) (v : Value) (l h : Nat), c ≤ kk ∧ i = .int .i64 c ∧ Hid (CellIn l h wr v (turnK n base c)) ∧ Hid (BoxB o (.int .i64 n) v wr) ∧ Hid (BoxB (w.heap.size + 1) (.int .i64 0) (.slice none 0 0) wr) ∧ Hid (Below w.heap.size w wr) ∧ Hid ((o < l ∨ h ≤ o) ∧ w.heap.size + 1 < l ∧ h ≤ wr.heap.size)) (fun i _ => kk - (intOf i).toNat)
          case atStart => exact ⟨0, _, _, _, Nat.zero_le _, rfl, HC0, HX0, HD0, HB0, HZ0⟩
          case round =>
            clear HC0 HX0 HD0 HB0 HZ0
            obtain ⟨c, v, l, h, hc, rfl, hin, hx, hd, hbel, hz⟩ := hrel
            by_cases hlt : c < kk
            · obtain ⟨av, cv, rfl⟩ := hin.out.form
              have q0 := hx.out.1
              have q1 := hx.out.2.1
              have CT := Lib.hid (ImplTurnBlock_any l h n (.slice av (turnK n base c).length cv) (turnK n base c) wr hin.out hz.out.2.2)
              rw [(turnB_yes (turnK_ok HBB2.out c)).1, (turnB_yes (turnK_ok HBB2.out c)).2.1] at CT
              change Hid (Calls _ _ _ _ (FreshB n (turnK n base (c + 1)) wr)) at CT
              obtain ⟨ys, hys⟩ : ∃ ys, turnK n base (c + 1) = ys := ⟨_, rfl⟩
              rw [hys] at CT
              have HYS := Lib.hid hys
              clear hys
              generalize turnK n base c = zs at CT hin hx q1
              have HOL : Hid (o < wr.heap.size) := Lib.hid hx.out.lt
              go_wp2_with fail
              refine CT.out.mono ?_
              rintro e w5 ⟨v5, rfl, hin5, hb5⟩
              obtain ⟨a5, c5, rfl⟩ := hin5.form
              have hx5 := hx.out.below hb5 HOL.out
              have HX5 := Lib.hid (BoxB.two (x' := .int .i64 n) (y' := .slice a5 ys.length c5) hx5)
              have hd5 := hd.out.below hb5 hd.out.lt
              have HD5 := Lib.hid ((hd5.set_far (q := o) (o := 0) (by have := HPO.out; omega) (.int .i64 n)).set_far (q := o) (o := 1) (by have := HPO.out; omega) (.slice a5 ys.length c5))
              have HI5 := Lib.hid ((hin5.set_far (p := ⟨o, 0, none⟩) HOL.out (.int .i64 n)).set_far (p := ⟨o, 1, none⟩) HOL.out (.slice a5 ys.length c5))
              have HB5 := Lib.hid (Below.setCell (Below.setCell (bel_c hbel.out (Nat.le_refl _) hb5) (p := ⟨o, 0, none⟩) (by show _ ≤ o; have := HPO.out; omega) (.int .i64 n)) (p := ⟨o, 1, none⟩) (by show _ ≤ o; have := HPO.out; omega) (.slice a5 ys.length c5))
              have HZ5 : Hid ((o < wr.heap.size ∨ w5.heap.size ≤ o) ∧ w.heap.size + 1 < wr.heap.size ∧ w5.heap.size ≤ ((w5.setCell ⟨o, 0, none⟩ (.int .i64 n)).setCell ⟨o, 1, none⟩ (.slice a5 ys.length c5)).heap.size) := Lib.hid ⟨.inl HOL.out, hd.out.lt, by simp [World.setCell]⟩
              obtain ⟨q50, q51, f0, f1⟩ := hx5
              clear q0 q1 hin5 hb5 hin hx hd hbel hd5 hz
              go_wp2_with fail
              clear f0 f1 q50 q51
              go_roundw
              case rel => exact ⟨c + 1, _, _, _, by omega, by go_num, by rw [HYS.out]; exact HI5, HX5, HD5, HB5, HZ5⟩
              case measure => simp [intOf] <;> omega
            · obtain rfl : c = kk := by omega
              obtain ⟨av, cv, rfl⟩ := hin.out.form
              obtain ⟨zs, hzs⟩ : ∃ zs, turnK n base c = zs := ⟨_, rfl⟩
              rw [hzs] at hin hx
              have HZS := Lib.hid hzs
              clear hzs
              obtain ⟨q0, q1, _, _⟩ := hx.out
              obtain ⟨d0, d1, f0, f1⟩ := hd.out
              have zl := hz.out.2.1
              have zh := hz.out.2.2
              clear hx hd hz
              go_wp2_with fail
              refine bodyPost_ret (v := .agg #[.int .i64 n, .slice av zs.length cv]) (by simp [results, Tryz.results26, go_sem, d0, d1]) rfl ⟨_, rfl, ?_, ?_⟩
              · rw [HZS.out]
                refine CellIn.wide (lo := l) (hi := h) ?_ (by omega) (by simp [World.setCell]; omega)
                refine CellIn.set_far (CellIn.set_far hin.out ?_ _) ?_ _ <;> (simp <;> omega)
              · refine Below.setCell (Below.setCell hbel.out ?_ _) ?_ _ <;> (simp <;> omega)
    · rw [(see_no (n := n) (k := k) (fun h => hk h.2)).1, (see_no (n := n) (k := k) (xs := xs) (fun h => hk h.2)).2]
      clear hb
      by_cases k0 : k < 0
      · clear hk
        go_enter Tryz.func26, Tryz.ntmps26
        go_wp2_with fail
        refine (ImplBlockOk_yes lo hi n _ xs _ (HR.out _ (bel_n (bel0 w _) (Nat.le_refl _) _)) (by simp; omega) HB.out).mono ?_
        rintro e w1 ⟨rfl, hb1⟩
        have d0 := kept (p := ⟨w.heap.size + 1, 0, none⟩) (x := .int .i64 0) hb1 (by go_simp)
        have d1 := kept (p := ⟨w.heap.size + 1, 1, none⟩) (x := .slice none 0 0) hb1 (by go_simp)
        have g0 := keptF (p := ⟨w.heap.size + 1, 0, none⟩) (x := .int .i64 0) hb1 (by go_simp) (by go_simp)
        have g1 := keptF (p := ⟨w.heap.size + 1, 1, none⟩) (x := .slice none 0 0) hb1 (by go_simp) (by go_simp)
        have B := bel_c (bel_n (bel0 w (.cells #[.int .i64 n, .slice a xs.length cap] 26)) (Nat.le_refl _) (.cells #[.int .i64 0, .slice none 0 0] 26)) (Nat.le_refl _) hb1
        clear hb1
        go_wp2_with fail
        refine (ViewOk_no k _ (.inl k0)).mono ?_
        rintro e uu ⟨rfl, huu⟩
        have huu := huu.symm
        subst huu
        go_wp2_with fail
        refine bodyPost_ret (v := .agg #[.int .i64 0, .slice none 0 0]) (by simp [results, Tryz.results26, go_sem, d0, d1]) rfl ⟨.slice none 0 0, rfl, ⟨by simp, .inl ⟨rfl, _, _, rfl⟩⟩, ?_⟩
        refine Below.setCell (Below.setCell B ?_ _) ?_ _ <;> (simp <;> omega)
      · have hk8 : 8 ≤ k := by omega
        clear hk
        go_enter Tryz.func26, Tryz.ntmps26
        go_wp2_with fail
        refine (ImplBlockOk_yes lo hi n _ xs _ (HR.out _ (bel_n (bel0 w _) (Nat.le_refl _) _)) (by simp; omega) HB.out).mono ?_
        rintro e w1 ⟨rfl, hb1⟩
        have d0 := kept (p := ⟨w.heap.size + 1, 0, none⟩) (x := .int .i64 0) hb1 (by go_simp)
        have d1 := kept (p := ⟨w.heap.size + 1, 1, none⟩) (x := .slice none 0 0) hb1 (by go_simp)
        have g0 := keptF (p := ⟨w.heap.size + 1, 0, none⟩) (x := .int .i64 0) hb1 (by go_simp) (by go_simp)
        have g1 := keptF (p := ⟨w.heap.size + 1, 1, none⟩) (x := .slice none 0 0) hb1 (by go_simp) (by go_simp)
        have B := bel_c (bel_n (bel0 w (.cells #[.int .i64 n, .slice a xs.length cap] 26)) (Nat.le_refl _) (.cells #[.int .i64 0, .slice none 0 0] 26)) (Nat.le_refl _) hb1
        clear hb1
        go_wp2_with fail
        refine (ViewOk_no k _ (.inr (by omega))).mono ?_
        rintro e uu ⟨rfl, huu⟩
        have huu := huu.symm
        subst huu
        go_wp2_with fail
        refine bodyPost_ret (v := .agg #[.int .i64 0, .slice none 0 0]) (by simp [results, Tryz.results26, go_sem, d0, d1]) rfl ⟨.slice none 0 0, rfl, ⟨by simp, .inl ⟨rfl, _, _, rfl⟩⟩, ?_⟩
        refine Below.setCell (Below.setCell B ?_ _) ?_ _ <;> (simp <;> omega)
  · rw [(see_no (n := n) (k := k) (fun h => hb h.1)).1, (see_no (n := n) (k := k) (xs := xs) (fun h => hb h.1)).2]
    have HB := Lib.hid hb
    clear hb
    go_enter Tryz.func26, Tryz.ntmps26
    go_wp2_with fail
    refine (ImplBlockOk_no lo hi n _ xs _ (HR.out _ (bel_n (bel0 w _) (Nat.le_refl _) _)) (by simp; omega) HB.out).mono ?_
    rintro e w1 ⟨rfl, hb1⟩
    have d0 := kept (p := ⟨w.heap.size + 1, 0, none⟩) (x := .int .i64 0) hb1 (by go_simp)
    have d1 := kept (p := ⟨w.heap.size + 1, 1, none⟩) (x := .slice none 0 0) hb1 (by go_simp)
    have g0 := keptF (p := ⟨w.heap.size + 1, 0, none⟩) (x := .int .i64 0) hb1 (by go_simp) (by go_simp)
    have g1 := keptF (p := ⟨w.heap.size + 1, 1, none⟩) (x := .slice none 0 0) hb1 (by go_simp) (by go_simp)
    have B := bel_c (bel_n (bel0 w (.cells #[.int .i64 n, .slice a xs.length cap] 26)) (Nat.le_refl _) (.cells #[.int .i64 0, .slice none 0 0] 26)) (Nat.le_refl _) hb1
    clear hb1
    go_wp2_with fail
    refine bodyPost_ret (v := .agg #[.int .i64 0, .slice none 0 0]) (by simp [results, Tryz.results26, go_sem, d0, d1]) rfl ⟨.slice none 0 0, rfl, ⟨by simp, .inl ⟨rfl, _, _, rfl⟩⟩, ?_⟩
    refine Below.setCell (Below.setCell B ?_ _) ?_ _ <;> (simp <;> omega)

end Go.Proofs.YtfidnhhlcdbaeaaGreatDoor

namespace Go.Proofs.YtfidnhhlcdbaeaaGreatDoor

end Go.Proofs.YtfidnhhlcdbaeaaGreatDoor

namespace Go.Proofs.YtfidnhhlcdbaeaaGreatDoor
open Go.ChangeShapes Go.WideShapes Go.ChangeAt Go.RowKit

/-- By what the color a is replaced. -/
def atL (zs : List Int) (a : Int) : Int := zs.getD a.toNat 0
def LstOk (zs : List Int) : Prop := zs.length = 6 ∧ ∀ z ∈ zs, 0 ≤ z ∧ z ≤ 5
def Col (a : Int) : Prop := 0 ≤ a ∧ a ≤ 5
def Exch (zs : List Int) : Prop := LstOk zs ∧ zs.Nodup
theorem atL_ok {zs : List Int} (h : LstOk zs) {a : Int} (ha : Col a) : Col (atL zs a) := by
  unfold Col at ha
  have hl : a.toNat < zs.length := by rw [h.1]; omega
  exact h.2 _ (by simp [atL, List.getD, hl])
theorem atL_map {ys : List Int} (h : ys.length = 6) (f : Int → Int) {a : Int} (ha : Col a) : atL (ys.map f) a = f (atL ys a) := by
  unfold Col at ha
  have hl : a.toNat < ys.length := by rw [h]; omega
  simp [atL, List.getD, hl]
theorem lst_ext {ys zs : List Int} (h1 : ys.length = 6) (h2 : zs.length = 6) (h : ∀ a, Col a → atL ys a = atL zs a) : ys = zs := by
  apply List.ext_getElem (by rw [h1, h2])
  intro i a b
  have := h (i : Int) ⟨by omega, by omega⟩
  simpa [atL, List.getD, a, b] using this
/-- A valid cell in other colors. -/
def exC (zs : List Int) (c : C3) : C3 := if atL zs c.a = atL zs c.b then ⟨0, atL zs c.a, atL zs c.a⟩ else ⟨c.s, atL zs c.a, atL zs c.b⟩
theorem exC_a (zs : List Int) (c : C3) : (exC zs c).a = atL zs c.a := by unfold exC; split <;> rfl
theorem exC_b (zs : List Int) (c : C3) : (exC zs c).b = atL zs c.b := by
  unfold exC
  split
  · rename_i h; exact h
  · rfl
theorem okC_col {c : C3} (h : c.Ok) : Col c.a ∧ Col c.b := by
  change OkC c.s c.a c.b at h
  unfold OkC at h
  exact ⟨h.2.1, h.2.2.1⟩
theorem exC_ok {zs : List Int} {c : C3} (h : LstOk zs) (hc : c.Ok) : (exC zs c).Ok := by
  obtain ⟨ha, hb⟩ := okC_col hc
  have h1 := atL_ok h ha
  have h2 := atL_ok h hb
  change OkC c.s c.a c.b at hc
  unfold Col at h1 h2
  unfold exC
  split
  · show OkC 0 (atL zs c.a) (atL zs c.a)
    unfold OkC
    omega
  · rename_i hn
    show OkC c.s (atL zs c.a) (atL zs c.b)
    have : ¬ c.a = c.b := fun e => hn (by rw [e])
    unfold OkC at hc ⊢
    refine ⟨hc.1, h1, h2, ⟨fun e => absurd (hc.2.2.2.1 e) this, fun e => absurd e hn⟩⟩
/-- What SplitCell makes of the replaced colors. -/
theorem sp_exC {zs : List Int} {c : C3} (h : LstOk zs) (hc : c.Ok) : spS c.s (atL zs c.a) (atL zs c.b) = (exC zs c).s ∧ spA c.s (atL zs c.a) (atL zs c.b) = (exC zs c).a ∧ spB c.s (atL zs c.a) (atL zs c.b) = (exC zs c).b := by
  obtain ⟨ha, hb⟩ := okC_col hc
  have h1 := atL_ok h ha
  have hok := exC_ok h hc
  by_cases e : atL zs c.a = atL zs c.b
  · have ex : exC zs c = ⟨0, atL zs c.a, atL zs c.a⟩ := if_pos e
    rw [ex, ← e]
    obtain ⟨e1, e2, e3⟩ := sp_same c.s (atL zs c.a)
    rw [e1, e2, e3, wh_yes h1]
    exact ⟨rfl, rfl, rfl⟩
  · have ex : exC zs c = ⟨c.s, atL zs c.a, atL zs c.b⟩ := if_neg e
    rw [ex] at hok ⊢
    exact sp_ok e hok
noncomputable def exZ (zs : List Int) (c : C3) : C3 := @ite _ (c.Ok ∧ LstOk zs) (Classical.propDecidable _) (exC zs c) C3.zero
theorem exZ_yes {zs : List Int} {c : C3} (h : c.Ok) (k : LstOk zs) : exZ zs c = exC zs c := if_pos ⟨h, k⟩
theorem exZ_no {zs : List Int} {c : C3} (h : ¬ (c.Ok ∧ LstOk zs)) : exZ zs c = C3.zero := if_neg h
def exL (zs : List Int) (xs : List C3) : List C3 := xs.map (exC zs)
theorem exL_length (zs : List Int) (xs : List C3) : (exL zs xs).length = xs.length := by simp [exL]
theorem exL_ok {zs : List Int} {n : Int} {xs : List C3} (h : LstOk zs) (hb : BlkOk n xs) : BlkOk n (exL zs xs) := by
  refine ⟨hb.1, by rw [exL_length]; exact hb.2.1, fun c hc => ?_⟩
  unfold exL at hc
  rw [List.mem_map] at hc
  obtain ⟨x, hx, rfl⟩ := hc
  exact exC_ok h (hb.2.2 x hx)
theorem exC_comp {ys zs : List Int} (h : ys.length = 6) {c : C3} (hc : c.Ok) : exC zs (exC ys c) = exC (ys.map (atL zs)) c := by
  obtain ⟨ha, hb⟩ := okC_col hc
  have e1 := atL_map h (atL zs) ha
  have e2 := atL_map h (atL zs) hb
  by_cases e : atL ys c.a = atL ys c.b
  · have ex : exC ys c = ⟨0, atL ys c.a, atL ys c.a⟩ := if_pos e
    rw [ex]
    unfold exC
    rw [e1, e2]
    simp [e]
  · have ex : exC ys c = ⟨c.s, atL ys c.a, atL ys c.b⟩ := if_neg e
    rw [ex]
    unfold exC
    rw [e1, e2]
theorem exC_congr {ys zs : List Int} {c : C3} (h1 : atL ys c.a = atL zs c.a) (h2 : atL ys c.b = atL zs c.b) : exC ys c = exC zs c := by
  unfold exC
  rw [h1, h2]
def idL : List Int := [0, 1, 2, 3, 4, 5]
theorem idL_ok : LstOk idL := by
  refine ⟨rfl, fun z hz => ?_⟩
  simp [idL] at hz
  omega
theorem atL_id {a : Int} (h : Col a) : atL idL a = a := by
  unfold Col at h
  have : a = 0 ∨ a = 1 ∨ a = 2 ∨ a = 3 ∨ a = 4 ∨ a = 5 := by omega
  rcases this with rfl | rfl | rfl | rfl | rfl | rfl <;> rfl
theorem exC_id {c : C3} (hc : c.Ok) : exC idL c = c := by
  obtain ⟨ha, hb⟩ := okC_col hc
  obtain ⟨s, a, b⟩ := c
  change OkC s a b at hc
  unfold exC
  dsimp only at ha hb ⊢
  rw [atL_id ha, atL_id hb]
  unfold OkC at hc
  split
  · rename_i e
    rw [hc.2.2.2.2 e, e]
  · rfl
theorem exL_id {n : Int} {xs : List C3} (hb : BlkOk n xs) : exL idL xs = xs := by
  unfold exL
  have : ∀ l : List C3, (∀ c ∈ l, c.Ok) → l.map (exC idL) = l := fun l hl => by
    induction l with
    | nil => rfl
    | cons x r ih => rw [List.map_cons, exC_id (hl x (by simp)), ih (fun c hc => hl c (by simp [hc]))]
  exact this xs hb.2.2
theorem exL_comp {ys zs : List Int} {n : Int} {xs : List C3} (h : ys.length = 6) (hb : BlkOk n xs) : exL zs (exL ys xs) = exL (ys.map (atL zs)) xs := by
  unfold exL
  rw [List.map_map]
  apply List.map_congr_left
  intro c hc
  exact exC_comp h (hb.2.2 c hc)
/-- The list that exchanges two colors. -/
def swpL (a b : Int) : List Int := (idL.set a.toNat b).set b.toNat a
theorem swp_all : ∀ a b : Fin 6, LstOk (swpL a.val b.val) ∧ (swpL a.val b.val).map (atL (swpL a.val b.val)) = idL ∧ ∀ c : Fin 6, (atL (swpL a.val b.val) c.val = a.val ↔ (c.val : Int) = b.val) := by
  unfold LstOk
  decide
theorem swp_ok {a b : Int} (ha : Col a) (hb : Col b) : LstOk (swpL a b) ∧ (swpL a b).map (atL (swpL a b)) = idL ∧ ∀ c, Col c → (atL (swpL a b) c = a ↔ c = b) := by
  unfold Col at ha hb
  obtain ⟨i, rfl⟩ : ∃ j : Nat, a = j := ⟨a.toNat, by omega⟩
  obtain ⟨k, rfl⟩ : ∃ j : Nat, b = j := ⟨b.toNat, by omega⟩
  obtain ⟨h1, h2, h3⟩ := swp_all ⟨i, by omega⟩ ⟨k, by omega⟩
  refine ⟨h1, h2, fun c hc => ?_⟩
  unfold Col at hc
  obtain ⟨j, rfl⟩ : ∃ j : Nat, c = j := ⟨c.toNat, by omega⟩
  exact h3 ⟨j, by omega⟩
theorem swp_twice {a b n : Int} {xs : List C3} (ha : Col a) (hb : Col b) (h : BlkOk n xs) : exL (swpL a b) (exL (swpL a b) xs) = xs := by
  obtain ⟨h1, h2, _⟩ := swp_ok ha hb
  rw [exL_comp h1.1 h, h2, exL_id h]
theorem ar2_ex (zs : List Int) (c : C3) (k : Int) : ar2 (exC zs c) k = (if atL zs c.a = k then 2 else 0) + (if atL zs c.b = k then 2 else 0) := by
  unfold ar2
  rw [exC_a, exC_b]
theorem arL_all' {zs : List Int} {i k : Int} : ∀ xs : List C3, (∀ c ∈ xs, ar2 (exC zs c) i = ar2 c k) → ((exL zs xs).map (fun c => ar2 c i)).sum = (xs.map (fun c => ar2 c k)).sum
  | [], _ => rfl
  | x :: r, h => by
    have ih := arL_all' r (fun c hc => h c (by simp [hc]))
    unfold exL at ih ⊢
    simp only [List.map_cons, List.sum_cons, h x (by simp), ih]
theorem swp_area {a b n : Int} {xs : List C3} (ha : Col a) (hb : Col b) (h : BlkOk n xs) : arL (exL (swpL a b) xs) a (exL (swpL a b) xs).length = arL xs b xs.length := by
  obtain ⟨_, _, h3⟩ := swp_ok ha hb
  unfold arL
  rw [List.take_length, List.take_length]
  refine arL_all' xs (fun c hc => ?_)
  obtain ⟨h1, h2⟩ := okC_col (h.2.2 c hc)
  rw [ar2_ex]
  unfold ar2
  have e1 := h3 c.a h1
  have e2 := h3 c.b h2
  by_cases p : c.a = b <;> by_cases q : c.b = b <;> simp [p, q] <;> simp_all

end Go.Proofs.YtfidnhhlcdbaeaaGreatDoor
