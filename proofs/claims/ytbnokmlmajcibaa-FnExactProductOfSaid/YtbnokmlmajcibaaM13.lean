/- Turns: the program's SeenFrom. Turns: the program's contracts. Exchanges: the program's appendNew and IsExchange. Exchanges: the program's SwapList and UndoList. -/
import Derived.Test.YtbnokmlmajcibaaM12
import Derived.Test.YtbnokmlmajcibaaM05
import Derived.Test.YtbnokmlmajcibaaM08
import Derived.Test.YtbnokmlmajcibaaM09
import Derived.Deep.DeepCutAuto
import Derived.Deep.RegionHeld3
import Derived.Test.YtbnokmlmajcibaaM10

namespace Go.Proofs.Ytbnokmlmajcibaa
open Go.ChangeShapes Go.WideShapes Go.ChangeAt Go.RowKit

theorem nilC_yes (n cap : Nat) (w : World) : (Sem.run Try.prog (binOp BinOp.eql 24 (Value.slice none n cap) (Value.slice none 0 0)) w) = Result.ok (.bool true) w := by kernel_rfl
theorem nilC_no (g : Addr) (n cap : Nat) (w : World) : (Sem.run Try.prog (binOp BinOp.eql 24 (Value.slice (some g) n cap) (Value.slice none 0 0)) w) = Result.ok (.bool false) w := by kernel_rfl
set_option maxHeartbeats 400000 in
theorem CloneC_any (lo hi : Nat) (v : Value) (xs : List C3) (w : World) (r : CellIn lo hi w v xs) (hhi : hi ≤ w.heap.size) : Calls Try.prog 67 #[v] w (FreshC xs w) := by
  obtain ⟨i0, hi0, hz0, hz1, hz2⟩ := info_parts3 info_cell
  obtain ⟨a, cap, rfl⟩ := r.form
  have hl := r.1
  rcases Nat.eq_zero_or_pos xs.length with h0 | h0
  · have hx : xs = [] := List.length_eq_zero_iff.1 h0
    subst hx
    clear r hl h0
    cases a
    · have hN := nilC_yes 0 cap
      go_enter Try.func67, Try.ntmps67
      go_wp2_with fail
      go_ret
      exact ⟨_, rfl, ⟨by simp, .inl ⟨rfl, _, _, rfl⟩⟩, Below.refl _ _⟩
    · rename_i g0
      have hN := nilC_no g0 0 cap
      go_enter Try.func67, Try.ntmps67
      go_wp2_with fail
      go_ret
      exact ⟨_, rfl, ⟨by simp, .inl ⟨rfl, _, _, rfl⟩⟩, bel0 w _⟩
  · obtain ⟨g, rfl, hg, hg1, hn⟩ := r.news h0
    have HR := Lib.hid (hn (w.alloc (.cells #[] 58)) ((bel0 w _).mono hhi))
    have HO := Lib.hid (own_new3 w 58)
    clear r hn
    have hN := nilC_no ⟨g, 0, none⟩ xs.length cap
    go_enter Try.func67, Try.ntmps67
    go_wp2_with (at_builtin; refine wpList_append_lies _ rfl _ _ 24 rfl w.heap.size 58 i0 _ 3 24 Try.underlying24 hi0 hz0 hz1 hz2 rfl (by decide) _ _ _ rfl HO.out ⟨g, 0, none⟩ xs.length cap (places xs) rfl (places_length xs) HR.out (places_one xs) h0 (by unfold maxLen; omega) (by omega) (by simp) (w.heap.size + 1) (by simp) ?_; intro gg cc w1 hown1 hgrow hat hlt1)
    have hbw := (Below.refl w.heap.size _).grown hgrow (by simp) (own_ge3 HO.out)
    have hB : Below w.heap.size w w1 := (bel0 w _).trans hbw
    have hin : CellIn w.heap.size w1.heap.size w1 (.slice (some ⟨gg, 0, none⟩) xs.length cc) xs := CellIn.of_owns (xs := xs) (by simpa using hown1) hl
    clear hown1 hgrow hat hlt1 hbw HO HR
    go_ret
    exact ⟨_, rfl, by simpa using hin, hB⟩

set_option maxRecDepth 100000 in
set_option maxHeartbeats 4000000 in
theorem ImplSeenFrom_any (lo hi : Nat) (n k : Int) (v : Value) (xs : List C3) (w : World) (r : CellIn lo hi w v xs) (hhi : hi ≤ w.heap.size) :
    Calls Try.prog 41 #[.agg #[.int .i64 n, v], .int .i64 k] w (FreshB (seeN n k xs) (seeB n k xs) w) := by
  obtain ⟨a, cap, rfl⟩ := r.form
  have hl := r.1
  have HR := Lib.hid (fun W (hb : Below w.heap.size w W) => r.below (hb.mono hhi))
  clear r
  by_cases hb : BlkOk n xs
  · have HB := Lib.hid hb
    by_cases hk : 0 ≤ k ∧ k ≤ 7
    · obtain ⟨k0, k7⟩ := hk
      rw [(see_yes (n := n) (k := k) ⟨hb, k0, k7⟩).1, (see_yes (n := n) (k := k) ⟨hb, k0, k7⟩).2]
      obtain ⟨kk, hkk⟩ : ∃ kk : Nat, k % 4 = kk := ⟨(k % 4).toNat, by omega⟩
      have hkt : (k % 4).toNat = kk := by omega
      rw [hkt]
      have HK := Lib.hid hkk
      have hkb : kk ≤ 3 := by omega
      have hk0 : ¬ k < 0 := by omega
      have hk8 : ¬ 8 ≤ k := by omega
      clear hkk hkt
      by_cases hge : 4 ≤ k
      · rw [if_pos hge]
        have HBB := Lib.hid (mir_ok hb)
        clear hb
        obtain ⟨base, hbase⟩ : ∃ base, base = mirL n xs := ⟨_, rfl⟩
        rw [← hbase] at HBB ⊢
        have HBS := Lib.hid hbase
        clear hbase
        go_enter Try.func41, Try.ntmps41
        go_wp2_with fail
        refine (ImplBlockOk_yes lo hi n _ xs _ (HR.out _ (bel_n (bel0 w _) (Nat.le_refl _) _)) (by simp; omega) HB.out).mono ?_
        rintro e w1 ⟨rfl, hb1⟩
        have HP1 : Hid (BoxB w.heap.size (.int .i64 n) (.slice a xs.length cap) w1) := Lib.hid (((BoxB.new w (.int .i64 n) (.slice a xs.length cap) 26).below (bel0 _ _) (by simp)).below hb1 (by simp; omega))
        have HD1 : Hid (BoxB (w.heap.size + 1) (.int .i64 0) (.slice none 0 0) w1) := Lib.hid (by
          have h := BoxB.new (w.alloc (.cells #[.int .i64 n, .slice a xs.length cap] 26)) (.int .i64 0) (.slice none 0 0) 26
          exact (show BoxB (w.heap.size + 1) _ _ _ by simpa using h).below hb1 (by simp))
        have HB1 := Lib.hid (bel_c (bel_n (bel0 w (.cells #[.int .i64 n, .slice a xs.length cap] 26)) (Nat.le_refl _) (.cells #[.int .i64 0, .slice none 0 0] 26)) (Nat.le_refl _) hb1)
        clear hb1
        go_wp2_with fail
        refine (ViewOk_yes k _ k0 k7).mono ?_
        rintro e uu ⟨rfl, huu⟩
        have huu := huu.symm
        subst huu
        go_upto_region 3 with fail
        have HPW := HD1.out.lt
        have D0 : Below w1.heap.size w1 w1.drew := ⟨rfl, rfl, rfl, Nat.le_refl _, fun _ _ => rfl⟩
        have KP : ∀ u v, Below u.heap.size u v → (u.cell? ⟨w.heap.size, 0, none⟩ = some (.int .i64 n) ∧ u.cell? ⟨w.heap.size, 1, none⟩ = some (.slice a xs.length cap)) → (v.cell? ⟨w.heap.size, 0, none⟩ = some (.int .i64 n) ∧ v.cell? ⟨w.heap.size, 1, none⟩ = some (.slice a xs.length cap)) := fun u v hb h => ⟨kept hb h.1, kept hb h.2⟩
        have KS : ∀ (u : World) (p : Nat) (v0 v1 : Value), w.heap.size < p → (u.cell? ⟨w.heap.size, 0, none⟩ = some (.int .i64 n) ∧ u.cell? ⟨w.heap.size, 1, none⟩ = some (.slice a xs.length cap)) → (((u.setCell ⟨p, 0, none⟩ v0).setCell ⟨p, 1, none⟩ v1).cell? ⟨w.heap.size, 0, none⟩ = some (.int .i64 n) ∧ ((u.setCell ⟨p, 0, none⟩ v0).setCell ⟨p, 1, none⟩ v1).cell? ⟨w.heap.size, 1, none⟩ = some (.slice a xs.length cap)) := by
          intro u p v0 v1 hp h
          have h1 : p ≠ w.heap.size := by omega
          have f : ∀ (q o : Nat), p ≠ q → ((u.setCell ⟨p, 0, none⟩ v0).setCell ⟨p, 1, none⟩ v1).cell? ⟨q, o, none⟩ = u.cell? ⟨q, o, none⟩ := fun q o hq => by
            rw [World.cell?_setCell_other _ _ _ _ (by simp), World.cell?_setCell_other _ _ _ _ (by simp)]
          simpa only [f _ _ h1] using h
        have N1 := Lib.hid (CloneC_any lo hi _ xs w1.drew (HR.out _ (bel_c HB1.out (Nat.le_refl _) D0)) (Nat.le_trans hhi HB1.out.size))
        have N2 := Lib.hid (CloneC_any lo hi _ xs (w1.drew.alloc (.cells #[.int .i64 0, .slice none 0 0] 26)) (HR.out _ (bel_n (bel_c HB1.out (Nat.le_refl _) D0) (Nat.le_refl _) (.cells #[.int .i64 0, .slice none 0 0] 26))) (Nat.le_trans hhi (bel_n (bel_c HB1.out (Nat.le_refl _) D0) (Nat.le_refl _) (.cells #[.int .i64 0, .slice none 0 0] 26)).size))
        obtain ⟨c0, c1, _, _⟩ := HP1.out
        go_cut [5] (fun q wx => WR n true xs w1 q (.bool true) wx)
        case first =>
          go_region_held3 (fun w' => w'.cell? ⟨w.heap.size, 0, none⟩ = some (.int .i64 n) ∧ w'.cell? ⟨w.heap.size, 1, none⟩ = some (.slice a xs.length cap)) (first | exact S4 | exact KP _ _ (bel0 _ _) S4 | exact KS _ _ _ _ (by omega) S4 | (refine KP _ _ (by assumption) ?_; assumption) | exact KP _ _ (bel0 _ _) (by assumption) | go_keep)
            ((first
              | (go_at_call 67; refine N1.out.mono ?_; rintro e w2 ⟨v2, rfl, hin2, hb2⟩; obtain ⟨a2, d2, rfl⟩ := hin2.form; have hbz : Below w1.heap.size w1 w2 := D0.trans hb2; have S4 := KP w1.drew w2 hb2 (by assumption); have R1 := Lib.hid hin2; clear hin2 hb2)
              | (go_at_call 67; refine N2.out.mono ?_; rintro e w2 ⟨v2, rfl, hin2, hb2⟩; obtain ⟨a2, d2, rfl⟩ := hin2.form; have hbz : Below w1.heap.size w1 w2 := bel_c (bel_n D0 (Nat.le_refl _) (.cells #[.int .i64 0, .slice none 0 0] 26)) (Nat.le_refl _) hb2; have bz3 := Lib.hid (show BoxB w1.heap.size (.int .i64 0) (.slice none 0 0) w2 from (BoxB.new w1.drew (.int .i64 0) (.slice none 0 0) 26).below hb2 (by simp)); obtain ⟨k0, k1, k2, k3⟩ := bz3.out; have S4 := KP (w1.drew.alloc (.cells #[.int .i64 0, .slice none 0 0] 26)) w2 hb2 (by assumption); have R1 := Lib.hid hin2; clear hin2 hb2)))
          all_goals
            go_wp2_with fail
            go_meet
            first
            | exact WR.old R1.out bz3.out hbz (by simp) (Nat.le_refl _) (.inl (by simp))
            | exact WR.new R1.out hbz (Nat.le_refl _)
        case rest =>
          obtain ⟨o, a4, c4, l4, h4, rfl, -, bx4, R4, ho4, zl4, zp4, zh4, hb⟩ := hcut
          have HPO : Hid (w.heap.size + 1 < o) := Lib.hid (Nat.lt_of_lt_of_le HPW zp4)
          have HX3 := Lib.hid bx4
          have HD3 := Lib.hid (HD1.out.below hb HPW)
          have HB3 := Lib.hid (bel_c HB1.out (Nat.le_refl _) hb)
          have HC3 := Lib.hid R4
          have HZ3 : Hid ((o < l4 ∨ h4 ≤ o) ∧ w.heap.size + 1 < l4 ∧ h4 ≤ wc.heap.size) := Lib.hid ⟨ho4, Nat.lt_of_lt_of_le HPW zl4, zh4⟩
          clear bx4 R4 ho4 zl4 zp4 zh4 hb HP1 HD1 HB1 D0 KP KS N1 N2 c0 c1
          have hk4 : 4 ≤ k := by omega
          have hrem : k % 4 = (kk : Int) := HK.out
          have q0 := HX3.out.1
          have q1 := HX3.out.2.1
          have HOL : Hid (o < wc.heap.size) := Lib.hid HX3.out.lt
          have CM := Lib.hid (ImplMirrorBlock_any l4 h4 n _ xs wc HC3.out HZ3.out.2.2)
          rw [(turnB_yes HB.out).1, (turnB_yes HB.out).2.2] at CM
          obtain ⟨ys, hys⟩ : ∃ ys, mirL n xs = ys := ⟨_, rfl⟩
          rw [hys] at CM
          have HYM := Lib.hid hys
          clear hys
          go_wp2_with fail
          refine (MirV_yes k _ hk4).mono ?_
          rintro e uu ⟨rfl, huu⟩
          have huu := huu.symm
          subst huu
          go_wp2_with fail
          refine CM.out.mono ?_
          rintro e w5 ⟨v5, rfl, hin5, hb5⟩
          obtain ⟨a5, c5, rfl⟩ := hin5.form
          have hx5 := HX3.out.below hb5 HOL.out
          have HX0 := Lib.hid (BoxB.two (x' := .int .i64 n) (y' := .slice a5 ys.length c5) hx5)
          have hd5 := HD3.out.below hb5 HD3.out.lt
          have HD0 := Lib.hid ((hd5.set_far (q := o) (o := 0) (by have := HPO.out; omega) (.int .i64 n)).set_far (q := o) (o := 1) (by have := HPO.out; omega) (.slice a5 ys.length c5))
          have HI5 := Lib.hid ((hin5.set_far (p := ⟨o, 0, none⟩) HOL.out (.int .i64 n)).set_far (p := ⟨o, 1, none⟩) HOL.out (.slice a5 ys.length c5))
          have HB0 := Lib.hid (Below.setCell (Below.setCell (bel_c HB3.out (Nat.le_refl _) hb5) (p := ⟨o, 0, none⟩) (by show _ ≤ o; have := HPO.out; omega) (.int .i64 n)) (p := ⟨o, 1, none⟩) (by show _ ≤ o; have := HPO.out; omega) (.slice a5 ys.length c5))
          have HZ0 : Hid ((o < wc.heap.size ∨ w5.heap.size ≤ o) ∧ w.heap.size + 1 < wc.heap.size ∧ w5.heap.size ≤ ((w5.setCell ⟨o, 0, none⟩ (.int .i64 n)).setCell ⟨o, 1, none⟩ (.slice a5 ys.length c5)).heap.size) := Lib.hid ⟨.inl HOL.out, HD3.out.lt, by simp [World.setCell]⟩
          obtain ⟨q50, q51, f0, f1⟩ := hx5
          have HC0 : Hid (CellIn wc.heap.size w5.heap.size ((w5.setCell ⟨o, 0, none⟩ (.int .i64 n)).setCell ⟨o, 1, none⟩ (.slice a5 ys.length c5)) (.slice a5 ys.length c5) (turnK n base 0)) := Lib.hid (by show CellIn _ _ _ _ base; rw [HBS.out, HYM.out]; exact HI5.out)
          clear q0 q1 hin5 hb5 hd5 HC3 HX3 HD3 HB3 HZ3 HI5
          go_wp2_with fail
          clear f0 f1 q50 q51
          (try rw [hrem])
          go_loopw [27] (fun i wr => ∃ (c : Nat) (v : Value) (l h : Nat), c ≤ kk ∧ i = .int .i64 c ∧ Hid (CellIn l h wr v (turnK n base c)) ∧ Hid (BoxB o (.int .i64 n) v wr) ∧ Hid (BoxB (w.heap.size + 1) (.int .i64 0) (.slice none 0 0) wr) ∧ Hid (Below w.heap.size w wr) ∧ Hid ((o < l ∨ h ≤ o) ∧ w.heap.size + 1 < l ∧ h ≤ wr.heap.size)) (fun i _ => kk - (intOf i).toNat)
          case atStart => exact ⟨0, _, _, _, Nat.zero_le _, rfl, HC0, HX0, HD0, HB0, HZ0⟩
          case round =>
            clear HC0 HX0 HD0 HB0 HZ0
            obtain ⟨c, v, l, h, hc, rfl, hin, hx, hd, hbel, hz⟩ := hrel
            by_cases hlt : c < kk
            · obtain ⟨av, cv, rfl⟩ := hin.out.form
              have q0 := hx.out.1
              have q1 := hx.out.2.1
              have CT := Lib.hid (ImplTurnBlock_any l h n (.slice av (turnK n base c).length cv) (turnK n base c) wr hin.out hz.out.2.2)
              rw [(turnB_yes (turnK_ok HBB.out c)).1, (turnB_yes (turnK_ok HBB.out c)).2.1] at CT
              change Hid (Calls _ _ _ _ (FreshB n (turnK n base (c + 1)) wr)) at CT
              obtain ⟨ys, hys⟩ : ∃ ys, turnK n base (c + 1) = ys := ⟨_, rfl⟩
              rw [hys] at CT
              have HYS := Lib.hid hys
              clear hys
              generalize turnK n base c = zs at CT hin hx q1
              have HOL : Hid (o < wr.heap.size) := Lib.hid hx.out.lt
              go_wp2_with fail
              refine CT.out.mono ?_
              rintro e w5 ⟨v5, rfl, hin5, hb5⟩
              obtain ⟨a5, c5, rfl⟩ := hin5.form
              have hx5 := hx.out.below hb5 HOL.out
              have HX5 := Lib.hid (BoxB.two (x' := .int .i64 n) (y' := .slice a5 ys.length c5) hx5)
              have hd5 := hd.out.below hb5 hd.out.lt
              have HD5 := Lib.hid ((hd5.set_far (q := o) (o := 0) (by have := HPO.out; omega) (.int .i64 n)).set_far (q := o) (o := 1) (by have := HPO.out; omega) (.slice a5 ys.length c5))
              have HI5 := Lib.hid ((hin5.set_far (p := ⟨o, 0, none⟩) HOL.out (.int .i64 n)).set_far (p := ⟨o, 1, none⟩) HOL.out (.slice a5 ys.length c5))
              have HB5 := Lib.hid (Below.setCell (Below.setCell (bel_c hbel.out (Nat.le_refl _) hb5) (p := ⟨o, 0, none⟩) (by show _ ≤ o; have := HPO.out; omega) (.int .i64 n)) (p := ⟨o, 1, none⟩) (by show _ ≤ o; have := HPO.out; omega) (.slice a5 ys.length c5))
              have HZ5 : Hid ((o < wr.heap.size ∨ w5.heap.size ≤ o) ∧ w.heap.size + 1 < wr.heap.size ∧ w5.heap.size ≤ ((w5.setCell ⟨o, 0, none⟩ (.int .i64 n)).setCell ⟨o, 1, none⟩ (.slice a5 ys.length c5)).heap.size) := Lib.hid ⟨.inl HOL.out, hd.out.lt, by simp [World.setCell]⟩
              obtain ⟨q50, q51, f0, f1⟩ := hx5
              clear q0 q1 hin5 hb5 hin hx hd hbel hd5 hz
              go_wp2_with fail
              clear f0 f1 q50 q51
              go_roundw
              case rel => exact ⟨c + 1, _, _, _, by omega, by go_num, by rw [HYS.out]; exact HI5, HX5, HD5, HB5, HZ5⟩
              case measure => simp [intOf] <;> omega
            · obtain rfl : c = kk := by omega
              obtain ⟨av, cv, rfl⟩ := hin.out.form
              obtain ⟨zs, hzs⟩ : ∃ zs, turnK n base c = zs := ⟨_, rfl⟩
              rw [hzs] at hin hx
              have HZS := Lib.hid hzs
              clear hzs
              obtain ⟨q0, q1, _, _⟩ := hx.out
              obtain ⟨d0, d1, f0, f1⟩ := hd.out
              have zl := hz.out.2.1
              have zh := hz.out.2.2
              clear hx hd hz
              go_wp2_with fail
              refine bodyPost_ret (v := .agg #[.int .i64 n, .slice av zs.length cv]) (by simp [results, Try.results41, go_sem, d0, d1]) rfl ⟨_, rfl, ?_, ?_⟩
              · rw [HZS.out]
                refine CellIn.wide (lo := l) (hi := h) ?_ (by omega) (by simp [World.setCell]; omega)
                refine CellIn.set_far (CellIn.set_far hin.out ?_ _) ?_ _ <;> (simp <;> omega)
              · refine Below.setCell (Below.setCell hbel.out ?_ _) ?_ _ <;> (simp <;> omega)
      · rw [if_neg hge]
        have HBB := Lib.hid hb
        clear hb
        obtain ⟨base, hbase⟩ : ∃ base, base = xs := ⟨_, rfl⟩
        have HBB2 : Hid (BlkOk n base) := Lib.hid (by rw [hbase]; exact HBB.out)
        rw [show turnK n xs kk = turnK n base kk by rw [hbase]]
        have HBS := Lib.hid hbase
        clear hbase HBB
        go_enter Try.func41, Try.ntmps41
        go_wp2_with fail
        refine (ImplBlockOk_yes lo hi n _ xs _ (HR.out _ (bel_n (bel0 w _) (Nat.le_refl _) _)) (by simp; omega) HB.out).mono ?_
        rintro e w1 ⟨rfl, hb1⟩
        have HP1 : Hid (BoxB w.heap.size (.int .i64 n) (.slice a xs.length cap) w1) := Lib.hid (((BoxB.new w (.int .i64 n) (.slice a xs.length cap) 26).below (bel0 _ _) (by simp)).below hb1 (by simp; omega))
        have HD1 : Hid (BoxB (w.heap.size + 1) (.int .i64 0) (.slice none 0 0) w1) := Lib.hid (by
          have h := BoxB.new (w.alloc (.cells #[.int .i64 n, .slice a xs.length cap] 26)) (.int .i64 0) (.slice none 0 0) 26
          exact (show BoxB (w.heap.size + 1) _ _ _ by simpa using h).below hb1 (by simp))
        have HB1 := Lib.hid (bel_c (bel_n (bel0 w (.cells #[.int .i64 n, .slice a xs.length cap] 26)) (Nat.le_refl _) (.cells #[.int .i64 0, .slice none 0 0] 26)) (Nat.le_refl _) hb1)
        clear hb1
        go_wp2_with fail
        refine (ViewOk_yes k _ k0 k7).mono ?_
        rintro e uu ⟨rfl, huu⟩
        have huu := huu.symm
        subst huu
        go_upto_region 3 with fail
        have HPW := HD1.out.lt
        have D0 : Below w1.heap.size w1 w1.drew := ⟨rfl, rfl, rfl, Nat.le_refl _, fun _ _ => rfl⟩
        have KP : ∀ u v, Below u.heap.size u v → (u.cell? ⟨w.heap.size, 0, none⟩ = some (.int .i64 n) ∧ u.cell? ⟨w.heap.size, 1, none⟩ = some (.slice a xs.length cap)) → (v.cell? ⟨w.heap.size, 0, none⟩ = some (.int .i64 n) ∧ v.cell? ⟨w.heap.size, 1, none⟩ = some (.slice a xs.length cap)) := fun u v hb h => ⟨kept hb h.1, kept hb h.2⟩
        have KS : ∀ (u : World) (p : Nat) (v0 v1 : Value), w.heap.size < p → (u.cell? ⟨w.heap.size, 0, none⟩ = some (.int .i64 n) ∧ u.cell? ⟨w.heap.size, 1, none⟩ = some (.slice a xs.length cap)) → (((u.setCell ⟨p, 0, none⟩ v0).setCell ⟨p, 1, none⟩ v1).cell? ⟨w.heap.size, 0, none⟩ = some (.int .i64 n) ∧ ((u.setCell ⟨p, 0, none⟩ v0).setCell ⟨p, 1, none⟩ v1).cell? ⟨w.heap.size, 1, none⟩ = some (.slice a xs.length cap)) := by
          intro u p v0 v1 hp h
          have h1 : p ≠ w.heap.size := by omega
          have f : ∀ (q o : Nat), p ≠ q → ((u.setCell ⟨p, 0, none⟩ v0).setCell ⟨p, 1, none⟩ v1).cell? ⟨q, o, none⟩ = u.cell? ⟨q, o, none⟩ := fun q o hq => by
            rw [World.cell?_setCell_other _ _ _ _ (by simp), World.cell?_setCell_other _ _ _ _ (by simp)]
          simpa only [f _ _ h1] using h
        have N1 := Lib.hid (CloneC_any lo hi _ xs w1.drew (HR.out _ (bel_c HB1.out (Nat.le_refl _) D0)) (Nat.le_trans hhi HB1.out.size))
        have N2 := Lib.hid (CloneC_any lo hi _ xs (w1.drew.alloc (.cells #[.int .i64 0, .slice none 0 0] 26)) (HR.out _ (bel_n (bel_c HB1.out (Nat.le_refl _) D0) (Nat.le_refl _) (.cells #[.int .i64 0, .slice none 0 0] 26))) (Nat.le_trans hhi (bel_n (bel_c HB1.out (Nat.le_refl _) D0) (Nat.le_refl _) (.cells #[.int .i64 0, .slice none 0 0] 26)).size))
        obtain ⟨c0, c1, _, _⟩ := HP1.out
        go_cut [5] (fun q wx => WR n true xs w1 q (.bool true) wx)
        case first =>
          go_region_held3 (fun w' => w'.cell? ⟨w.heap.size, 0, none⟩ = some (.int .i64 n) ∧ w'.cell? ⟨w.heap.size, 1, none⟩ = some (.slice a xs.length cap)) (first | exact S4 | exact KP _ _ (bel0 _ _) S4 | exact KS _ _ _ _ (by omega) S4 | (refine KP _ _ (by assumption) ?_; assumption) | exact KP _ _ (bel0 _ _) (by assumption) | go_keep)
            ((first
              | (go_at_call 67; refine N1.out.mono ?_; rintro e w2 ⟨v2, rfl, hin2, hb2⟩; obtain ⟨a2, d2, rfl⟩ := hin2.form; have hbz : Below w1.heap.size w1 w2 := D0.trans hb2; have S4 := KP w1.drew w2 hb2 (by assumption); have R1 := Lib.hid hin2; clear hin2 hb2)
              | (go_at_call 67; refine N2.out.mono ?_; rintro e w2 ⟨v2, rfl, hin2, hb2⟩; obtain ⟨a2, d2, rfl⟩ := hin2.form; have hbz : Below w1.heap.size w1 w2 := bel_c (bel_n D0 (Nat.le_refl _) (.cells #[.int .i64 0, .slice none 0 0] 26)) (Nat.le_refl _) hb2; have bz3 := Lib.hid (show BoxB w1.heap.size (.int .i64 0) (.slice none 0 0) w2 from (BoxB.new w1.drew (.int .i64 0) (.slice none 0 0) 26).below hb2 (by simp)); obtain ⟨k0, k1, k2, k3⟩ := bz3.out; have S4 := KP (w1.drew.alloc (.cells #[.int .i64 0, .slice none 0 0] 26)) w2 hb2 (by assumption); have R1 := Lib.hid hin2; clear hin2 hb2)))
          all_goals
            go_wp2_with fail
            go_meet
            first
            | exact WR.old R1.out bz3.out hbz (by simp) (Nat.le_refl _) (.inl (by simp))
            | exact WR.new R1.out hbz (Nat.le_refl _)
        case rest =>
          obtain ⟨o, a4, c4, l4, h4, rfl, -, bx4, R4, ho4, zl4, zp4, zh4, hb⟩ := hcut
          have HPO : Hid (w.heap.size + 1 < o) := Lib.hid (Nat.lt_of_lt_of_le HPW zp4)
          have HX3 := Lib.hid bx4
          have HD3 := Lib.hid (HD1.out.below hb HPW)
          have HB3 := Lib.hid (bel_c HB1.out (Nat.le_refl _) hb)
          have HC3 := Lib.hid R4
          have HZ3 : Hid ((o < l4 ∨ h4 ≤ o) ∧ w.heap.size + 1 < l4 ∧ h4 ≤ wc.heap.size) := Lib.hid ⟨ho4, Nat.lt_of_lt_of_le HPW zl4, zh4⟩
          clear bx4 R4 ho4 zl4 zp4 zh4 hb HP1 HD1 HB1 D0 KP KS N1 N2 c0 c1
          have hk4 : ¬ 4 ≤ k := by omega
          have hrem : k % 4 = (kk : Int) := HK.out
          go_wp2_with fail
          refine (MirV_no k _ (by omega)).mono ?_
          rintro e uu ⟨rfl, huu⟩
          have huu := huu.symm
          subst huu
          go_wp2_with fail
          have HC0 : Hid (CellIn l4 h4 wc (.slice a4 xs.length c4) (turnK n base 0)) := Lib.hid (by show CellIn _ _ _ _ base; rw [HBS.out]; exact HC3.out)
          have HX0 := HX3
          have HD0 := HD3
          have HB0 := HB3
          have HZ0 := HZ3
          clear HC3 HX3 HD3 HB3 HZ3
          (try rw [hrem])
          go_loopw [27] (fun i wr => ∃ (c : Nat) (v : Value) (l h : Nat), c ≤ kk ∧ i = .int .i64 c ∧ Hid (CellIn l h wr v (turnK n base c)) ∧ Hid (BoxB o (.int .i64 n) v wr) ∧ Hid (BoxB (w.heap.size + 1) (.int .i64 0) (.slice none 0 0) wr) ∧ Hid (Below w.heap.size w wr) ∧ Hid ((o < l ∨ h ≤ o) ∧ w.heap.size + 1 < l ∧ h ≤ wr.heap.size)) (fun i _ => kk - (intOf i).toNat)
          case atStart => exact ⟨0, _, _, _, Nat.zero_le _, rfl, HC0, HX0, HD0, HB0, HZ0⟩
          case round =>
            clear HC0 HX0 HD0 HB0 HZ0
            obtain ⟨c, v, l, h, hc, rfl, hin, hx, hd, hbel, hz⟩ := hrel
            by_cases hlt : c < kk
            · obtain ⟨av, cv, rfl⟩ := hin.out.form
              have q0 := hx.out.1
              have q1 := hx.out.2.1
              have CT := Lib.hid (ImplTurnBlock_any l h n (.slice av (turnK n base c).length cv) (turnK n base c) wr hin.out hz.out.2.2)
              rw [(turnB_yes (turnK_ok HBB2.out c)).1, (turnB_yes (turnK_ok HBB2.out c)).2.1] at CT
              change Hid (Calls _ _ _ _ (FreshB n (turnK n base (c + 1)) wr)) at CT
              obtain ⟨ys, hys⟩ : ∃ ys, turnK n base (c + 1) = ys := ⟨_, rfl⟩
              rw [hys] at CT
              have HYS := Lib.hid hys
              clear hys
              generalize turnK n base c = zs at CT hin hx q1
              have HOL : Hid (o < wr.heap.size) := Lib.hid hx.out.lt
              go_wp2_with fail
              refine CT.out.mono ?_
              rintro e w5 ⟨v5, rfl, hin5, hb5⟩
              obtain ⟨a5, c5, rfl⟩ := hin5.form
              have hx5 := hx.out.below hb5 HOL.out
              have HX5 := Lib.hid (BoxB.two (x' := .int .i64 n) (y' := .slice a5 ys.length c5) hx5)
              have hd5 := hd.out.below hb5 hd.out.lt
              have HD5 := Lib.hid ((hd5.set_far (q := o) (o := 0) (by have := HPO.out; omega) (.int .i64 n)).set_far (q := o) (o := 1) (by have := HPO.out; omega) (.slice a5 ys.length c5))
              have HI5 := Lib.hid ((hin5.set_far (p := ⟨o, 0, none⟩) HOL.out (.int .i64 n)).set_far (p := ⟨o, 1, none⟩) HOL.out (.slice a5 ys.length c5))
              have HB5 := Lib.hid (Below.setCell (Below.setCell (bel_c hbel.out (Nat.le_refl _) hb5) (p := ⟨o, 0, none⟩) (by show _ ≤ o; have := HPO.out; omega) (.int .i64 n)) (p := ⟨o, 1, none⟩) (by show _ ≤ o; have := HPO.out; omega) (.slice a5 ys.length c5))
              have HZ5 : Hid ((o < wr.heap.size ∨ w5.heap.size ≤ o) ∧ w.heap.size + 1 < wr.heap.size ∧ w5.heap.size ≤ ((w5.setCell ⟨o, 0, none⟩ (.int .i64 n)).setCell ⟨o, 1, none⟩ (.slice a5 ys.length c5)).heap.size) := Lib.hid ⟨.inl HOL.out, hd.out.lt, by simp [World.setCell]⟩
              obtain ⟨q50, q51, f0, f1⟩ := hx5
              clear q0 q1 hin5 hb5 hin hx hd hbel hd5 hz
              go_wp2_with fail
              clear f0 f1 q50 q51
              go_roundw
              case rel => exact ⟨c + 1, _, _, _, by omega, by go_num, by rw [HYS.out]; exact HI5, HX5, HD5, HB5, HZ5⟩
              case measure => simp [intOf] <;> omega
            · obtain rfl : c = kk := by omega
              obtain ⟨av, cv, rfl⟩ := hin.out.form
              obtain ⟨zs, hzs⟩ : ∃ zs, turnK n base c = zs := ⟨_, rfl⟩
              rw [hzs] at hin hx
              have HZS := Lib.hid hzs
              clear hzs
              obtain ⟨q0, q1, _, _⟩ := hx.out
              obtain ⟨d0, d1, f0, f1⟩ := hd.out
              have zl := hz.out.2.1
              have zh := hz.out.2.2
              clear hx hd hz
              go_wp2_with fail
              refine bodyPost_ret (v := .agg #[.int .i64 n, .slice av zs.length cv]) (by simp [results, Try.results41, go_sem, d0, d1]) rfl ⟨_, rfl, ?_, ?_⟩
              · rw [HZS.out]
                refine CellIn.wide (lo := l) (hi := h) ?_ (by omega) (by simp [World.setCell]; omega)
                refine CellIn.set_far (CellIn.set_far hin.out ?_ _) ?_ _ <;> (simp <;> omega)
              · refine Below.setCell (Below.setCell hbel.out ?_ _) ?_ _ <;> (simp <;> omega)
    · rw [(see_no (n := n) (k := k) (fun h => hk h.2)).1, (see_no (n := n) (k := k) (xs := xs) (fun h => hk h.2)).2]
      clear hb
      by_cases k0 : k < 0
      · clear hk
        go_enter Try.func41, Try.ntmps41
        go_wp2_with fail
        refine (ImplBlockOk_yes lo hi n _ xs _ (HR.out _ (bel_n (bel0 w _) (Nat.le_refl _) _)) (by simp; omega) HB.out).mono ?_
        rintro e w1 ⟨rfl, hb1⟩
        have d0 := kept (p := ⟨w.heap.size + 1, 0, none⟩) (x := .int .i64 0) hb1 (by go_simp)
        have d1 := kept (p := ⟨w.heap.size + 1, 1, none⟩) (x := .slice none 0 0) hb1 (by go_simp)
        have g0 := keptF (p := ⟨w.heap.size + 1, 0, none⟩) (x := .int .i64 0) hb1 (by go_simp) (by go_simp)
        have g1 := keptF (p := ⟨w.heap.size + 1, 1, none⟩) (x := .slice none 0 0) hb1 (by go_simp) (by go_simp)
        have B := bel_c (bel_n (bel0 w (.cells #[.int .i64 n, .slice a xs.length cap] 26)) (Nat.le_refl _) (.cells #[.int .i64 0, .slice none 0 0] 26)) (Nat.le_refl _) hb1
        clear hb1
        go_wp2_with fail
        refine (ViewOk_no k _ (.inl k0)).mono ?_
        rintro e uu ⟨rfl, huu⟩
        have huu := huu.symm
        subst huu
        go_wp2_with fail
        refine bodyPost_ret (v := .agg #[.int .i64 0, .slice none 0 0]) (by simp [results, Try.results41, go_sem, d0, d1]) rfl ⟨.slice none 0 0, rfl, ⟨by simp, .inl ⟨rfl, _, _, rfl⟩⟩, ?_⟩
        refine Below.setCell (Below.setCell B ?_ _) ?_ _ <;> (simp <;> omega)
      · have hk8 : 8 ≤ k := by omega
        clear hk
        go_enter Try.func41, Try.ntmps41
        go_wp2_with fail
        refine (ImplBlockOk_yes lo hi n _ xs _ (HR.out _ (bel_n (bel0 w _) (Nat.le_refl _) _)) (by simp; omega) HB.out).mono ?_
        rintro e w1 ⟨rfl, hb1⟩
        have d0 := kept (p := ⟨w.heap.size + 1, 0, none⟩) (x := .int .i64 0) hb1 (by go_simp)
        have d1 := kept (p := ⟨w.heap.size + 1, 1, none⟩) (x := .slice none 0 0) hb1 (by go_simp)
        have g0 := keptF (p := ⟨w.heap.size + 1, 0, none⟩) (x := .int .i64 0) hb1 (by go_simp) (by go_simp)
        have g1 := keptF (p := ⟨w.heap.size + 1, 1, none⟩) (x := .slice none 0 0) hb1 (by go_simp) (by go_simp)
        have B := bel_c (bel_n (bel0 w (.cells #[.int .i64 n, .slice a xs.length cap] 26)) (Nat.le_refl _) (.cells #[.int .i64 0, .slice none 0 0] 26)) (Nat.le_refl _) hb1
        clear hb1
        go_wp2_with fail
        refine (ViewOk_no k _ (.inr (by omega))).mono ?_
        rintro e uu ⟨rfl, huu⟩
        have huu := huu.symm
        subst huu
        go_wp2_with fail
        refine bodyPost_ret (v := .agg #[.int .i64 0, .slice none 0 0]) (by simp [results, Try.results41, go_sem, d0, d1]) rfl ⟨.slice none 0 0, rfl, ⟨by simp, .inl ⟨rfl, _, _, rfl⟩⟩, ?_⟩
        refine Below.setCell (Below.setCell B ?_ _) ?_ _ <;> (simp <;> omega)
  · rw [(see_no (n := n) (k := k) (fun h => hb h.1)).1, (see_no (n := n) (k := k) (xs := xs) (fun h => hb h.1)).2]
    have HB := Lib.hid hb
    clear hb
    go_enter Try.func41, Try.ntmps41
    go_wp2_with fail
    refine (ImplBlockOk_no lo hi n _ xs _ (HR.out _ (bel_n (bel0 w _) (Nat.le_refl _) _)) (by simp; omega) HB.out).mono ?_
    rintro e w1 ⟨rfl, hb1⟩
    have d0 := kept (p := ⟨w.heap.size + 1, 0, none⟩) (x := .int .i64 0) hb1 (by go_simp)
    have d1 := kept (p := ⟨w.heap.size + 1, 1, none⟩) (x := .slice none 0 0) hb1 (by go_simp)
    have g0 := keptF (p := ⟨w.heap.size + 1, 0, none⟩) (x := .int .i64 0) hb1 (by go_simp) (by go_simp)
    have g1 := keptF (p := ⟨w.heap.size + 1, 1, none⟩) (x := .slice none 0 0) hb1 (by go_simp) (by go_simp)
    have B := bel_c (bel_n (bel0 w (.cells #[.int .i64 n, .slice a xs.length cap] 26)) (Nat.le_refl _) (.cells #[.int .i64 0, .slice none 0 0] 26)) (Nat.le_refl _) hb1
    clear hb1
    go_wp2_with fail
    refine bodyPost_ret (v := .agg #[.int .i64 0, .slice none 0 0]) (by simp [results, Try.results41, go_sem, d0, d1]) rfl ⟨.slice none 0 0, rfl, ⟨by simp, .inl ⟨rfl, _, _, rfl⟩⟩, ?_⟩
    refine Below.setCell (Below.setCell B ?_ _) ?_ _ <;> (simp <;> omega)

end Go.Proofs.Ytbnokmlmajcibaa

namespace Go.Proofs.Ytbnokmlmajcibaa

end Go.Proofs.Ytbnokmlmajcibaa

namespace Go.Proofs.Ytbnokmlmajcibaa
open Go.ChangeShapes Go.WideShapes Go.ChangeAt Go.RowKit

theorem IntO.grown {lo hi : Nat} {w w' : World} {row : Option Nat} {v : Value} {zs : List Int} (h : IntO lo hi w v zs) (hg : w.grownBy w' row) (hhi : hi ≤ w.heap.size) (hr : ∀ k, row = some k → k < lo ∨ hi ≤ k) : IntO lo hi w' v zs := by
  obtain ⟨hl, h | ⟨g, o, cap, hv, h1, h2, hc⟩⟩ := h
  · exact ⟨hl, .inl h⟩
  · have hb := hg.block g (by omega) (fun e => by have := hr g e.symm; omega)
    exact ⟨hl, .inr ⟨g, o, cap, hv, h1, h2, fun i hi => ⟨(World.cell?_of_block (w := w) (a := ⟨g, o + i, none⟩) hb).trans (hc i hi).1, (World.frozen?_of_block (w := w) (a := ⟨g, o + i, none⟩) hb).trans (hc i hi).2⟩⟩⟩
/-- The row lies elsewhere. -/
def Far (lo hi : Nat) (v : Value) : Prop := ∀ k, v.ownBlock = some k → k < lo ∨ hi ≤ k
theorem Far.after {lo hi H g n c : Nat} {v : Value} (h : Far lo hi v) (hat : v.ownBlock = some g ∨ g = H) (hH : hi ≤ H) : Far lo hi (.slice (some ⟨g, 0, none⟩) n c) := by
  intro k hk
  simp only [Value.ownBlock, Option.some.injEq] at hk
  subst hk
  rcases hat with e | e
  · exact h _ e
  · exact .inr (by omega)
/-- A row that the caller owns. -/
def OwnI (b : Nat) (w : World) (v : Value) (ds : List Int) : Prop := w.ownsRow b 3 1 v ds.length (ivals ds)
theorem OwnI.none (b : Nat) (w : World) : OwnI b w (.slice none 0 0) [] := ⟨rfl, .inl ⟨rfl, rfl⟩⟩
theorem OwnI.below {b : Nat} {w w' : World} {v : Value} {ds : List Int} (h : OwnI b w v ds) (hb : Below w.heap.size w w') : OwnI b w' v ds := owns_bel6 h hb
theorem OwnI.eq {b : Nat} {w : World} {v : Value} {ds es : List Int} (h : OwnI b w v ds) (e : es = ds) : OwnI b w v es := by rw [e]; exact h
theorem OwnI.row {b : Nat} {w : World} {v : Value} {ds : List Int} (h : OwnI b w v ds) (hl : ds.length ≤ 1048576) : IntIn b w.heap.size w v ds := IntIn.of_owns h hl
theorem OwnI.lt {b : Nat} {w : World} {v : Value} {ds : List Int} (h : OwnI b w v ds) : ∀ k, v.ownBlock = some k → k < w.heap.size := by
  intro k hk
  obtain ⟨_, h | ⟨g, cap, cur, hv, hg, hh, _⟩⟩ := h
  · rw [h.1] at hk; cases hk
  · rw [hv] at hk
    simp only [Value.ownBlock, Option.some.injEq] at hk
    subst hk
    exact lt_of_heapI hh
/-- What appendNew answers. -/
def GrewI (b : Nat) (ds : List Int) (w : World) (e : Ending) (w' : World) : Prop := ∃ v, e = .returned v ∧ OwnI b w' v ds ∧ Below b w w'
set_option maxRecDepth 100000 in
set_option maxHeartbeats 1000000 in
theorem AppendNew_any (b lo hi : Nat) (v vl : Value) (ds zs : List Int) (w : World) (hown : OwnI b w v ds) (r : IntO lo hi w vl zs) (hhi : hi ≤ w.heap.size) (hb : b ≤ w.heap.size) (hfar : Far lo hi v) (hlen : ds.length + zs.length ≤ 100000) :
    Calls Try.prog 92 #[v, vl] w (GrewI b (zs.foldl ddStep ds) w) := by
  obtain ⟨i0, hi0, hz0, hz1, hz2⟩ : ∃ i, Try.prog.info? 3 = some i ∧ i.zero = some (.int .i64 0) ∧ i.size = 1 ∧ i.bytes = 8 := info_parts3 info_int6
  obtain ⟨al, capl, rfl⟩ := r.form
  have hl := r.1
  have HI0 := Lib.hid r
  have HO0 := Lib.hid hown
  have HF0 := Lib.hid hfar
  clear r hown hfar
  go_enter Try.func92, Try.ntmps92
  go_wp2_with fail
  go_loopw [0, 9] (fun q i wr => ∃ k : Nat, k ≤ zs.length ∧ i = .int .i64 k ∧ Hid (OwnI b wr q ((zs.take k).foldl ddStep ds)) ∧ Hid (IntO lo hi wr (.slice al zs.length capl) zs) ∧ Hid (Far lo hi q) ∧ Hid (Below b w wr) ∧ w.heap.size ≤ wr.heap.size) (fun _ i _ => zs.length - (intOf i).toNat)
  case atStart => exact ⟨0, Nat.zero_le _, rfl, HO0, HI0, HF0, Lib.hid (Below.refl _ _), Nat.le_refl _⟩
  case round =>
    clear HI0 HO0 HF0
    obtain ⟨k, hk, rfl, hown, hin, hfar, hbel, hsz⟩ := hrel
    by_cases hlt : k < zs.length
    · have hcl := (dd_len (zs.take k) ds).2
      rw [List.length_take] at hcl
      have HN := Lib.hid (show (zs.take (k + 1)).foldl ddStep ds = ddStep ((zs.take k).foldl ddStep ds) (zs.getD k 0) by rw [take_snocI hlt, dd_snoc])
      obtain ⟨g, o, rfl, _, _, e0, _⟩ := hin.out.at (Below.refl _ _) hlt
      generalize (zs.take k).foldl ddStep ds = cs at hown hcl HN
      generalize zs.getD k 0 = z at e0 HN
      have hcl' : cs.length + 1 ≤ 100000 := by omega
      have hcl2 : cs.length ≤ 1048576 := by omega
      have hsm : b ≤ wr.heap.size := by omega
      have HC := Lib.hid (Contains_any b wr.heap.size _ cs z wr (hown.out.row hcl2).o)
      have hiw : hi ≤ wr.heap.size := by omega
      clear hcl
      by_cases hm : z ∈ cs
      · rw [show decide (z ∈ cs) = true from decide_eq_true hm] at HC
        have HE := Lib.hid (hown.out.eq (show (zs.take (k + 1)).foldl ddStep ds = cs by rw [HN.out, show ddStep cs z = cs from if_pos hm]))
        clear hown HN hm
        go_wp2_with fail
        refine HC.out.mono ?_
        rintro e w' ⟨rfl, rfl⟩
        clear HC
        go_wp2_with fail
        go_roundw
        case rel => exact ⟨k + 1, by omega, by go_num, HE, hin, hfar, hbel, hsz⟩
        case measure => simp [intOf] <;> omega
      · rw [show decide (z ∈ cs) = false from decide_eq_false hm] at HC
        have HNX : Hid ((zs.take (k + 1)).foldl ddStep ds = cs ++ [z]) := Lib.hid (by rw [HN.out]; exact if_neg hm)
        have hbb := bel0 wr (.cells #[.int .i64 z] 3)
        have HO1 := Lib.hid (hown.out.below hbb)
        have HNW := Lib.hid (news1 wr (.int .i64 z) 3)
        have HB1 := Lib.hid (hbel.out.trans (hbb.mono hsm))
        have HI1 := Lib.hid (hin.out.below (hbb.mono hiw))
        have HB2 : Hid (b ≤ (wr.alloc (.cells #[.int .i64 z] 3)).heap.size ∧ hi ≤ (wr.alloc (.cells #[.int .i64 z] 3)).heap.size ∧ w.heap.size ≤ (wr.alloc (.cells #[.int .i64 z] 3)).heap.size) := Lib.hid (by have := hbb.size; exact ⟨by omega, by omega, by omega⟩)
        clear hown hin hbel HN hm hbb
        go_wp2_with fail
        refine HC.out.mono ?_
        rintro e w' ⟨rfl, hw⟩
        have hw' := hw.symm
        subst hw'
        clear hw HC
        go_wp2_with (at_builtin; refine wpList_append_lies _ rfl _ _ 28 rfl b 3 i0 (.int .i64 0) 1 8 Try.underlying28 hi0 hz0 hz1 hz2 rfl (by decide) _ _ _ rfl HO1.out ⟨wr.heap.size, 0, none⟩ 1 1 [.int .i64 z] rfl rfl HNW.out (by simp [Value.oneCell']) (by omega) (by unfold maxLen; omega) (by omega) HB2.out.1 (wr.heap.size + 1) (by simp) ?_; intro gg cc w2 hown2 hgrow hat hlt2)
        have hbw := (Below.refl b _).grown hgrow HB2.out.1 (own_ge6 HO1.out)
        have HE : Hid (OwnI b w2 (.slice (some ⟨gg, 0, none⟩) (cs.length + 1) cc) ((zs.take (k + 1)).foldl ddStep ds)) := Lib.hid (by rw [HNX.out]; unfold OwnI ivals at *; rw [List.map_append, List.length_append]; exact hown2)
        have HI2 := Lib.hid (HI1.out.grown hgrow HB2.out.2.1 hfar.out)
        have HF2 : Hid (Far lo hi (.slice (some ⟨gg, 0, none⟩) (cs.length + 1) cc)) := Lib.hid (hfar.out.after hat (by omega))
        have HB4 := Lib.hid (HB1.out.trans hbw)
        have hsz2 := Nat.le_trans HB2.out.2.2 hbw.size
        clear hown2 hgrow hat hlt2 hbw HO1 HNW HNX HI1 HB1 HB2 hfar hsz
        go_wp2_with fail
        go_roundw
        case rel => exact ⟨k + 1, by omega, by go_num, HE, HI2, HF2, HB4, hsz2⟩
        case measure => simp [intOf] <;> omega
    · obtain rfl : k = zs.length := by omega
      rw [List.take_length] at hown
      go_wp2_with fail
      go_ret
      exact ⟨_, rfl, hown.out, hbel.out⟩

/-! ### IsExchange -/
theorem ImplListOk_yes (lo hi : Nat) (v : Value) (zs : List Int) (w : World) (r : IntO lo hi w v zs) (hhi : hi ≤ w.heap.size) (h : LstOk zs) : Calls Try.prog 90 #[v] w fun e w' => e = .returned (.bool true) ∧ Below w.heap.size w w' := by
  have := ImplListOk_any lo hi v zs w r hhi
  rw [← lst_yes h] at this
  exact this
theorem ImplListOk_no (lo hi : Nat) (v : Value) (zs : List Int) (w : World) (r : IntO lo hi w v zs) (hhi : hi ≤ w.heap.size) (h : ¬ LstOk zs) : Calls Try.prog 90 #[v] w fun e w' => e = .returned (.bool false) ∧ Below w.heap.size w w' := by
  have := ImplListOk_any lo hi v zs w r hhi
  rw [← lst_no h] at this
  exact this
theorem far_none (lo hi : Nat) : Far lo hi (.slice none 0 0) := fun k hk => by cases hk
end Go.Proofs.Ytbnokmlmajcibaa

namespace Go.Proofs.Ytbnokmlmajcibaa
open Go.ChangeShapes Go.WideShapes Go.ChangeAt Go.RowKit

theorem idL_at {k : Nat} (h : k < 6) : (k : Int) = idL.getD k 0 := by
  have : ∀ i : Fin 6, ((i.val : Nat) : Int) = idL.getD i.val 0 := by decide
  exact this ⟨k, h⟩
theorem rep6 : (List.replicate 6 (0 : Int)).length = 6 := by simp
set_option maxRecDepth 100000 in
set_option maxHeartbeats 1000000 in
theorem Kept_any (w : World) : Calls Try.prog 93 #[] w (FreshI idL w) := by
  obtain ⟨i0, hi0, hz0, hz1, hz2⟩ : ∃ i, Try.prog.info? 3 = some i ∧ i.zero = some (.int .i64 0) ∧ i.size = 1 ∧ i.bytes = 8 := info_parts3 info_int6
  go_enter Try.func93, Try.ntmps93
  go_wp2_with (at_make; refine wpList_make_full _ rfl _ _ 28 rfl w.heap.size 3 i0 _ 1 Try.underlying28 hi0 hz0 hz1 .i64 .i64 _ _ 6 rfl rfl rfl rfl (by rw [hz2]; omega) (by unfold maxLen; omega) (Nat.le_refl _) ?_; intro w0 hown0 hgrow0)
  have hb0 := own_none hgrow0
  rw [made_zero] at hown0
  have hin0 := IntIn.of_owns (zs := List.replicate 6 0) (by rw [rep6]; exact hown0) (by simp)
  have HB0 := Lib.hid hb0
  have HW := Lib.hid hin0
  clear hb0 hown0 hgrow0 hin0
  go_loopw [6] (fun i wr => ∃ (k : Nat) (ys : List Int), k ≤ 6 ∧ i = .int .i64 k ∧ Hid (UpToI k idL ys) ∧ Hid (IntIn w.heap.size w0.heap.size wr (.slice (some ⟨w.heap.size, 0, none⟩) 6 6) ys) ∧ Hid (Below w.heap.size w wr) ∧ w0.heap.size ≤ wr.heap.size) (fun i _ => 6 - (intOf i).toNat)
  case atStart => exact ⟨0, List.replicate 6 0, Nat.zero_le _, rfl, Lib.hid ⟨rfl, fun j hj => by omega⟩, HW, HB0, Nat.le_refl _⟩
  case round =>
    obtain ⟨k, ys, hk, rfl, hup, hin, hbel, hsz⟩ := hrel
    by_cases hlt : k < 6
    · have hyl : ys.length = 6 := hup.out.1
      obtain ⟨g2, hg2, hq1, _, e1, f1⟩ := hin.out.at (Below.refl _ _) (i := k) (by omega)
      simp only [Option.some.injEq, Addr.mk.injEq, and_true] at hg2
      subst hg2
      have HN := Lib.hid (hin.out.set k (by omega) (k : Int))
      have HU := Lib.hid (hup.out.set (by show k < 6; exact hlt) (idL_at hlt))
      have HB2 := Lib.hid (Below.setCell hbel.out (p := ⟨w.heap.size, k, none⟩) hq1 (.int .i64 k))
      generalize ys.getD k 0 = y at e1
      clear hup hin hbel hyl
      go_wp2_with fail
      go_roundw
      case rel => exact ⟨k + 1, _, by omega, by go_num, HU, HN, HB2, by simp [World.setCell]; exact hsz⟩
      case measure => simp [intOf] <;> omega
    · obtain rfl : k = 6 := by omega
      have HE := Lib.hid (UpToI.all hup.out)
      have HI := Lib.hid (show IntIn w.heap.size wr.heap.size wr (.slice (some ⟨w.heap.size, 0, none⟩) 6 6) idL by rw [← HE.out]; exact hin.out.wide (Nat.le_refl _) hsz)
      clear hup hin
      go_wp2_with fail
      go_ret
      exact ⟨_, rfl, HI.out, hbel.out⟩

/-! ### SwapList -/
/-! ### UndoList -/
set_option maxRecDepth 100000 in
set_option maxHeartbeats 1000000 in
theorem Number_any (lo hi : Nat) (v : Value) (zs : List Int) (w : World) (r : IntO lo hi w v zs) (hhi : hi ≤ w.heap.size) (hx : Exch zs) :
    Calls Try.prog 94 #[v] w (FreshI (undL zs) w) := by
  obtain ⟨i0, hi0, hz0, hz1, hz2⟩ : ∃ i, Try.prog.info? 3 = some i ∧ i.zero = some (.int .i64 0) ∧ i.size = 1 ∧ i.bytes = 8 := info_parts3 info_int6
  obtain ⟨a, cap, rfl⟩ := r.form
  have HR := Lib.hid (fun W (hb : Below w.heap.size w W) => r.below (hb.mono hhi))
  have hl := r.1
  have HX := Lib.hid hx
  have H6 := Lib.hid hx.1.1
  clear r hx
  go_enter Try.func94, Try.ntmps94
  go_wp2_with (at_make; refine wpList_make_full _ rfl _ _ 28 rfl w.heap.size 3 i0 _ 1 Try.underlying28 hi0 hz0 hz1 .i64 .i64 _ _ 6 rfl rfl rfl rfl (by rw [hz2]; omega) (by unfold maxLen; omega) (Nat.le_refl _) ?_; intro w0 hown0 hgrow0)
  have hb0 := own_none hgrow0
  rw [made_zero] at hown0
  have hin0 := IntIn.of_owns (zs := List.replicate 6 0) (by rw [rep6]; exact hown0) (by simp)
  have HB0 := Lib.hid hb0
  have HW := Lib.hid hin0
  clear hb0 hown0 hgrow0 hin0
  go_loopw [9] (fun i wr => ∃ (k : Nat) (ys : List Int), k ≤ zs.length ∧ i = .int .i64 k ∧ Hid (ys.length = 6 ∧ ∀ j, j < k → atL ys (zs.getD j 0) = j) ∧ Hid (IntIn w.heap.size w0.heap.size wr (.slice (some ⟨w.heap.size, 0, none⟩) 6 6) ys) ∧ Hid (Below w.heap.size w wr) ∧ w0.heap.size ≤ wr.heap.size) (fun i _ => zs.length - (intOf i).toNat)
  case atStart => exact ⟨0, _, Nat.zero_le _, rfl, Lib.hid ⟨by simp, fun j hj => by omega⟩, HW, HB0, Nat.le_refl _⟩
  case round =>
    obtain ⟨k, ys, hk, rfl, hup, hin, hbel, hsz⟩ := hrel
    by_cases hlt : k < zs.length
    · obtain ⟨g, o, rfl, _, _, e0, _⟩ := (HR.out _ hbel.out).at (Below.refl _ _) hlt
      have hz : 0 ≤ zs.getD k 0 ∧ zs.getD k 0 ≤ 5 := HX.out.1.2 _ (by simp [List.getD, hlt])
      obtain ⟨z, hzz⟩ : ∃ z : Nat, zs.getD k 0 = z := ⟨(zs.getD k 0).toNat, by omega⟩
      rw [hzz] at e0 hz
      have hyl := hup.out.1
      have hzl : z < 6 := by omega
      have hzl2 : (z : Int) < 6 := by omega
      obtain ⟨g2, hg2, hq1, _, e1, f1⟩ := hin.out.at (Below.refl _ _) (i := z) (by omega)
      simp only [Option.some.injEq, Addr.mk.injEq, and_true] at hg2
      subst hg2
      have HN := Lib.hid (hin.out.set z (by omega) (k : Int))
      have HU : Hid ((ys.set z (k : Int)).length = 6 ∧ ∀ j, j < k + 1 → atL (ys.set z (k : Int)) (zs.getD j 0) = j) := Lib.hid ⟨by rw [List.length_set]; exact hyl, fun j hj => by
        have hjz : 0 ≤ zs.getD j 0 := (HX.out.1.2 _ (by simp [List.getD, show j < zs.length by omega])).1
        rw [atL_set (by omega) hjz]
        by_cases e : zs.getD j 0 = z
        · rw [if_pos e]
          have h1 : zs.getD j 0 = zs[j]'(by omega) := by simp [List.getD, show j < zs.length by omega]
          have h2 : zs.getD k 0 = zs[k] := by simp [List.getD, hlt]
          have h3 : zs[j]'(by omega) = zs[k] := by rw [← h1, ← h2, e, hzz]
          have := (List.getElem_inj HX.out.2).1 h3
          omega
        · rw [if_neg e]
          have hjk : j ≠ k := fun h => e (by rw [h, hzz])
          exact hup.out.2 j (by omega)⟩
      have HB2 := Lib.hid (Below.setCell hbel.out (p := ⟨w.heap.size, z, none⟩) hq1 (.int .i64 k))
      generalize ys.getD z 0 = y at e1
      clear hup hin hbel hzz hyl
      go_wp2_with fail
      go_roundw
      case rel => exact ⟨k + 1, _, by omega, by go_num, HU, HN, HB2, by simp [World.setCell]; exact hsz⟩
      case measure => simp [intOf] <;> omega
    · obtain rfl : k = zs.length := by omega
      have HYS := Lib.hid (und_is HX.out hup.out.1 (fun j hj => hup.out.2 j (by rw [H6.out]; exact hj)))
      have HI := Lib.hid (show IntIn w.heap.size wr.heap.size wr (.slice (some ⟨w.heap.size, 0, none⟩) 6 6) (undL zs) by rw [← HYS.out]; exact hin.out.wide (Nat.le_refl _) hsz)
      clear hup hin
      go_wp2_with fail
      go_ret
      exact ⟨_, rfl, HI.out, hbel.out⟩
end Go.Proofs.Ytbnokmlmajcibaa
