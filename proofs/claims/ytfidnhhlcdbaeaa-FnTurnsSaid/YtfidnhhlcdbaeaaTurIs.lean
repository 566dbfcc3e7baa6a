/- Turns: the program's SeenFrom. -/
import Derived.Test.YtfidnhhlcdbaeaaTurIm
import Derived.Test.YtfidnhhlcdbaeaaTurIv
import Derived.Test.YtfidnhhlcdbaeaaBlkK
import Derived.Test.YtfidnhhlcdbaeaaBlkWR
import Derived.Deep.DeepCutAuto
import Derived.Deep.RegionHeld3
namespace Go.Proofs.Ytfidnhhlcdbaeaa
open Go.ChangeShapes Go.WideShapes Go.ChangeAt Go.RowKit

theorem nilC_yes (n cap : Nat) (w : World) : (Sem.run Try.prog (binOp BinOp.eql 24 (Value.slice none n cap) (Value.slice none 0 0)) w) = Result.ok (.bool true) w := by kernel_rfl
theorem nilC_no (g : Addr) (n cap : Nat) (w : World) : (Sem.run Try.prog (binOp BinOp.eql 24 (Value.slice (some g) n cap) (Value.slice none 0 0)) w) = Result.ok (.bool false) w := by kernel_rfl
set_option maxHeartbeats 400000 in
theorem CloneC_any (lo hi : Nat) (v : Value) (xs : List C3) (w : World) (r : CellIn lo hi w v xs) (hhi : hi ≤ w.heap.size) : Calls Try.prog 33 #[v] w (FreshC xs w) := by
  obtain ⟨i0, hi0, hz0, hz1, hz2⟩ := info_parts3 info_cell
  obtain ⟨a, cap, rfl⟩ := r.form
  have hl := r.1
  rcases Nat.eq_zero_or_pos xs.length with h0 | h0
  · have hx : xs = [] := List.length_eq_zero_iff.1 h0
    subst hx
    clear r hl h0
    cases a
    · have hN := nilC_yes 0 cap
      go_enter Try.func33, Try.ntmps33
      go_wp2_with fail
      go_ret
      exact ⟨_, rfl, ⟨by simp, .inl ⟨rfl, _, _, rfl⟩⟩, Below.refl _ _⟩
    · rename_i g0
      have hN := nilC_no g0 0 cap
      go_enter Try.func33, Try.ntmps33
      go_wp2_with fail
      go_ret
      exact ⟨_, rfl, ⟨by simp, .inl ⟨rfl, _, _, rfl⟩⟩, bel0 w _⟩
  · obtain ⟨g, rfl, hg, hg1, hn⟩ := r.news h0
    have HR := Lib.hid (hn (w.alloc (.cells #[] 29)) ((bel0 w _).mono hhi))
    have HO := Lib.hid (own_new3 w 29)
    clear r hn
    have hN := nilC_no ⟨g, 0, none⟩ xs.length cap
    go_enter Try.func33, Try.ntmps33
    go_wp2_with (at_builtin; refine wpList_append_lies _ rfl _ _ 24 rfl w.heap.size 29 i0 _ 3 24 Try.underlying24 hi0 hz0 hz1 hz2 rfl (by decide) _ _ _ rfl HO.out ⟨g, 0, none⟩ xs.length cap (places xs) rfl (places_length xs) HR.out (places_one xs) h0 (by unfold maxLen; omega) (by omega) (by simp) (w.heap.size + 1) (by simp) ?_; intro gg cc w1 hown1 hgrow hat hlt1)
    have hbw := (Below.refl w.heap.size _).grown hgrow (by simp) (own_ge3 HO.out)
    have hB : Below w.heap.size w w1 := (bel0 w _).trans hbw
    have hin : CellIn w.heap.size w1.heap.size w1 (.slice (some ⟨gg, 0, none⟩) xs.length cc) xs := CellIn.of_owns (xs := xs) (by simpa using hown1) hl
    clear hown1 hgrow hat hlt1 hbw HO HR
    go_ret
    exact ⟨_, rfl, by simpa using hin, hB⟩

set_option maxRecDepth 100000 in
set_option maxHeartbeats 4000000 in
theorem ImplSeenFrom_any (lo hi : Nat) (n k : Int) (v : Value) (xs : List C3) (w : World) (r : CellIn lo hi w v xs) (hhi : hi ≤ w.heap.size) :
    Calls Try.prog 11 #[.agg #[.int .i64 n, v], .int .i64 k] w (FreshB (seeN n k xs) (seeB n k xs) w) := by
  obtain ⟨a, cap, rfl⟩ := r.form
  have hl := r.1
  have HR := Lib.hid (fun W (hb : Below w.heap.size w W) => r.below (hb.mono hhi))
  clear r
  by_cases hb : BlkOk n xs
  · have HB := Lib.hid hb
    by_cases hk : 0 ≤ k ∧ k ≤ 7
    · obtain ⟨k0, k7⟩ := hk
      rw [(see_yes (n := n) (k := k) ⟨hb, k0, k7⟩).1, (see_yes (n := n) (k := k) ⟨hb, k0, k7⟩).2]
      obtain ⟨kk, hkk⟩ : ∃ kk : Nat, k % 4 = kk := ⟨(k % 4).toNat, by omega⟩
      have hkt : (k % 4).toNat = kk := by omega
      rw [hkt]
      have HK := Lib.hid hkk
      have hkb : kk ≤ 3 := by omega
      have hk0 : ¬ k < 0 := by omega
      have hk8 : ¬ 8 ≤ k := by omega
      clear hkk hkt
      by_cases hge : 4 ≤ k
      · rw [if_pos hge]
        have HBB := Lib.hid (mir_ok hb)
        clear hb
        obtain ⟨base, hbase⟩ : ∃ base, base = mirL n xs := ⟨_, rfl⟩
        rw [← hbase] at HBB ⊢
        have HBS := Lib.hid hbase
        clear hbase
        go_enter Try.func11, Try.ntmps11
        go_wp2_with fail
        refine (ImplBlockOk_yes lo hi n _ xs _ (HR.out _ (bel_n (bel0 w _) (Nat.le_refl _) _)) (by simp; omega) HB.out).mono ?_
        rintro e w1 ⟨rfl, hb1⟩
        have HP1 : Hid (BoxB w.heap.size (.int .i64 n) (.slice a xs.length cap) w1) := Lib.hid (((BoxB.new w (.int .i64 n) (.slice a xs.length cap) 26).below (bel0 _ _) (by simp)).below hb1 (by simp; omega))
        have HD1 : Hid (BoxB (w.heap.size + 1) (.int .i64 0) (.slice none 0 0) w1) := Lib.hid (by
          have h := BoxB.new (w.alloc (.cells #[.int .i64 n, .slice a xs.length cap] 26)) (.int .i64 0) (.slice none 0 0) 26
          exact (show BoxB (w.heap.size + 1) _ _ _ by simpa using h).below hb1 (by simp))
        have HB1 := Lib.hid (bel_c (bel_n (bel0 w (.cells #[.int .i64 n, .slice a xs.length cap] 26)) (Nat.le_refl _) (.cells #[.int .i64 0, .slice none 0 0] 26)) (Nat.le_refl _) hb1)
        clear hb1
        go_wp2_with fail
        refine (ViewOk_yes k _ k0 k7).mono ?_
        rintro e uu ⟨rfl, huu⟩
        have huu := huu.symm
        subst huu
        go_upto_region 3 with fail
        have HPW := HD1.out.lt
        have D0 : Below w1.heap.size w1 w1.drew := ⟨rfl, rfl, rfl, Nat.le_refl _, fun _ _ => rfl⟩
        have KP : ∀ u v, Below u.heap.size u v → (u.cell? ⟨w.heap.size, 0, none⟩ = some (.int .i64 n) ∧ u.cell? ⟨w.heap.size, 1, none⟩ = some (.slice a xs.length cap)) → (v.cell? ⟨w.heap.size, 0, none⟩ = some (.int .i64 n) ∧ v.cell? ⟨w.heap.size, 1, none⟩ = some (.slice a xs.length cap)) := fun u v hb h => ⟨kept hb h.1, kept hb h.2⟩
        have KS : ∀ (u : World) (p : Nat) (v0 v1 : Value), w.heap.size < p → (u.cell? ⟨w.heap.size, 0, none⟩ = some (.int .i64 n) ∧ u.cell? ⟨w.heap.size, 1, none⟩ = some (.slice a xs.length cap)) → (((u.setCell ⟨p, 0, none⟩ v0).setCell ⟨p, 1, none⟩ v1).cell? ⟨w.heap.size, 0, none⟩ = some (.int .i64 n) ∧ ((u.setCell ⟨p, 0, none⟩ v0).setCell ⟨p, 1, none⟩ v1).cell? ⟨w.heap.size, 1, none⟩ = some (.slice a xs.length cap)) := by
          intro u p v0 v1 hp h
          have h1 : p ≠ w.heap.size := by omega
          have f : ∀ (q o : Nat), p ≠ q → ((u.setCell ⟨p, 0, none⟩ v0).setCell ⟨p, 1, none⟩ v1).cell? ⟨q, o, none⟩ = u.cell? ⟨q, o, none⟩ := fun q o hq => by
            rw [World.cell?_setCell_other _ _ _ _ (by simp), World.cell?_setCell_other _ _ _ _ (by simp)]
          simpa only [f _ _ h1] using h
        have N1 := Lib.hid (CloneC_any lo hi _ xs w1.drew (HR.out _ (bel_c HB1.out (Nat.le_refl _) D0)) (Nat.le_trans hhi HB1.out.size))
        have N2 := Lib.hid (CloneC_any lo hi _ xs (w1.drew.alloc (.cells #[.int .i64 0, .slice none 0 0] 26)) (HR.out _ (bel_n (bel_c HB1.out (Nat.le_refl _) D0) (Nat.le_refl _) (.cells #[.int .i64 0, .slice none 0 0] 26))) (Nat.le_trans hhi (bel_n (bel_c HB1.out (Nat.le_refl _) D0) (Nat.le_refl _) (.cells #[.int .i64 0, .slice none 0 0] 26)).size))
        obtain ⟨c0, c1, _, _⟩ := HP1.out
        go_cut [5] (fun q wx => WR n true xs w1 q (.bool true) wx)
        case first =>
          go_region_held3 (fun w' => w'.cell? ⟨w.heap.size, 0, none⟩ = some (.int .i64 n) ∧ w'.cell? ⟨w.heap.size, 1, none⟩ = some (.slice a xs.length cap)) (first | exact S4 | exact KP _ _ (bel0 _ _) S4 | exact KS _ _ _ _ (by omega) S4 | (refine KP _ _ (by assumption) ?_; assumption) | exact KP _ _ (bel0 _ _) (by assumption) | go_keep)
            ((first
              | (go_at_call 33; refine N1.out.mono ?_; rintro e w2 ⟨v2, rfl, hin2, hb2⟩; obtain ⟨a2, d2, rfl⟩ := hin2.form; have hbz : Below w1.heap.size w1 w2 := D0.trans hb2; have S4 := KP w1.drew w2 hb2 (by assumption); have R1 := Lib.hid hin2; clear hin2 hb2)
              | (go_at_call 33; refine N2.out.mono ?_; rintro e w2 ⟨v2, rfl, hin2, hb2⟩; obtain ⟨a2, d2, rfl⟩ := hin2.form; have hbz : Below w1.heap.size w1 w2 := bel_c (bel_n D0 (Nat.le_refl _) (.cells #[.int .i64 0, .slice none 0 0] 26)) (Nat.le_refl _) hb2; have bz3 := Lib.hid (show BoxB w1.heap.size (.int .i64 0) (.slice none 0 0) w2 from (BoxB.new w1.drew (.int .i64 0) (.slice none 0 0) 26).below hb2 (by simp)); obtain ⟨k0, k1, k2, k3⟩ := bz3.out; have S4 := KP (w1.drew.alloc (.cells #[.int .i64 0, .slice none 0 0] 26)) w2 hb2 (by assumption); have R1 := Lib.hid hin2; clear hin2 hb2)))
          all_goals
            go_wp2_with fail
            go_meet
            first
            | exact WR.old R1.out bz3.out hbz (by simp) (Nat.le_refl _) (.inl (by simp))
            | exact WR.new R1.out hbz (Nat.le_refl _)
        case rest =>
          obtain ⟨o, a4, c4, l4, h4, rfl, -, bx4, R4, ho4, zl4, zp4, zh4, hb⟩ := hcut
          have HPO : Hid (w.heap.size + 1 < o) := Lib.hid (Nat.lt_of_lt_of_le HPW zp4)
          have HX3 := Lib.hid bx4
          have HD3 := Lib.hid (HD1.out.below hb HPW)
          have HB3 := Lib.hid (bel_c HB1.out (Nat.le_refl _) hb)
          have HC3 := Lib.hid R4
          have HZ3 : Hid ((o < l4 ∨ h4 ≤ o) ∧ w.heap.size + 1 < l4 ∧ h4 ≤ wc.heap.size) := Lib.hid ⟨ho4, Nat.lt_of_lt_of_le HPW zl4, zh4⟩
          clear bx4 R4 ho4 zl4 zp4 zh4 hb HP1 HD1 HB1 D0 KP KS N1 N2 c0 c1
          have hk4 : 4 ≤ k := by omega
          have hrem : k % 4 = (kk : Int) := HK.out
          have q0 := HX3.out.1
          have q1 := HX3.out.2.1
          have HOL : Hid (o < wc.heap.size) := Lib.hid HX3.out.lt
          have CM := Lib.hid (ImplMirrorBlock_any l4 h4 n _ xs wc HC3.out HZ3.out.2.2)
          rw [(turnB_yes HB.out).1, (turnB_yes HB.out).2.2] at CM
          obtain ⟨ys, hys⟩ : ∃ ys, mirL n xs = ys := ⟨_, rfl⟩
          rw [hys] at CM
          have HYM := Lib.hid hys
          clear hys
          go_wp2_with fail
          refine (MirV_yes k _ hk4).mono ?_
          rintro e uu ⟨rfl, huu⟩
          have huu := huu.symm
          subst huu
          go_wp2_with fail
          refine CM.out.mono ?_
          rintro e w5 ⟨v5, rfl, hin5, hb5⟩
          obtain ⟨a5, c5, rfl⟩ := hin5.form
          have hx5 := HX3.out.below hb5 HOL.out
          have HX0 := Lib.hid (BoxB.two (x' := .int .i64 n) (y' := .slice a5 ys.length c5) hx5)
          have hd5 := HD3.out.below hb5 HD3.out.lt
          have HD0 := Lib.hid ((hd5.set_far (q := o) (o := 0) (by have := HPO.out; omega) (.int .i64 n)).set_far (q := o) (o := 1) (by have := HPO.out; omega) (.slice a5 ys.length c5))
          have HI5 := Lib.hid ((hin5.set_far (p := ⟨o, 0, none⟩) HOL.out (.int .i64 n)).set_far (p := ⟨o, 1, none⟩) HOL.out (.slice a5 ys.length c5))
          have HB0 := Lib.hid (Below.setCell (Below.setCell (bel_c HB3.out (Nat.le_refl _) hb5) (p := ⟨o, 0, none⟩) (by show _ ≤ o; have := HPO.out; omega) (.int .i64 n)) (p := ⟨o, 1, none⟩) (by show _ ≤ o; have := HPO.out; omega) (.slice a5 ys.length c5))
          have HZ0 : Hid ((o < wc.heap.size ∨ w5.heap.size ≤ o) ∧ w.heap.size + 1 < wc.heap.size ∧ w5.heap.size ≤ ((w5.setCell ⟨o, 0, none⟩ (.int .i64 n)).setCell ⟨o, 1, none⟩ (.slice a5 ys.length c5)).heap.size) := Lib.hid ⟨.inl HOL.out, HD3.out.lt, by simp [World.setCell]⟩
          obtain ⟨q50, q51, f0, f1⟩ := hx5
          have HC0 : Hid (CellIn wc.heap.size w5.heap.size ((w5.setCell ⟨o, 0, none⟩ (.int .i64 n)).setCell ⟨o, 1, none⟩ (.slice a5 ys.length c5)) (.slice a5 ys.length c5) (turnK n base 0)) := Lib.hid (by show CellIn _ _ _ _ base; rw [HBS.out, HYM.out]; exact HI5.out)
          clear q0 q1 hin5 hb5 hd5 HC3 HX3 HD3 HB3 HZ3 HI5
          go_wp2_with fail
          clear f0 f1 q50 q51
          (try rw [hrem])
          go_loopw [27] (fun i wr => ∃ (c : Nat) (v : Value) (l h : Nat), c ≤ kk ∧ i = .int .i64 c ∧ Hid (CellIn l h wr v (turnK n base c)) ∧ Hid (BoxB o (.int .i64 n) v wr) ∧ Hid (BoxB (w.heap.size + 1) (.int .i64 0) (.slice none 0 0) wr) ∧ Hid (Below w.heap.size w wr) ∧ Hid ((o < l ∨ h ≤ o) ∧ w.heap.size + 1 < l ∧ h ≤ wr.heap.size)) (fun i _ => kk - (intOf i).toNat)
          case atStart => exact ⟨0, _, _, _, Nat.zero_le _, rfl, HC0, HX0, HD0, HB0, HZ0⟩
          case round =>
            clear HC0 HX0 HD0 HB0 HZ0
            obtain ⟨c, v, l, h, hc, rfl, hin, hx, hd, hbel, hz⟩ := hrel
            by_cases hlt : c < kk
            · obtain ⟨av, cv, rfl⟩ := hin.out.form
              have q0 := hx.out.1
              have q1 := hx.out.2.1
              have CT := Lib.hid (ImplTurnBlock_any l h n (.slice av (turnK n base c).length cv) (turnK n base c) wr hin.out hz.out.2.2)
              rw [(turnB_yes (turnK_ok HBB.out c)).1, (turnB_yes (turnK_ok HBB.out c)).2.1] at CT
              change Hid (Calls _ _ _ _ (FreshB n (turnK n base (c + 1)) wr)) at CT
              obtain ⟨ys, hys⟩ : ∃ ys, turnK n base (c + 1) = ys := ⟨_, rfl⟩
              rw [hys] at CT
              have HYS := Lib.hid hys
              clear hys
              generalize turnK n base c = zs at CT hin hx q1
              have HOL : Hid (o < wr.heap.size) := Lib.hid hx.out.lt
              go_wp2_with fail
              refine CT.out.mono ?_
              rintro e w5 ⟨v5, rfl, hin5, hb5⟩
              obtain ⟨a5, c5, rfl⟩ := hin5.form
              have hx5 := hx.out.below hb5 HOL.out
              have HX5 := Lib.hid (BoxB.two (x' := .int .i64 n) (y' := .slice a5 ys.length c5) hx5)
              have hd5 := hd.out.below hb5 hd.out.lt
              have HD5 := Lib.hid ((hd5.set_far (q := o) (o := 0) (by have := HPO.out; omega) (.int .i64 n)).set_far (q := o) (o := 1) (by have := HPO.out; omega) (.slice a5 ys.length c5))
              have HI5 := Lib.hid ((hin5.set_far (p := ⟨o, 0, none⟩) HOL.out (.int .i64 n)).set_far (p := ⟨o, 1, none⟩) HOL.out (.slice a5 ys.length c5))
              have HB5 := Lib.hid (Below.setCell (Below.setCell (bel_c hbel.out (Nat.le_refl _) hb5) (p := ⟨o, 0, none⟩) (by show _ ≤ o; have := HPO.out; omega) (.int .i64 n)) (p := ⟨o, 1, none⟩) (by show _ ≤ o; have := HPO.out; omega) (.slice a5 ys.length c5))
              have HZ5 : Hid ((o < wr.heap.size ∨ w5.heap.size ≤ o) ∧ w.heap.size + 1 < wr.heap.size ∧ w5.heap.size ≤ ((w5.setCell ⟨o, 0, none⟩ (.int .i64 n)).setCell ⟨o, 1, none⟩ (.slice a5 ys.length c5)).heap.size) := Lib.hid ⟨.inl HOL.out, hd.out.lt, by simp [World.setCell]⟩
              obtain ⟨q50, q51, f0, f1⟩ := hx5
              clear q0 q1 hin5 hb5 hin hx hd hbel hd5 hz
              go_wp2_with fail
              clear f0 f1 q50 q51
              go_roundw
              case rel => exact ⟨c + 1, _, _, _, by omega, by go_num, by rw [HYS.out]; exact HI5, HX5, HD5, HB5, HZ5⟩
              case measure => simp [intOf] <;> omega
            · obtain rfl : c = kk := by omega
              obtain ⟨av, cv, rfl⟩ := hin.out.form
              obtain ⟨zs, hzs⟩ : ∃ zs, turnK n base c = zs := ⟨_, rfl⟩
              rw [hzs] at hin hx
              have HZS := Lib.hid hzs
              clear hzs
              obtain ⟨q0, q1, _, _⟩ := hx.out
              obtain ⟨d0, d1, f0, f1⟩ := hd.out
              have zl := hz.out.2.1
              have zh := hz.out.2.2
              clear hx hd hz
              go_wp2_with fail
              refine bodyPost_ret (v := .agg #[.int .i64 n, .slice av zs.length cv]) (by simp [results, Try.results11, go_sem, d0, d1]) rfl ⟨_, rfl, ?_, ?_⟩
              · rw [HZS.out]
                refine CellIn.wide (lo := l) (hi := h) ?_ (by omega) (by simp [World.setCell]; omega)
                refine CellIn.set_far (CellIn.set_far hin.out ?_ _) ?_ _ <;> (simp <;> omega)
              · refine Below.setCell (Below.setCell hbel.out ?_ _) ?_ _ <;> (simp <;> omega)
      · rw [if_neg hge]
        have HBB := Lib.hid hb
        clear hb
        obtain ⟨base, hbase⟩ : ∃ base, base = xs := ⟨_, rfl⟩
        have HBB2 : Hid (BlkOk n base) := Lib.hid (by rw [hbase]; exact HBB.out)
        rw [show turnK n xs kk = turnK n base kk by rw [hbase]]
        have HBS := Lib.hid hbase
        clear hbase HBB
        go_enter Try.func11, Try.ntmps11
        go_wp2_with fail
        refine (ImplBlockOk_yes lo hi n _ xs _ (HR.out _ (bel_n (bel0 w _) (Nat.le_refl _) _)) (by simp; omega) HB.out).mono ?_
        rintro e w1 ⟨rfl, hb1⟩
        have HP1 : Hid (BoxB w.heap.size (.int .i64 n) (.slice a xs.length cap) w1) := Lib.hid (((BoxB.new w (.int .i64 n) (.slice a xs.length cap) 26).below (bel0 _ _) (by simp)).below hb1 (by simp; omega))
        have HD1 : Hid (BoxB (w.heap.size + 1) (.int .i64 0) (.slice none 0 0) w1) := Lib.hid (by
          have h := BoxB.new (w.alloc (.cells #[.int .i64 n, .slice a xs.length cap] 26)) (.int .i64 0) (.slice none 0 0) 26
          exact (show BoxB (w.heap.size + 1) _ _ _ by simpa using h).below hb1 (by simp))
        have HB1 := Lib.hid (bel_c (bel_n (bel0 w (.cells #[.int .i64 n, .slice a xs.length cap] 26)) (Nat.le_refl _) (.cells #[.int .i64 0, .slice none 0 0] 26)) (Nat.le_refl _) hb1)
        clear hb1
        go_wp2_with fail
        refine (ViewOk_yes k _ k0 k7).mono ?_
        rintro e uu ⟨rfl, huu⟩
        have huu := huu.symm
        subst huu
        go_upto_region 3 with fail
        have HPW := HD1.out.lt
        have D0 : Below w1.heap.size w1 w1.drew := ⟨rfl, rfl, rfl, Nat.le_refl _, fun _ _ => rfl⟩
        have KP : ∀ u v, Below u.heap.size u v → (u.cell? ⟨w.heap.size, 0, none⟩ = some (.int .i64 n) ∧ u.cell? ⟨w.heap.size, 1, none⟩ = some (.slice a xs.length cap)) → (v.cell? ⟨w.heap.size, 0, none⟩ = some (.int .i64 n) ∧ v.cell? ⟨w.heap.size, 1, none⟩ = some (.slice a xs.length cap)) := fun u v hb h => ⟨kept hb h.1, kept hb h.2⟩
        have KS : ∀ (u : World) (p : Nat) (v0 v1 : Value), w.heap.size < p → (u.cell? ⟨w.heap.size, 0, none⟩ = some (.int .i64 n) ∧ u.cell? ⟨w.heap.size, 1, none⟩ = some (.slice a xs.length cap)) → (((u.setCell ⟨p, 0, none⟩ v0).setCell ⟨p, 1, none⟩ v1).cell? ⟨w.heap.size, 0, none⟩ = some (.int .i64 n) ∧ ((u.setCell ⟨p, 0, none⟩ v0).setCell ⟨p, 1, none⟩ v1).cell? ⟨w.heap.size, 1, none⟩ = some (.slice a xs.length cap)) := by
          intro u p v0 v1 hp h
          have h1 : p ≠ w.heap.size := by omega
          have f : ∀ (q o : Nat), p ≠ q → ((u.setCell ⟨p, 0, none⟩ v0).setCell ⟨p, 1, none⟩ v1).cell? ⟨q, o, none⟩ = u.cell? ⟨q, o, none⟩ := fun q o hq => by
            rw [World.cell?_setCell_other _ _ _ _ (by simp), World.cell?_setCell_other _ _ _ _ (by simp)]
          simpa only [f _ _ h1] using h
        have N1 := Lib.hid (CloneC_any lo hi _ xs w1.drew (HR.out _ (bel_c HB1.out (Nat.le_refl _) D0)) (Nat.le_trans hhi HB1.out.size))
        have N2 := Lib.hid (CloneC_any lo hi _ xs (w1.drew.alloc (.cells #[.int .i64 0, .slice none 0 0] 26)) (HR.out _ (bel_n (bel_c HB1.out (Nat.le_refl _) D0) (Nat.le_refl _) (.cells #[.int .i64 0, .slice none 0 0] 26))) (Nat.le_trans hhi (bel_n (bel_c HB1.out (Nat.le_refl _) D0) (Nat.le_refl _) (.cells #[.int .i64 0, .slice none 0 0] 26)).size))
        obtain ⟨c0, c1, _, _⟩ := HP1.out
        go_cut [5] (fun q wx => WR n true xs w1 q (.bool true) wx)
        case first =>
          go_region_held3 (fun w' => w'.cell? ⟨w.heap.size, 0, none⟩ = some (.int .i64 n) ∧ w'.cell? ⟨w.heap.size, 1, none⟩ = some (.slice a xs.length cap)) (first | exact S4 | exact KP _ _ (bel0 _ _) S4 | exact KS _ _ _ _ (by omega) S4 | (refine KP _ _ (by assumption) ?_; assumption) | exact KP _ _ (bel0 _ _) (by assumption) | go_keep)
            ((first
              | (go_at_call 33; refine N1.out.mono ?_; rintro e w2 ⟨v2, rfl, hin2, hb2⟩; obtain ⟨a2, d2, rfl⟩ := hin2.form; have hbz : Below w1.heap.size w1 w2 := D0.trans hb2; have S4 := KP w1.drew w2 hb2 (by assumption); have R1 := Lib.hid hin2; clear hin2 hb2)
              | (go_at_call 33; refine N2.out.mono ?_; rintro e w2 ⟨v2, rfl, hin2, hb2⟩; obtain ⟨a2, d2, rfl⟩ := hin2.form; have hbz : Below w1.heap.size w1 w2 := bel_c (bel_n D0 (Nat.le_refl _) (.cells #[.int .i64 0, .slice none 0 0] 26)) (Nat.le_refl _) hb2; have bz3 := Lib.hid (show BoxB w1.heap.size (.int .i64 0) (.slice none 0 0) w2 from (BoxB.new w1.drew (.int .i64 0) (.slice none 0 0) 26).below hb2 (by simp)); obtain ⟨k0, k1, k2, k3⟩ := bz3.out; have S4 := KP (w1.drew.alloc (.cells #[.int .i64 0, .slice none 0 0] 26)) w2 hb2 (by assumption); have R1 := Lib.hid hin2; clear hin2 hb2)))
          all_goals
            go_wp2_with fail
            go_meet
            first
            | exact WR.old R1.out bz3.out hbz (by simp) (Nat.le_refl _) (.inl (by simp))
            | exact WR.new R1.out hbz (Nat.le_refl _)
        case rest =>
          obtain ⟨o, a4, c4, l4, h4, rfl, -, bx4, R4, ho4, zl4, zp4, zh4, hb⟩ := hcut
          have HPO : Hid (w.heap.size + 1 < o) := Lib.hid (Nat.lt_of_lt_of_le HPW zp4)
          have HX3 := Lib.hid bx4
          have HD3 := Lib.hid (HD1.out.below hb HPW)
          have HB3 := Lib.hid (bel_c HB1.out (Nat.le_refl _) hb)
          have HC3 := Lib.hid R4
          have HZ3 : Hid ((o < l4 ∨ h4 ≤ o) ∧ w.heap.size + 1 < l4 ∧ h4 ≤ wc.heap.size) := Lib.hid ⟨ho4, Nat.lt_of_lt_of_le HPW zl4, zh4⟩
          clear bx4 R4 ho4 zl4 zp4 zh4 hb HP1 HD1 HB1 D0 KP KS N1 N2 c0 c1
          have hk4 : ¬ 4 ≤ k := by omega
          have hrem : k % 4 = (kk : Int) := HK.out
          go_wp2_with fail
          refine (MirV_no k _ (by omega)).mono ?_
          rintro e uu ⟨rfl, huu⟩
          have huu := huu.symm
          subst huu
          go_wp2_with fail
          have HC0 : Hid (CellIn l4 h4 wc (.slice a4 xs.length c4) (turnK n base 0)) := Lib.hid (by show CellIn _ _ _ _ base; rw [HBS.out]; exact HC3.out)
          have HX0 := HX3
          have HD0 := HD3
          have HB0 := HB3
          have HZ0 := HZ3
          clear HC3 HX3 HD3 HB3 HZ3
          (try rw [hrem])
          go_loopw [27] (fun i wr => ∃ (c : Nat) (v : Value) (l h : Nat), c ≤ kk ∧ i = .int .i64 c ∧ Hid (CellIn l h wr v (turnK n base c)) ∧ Hid (BoxB o (.int .i64 n) v wr) ∧ Hid (BoxB (w.heap.size + 1) (.int .i64 0) (.slice none 0 0) wr) ∧ Hid (Below w.heap.size w wr) ∧ Hid ((o < l ∨ h ≤ o) ∧ w.heap.size + 1 < l ∧ h ≤ wr.heap.size)) (fun i _ => kk - (intOf i).toNat)
          case atStart => exact ⟨0, _, _, _, Nat.zero_le _, rfl, HC0, HX0, HD0, HB0, HZ0⟩
          case round =>
            clear HC0 HX0 HD0 HB0 HZ0
            obtain ⟨c, v, l, h, hc, rfl, hin, hx, hd, hbel, hz⟩ := hrel
            by_cases hlt : c < kk
            · obtain ⟨av, cv, rfl⟩ := hin.out.form
              have q0 := hx.out.1
              have q1 := hx.out.2.1
              have CT := Lib.hid (ImplTurnBlock_any l h n (.slice av (turnK n base c).length cv) (turnK n base c) wr hin.out hz.out.2.2)
              rw [(turnB_yes (turnK_ok HBB2.out c)).1, (turnB_yes (turnK_ok HBB2.out c)).2.1] at CT
              change Hid (Calls _ _ _ _ (FreshB n (turnK n base (c + 1)) wr)) at CT
              obtain ⟨ys, hys⟩ : ∃ ys, turnK n base (c + 1) = ys := ⟨_, rfl⟩
              rw [hys] at CT
              have HYS := Lib.hid hys
              clear hys
              generalize turnK n base c = zs at CT hin hx q1
              have HOL : Hid (o < wr.heap.size) := Lib.hid hx.out.lt
              go_wp2_with fail
              refine CT.out.mono ?_
              rintro e w5 ⟨v5, rfl, hin5, hb5⟩
              obtain ⟨a5, c5, rfl⟩ := hin5.form
              have hx5 := hx.out.below hb5 HOL.out
              have HX5 := Lib.hid (BoxB.two (x' := .int .i64 n) (y' := .slice a5 ys.length c5) hx5)
              have hd5 := hd.out.below hb5 hd.out.lt
              have HD5 := Lib.hid ((hd5.set_far (q := o) (o := 0) (by have := HPO.out; omega) (.int .i64 n)).set_far (q := o) (o := 1) (by have := HPO.out; omega) (.slice a5 ys.length c5))
              have HI5 := Lib.hid ((hin5.set_far (p := ⟨o, 0, none⟩) HOL.out (.int .i64 n)).set_far (p := ⟨o, 1, none⟩) HOL.out (.slice a5 ys.length c5))
              have HB5 := Lib.hid (Below.setCell (Below.setCell (bel_c hbel.out (Nat.le_refl _) hb5) (p := ⟨o, 0, none⟩) (by show _ ≤ o; have := HPO.out; omega) (.int .i64 n)) (p := ⟨o, 1, none⟩) (by show _ ≤ o; have := HPO.out; omega) (.slice a5 ys.length c5))
              have HZ5 : Hid ((o < wr.heap.size ∨ w5.heap.size ≤ o) ∧ w.heap.size + 1 < wr.heap.size ∧ w5.heap.size ≤ ((w5.setCell ⟨o, 0, none⟩ (.int .i64 n)).setCell ⟨o, 1, none⟩ (.slice a5 ys.length c5)).heap.size) := Lib.hid ⟨.inl HOL.out, hd.out.lt, by simp [World.setCell]⟩
              obtain ⟨q50, q51, f0, f1⟩ := hx5
              clear q0 q1 hin5 hb5 hin hx hd hbel hd5 hz
              go_wp2_with fail
              clear f0 f1 q50 q51
              go_roundw
              case rel => exact ⟨c + 1, _, _, _, by omega, by go_num, by rw [HYS.out]; exact HI5, HX5, HD5, HB5, HZ5⟩
              case measure => simp [intOf] <;> omega
            · obtain rfl : c = kk := by omega
              obtain ⟨av, cv, rfl⟩ := hin.out.form
              obtain ⟨zs, hzs⟩ : ∃ zs, turnK n base c = zs := ⟨_, rfl⟩
              rw [hzs] at hin hx
              have HZS := Lib.hid hzs
              clear hzs
              obtain ⟨q0, q1, _, _⟩ := hx.out
              obtain ⟨d0, d1, f0, f1⟩ := hd.out
              have zl := hz.out.2.1
              have zh := hz.out.2.2
              clear hx hd hz
              go_wp2_with fail
              refine bodyPost_ret (v := .agg #[.int .i64 n, .slice av zs.length cv]) (by simp [results, Try.results11, go_sem, d0, d1]) rfl ⟨_, rfl, ?_, ?_⟩
              · rw [HZS.out]
                refine CellIn.wide (lo := l) (hi := h) ?_ (by omega) (by simp [World.setCell]; omega)
                refine CellIn.set_far (CellIn.set_far hin.out ?_ _) ?_ _ <;> (simp <;> omega)
              · refine Below.setCell (Below.setCell hbel.out ?_ _) ?_ _ <;> (simp <;> omega)
    · rw [(see_no (n := n) (k := k) (fun h => hk h.2)).1, (see_no (n := n) (k := k) (xs := xs) (fun h => hk h.2)).2]
      clear hb
      by_cases k0 : k < 0
      · clear hk
        go_enter Try.func11, Try.ntmps11
        go_wp2_with fail
        refine (ImplBlockOk_yes lo hi n _ xs _ (HR.out _ (bel_n (bel0 w _) (Nat.le_refl _) _)) (by simp; omega) HB.out).mono ?_
        rintro e w1 ⟨rfl, hb1⟩
        have d0 := kept (p := ⟨w.heap.size + 1, 0, none⟩) (x := .int .i64 0) hb1 (by go_simp)
        have d1 := kept (p := ⟨w.heap.size + 1, 1, none⟩) (x := .slice none 0 0) hb1 (by go_simp)
        have g0 := keptF (p := ⟨w.heap.size + 1, 0, none⟩) (x := .int .i64 0) hb1 (by go_simp) (by go_simp)
        have g1 := keptF (p := ⟨w.heap.size + 1, 1, none⟩) (x := .slice none 0 0) hb1 (by go_simp) (by go_simp)
        have B := bel_c (bel_n (bel0 w (.cells #[.int .i64 n, .slice a xs.length cap] 26)) (Nat.le_refl _) (.cells #[.int .i64 0, .slice none 0 0] 26)) (Nat.le_refl _) hb1
        clear hb1
        go_wp2_with fail
        refine (ViewOk_no k _ (.inl k0)).mono ?_
        rintro e uu ⟨rfl, huu⟩
        have huu := huu.symm
        subst huu
        go_wp2_with fail
        refine bodyPost_ret (v := .agg #[.int .i64 0, .slice none 0 0]) (by simp [results, Try.results11, go_sem, d0, d1]) rfl ⟨.slice none 0 0, rfl, ⟨by simp, .inl ⟨rfl, _, _, rfl⟩⟩, ?_⟩
        refine Below.setCell (Below.setCell B ?_ _) ?_ _ <;> (simp <;> omega)
      · have hk8 : 8 ≤ k := by omega
        clear hk
        go_enter Try.func11, Try.ntmps11
        go_wp2_with fail
        refine (ImplBlockOk_yes lo hi n _ xs _ (HR.out _ (bel_n (bel0 w _) (Nat.le_refl _) _)) (by simp; omega) HB.out).mono ?_
        rintro e w1 ⟨rfl, hb1⟩
        have d0 := kept (p := ⟨w.heap.size + 1, 0, none⟩) (x := .int .i64 0) hb1 (by go_simp)
        have d1 := kept (p := ⟨w.heap.size + 1, 1, none⟩) (x := .slice none 0 0) hb1 (by go_simp)
        have g0 := keptF (p := ⟨w.heap.size + 1, 0, none⟩) (x := .int .i64 0) hb1 (by go_simp) (by go_simp)
        have g1 := keptF (p := ⟨w.heap.size + 1, 1, none⟩) (x := .slice none 0 0) hb1 (by go_simp) (by go_simp)
        have B := bel_c (bel_n (bel0 w (.cells #[.int .i64 n, .slice a xs.length cap] 26)) (Nat.le_refl _) (.cells #[.int .i64 0, .slice none 0 0] 26)) (Nat.le_refl _) hb1
        clear hb1
        go_wp2_with fail
        refine (ViewOk_no k _ (.inr (by omega))).mono ?_
        rintro e uu ⟨rfl, huu⟩
        have huu := huu.symm
        subst huu
        go_wp2_with fail
        refine bodyPost_ret (v := .agg #[.int .i64 0, .slice none 0 0]) (by simp [results, Try.results11, go_sem, d0, d1]) rfl ⟨.slice none 0 0, rfl, ⟨by simp, .inl ⟨rfl, _, _, rfl⟩⟩, ?_⟩
        refine Below.setCell (Below.setCell B ?_ _) ?_ _ <;> (simp <;> omega)
  · rw [(see_no (n := n) (k := k) (fun h => hb h.1)).1, (see_no (n := n) (k := k) (xs := xs) (fun h => hb h.1)).2]
    have HB := Lib.hid hb
    clear hb
    go_enter Try.func11, Try.ntmps11
    go_wp2_with fail
    refine (ImplBlockOk_no lo hi n _ xs _ (HR.out _ (bel_n (bel0 w _) (Nat.le_refl _) _)) (by simp; omega) HB.out).mono ?_
    rintro e w1 ⟨rfl, hb1⟩
    have d0 := kept (p := ⟨w.heap.size + 1, 0, none⟩) (x := .int .i64 0) hb1 (by go_simp)
    have d1 := kept (p := ⟨w.heap.size + 1, 1, none⟩) (x := .slice none 0 0) hb1 (by go_simp)
    have g0 := keptF (p := ⟨w.heap.size + 1, 0, none⟩) (x := .int .i64 0) hb1 (by go_simp) (by go_simp)
    have g1 := keptF (p := ⟨w.heap.size + 1, 1, none⟩) (x := .slice none 0 0) hb1 (by go_simp) (by go_simp)
    have B := bel_c (bel_n (bel0 w (.cells #[.int .i64 n, .slice a xs.length cap] 26)) (Nat.le_refl _) (.cells #[.int .i64 0, .slice none 0 0] 26)) (Nat.le_refl _) hb1
    clear hb1
    go_wp2_with fail
    refine bodyPost_ret (v := .agg #[.int .i64 0, .slice none 0 0]) (by simp [results, Try.results11, go_sem, d0, d1]) rfl ⟨.slice none 0 0, rfl, ⟨by simp, .inl ⟨rfl, _, _, rfl⟩⟩, ?_⟩
    refine Below.setCell (Below.setCell B ?_ _) ?_ _ <;> (simp <;> omega)

end Go.Proofs.Ytfidnhhlcdbaeaa
