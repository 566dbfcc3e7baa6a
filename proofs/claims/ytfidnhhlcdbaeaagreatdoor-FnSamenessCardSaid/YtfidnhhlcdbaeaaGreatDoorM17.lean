/- Turns: the model's TurnBlock. Turns: the model's MirrorBlock. -/
import Derived.Test.YtfidnhhlcdbaeaaGreatDoorM08

namespace Go.Proofs.YtfidnhhlcdbaeaaGreatDoor
open Go.ChangeShapes Go.WideShapes Go.ChangeAt Go.RowKit

set_option maxRecDepth 100000 in
set_option maxHeartbeats 4000000 in
theorem SpecTurnBlock_any (lo hi : Nat) (n : Int) (v : Value) (xs : List C3) (w : World) (r : CellIn lo hi w v xs) (hhi : hi ≤ w.heap.size) :
    Calls Tryz.prog 23 #[.agg #[.int .i64 n, v]] w (FreshB (turnN n xs) (turnB n xs) w) := by
  obtain ⟨i0, hi0, hz0, hz1, hz2⟩ := info_parts3 info_cell
  obtain ⟨a, cap, rfl⟩ := r.form
  have hl := r.1
  have HR := Lib.hid (fun W (hb : Below w.heap.size w W) => r.below (hb.mono hhi))
  clear r
  by_cases hb : BlkOk n xs
  · rw [(turnB_yes hb).1, (turnB_yes hb).2.1]
    have HB := Lib.hid hb
    obtain ⟨m, rfl, hm1, hm4, hml⟩ := sz_nat hb
    have HX : Hid (movX turnC (tP m) xs (m * m) = turnL m xs) := Lib.hid (by unfold turnL; rw [hml, Int.toNat_natCast])
    have HML := Lib.hid hml
    rw [← HX.out]
    clear hb hml
    go_enter Tryz.func23, Tryz.ntmps23
    go_wp2_with fail
    refine (SpecBlockOk_yes lo hi m _ xs _ (HR.out _ (bel_n (bel0 w _) (Nat.le_refl _) _)) (by simp; omega) HB.out).mono ?_
    rintro e w1 ⟨rfl, hb1⟩
    have HT := Lib.hid (TBk.start m (.slice a xs.length cap) w w1 hb1)
    have p0 := kept (p := ⟨w.heap.size, 0, none⟩) (x := .int .i64 m) hb1 (by go_simp)
    have HB0 := Lib.hid (bel_n (bel_c (bel_n (bel0 w (.cells #[.int .i64 m, .slice a xs.length cap] 26)) (Nat.le_refl _) (.cells #[.int .i64 0, .slice none 0 0] 26)) (Nat.le_refl _) hb1) (Nat.le_refl _) (.cells #[.int .i64 m, .slice none 0 0] 26))
    have HPO : Hid (w.heap.size + 1 < w1.heap.size) := Lib.hid (by have := hb1.size; simp at this; omega)
    have HSZ : Hid (w1.heap.size + 1 ≤ (w1.alloc (.cells #[.int .i64 m, .slice none 0 0] 26)).heap.size) := Lib.hid (by simp)
    clear hb1
    go_wp2_with fail
    clear p0
    go_loopw [4] (fun i wr => ∃ (y : Nat) (v : Value), y ≤ m ∧ i = .int .i64 y ∧ Hid (wr.ownsRow (w1.heap.size + 1) 50 3 v (y * m) (places (movX turnC (tP m) xs (y * m)))) ∧ Hid (TBk w.heap.size w1.heap.size m (.slice a xs.length cap) v wr) ∧ Hid (Below w.heap.size w wr) ∧ w1.heap.size + 1 ≤ wr.heap.size) (fun i _ => m - (intOf i).toNat)
    case atStart => exact ⟨0, .slice none 0 0, Nat.zero_le _, rfl, Lib.hid (by rw [Nat.zero_mul]; exact ⟨rfl, .inl ⟨rfl, rfl⟩⟩), HT, HB0, HSZ.out⟩
    case round =>
      obtain ⟨y, v0, hk, rfl, hown0, hcs0, hbel0, hsz0⟩ := hrel
      by_cases hlt : y < m
      · have hp0 := hcs0.out.2.2.2.1
        obtain ⟨wo, rfl⟩ : ∃ wo : World, wo = wr := ⟨_, rfl⟩
        go_wp2_with fail
        clear hp0
        go_loopw [5] (fun i wr => ∃ (x : Nat) (v : Value), x ≤ m ∧ i = .int .i64 x ∧ Hid (wr.ownsRow (w1.heap.size + 1) 50 3 v (y * m + x) (places (movX turnC (tP m) xs (y * m + x)))) ∧ Hid (TBk w.heap.size w1.heap.size m (.slice a xs.length cap) v wr) ∧ Hid (Below w.heap.size w wr) ∧ w1.heap.size + 1 ≤ wr.heap.size) (fun i _ => m - (intOf i).toNat)
        case atStart => exact ⟨0, v0, Nat.zero_le _, rfl, hown0, hcs0, hbel0, hsz0⟩
        case round =>
          clear hown0 hcs0 hbel0 hsz0
          obtain ⟨x, v, hx, rfl, hown, hcs, hbel, hsz⟩ := hrel
          by_cases hlt2 : x < m
          · obtain ⟨j, hj1, hj2, hw1, hw2, hw3, hw4⟩ := tIdx hm1 hm4 hlt2 hlt
            have hjl : j < xs.length := by rw [HML.out]; exact hj2
            have hj0 : (0 : Int) ≤ (j : Int) := by omega
            have hji : (j : Int) < (xs.length : Int) := by omega
            obtain ⟨g, rfl, hg1, hg2, ⟨e0, e1, e2⟩, _⟩ := (HR.out _ hbel.out).at (Below.refl _ _) hjl
            have hok := blk_at HB.out hjl
            have CT0 := Lib.hid (SpecTurnCell_any (xs.getD j C3.zero).s (xs.getD j C3.zero).a (xs.getD j C3.zero).b)
            have hzz : turnZ (xs.getD j C3.zero) = turnC (xs.getD j C3.zero) := if_pos hok
            have HNX : Hid (places (movX turnC (tP m) xs (y * m + x)) ++ [.int .i64 (turnC (xs.getD j C3.zero)).s, .int .i64 (turnC (xs.getD j C3.zero)).a, .int .i64 (turnC (xs.getD j C3.zero)).b] = places (movX turnC (tP m) xs (y * m + (x + 1)))) := Lib.hid (by
              rw [show y * m + (x + 1) = y * m + x + 1 by omega, movX_succ, places_more, tP_at hlt2, ← hj1])
            have CT : Hid (∀ u : World, Calls Tryz.prog 44 #[.agg #[.int .i64 (xs.getD j C3.zero).s, .int .i64 (xs.getD j C3.zero).a, .int .i64 (xs.getD j C3.zero).b]] u fun e w' => e = .returned (.agg #[.int .i64 (turnC (xs.getD j C3.zero)).s, .int .i64 (turnC (xs.getD j C3.zero)).a, .int .i64 (turnC (xs.getD j C3.zero)).b]) ∧ Below u.heap.size u w') := Lib.hid (fun u => by have := CT0.out u; rw [hzz] at this; exact this)
            clear CT0 hzz hok hj1 hj2
            generalize turnC (xs.getD j C3.zero) = z at CT HNX
            generalize xs.getD j C3.zero = c at e0 e1 e2 CT
            obtain ⟨cs, ca, cb⟩ := c
            have HPO1 : Hid (w.heap.size + 1 ≤ w1.heap.size + 1) := Lib.hid (by have := HPO.out; omega)
            have HPO2 : Hid (w.heap.size ≤ w1.heap.size + 1) := Lib.hid (by have := HPO.out; omega)
            have KP : Hid (∀ u v, Below (w.heap.size + 1) u v → (u.cell? ⟨w.heap.size, 0, none⟩ = some (.int .i64 m) ∧ u.cell? ⟨w.heap.size, 1, none⟩ = some (.slice (some ⟨g, 0, none⟩) xs.length cap) ∧ u.cell? ⟨g, j * 3, none⟩ = some (.int .i64 cs) ∧ u.cell? ⟨g, j * 3 + 1, none⟩ = some (.int .i64 ca) ∧ u.cell? ⟨g, j * 3 + 2, none⟩ = some (.int .i64 cb)) → (v.cell? ⟨w.heap.size, 0, none⟩ = some (.int .i64 m) ∧ v.cell? ⟨w.heap.size, 1, none⟩ = some (.slice (some ⟨g, 0, none⟩) xs.length cap) ∧ v.cell? ⟨g, j * 3, none⟩ = some (.int .i64 cs) ∧ v.cell? ⟨g, j * 3 + 1, none⟩ = some (.int .i64 ca) ∧ v.cell? ⟨g, j * 3 + 2, none⟩ = some (.int .i64 cb))) := Lib.hid (fun u v hb h => ⟨(hb.cell (p := ⟨w.heap.size, 0, none⟩) (Nat.lt_succ_self _)).trans h.1, (hb.cell (p := ⟨w.heap.size, 1, none⟩) (Nat.lt_succ_self _)).trans h.2.1, (hb.cell (p := ⟨g, j * 3, none⟩) (by show g < _; omega)).trans h.2.2.1, (hb.cell (p := ⟨g, j * 3 + 1, none⟩) (by show g < _; omega)).trans h.2.2.2.1, (hb.cell (p := ⟨g, j * 3 + 2, none⟩) (by show g < _; omega)).trans h.2.2.2.2⟩)
            have HS0 : Hid (wr.cell? ⟨w.heap.size, 0, none⟩ = some (.int .i64 m) ∧ wr.cell? ⟨w.heap.size, 1, none⟩ = some (.slice (some ⟨g, 0, none⟩) xs.length cap) ∧ wr.cell? ⟨g, j * 3, none⟩ = some (.int .i64 cs) ∧ wr.cell? ⟨g, j * 3 + 1, none⟩ = some (.int .i64 ca) ∧ wr.cell? ⟨g, j * 3 + 2, none⟩ = some (.int .i64 cb)) := Lib.hid ⟨hcs.out.2.2.2.1, hcs.out.2.2.2.2.1, e0, e1, e2⟩
            have hp0 := hcs.out.2.2.2.1
            have HDR := Lib.hid (bel_draw (Below.refl wr.heap.size wr))
            have HT1 := Lib.hid (hcs.out.far (HDR.out.mono hsz) HPO.out)
            have HO1 := Lib.hid (owns_below hown.out HDR.out)
            have HB1 := Lib.hid (bel_draw hbel.out)
            have HZ1 : Hid (w1.heap.size + 1 ≤ wr.drew.heap.size) := Lib.hid hsz
            have hyx : y * m + x ≤ 16 := by
              have h1 := Nat.mul_le_mul (show y ≤ 3 by omega) hm4
              omega
            clear hown hcs hbel
            go_wp2_with fail
            clear hp0 e0 e1 e2
            have hS : wr.drew.cell? ⟨w.heap.size, 0, none⟩ = some (.int .i64 m) ∧ wr.drew.cell? ⟨w.heap.size, 1, none⟩ = some (.slice (some ⟨g, 0, none⟩) xs.length cap) ∧ wr.drew.cell? ⟨g, j * 3, none⟩ = some (.int .i64 cs) ∧ wr.drew.cell? ⟨g, j * 3 + 1, none⟩ = some (.int .i64 ca) ∧ wr.drew.cell? ⟨g, j * 3 + 2, none⟩ = some (.int .i64 cb) := HS0.out
            clear HS0
            (try simp only [List.append_eq, List.cons_append, List.nil_append])
            refine reg_begin (fun u => u.cell? ⟨w.heap.size, 0, none⟩ = some (.int .i64 m) ∧ u.cell? ⟨w.heap.size, 1, none⟩ = some (.slice (some ⟨g, 0, none⟩) xs.length cap) ∧ u.cell? ⟨g, j * 3, none⟩ = some (.int .i64 cs) ∧ u.cell? ⟨g, j * 3 + 1, none⟩ = some (.int .i64 ca) ∧ u.cell? ⟨g, j * 3 + 2, none⟩ = some (.int .i64 cb)) (by kernel_rfl) hS ?_
            refine reg_take 0 (v := ?_) rfl (by kernel_rfl) (by kernel_rfl) (by kernel_rfl) (fun _ _ _ h => h) (by rfl) (by intro w hSw; (try dsimp only at hSw); go_simp; first | done | with_reducible rfl) hS ?_
            (try simp only [Act.put, List.setIfInBounds_toArray, List.set_cons_zero, List.set_cons_succ])
            refine reg_take 2 (v := ?_) rfl (by kernel_rfl) (by kernel_rfl) (by kernel_rfl) (fun _ _ _ h => h) (by rfl) (by intro w hSw; (try dsimp only at hSw); go_simp; first | done | with_reducible rfl) hS ?_
            (try simp only [Act.put, List.setIfInBounds_toArray, List.set_cons_zero, List.set_cons_succ])
            refine reg_take 3 (v := ?_) rfl (by kernel_rfl) (by kernel_rfl) (by kernel_rfl) (fun _ _ _ h => h) (by rfl) (by intro w hSw; (try dsimp only at hSw); go_simp; first | done | with_reducible rfl) hS ?_
            (try simp only [Act.put, List.setIfInBounds_toArray, List.set_cons_zero, List.set_cons_succ])
            refine reg_take 4 (v := ?_) rfl (by kernel_rfl) (by kernel_rfl) (by kernel_rfl) (fun _ _ _ h => h) (by rfl) (by intro w hSw; (try dsimp only at hSw); go_simp; first | done | with_reducible rfl) hS ?_
            (try simp only [Act.put, List.setIfInBounds_toArray, List.set_cons_zero, List.set_cons_succ])
            refine reg_take 5 (v := ?_) rfl (by kernel_rfl) (by kernel_rfl) (by kernel_rfl) (fun _ _ _ h => h) (by rfl) (by intro w hSw; (try dsimp only at hSw); go_simp; first | done | with_reducible rfl) hS ?_
            (try simp only [Act.put, List.setIfInBounds_toArray, List.set_cons_zero, List.set_cons_succ])
            refine reg_take 6 (v := ?_) rfl (by kernel_rfl) (by kernel_rfl) (by kernel_rfl) (fun _ _ _ h => h) (by rfl) (by intro w hSw; (try dsimp only at hSw); go_simp; first | done | with_reducible rfl) hS ?_
            (try simp only [Act.put, List.setIfInBounds_toArray, List.set_cons_zero, List.set_cons_succ])
            refine reg_take 7 (v := ?_) rfl (by kernel_rfl) (by kernel_rfl) (by kernel_rfl) (fun _ _ _ h => h) (by rfl) (by intro w hSw; (try dsimp only at hSw); go_simp; first | done | with_reducible rfl) hS ?_
            (try simp only [Act.put, List.setIfInBounds_toArray, List.set_cons_zero, List.set_cons_succ])
            refine reg_take 8 (v := ?_) rfl (by kernel_rfl) (by kernel_rfl) (by kernel_rfl) (fun _ _ _ h => h) (by rfl) (by intro w hSw; (try dsimp only at hSw); go_simp; first | done | with_reducible rfl) hS ?_
            (try simp only [Act.put, List.setIfInBounds_toArray, List.set_cons_zero, List.set_cons_succ])
            refine reg_take 9 (v := ?_) rfl (by kernel_rfl) (by kernel_rfl) (by kernel_rfl) (fun _ _ _ h => h) (by rfl) (by intro w hSw; (try dsimp only at hSw); go_simp; first | done | with_reducible rfl) hS ?_
            (try simp only [Act.put, List.setIfInBounds_toArray, List.set_cons_zero, List.set_cons_succ])
            refine reg_take 10 (v := ?_) rfl (by kernel_rfl) (by kernel_rfl) (by kernel_rfl) (fun _ _ _ h => h) (by rfl) (by intro w hSw; (try dsimp only at hSw); go_simp; first | done | with_reducible rfl) hS ?_
            (try simp only [Act.put, List.setIfInBounds_toArray, List.set_cons_zero, List.set_cons_succ])
            refine reg_take 11 (v := ?_) rfl (by kernel_rfl) (by kernel_rfl) (by kernel_rfl) (fun _ _ _ h => h) (by rfl) (by intro w hSw; (try dsimp only at hSw); go_simp; first | done | with_reducible rfl) hS ?_
            (try simp only [Act.put, List.setIfInBounds_toArray, List.set_cons_zero, List.set_cons_succ])
            refine reg_take 12 (v := ?_) rfl (by kernel_rfl) (by kernel_rfl) (by kernel_rfl) (fun _ _ _ h => h) (by rfl) (by intro w hSw; (try dsimp only at hSw); go_simp; first | done | with_reducible rfl) hS ?_
            (try simp only [Act.put, List.setIfInBounds_toArray, List.set_cons_zero, List.set_cons_succ])
            refine reg_take 13 (v := ?_) rfl (by kernel_rfl) (by kernel_rfl) (by kernel_rfl) (fun _ _ _ h => h) (by rfl) (by intro w hSw; (try dsimp only at hSw); go_simp; first | done | with_reducible rfl) hS ?_
            (try simp only [Act.put, List.setIfInBounds_toArray, List.set_cons_zero, List.set_cons_succ])
            refine reg_take 14 (v := ?_) rfl (by kernel_rfl) (by kernel_rfl) (by kernel_rfl) (fun _ _ _ h => h) (by rfl) (by intro w hSw; (try dsimp only at hSw); go_simp; first | done | with_reducible rfl) hS ?_
            (try simp only [Act.put, List.setIfInBounds_toArray, List.set_cons_zero, List.set_cons_succ])
            refine reg_take 15 (v := ?_) rfl (by kernel_rfl) (by kernel_rfl) (by kernel_rfl) (fun _ _ _ h => h) (by rfl) (by intro w hSw; (try dsimp only at hSw); go_simp; first | done | with_reducible rfl) hS ?_
            (try simp only [Act.put, List.setIfInBounds_toArray, List.set_cons_zero, List.set_cons_succ])
            refine reg_pair 1 16 rfl rfl (by kernel_rfl) (by rfl) (by rfl) (fun K hK => ?_) (fun K hK => ?_)
            · have q := HT1.out.1
              go_simp
              refine hK.out _ _ hS (fun hS' => ?_)
              clear hK K
              replace hS := hS'
              clear hS'
              (try simp only [Act.put, List.setIfInBounds_toArray, List.set_cons_zero, List.set_cons_succ])
              clear q
              refine reg_call 16 rfl (by kernel_rfl) (by rfl) (fun K hK => ?_)
              go_simp
              go_at_call 44
              refine (CT.out _).mono ?_
              rintro e w2 ⟨rfl, hb2⟩
              have HT2 := Lib.hid (HT1.out.far (hb2.mono HZ1.out) HPO.out)
              have HO2 := Lib.hid (owns_below HO1.out hb2)
              have HB2 := Lib.hid (bel_c HB1.out (Nat.le_refl _) hb2)
              have HZ2 : Hid (w1.heap.size + 1 ≤ w2.heap.size) := Lib.hid (Nat.le_trans HZ1.out hb2.size)
              have HS := Lib.hid (KP.out _ _ (hb2.mono (Nat.le_trans HPO1.out HZ1.out)) hS)
              clear hb2
              refine hK.out _ _ HS.out (fun hS' => ?_)
              clear HS
              clear hK K
              replace hS := hS'
              clear hS'
              (try simp only [Act.put, List.setIfInBounds_toArray, List.set_cons_zero, List.set_cons_succ])
              refine reg_call 17 rfl (by kernel_rfl) (by rfl) (fun K hK => ?_)
              have hbb := bel0 w2 (.cells #[.int .i64 z.s, .int .i64 z.a, .int .i64 z.b] 50)
              have HT3 := Lib.hid (HT2.out.far (hbb.mono HZ2.out) HPO.out)
              have HO3 := Lib.hid (owns_below HO2.out hbb)
              have HB3 := Lib.hid (bel_c HB2.out (Nat.le_refl _) hbb)
              have HZ3 : Hid (w1.heap.size + 1 ≤ (w2.alloc (.cells #[.int .i64 z.s, .int .i64 z.a, .int .i64 z.b] 50)).heap.size) := Lib.hid (Nat.le_trans HZ2.out hbb.size)
              have HS := Lib.hid (KP.out _ _ (hbb.mono (Nat.le_trans HPO1.out HZ2.out)) hS)
              clear hbb
              go_simp
              refine hK.out _ _ HS.out (fun hS' => ?_)
              clear HS
              clear hK K
              replace hS := hS'
              clear hS'
              (try simp only [Act.put, List.setIfInBounds_toArray, List.set_cons_zero, List.set_cons_succ])
              refine reg_call 18 rfl (by kernel_rfl) (by rfl) (fun K hK => ?_)
              refine wp_append_lies _ _ _ _ rfl (w1.heap.size + 1) 50 i0 _ 3 24 Tryz.underlying24 hi0 hz0 hz1 hz2 rfl (by omega) v (y * m + x) _ rfl HO3.out ⟨w2.heap.size, 0, none⟩ 1 1 [.int .i64 z.s, .int .i64 z.a, .int .i64 z.b] rfl rfl (news3 w2 z) (by simp [Value.oneCell']) (by omega) (by unfold maxLen; omega) (by omega) HZ3.out _ rfl ?_
              intro gg cc w4 hown4 hgrow hat hlt4
              have hbw := (Below.refl (w1.heap.size + 1) _).grown hgrow HZ3.out (own_ge3 HO3.out)
              have HT4 := Lib.hid (HT3.out.far hbw HPO.out)
              have HB4 := Lib.hid (HB3.out.trans (hbw.mono HPO2.out))
              have HZ4 : Hid (w1.heap.size + 1 ≤ w4.heap.size) := Lib.hid (Nat.le_trans HZ3.out hbw.size)
              have HO4 := Lib.hid hown4
              have HS := Lib.hid (KP.out _ _ (hbw.mono HPO1.out) hS)
              clear hown4 hgrow hat hlt4 hbw
              refine hK.out _ _ HS.out (fun hS' => ?_)
              clear HS
              clear hK K
              replace hS := hS'
              clear hS'
              (try simp only [Act.put, List.setIfInBounds_toArray, List.set_cons_zero, List.set_cons_succ])
              refine reg_take 19 (v := ?_) rfl (by kernel_rfl) (by kernel_rfl) (by kernel_rfl) (fun _ _ _ h => h) (by rfl) (by intro w hSw; (try dsimp only at hSw); go_simp; first | done | with_reducible rfl) hS ?_
              (try simp only [Act.put, List.setIfInBounds_toArray, List.set_cons_zero, List.set_cons_succ])
              refine reg_call 20 rfl (by kernel_rfl) (by rfl) (fun K hK => ?_)
              have q := HT4.out.1
              have q2 := HT4.out.2.2.1
              have HS := Lib.hid (KP.out w4 (w4.setCell ⟨w1.heap.size, 1, none⟩ (.slice (some ⟨gg, 0, none⟩) (y * m + x + 1) cc)) ((Below.refl _ _).setCell (by have := HPO1.out; show _ ≤ w1.heap.size; have := HPO.out; omega) _) hS)
              go_simp
              refine hK.out _ _ HS.out (fun hS' => ?_)
              clear HS hS' hK K q q2
              (try simp only [Act.put, List.setIfInBounds_toArray, List.set_cons_zero, List.set_cons_succ])
              refine wpAnyH_done (by kernel_rfl) ?_ _
              have HT5 := Lib.hid (HT4.out.store HPO.out (.slice (some ⟨gg, 0, none⟩) (y * m + x + 1) cc))
              have HB5 := Lib.hid (Below.setCell HB4.out (p := ⟨w1.heap.size, 1, none⟩) (by show _ ≤ w1.heap.size; have := HPO.out; omega) (.slice (some ⟨gg, 0, none⟩) (y * m + x + 1) cc))
              have HO5 := Lib.hid (owns_set (p := ⟨w1.heap.size, 1, none⟩) HO4.out (by show w1.heap.size < w1.heap.size + 1; omega) (.slice (some ⟨gg, 0, none⟩) (y * m + x + 1) cc))
              rw [HNX.out] at HO5
              go_wp2_with fail
              go_roundw
              case rel => exact ⟨x + 1, _, by omega, by go_num, HO5, HT5, HB5, by simp [World.setCell]; exact HZ4.out⟩
              case measure => simp [intOf] <;> omega
            · go_simp
              go_at_call 44
              refine (CT.out _).mono ?_
              rintro e w2 ⟨rfl, hb2⟩
              have HT2 := Lib.hid (HT1.out.far (hb2.mono HZ1.out) HPO.out)
              have HO2 := Lib.hid (owns_below HO1.out hb2)
              have HB2 := Lib.hid (bel_c HB1.out (Nat.le_refl _) hb2)
              have HZ2 : Hid (w1.heap.size + 1 ≤ w2.heap.size) := Lib.hid (Nat.le_trans HZ1.out hb2.size)
              have HS := Lib.hid (KP.out _ _ (hb2.mono (Nat.le_trans HPO1.out HZ1.out)) hS)
              clear hb2
              refine hK.out _ _ HS.out (fun hS' => ?_)
              clear HS
              clear hK K
              replace hS := hS'
              clear hS'
              (try simp only [Act.put, List.setIfInBounds_toArray, List.set_cons_zero, List.set_cons_succ])
              refine reg_pair 1 17 rfl rfl (by kernel_rfl) (by rfl) (by rfl) (fun K hK => ?_) (fun K hK => ?_)
              · have q := HT2.out.1
                go_simp
                refine hK.out _ _ hS (fun hS' => ?_)
                clear hK K
                replace hS := hS'
                clear hS'
                (try simp only [Act.put, List.setIfInBounds_toArray, List.set_cons_zero, List.set_cons_succ])
                clear q
                refine reg_call 17 rfl (by kernel_rfl) (by rfl) (fun K hK => ?_)
                have hbb := bel0 w2 (.cells #[.int .i64 z.s, .int .i64 z.a, .int .i64 z.b] 50)
                have HT3 := Lib.hid (HT2.out.far (hbb.mono HZ2.out) HPO.out)
                have HO3 := Lib.hid (owns_below HO2.out hbb)
                have HB3 := Lib.hid (bel_c HB2.out (Nat.le_refl _) hbb)
                have HZ3 : Hid (w1.heap.size + 1 ≤ (w2.alloc (.cells #[.int .i64 z.s, .int .i64 z.a, .int .i64 z.b] 50)).heap.size) := Lib.hid (Nat.le_trans HZ2.out hbb.size)
                have HS := Lib.hid (KP.out _ _ (hbb.mono (Nat.le_trans HPO1.out HZ2.out)) hS)
                clear hbb
                go_simp
                refine hK.out _ _ HS.out (fun hS' => ?_)
                clear HS
                clear hK K
                replace hS := hS'
                clear hS'
                (try simp only [Act.put, List.setIfInBounds_toArray, List.set_cons_zero, List.set_cons_succ])
                refine reg_call 18 rfl (by kernel_rfl) (by rfl) (fun K hK => ?_)
                refine wp_append_lies _ _ _ _ rfl (w1.heap.size + 1) 50 i0 _ 3 24 Tryz.underlying24 hi0 hz0 hz1 hz2 rfl (by omega) v (y * m + x) _ rfl HO3.out ⟨w2.heap.size, 0, none⟩ 1 1 [.int .i64 z.s, .int .i64 z.a, .int .i64 z.b] rfl rfl (news3 w2 z) (by simp [Value.oneCell']) (by omega) (by unfold maxLen; omega) (by omega) HZ3.out _ rfl ?_
                intro gg cc w4 hown4 hgrow hat hlt4
                have hbw := (Below.refl (w1.heap.size + 1) _).grown hgrow HZ3.out (own_ge3 HO3.out)
                have HT4 := Lib.hid (HT3.out.far hbw HPO.out)
                have HB4 := Lib.hid (HB3.out.trans (hbw.mono HPO2.out))
                have HZ4 : Hid (w1.heap.size + 1 ≤ w4.heap.size) := Lib.hid (Nat.le_trans HZ3.out hbw.size)
                have HO4 := Lib.hid hown4
                have HS := Lib.hid (KP.out _ _ (hbw.mono HPO1.out) hS)
                clear hown4 hgrow hat hlt4 hbw
                refine hK.out _ _ HS.out (fun hS' => ?_)
                clear HS
                clear hK K
                replace hS := hS'
                clear hS'
                (try simp only [Act.put, List.setIfInBounds_toArray, List.set_cons_zero, List.set_cons_succ])
                refine reg_take 19 (v := ?_) rfl (by kernel_rfl) (by kernel_rfl) (by kernel_rfl) (fun _ _ _ h => h) (by rfl) (by intro w hSw; (try dsimp only at hSw); go_simp; first | done | with_reducible rfl) hS ?_
                (try simp only [Act.put, List.setIfInBounds_toArray, List.set_cons_zero, List.set_cons_succ])
                refine reg_call 20 rfl (by kernel_rfl) (by rfl) (fun K hK => ?_)
                have q := HT4.out.1
                have q2 := HT4.out.2.2.1
                have HS := Lib.hid (KP.out w4 (w4.setCell ⟨w1.heap.size, 1, none⟩ (.slice (some ⟨gg, 0, none⟩) (y * m + x + 1) cc)) ((Below.refl _ _).setCell (by have := HPO1.out; show _ ≤ w1.heap.size; have := HPO.out; omega) _) hS)
                go_simp
                refine hK.out _ _ HS.out (fun hS' => ?_)
                clear HS hS' hK K q q2
                (try simp only [Act.put, List.setIfInBounds_toArray, List.set_cons_zero, List.set_cons_succ])
                refine wpAnyH_done (by kernel_rfl) ?_ _
                have HT5 := Lib.hid (HT4.out.store HPO.out (.slice (some ⟨gg, 0, none⟩) (y * m + x + 1) cc))
                have HB5 := Lib.hid (Below.setCell HB4.out (p := ⟨w1.heap.size, 1, none⟩) (by show _ ≤ w1.heap.size; have := HPO.out; omega) (.slice (some ⟨gg, 0, none⟩) (y * m + x + 1) cc))
                have HO5 := Lib.hid (owns_set (p := ⟨w1.heap.size, 1, none⟩) HO4.out (by show w1.heap.size < w1.heap.size + 1; omega) (.slice (some ⟨gg, 0, none⟩) (y * m + x + 1) cc))
                rw [HNX.out] at HO5
                go_wp2_with fail
                go_roundw
                case rel => exact ⟨x + 1, _, by omega, by go_num, HO5, HT5, HB5, by simp [World.setCell]; exact HZ4.out⟩
                case measure => simp [intOf] <;> omega
              · have hbb := bel0 w2 (.cells #[.int .i64 z.s, .int .i64 z.a, .int .i64 z.b] 50)
                have HT3 := Lib.hid (HT2.out.far (hbb.mono HZ2.out) HPO.out)
                have HO3 := Lib.hid (owns_below HO2.out hbb)
                have HB3 := Lib.hid (bel_c HB2.out (Nat.le_refl _) hbb)
                have HZ3 : Hid (w1.heap.size + 1 ≤ (w2.alloc (.cells #[.int .i64 z.s, .int .i64 z.a, .int .i64 z.b] 50)).heap.size) := Lib.hid (Nat.le_trans HZ2.out hbb.size)
                have HS := Lib.hid (KP.out _ _ (hbb.mono (Nat.le_trans HPO1.out HZ2.out)) hS)
                clear hbb
                go_simp
                refine hK.out _ _ HS.out (fun hS' => ?_)
                clear HS
                clear hK K
                replace hS := hS'
                clear hS'
                (try simp only [Act.put, List.setIfInBounds_toArray, List.set_cons_zero, List.set_cons_succ])
                refine reg_call 1 rfl (by kernel_rfl) (by rfl) (fun K hK => ?_)
                have q := HT3.out.1
                go_simp
                refine hK.out _ _ hS (fun hS' => ?_)
                clear hK K
                replace hS := hS'
                clear hS'
                (try simp only [Act.put, List.setIfInBounds_toArray, List.set_cons_zero, List.set_cons_succ])
                clear q
                refine reg_call 18 rfl (by kernel_rfl) (by rfl) (fun K hK => ?_)
                refine wp_append_lies _ _ _ _ rfl (w1.heap.size + 1) 50 i0 _ 3 24 Tryz.underlying24 hi0 hz0 hz1 hz2 rfl (by omega) v (y * m + x) _ rfl HO3.out ⟨w2.heap.size, 0, none⟩ 1 1 [.int .i64 z.s, .int .i64 z.a, .int .i64 z.b] rfl rfl (news3 w2 z) (by simp [Value.oneCell']) (by omega) (by unfold maxLen; omega) (by omega) HZ3.out _ rfl ?_
                intro gg cc w4 hown4 hgrow hat hlt4
                have hbw := (Below.refl (w1.heap.size + 1) _).grown hgrow HZ3.out (own_ge3 HO3.out)
                have HT4 := Lib.hid (HT3.out.far hbw HPO.out)
                have HB4 := Lib.hid (HB3.out.trans (hbw.mono HPO2.out))
                have HZ4 : Hid (w1.heap.size + 1 ≤ w4.heap.size) := Lib.hid (Nat.le_trans HZ3.out hbw.size)
                have HO4 := Lib.hid hown4
                have HS := Lib.hid (KP.out _ _ (hbw.mono HPO1.out) hS)
                clear hown4 hgrow hat hlt4 hbw
                refine hK.out _ _ HS.out (fun hS' => ?_)
                clear HS
                clear hK K
                replace hS := hS'
                clear hS'
                (try simp only [Act.put, List.setIfInBounds_toArray, List.set_cons_zero, List.set_cons_succ])
                refine reg_take 19 (v := ?_) rfl (by kernel_rfl) (by kernel_rfl) (by kernel_rfl) (fun _ _ _ h => h) (by rfl) (by intro w hSw; (try dsimp only at hSw); go_simp; first | done | with_reducible rfl) hS ?_
                (try simp only [Act.put, List.setIfInBounds_toArray, List.set_cons_zero, List.set_cons_succ])
                refine reg_call 20 rfl (by kernel_rfl) (by rfl) (fun K hK => ?_)
                have q := HT4.out.1
                have q2 := HT4.out.2.2.1
                have HS := Lib.hid (KP.out w4 (w4.setCell ⟨w1.heap.size, 1, none⟩ (.slice (some ⟨gg, 0, none⟩) (y * m + x + 1) cc)) ((Below.refl _ _).setCell (by have := HPO1.out; show _ ≤ w1.heap.size; have := HPO.out; omega) _) hS)
                go_simp
                refine hK.out _ _ HS.out (fun hS' => ?_)
                clear HS hS' hK K q q2
                (try simp only [Act.put, List.setIfInBounds_toArray, List.set_cons_zero, List.set_cons_succ])
                refine wpAnyH_done (by kernel_rfl) ?_ _
                have HT5 := Lib.hid (HT4.out.store HPO.out (.slice (some ⟨gg, 0, none⟩) (y * m + x + 1) cc))
                have HB5 := Lib.hid (Below.setCell HB4.out (p := ⟨w1.heap.size, 1, none⟩) (by show _ ≤ w1.heap.size; have := HPO.out; omega) (.slice (some ⟨gg, 0, none⟩) (y * m + x + 1) cc))
                have HO5 := Lib.hid (owns_set (p := ⟨w1.heap.size, 1, none⟩) HO4.out (by show w1.heap.size < w1.heap.size + 1; omega) (.slice (some ⟨gg, 0, none⟩) (y * m + x + 1) cc))
                rw [HNX.out] at HO5
                go_wp2_with fail
                go_roundw
                case rel => exact ⟨x + 1, _, by omega, by go_num, HO5, HT5, HB5, by simp [World.setCell]; exact HZ4.out⟩
                case measure => simp [intOf] <;> omega
          · obtain rfl : x = m := by omega
            have HO6 : Hid (wr.ownsRow (w1.heap.size + 1) 50 3 v ((y + 1) * x) (places (movX turnC (tP x) xs ((y + 1) * x)))) := Lib.hid (by rw [Nat.succ_mul]; exact hown.out)
            have hp0 := hcs.out.2.2.2.1
            clear hown
            go_wp2_with fail
            go_roundw
            case rel => exact ⟨y + 1, v, by omega, by go_num, HO6, hcs, hbel, hsz⟩
            case measure => simp [intOf] <;> omega
      · obtain rfl : y = m := by omega
        obtain ⟨q1, q0, f1, p0, p1, d0, d1, g0, g1⟩ := hcs0.out
        have hin : CellIn (w1.heap.size + 1) wr.heap.size wr v0 (movX turnC (tP y) xs (y * y)) := CellIn.of_owns (by rw [movX_length]; exact hown0.out) (by rw [movX_length]; have := Nat.mul_le_mul hm4 hm4; omega)
        have hvl := movX_length turnC (tP y) xs (y * y)
        obtain ⟨av, cv, hv⟩ := hin.form
        subst hv
        have HI := Lib.hid hin
        have HPW := Lib.hid (by have := HPO.out; exact (⟨by omega, by omega⟩ : w.heap.size + 1 < w1.heap.size ∧ w.heap.size ≤ w1.heap.size + 1))
        clear hin hown0 hcs0 hvl
        go_wp2_with fail
        refine bodyPost_ret (v := .agg #[.int .i64 y, .slice av (movX turnC (tP y) xs (y * y)).length cv]) (by simp [results, Tryz.results23, go_sem, d0, d1]) rfl ⟨_, rfl, ?_, ?_⟩
        · refine CellIn.wide (lo := w1.heap.size + 1) (hi := wr.heap.size) ?_ HPW.out.2 (by simp [World.setCell])
          refine CellIn.set_far (CellIn.set_far HI.out ?_ _) ?_ _ <;> (have := HPW.out.1; simp <;> omega)
        · refine Below.setCell (Below.setCell hbel0.out ?_ _) ?_ _ <;> (simp <;> omega)
  · rw [(turnB_no hb).1, (turnB_no hb).2.1]
    have HB := Lib.hid hb
    clear hb
    go_enter Tryz.func23, Tryz.ntmps23
    go_wp2_with fail
    refine (SpecBlockOk_no lo hi n _ xs _ (HR.out _ (bel_n (bel0 w _) (Nat.le_refl _) _)) (by simp; omega) HB.out).mono ?_
    rintro e w1 ⟨rfl, hb1⟩
    have d0 := kept (p := ⟨w.heap.size + 1, 0, none⟩) (x := .int .i64 0) hb1 (by go_simp)
    have d1 := kept (p := ⟨w.heap.size + 1, 1, none⟩) (x := .slice none 0 0) hb1 (by go_simp)
    have g0 := keptF (p := ⟨w.heap.size + 1, 0, none⟩) (x := .int .i64 0) hb1 (by go_simp) (by go_simp)
    have g1 := keptF (p := ⟨w.heap.size + 1, 1, none⟩) (x := .slice none 0 0) hb1 (by go_simp) (by go_simp)
    have B := bel_c (bel_n (bel0 w (.cells #[.int .i64 n, .slice a xs.length cap] 26)) (Nat.le_refl _) (.cells #[.int .i64 0, .slice none 0 0] 26)) (Nat.le_refl _) hb1
    clear hb1
    go_wp2_with fail
    refine bodyPost_ret (v := .agg #[.int .i64 0, .slice none 0 0]) (by simp [results, Tryz.results23, go_sem, d0, d1]) rfl ⟨.slice none 0 0, rfl, ⟨by simp, .inl ⟨rfl, _, _, rfl⟩⟩, ?_⟩
    refine Below.setCell (Below.setCell B ?_ _) ?_ _ <;> (simp <;> omega)

end Go.Proofs.YtfidnhhlcdbaeaaGreatDoor

namespace Go.Proofs.YtfidnhhlcdbaeaaGreatDoor
open Go.ChangeShapes Go.WideShapes Go.ChangeAt Go.RowKit

set_option maxRecDepth 100000 in
set_option maxHeartbeats 4000000 in
theorem SpecMirrorBlock_any (lo hi : Nat) (n : Int) (v : Value) (xs : List C3) (w : World) (r : CellIn lo hi w v xs) (hhi : hi ≤ w.heap.size) :
    Calls Tryz.prog 22 #[.agg #[.int .i64 n, v]] w (FreshB (turnN n xs) (mirB n xs) w) := by
  obtain ⟨i0, hi0, hz0, hz1, hz2⟩ := info_parts3 info_cell
  obtain ⟨a, cap, rfl⟩ := r.form
  have hl := r.1
  have HR := Lib.hid (fun W (hb : Below w.heap.size w W) => r.below (hb.mono hhi))
  clear r
  by_cases hb : BlkOk n xs
  · rw [(turnB_yes hb).1, (turnB_yes hb).2.2]
    have HB := Lib.hid hb
    obtain ⟨m, rfl, hm1, hm4, hml⟩ := sz_nat hb
    have HX : Hid (movX mirC (mP m) xs (m * m) = mirL m xs) := Lib.hid (by unfold mirL; rw [hml, Int.toNat_natCast])
    have HML := Lib.hid hml
    rw [← HX.out]
    clear hb hml
    go_enter Tryz.func22, Tryz.ntmps22
    go_wp2_with fail
    refine (SpecBlockOk_yes lo hi m _ xs _ (HR.out _ (bel_n (bel0 w _) (Nat.le_refl _) _)) (by simp; omega) HB.out).mono ?_
    rintro e w1 ⟨rfl, hb1⟩
    have HT := Lib.hid (TBk.start m (.slice a xs.length cap) w w1 hb1)
    have p0 := kept (p := ⟨w.heap.size, 0, none⟩) (x := .int .i64 m) hb1 (by go_simp)
    have HB0 := Lib.hid (bel_n (bel_c (bel_n (bel0 w (.cells #[.int .i64 m, .slice a xs.length cap] 26)) (Nat.le_refl _) (.cells #[.int .i64 0, .slice none 0 0] 26)) (Nat.le_refl _) hb1) (Nat.le_refl _) (.cells #[.int .i64 m, .slice none 0 0] 26))
    have HPO : Hid (w.heap.size + 1 < w1.heap.size) := Lib.hid (by have := hb1.size; simp at this; omega)
    have HSZ : Hid (w1.heap.size + 1 ≤ (w1.alloc (.cells #[.int .i64 m, .slice none 0 0] 26)).heap.size) := Lib.hid (by simp)
    clear hb1
    go_wp2_with fail
    clear p0
    go_loopw [4] (fun i wr => ∃ (y : Nat) (v : Value), y ≤ m ∧ i = .int .i64 y ∧ Hid (wr.ownsRow (w1.heap.size + 1) 50 3 v (y * m) (places (movX mirC (mP m) xs (y * m)))) ∧ Hid (TBk w.heap.size w1.heap.size m (.slice a xs.length cap) v wr) ∧ Hid (Below w.heap.size w wr) ∧ w1.heap.size + 1 ≤ wr.heap.size) (fun i _ => m - (intOf i).toNat)
    case atStart => exact ⟨0, .slice none 0 0, Nat.zero_le _, rfl, Lib.hid (by rw [Nat.zero_mul]; exact ⟨rfl, .inl ⟨rfl, rfl⟩⟩), HT, HB0, HSZ.out⟩
    case round =>
      obtain ⟨y, v0, hk, rfl, hown0, hcs0, hbel0, hsz0⟩ := hrel
      by_cases hlt : y < m
      · have hp0 := hcs0.out.2.2.2.1
        obtain ⟨wo, rfl⟩ : ∃ wo : World, wo = wr := ⟨_, rfl⟩
        go_wp2_with fail
        clear hp0
        go_loopw [5] (fun i wr => ∃ (x : Nat) (v : Value), x ≤ m ∧ i = .int .i64 x ∧ Hid (wr.ownsRow (w1.heap.size + 1) 50 3 v (y * m + x) (places (movX mirC (mP m) xs (y * m + x)))) ∧ Hid (TBk w.heap.size w1.heap.size m (.slice a xs.length cap) v wr) ∧ Hid (Below w.heap.size w wr) ∧ w1.heap.size + 1 ≤ wr.heap.size) (fun i _ => m - (intOf i).toNat)
        case atStart => exact ⟨0, v0, Nat.zero_le _, rfl, hown0, hcs0, hbel0, hsz0⟩
        case round =>
          clear hown0 hcs0 hbel0 hsz0
          obtain ⟨x, v, hx, rfl, hown, hcs, hbel, hsz⟩ := hrel
          by_cases hlt2 : x < m
          · obtain ⟨j, hj1, hj2, hw1, hw2, hw3, hw4⟩ := mIdx hm1 hm4 hlt2 hlt
            have hjl : j < xs.length := by rw [HML.out]; exact hj2
            have hj0 : (0 : Int) ≤ (j : Int) := by omega
            have hji : (j : Int) < (xs.length : Int) := by omega
            obtain ⟨g, rfl, hg1, hg2, ⟨e0, e1, e2⟩, _⟩ := (HR.out _ hbel.out).at (Below.refl _ _) hjl
            have hok := blk_at HB.out hjl
            have CT0 := Lib.hid (SpecMirrorCell_any (xs.getD j C3.zero).s (xs.getD j C3.zero).a (xs.getD j C3.zero).b)
            have hzz : mirZ (xs.getD j C3.zero) = mirC (xs.getD j C3.zero) := if_pos hok
            have HNX : Hid (places (movX mirC (mP m) xs (y * m + x)) ++ [.int .i64 (mirC (xs.getD j C3.zero)).s, .int .i64 (mirC (xs.getD j C3.zero)).a, .int .i64 (mirC (xs.getD j C3.zero)).b] = places (movX mirC (mP m) xs (y * m + (x + 1)))) := Lib.hid (by
              rw [show y * m + (x + 1) = y * m + x + 1 by omega, movX_succ, places_more, mP_at hlt2, ← hj1])
            have CT : Hid (∀ u : World, Calls Tryz.prog 43 #[.agg #[.int .i64 (xs.getD j C3.zero).s, .int .i64 (xs.getD j C3.zero).a, .int .i64 (xs.getD j C3.zero).b]] u fun e w' => e = .returned (.agg #[.int .i64 (mirC (xs.getD j C3.zero)).s, .int .i64 (mirC (xs.getD j C3.zero)).a, .int .i64 (mirC (xs.getD j C3.zero)).b]) ∧ Below u.heap.size u w') := Lib.hid (fun u => by have := CT0.out u; rw [hzz] at this; exact this)
            clear CT0 hzz hok hj1 hj2
            generalize mirC (xs.getD j C3.zero) = z at CT HNX
            generalize xs.getD j C3.zero = c at e0 e1 e2 CT
            obtain ⟨cs, ca, cb⟩ := c
            have HPO1 : Hid (w.heap.size + 1 ≤ w1.heap.size + 1) := Lib.hid (by have := HPO.out; omega)
            have HPO2 : Hid (w.heap.size ≤ w1.heap.size + 1) := Lib.hid (by have := HPO.out; omega)
            have KP : Hid (∀ u v, Below (w.heap.size + 1) u v → (u.cell? ⟨w.heap.size, 0, none⟩ = some (.int .i64 m) ∧ u.cell? ⟨w.heap.size, 1, none⟩ = some (.slice (some ⟨g, 0, none⟩) xs.length cap) ∧ u.cell? ⟨g, j * 3, none⟩ = some (.int .i64 cs) ∧ u.cell? ⟨g, j * 3 + 1, none⟩ = some (.int .i64 ca) ∧ u.cell? ⟨g, j * 3 + 2, none⟩ = some (.int .i64 cb)) → (v.cell? ⟨w.heap.size, 0, none⟩ = some (.int .i64 m) ∧ v.cell? ⟨w.heap.size, 1, none⟩ = some (.slice (some ⟨g, 0, none⟩) xs.length cap) ∧ v.cell? ⟨g, j * 3, none⟩ = some (.int .i64 cs) ∧ v.cell? ⟨g, j * 3 + 1, none⟩ = some (.int .i64 ca) ∧ v.cell? ⟨g, j * 3 + 2, none⟩ = some (.int .i64 cb))) := Lib.hid (fun u v hb h => ⟨(hb.cell (p := ⟨w.heap.size, 0, none⟩) (Nat.lt_succ_self _)).trans h.1, (hb.cell (p := ⟨w.heap.size, 1, none⟩) (Nat.lt_succ_self _)).trans h.2.1, (hb.cell (p := ⟨g, j * 3, none⟩) (by show g < _; omega)).trans h.2.2.1, (hb.cell (p := ⟨g, j * 3 + 1, none⟩) (by show g < _; omega)).trans h.2.2.2.1, (hb.cell (p := ⟨g, j * 3 + 2, none⟩) (by show g < _; omega)).trans h.2.2.2.2⟩)
            have HS0 : Hid (wr.cell? ⟨w.heap.size, 0, none⟩ = some (.int .i64 m) ∧ wr.cell? ⟨w.heap.size, 1, none⟩ = some (.slice (some ⟨g, 0, none⟩) xs.length cap) ∧ wr.cell? ⟨g, j * 3, none⟩ = some (.int .i64 cs) ∧ wr.cell? ⟨g, j * 3 + 1, none⟩ = some (.int .i64 ca) ∧ wr.cell? ⟨g, j * 3 + 2, none⟩ = some (.int .i64 cb)) := Lib.hid ⟨hcs.out.2.2.2.1, hcs.out.2.2.2.2.1, e0, e1, e2⟩
            have hp0 := hcs.out.2.2.2.1
            have HDR := Lib.hid (bel_draw (Below.refl wr.heap.size wr))
            have HT1 := Lib.hid (hcs.out.far (HDR.out.mono hsz) HPO.out)
            have HO1 := Lib.hid (owns_below hown.out HDR.out)
            have HB1 := Lib.hid (bel_draw hbel.out)
            have HZ1 : Hid (w1.heap.size + 1 ≤ wr.drew.heap.size) := Lib.hid hsz
            have hyx : y * m + x ≤ 16 := by
              have h1 := Nat.mul_le_mul (show y ≤ 3 by omega) hm4
              omega
            clear hown hcs hbel
            go_wp2_with fail
            clear hp0 e0 e1 e2
            have hS : wr.drew.cell? ⟨w.heap.size, 0, none⟩ = some (.int .i64 m) ∧ wr.drew.cell? ⟨w.heap.size, 1, none⟩ = some (.slice (some ⟨g, 0, none⟩) xs.length cap) ∧ wr.drew.cell? ⟨g, j * 3, none⟩ = some (.int .i64 cs) ∧ wr.drew.cell? ⟨g, j * 3 + 1, none⟩ = some (.int .i64 ca) ∧ wr.drew.cell? ⟨g, j * 3 + 2, none⟩ = some (.int .i64 cb) := HS0.out
            clear HS0
            (try simp only [List.append_eq, List.cons_append, List.nil_append])
            refine reg_begin (fun u => u.cell? ⟨w.heap.size, 0, none⟩ = some (.int .i64 m) ∧ u.cell? ⟨w.heap.size, 1, none⟩ = some (.slice (some ⟨g, 0, none⟩) xs.length cap) ∧ u.cell? ⟨g, j * 3, none⟩ = some (.int .i64 cs) ∧ u.cell? ⟨g, j * 3 + 1, none⟩ = some (.int .i64 ca) ∧ u.cell? ⟨g, j * 3 + 2, none⟩ = some (.int .i64 cb)) (by kernel_rfl) hS ?_
            refine reg_take 0 (v := ?_) rfl (by kernel_rfl) (by kernel_rfl) (by kernel_rfl) (fun _ _ _ h => h) (by rfl) (by intro w hSw; (try dsimp only at hSw); go_simp; first | done | with_reducible rfl) hS ?_
            (try simp only [Act.put, List.setIfInBounds_toArray, List.set_cons_zero, List.set_cons_succ])
            refine reg_take 2 (v := ?_) rfl (by kernel_rfl) (by kernel_rfl) (by kernel_rfl) (fun _ _ _ h => h) (by rfl) (by intro w hSw; (try dsimp only at hSw); go_simp; first | done | with_reducible rfl) hS ?_
            (try simp only [Act.put, List.setIfInBounds_toArray, List.set_cons_zero, List.set_cons_succ])
            refine reg_take 3 (v := ?_) rfl (by kernel_rfl) (by kernel_rfl) (by kernel_rfl) (fun _ _ _ h => h) (by rfl) (by intro w hSw; (try dsimp only at hSw); go_simp; first | done | with_reducible rfl) hS ?_
            (try simp only [Act.put, List.setIfInBounds_toArray, List.set_cons_zero, List.set_cons_succ])
            refine reg_take 4 (v := ?_) rfl (by kernel_rfl) (by kernel_rfl) (by kernel_rfl) (fun _ _ _ h => h) (by rfl) (by intro w hSw; (try dsimp only at hSw); go_simp; first | done | with_reducible rfl) hS ?_
            (try simp only [Act.put, List.setIfInBounds_toArray, List.set_cons_zero, List.set_cons_succ])
            refine reg_take 5 (v := ?_) rfl (by kernel_rfl) (by kernel_rfl) (by kernel_rfl) (fun _ _ _ h => h) (by rfl) (by intro w hSw; (try dsimp only at hSw); go_simp; first | done | with_reducible rfl) hS ?_
            (try simp only [Act.put, List.setIfInBounds_toArray, List.set_cons_zero, List.set_cons_succ])
            refine reg_take 6 (v := ?_) rfl (by kernel_rfl) (by kernel_rfl) (by kernel_rfl) (fun _ _ _ h => h) (by rfl) (by intro w hSw; (try dsimp only at hSw); go_simp; first | done | with_reducible rfl) hS ?_
            (try simp only [Act.put, List.setIfInBounds_toArray, List.set_cons_zero, List.set_cons_succ])
            refine reg_take 7 (v := ?_) rfl (by kernel_rfl) (by kernel_rfl) (by kernel_rfl) (fun _ _ _ h => h) (by rfl) (by intro w hSw; (try dsimp only at hSw); go_simp; first | done | with_reducible rfl) hS ?_
            (try simp only [Act.put, List.setIfInBounds_toArray, List.set_cons_zero, List.set_cons_succ])
            refine reg_take 8 (v := ?_) rfl (by kernel_rfl) (by kernel_rfl) (by kernel_rfl) (fun _ _ _ h => h) (by rfl) (by intro w hSw; (try dsimp only at hSw); go_simp; first | done | with_reducible rfl) hS ?_
            (try simp only [Act.put, List.setIfInBounds_toArray, List.set_cons_zero, List.set_cons_succ])
            refine reg_take 9 (v := ?_) rfl (by kernel_rfl) (by kernel_rfl) (by kernel_rfl) (fun _ _ _ h => h) (by rfl) (by intro w hSw; (try dsimp only at hSw); go_simp; first | done | with_reducible rfl) hS ?_
            (try simp only [Act.put, List.setIfInBounds_toArray, List.set_cons_zero, List.set_cons_succ])
            refine reg_take 10 (v := ?_) rfl (by kernel_rfl) (by kernel_rfl) (by kernel_rfl) (fun _ _ _ h => h) (by rfl) (by intro w hSw; (try dsimp only at hSw); go_simp; first | done | with_reducible rfl) hS ?_
            (try simp only [Act.put, List.setIfInBounds_toArray, List.set_cons_zero, List.set_cons_succ])
            refine reg_take 11 (v := ?_) rfl (by kernel_rfl) (by kernel_rfl) (by kernel_rfl) (fun _ _ _ h => h) (by rfl) (by intro w hSw; (try dsimp only at hSw); go_simp; first | done | with_reducible rfl) hS ?_
            (try simp only [Act.put, List.setIfInBounds_toArray, List.set_cons_zero, List.set_cons_succ])
            refine reg_take 12 (v := ?_) rfl (by kernel_rfl) (by kernel_rfl) (by kernel_rfl) (fun _ _ _ h => h) (by rfl) (by intro w hSw; (try dsimp only at hSw); go_simp; first | done | with_reducible rfl) hS ?_
            (try simp only [Act.put, List.setIfInBounds_toArray, List.set_cons_zero, List.set_cons_succ])
            refine reg_take 13 (v := ?_) rfl (by kernel_rfl) (by kernel_rfl) (by kernel_rfl) (fun _ _ _ h => h) (by rfl) (by intro w hSw; (try dsimp only at hSw); go_simp; first | done | with_reducible rfl) hS ?_
            (try simp only [Act.put, List.setIfInBounds_toArray, List.set_cons_zero, List.set_cons_succ])
            refine reg_take 14 (v := ?_) rfl (by kernel_rfl) (by kernel_rfl) (by kernel_rfl) (fun _ _ _ h => h) (by rfl) (by intro w hSw; (try dsimp only at hSw); go_simp; first | done | with_reducible rfl) hS ?_
            (try simp only [Act.put, List.setIfInBounds_toArray, List.set_cons_zero, List.set_cons_succ])
            refine reg_take 15 (v := ?_) rfl (by kernel_rfl) (by kernel_rfl) (by kernel_rfl) (fun _ _ _ h => h) (by rfl) (by intro w hSw; (try dsimp only at hSw); go_simp; first | done | with_reducible rfl) hS ?_
            (try simp only [Act.put, List.setIfInBounds_toArray, List.set_cons_zero, List.set_cons_succ])
            refine reg_pair 1 16 rfl rfl (by kernel_rfl) (by rfl) (by rfl) (fun K hK => ?_) (fun K hK => ?_)
            · have q := HT1.out.1
              go_simp
              refine hK.out _ _ hS (fun hS' => ?_)
              clear hK K
              replace hS := hS'
              clear hS'
              (try simp only [Act.put, List.setIfInBounds_toArray, List.set_cons_zero, List.set_cons_succ])
              clear q
              refine reg_call 16 rfl (by kernel_rfl) (by rfl) (fun K hK => ?_)
              go_simp
              go_at_call 43
              refine (CT.out _).mono ?_
              rintro e w2 ⟨rfl, hb2⟩
              have HT2 := Lib.hid (HT1.out.far (hb2.mono HZ1.out) HPO.out)
              have HO2 := Lib.hid (owns_below HO1.out hb2)
              have HB2 := Lib.hid (bel_c HB1.out (Nat.le_refl _) hb2)
              have HZ2 : Hid (w1.heap.size + 1 ≤ w2.heap.size) := Lib.hid (Nat.le_trans HZ1.out hb2.size)
              have HS := Lib.hid (KP.out _ _ (hb2.mono (Nat.le_trans HPO1.out HZ1.out)) hS)
              clear hb2
              refine hK.out _ _ HS.out (fun hS' => ?_)
              clear HS
              clear hK K
              replace hS := hS'
              clear hS'
              (try simp only [Act.put, List.setIfInBounds_toArray, List.set_cons_zero, List.set_cons_succ])
              refine reg_call 17 rfl (by kernel_rfl) (by rfl) (fun K hK => ?_)
              have hbb := bel0 w2 (.cells #[.int .i64 z.s, .int .i64 z.a, .int .i64 z.b] 50)
              have HT3 := Lib.hid (HT2.out.far (hbb.mono HZ2.out) HPO.out)
              have HO3 := Lib.hid (owns_below HO2.out hbb)
              have HB3 := Lib.hid (bel_c HB2.out (Nat.le_refl _) hbb)
              have HZ3 : Hid (w1.heap.size + 1 ≤ (w2.alloc (.cells #[.int .i64 z.s, .int .i64 z.a, .int .i64 z.b] 50)).heap.size) := Lib.hid (Nat.le_trans HZ2.out hbb.size)
              have HS := Lib.hid (KP.out _ _ (hbb.mono (Nat.le_trans HPO1.out HZ2.out)) hS)
              clear hbb
              go_simp
              refine hK.out _ _ HS.out (fun hS' => ?_)
              clear HS
              clear hK K
              replace hS := hS'
              clear hS'
              (try simp only [Act.put, List.setIfInBounds_toArray, List.set_cons_zero, List.set_cons_succ])
              refine reg_call 18 rfl (by kernel_rfl) (by rfl) (fun K hK => ?_)
              refine wp_append_lies _ _ _ _ rfl (w1.heap.size + 1) 50 i0 _ 3 24 Tryz.underlying24 hi0 hz0 hz1 hz2 rfl (by omega) v (y * m + x) _ rfl HO3.out ⟨w2.heap.size, 0, none⟩ 1 1 [.int .i64 z.s, .int .i64 z.a, .int .i64 z.b] rfl rfl (news3 w2 z) (by simp [Value.oneCell']) (by omega) (by unfold maxLen; omega) (by omega) HZ3.out _ rfl ?_
              intro gg cc w4 hown4 hgrow hat hlt4
              have hbw := (Below.refl (w1.heap.size + 1) _).grown hgrow HZ3.out (own_ge3 HO3.out)
              have HT4 := Lib.hid (HT3.out.far hbw HPO.out)
              have HB4 := Lib.hid (HB3.out.trans (hbw.mono HPO2.out))
              have HZ4 : Hid (w1.heap.size + 1 ≤ w4.heap.size) := Lib.hid (Nat.le_trans HZ3.out hbw.size)
              have HO4 := Lib.hid hown4
              have HS := Lib.hid (KP.out _ _ (hbw.mono HPO1.out) hS)
              clear hown4 hgrow hat hlt4 hbw
              refine hK.out _ _ HS.out (fun hS' => ?_)
              clear HS
              clear hK K
              replace hS := hS'
              clear hS'
              (try simp only [Act.put, List.setIfInBounds_toArray, List.set_cons_zero, List.set_cons_succ])
              refine reg_take 19 (v := ?_) rfl (by kernel_rfl) (by kernel_rfl) (by kernel_rfl) (fun _ _ _ h => h) (by rfl) (by intro w hSw; (try dsimp only at hSw); go_simp; first | done | with_reducible rfl) hS ?_
              (try simp only [Act.put, List.setIfInBounds_toArray, List.set_cons_zero, List.set_cons_succ])
              refine reg_call 20 rfl (by kernel_rfl) (by rfl) (fun K hK => ?_)
              have q := HT4.out.1
              have q2 := HT4.out.2.2.1
              have HS := Lib.hid (KP.out w4 (w4.setCell ⟨w1.heap.size, 1, none⟩ (.slice (some ⟨gg, 0, none⟩) (y * m + x + 1) cc)) ((Below.refl _ _).setCell (by have := HPO1.out; show _ ≤ w1.heap.size; have := HPO.out; omega) _) hS)
              go_simp
              refine hK.out _ _ HS.out (fun hS' => ?_)
              clear HS hS' hK K q q2
              (try simp only [Act.put, List.setIfInBounds_toArray, List.set_cons_zero, List.set_cons_succ])
              refine wpAnyH_done (by kernel_rfl) ?_ _
              have HT5 := Lib.hid (HT4.out.store HPO.out (.slice (some ⟨gg, 0, none⟩) (y * m + x + 1) cc))
              have HB5 := Lib.hid (Below.setCell HB4.out (p := ⟨w1.heap.size, 1, none⟩) (by show _ ≤ w1.heap.size; have := HPO.out; omega) (.slice (some ⟨gg, 0, none⟩) (y * m + x + 1) cc))
              have HO5 := Lib.hid (owns_set (p := ⟨w1.heap.size, 1, none⟩) HO4.out (by show w1.heap.size < w1.heap.size + 1; omega) (.slice (some ⟨gg, 0, none⟩) (y * m + x + 1) cc))
              rw [HNX.out] at HO5
              go_wp2_with fail
              go_roundw
              case rel => exact ⟨x + 1, _, by omega, by go_num, HO5, HT5, HB5, by simp [World.setCell]; exact HZ4.out⟩
              case measure => simp [intOf] <;> omega
            · go_simp
              go_at_call 43
              refine (CT.out _).mono ?_
              rintro e w2 ⟨rfl, hb2⟩
              have HT2 := Lib.hid (HT1.out.far (hb2.mono HZ1.out) HPO.out)
              have HO2 := Lib.hid (owns_below HO1.out hb2)
              have HB2 := Lib.hid (bel_c HB1.out (Nat.le_refl _) hb2)
              have HZ2 : Hid (w1.heap.size + 1 ≤ w2.heap.size) := Lib.hid (Nat.le_trans HZ1.out hb2.size)
              have HS := Lib.hid (KP.out _ _ (hb2.mono (Nat.le_trans HPO1.out HZ1.out)) hS)
              clear hb2
              refine hK.out _ _ HS.out (fun hS' => ?_)
              clear HS
              clear hK K
              replace hS := hS'
              clear hS'
              (try simp only [Act.put, List.setIfInBounds_toArray, List.set_cons_zero, List.set_cons_succ])
              refine reg_pair 1 17 rfl rfl (by kernel_rfl) (by rfl) (by rfl) (fun K hK => ?_) (fun K hK => ?_)
              · have q := HT2.out.1
                go_simp
                refine hK.out _ _ hS (fun hS' => ?_)
                clear hK K
                replace hS := hS'
                clear hS'
                (try simp only [Act.put, List.setIfInBounds_toArray, List.set_cons_zero, List.set_cons_succ])
                clear q
                refine reg_call 17 rfl (by kernel_rfl) (by rfl) (fun K hK => ?_)
                have hbb := bel0 w2 (.cells #[.int .i64 z.s, .int .i64 z.a, .int .i64 z.b] 50)
                have HT3 := Lib.hid (HT2.out.far (hbb.mono HZ2.out) HPO.out)
                have HO3 := Lib.hid (owns_below HO2.out hbb)
                have HB3 := Lib.hid (bel_c HB2.out (Nat.le_refl _) hbb)
                have HZ3 : Hid (w1.heap.size + 1 ≤ (w2.alloc (.cells #[.int .i64 z.s, .int .i64 z.a, .int .i64 z.b] 50)).heap.size) := Lib.hid (Nat.le_trans HZ2.out hbb.size)
                have HS := Lib.hid (KP.out _ _ (hbb.mono (Nat.le_trans HPO1.out HZ2.out)) hS)
                clear hbb
                go_simp
                refine hK.out _ _ HS.out (fun hS' => ?_)
                clear HS
                clear hK K
                replace hS := hS'
                clear hS'
                (try simp only [Act.put, List.setIfInBounds_toArray, List.set_cons_zero, List.set_cons_succ])
                refine reg_call 18 rfl (by kernel_rfl) (by rfl) (fun K hK => ?_)
                refine wp_append_lies _ _ _ _ rfl (w1.heap.size + 1) 50 i0 _ 3 24 Tryz.underlying24 hi0 hz0 hz1 hz2 rfl (by omega) v (y * m + x) _ rfl HO3.out ⟨w2.heap.size, 0, none⟩ 1 1 [.int .i64 z.s, .int .i64 z.a, .int .i64 z.b] rfl rfl (news3 w2 z) (by simp [Value.oneCell']) (by omega) (by unfold maxLen; omega) (by omega) HZ3.out _ rfl ?_
                intro gg cc w4 hown4 hgrow hat hlt4
                have hbw := (Below.refl (w1.heap.size + 1) _).grown hgrow HZ3.out (own_ge3 HO3.out)
                have HT4 := Lib.hid (HT3.out.far hbw HPO.out)
                have HB4 := Lib.hid (HB3.out.trans (hbw.mono HPO2.out))
                have HZ4 : Hid (w1.heap.size + 1 ≤ w4.heap.size) := Lib.hid (Nat.le_trans HZ3.out hbw.size)
                have HO4 := Lib.hid hown4
                have HS := Lib.hid (KP.out _ _ (hbw.mono HPO1.out) hS)
                clear hown4 hgrow hat hlt4 hbw
                refine hK.out _ _ HS.out (fun hS' => ?_)
                clear HS
                clear hK K
                replace hS := hS'
                clear hS'
                (try simp only [Act.put, List.setIfInBounds_toArray, List.set_cons_zero, List.set_cons_succ])
                refine reg_take 19 (v := ?_) rfl (by kernel_rfl) (by kernel_rfl) (by kernel_rfl) (fun _ _ _ h => h) (by rfl) (by intro w hSw; (try dsimp only at hSw); go_simp; first | done | with_reducible rfl) hS ?_
                (try simp only [Act.put, List.setIfInBounds_toArray, List.set_cons_zero, List.set_cons_succ])
                refine reg_call 20 rfl (by kernel_rfl) (by rfl) (fun K hK => ?_)
                have q := HT4.out.1
                have q2 := HT4.out.2.2.1
                have HS := Lib.hid (KP.out w4 (w4.setCell ⟨w1.heap.size, 1, none⟩ (.slice (some ⟨gg, 0, none⟩) (y * m + x + 1) cc)) ((Below.refl _ _).setCell (by have := HPO1.out; show _ ≤ w1.heap.size; have := HPO.out; omega) _) hS)
                go_simp
                refine hK.out _ _ HS.out (fun hS' => ?_)
                clear HS hS' hK K q q2
                (try simp only [Act.put, List.setIfInBounds_toArray, List.set_cons_zero, List.set_cons_succ])
                refine wpAnyH_done (by kernel_rfl) ?_ _
                have HT5 := Lib.hid (HT4.out.store HPO.out (.slice (some ⟨gg, 0, none⟩) (y * m + x + 1) cc))
                have HB5 := Lib.hid (Below.setCell HB4.out (p := ⟨w1.heap.size, 1, none⟩) (by show _ ≤ w1.heap.size; have := HPO.out; omega) (.slice (some ⟨gg, 0, none⟩) (y * m + x + 1) cc))
                have HO5 := Lib.hid (owns_set (p := ⟨w1.heap.size, 1, none⟩) HO4.out (by show w1.heap.size < w1.heap.size + 1; omega) (.slice (some ⟨gg, 0, none⟩) (y * m + x + 1) cc))
                rw [HNX.out] at HO5
                go_wp2_with fail
                go_roundw
                case rel => exact ⟨x + 1, _, by omega, by go_num, HO5, HT5, HB5, by simp [World.setCell]; exact HZ4.out⟩
                case measure => simp [intOf] <;> omega
              · have hbb := bel0 w2 (.cells #[.int .i64 z.s, .int .i64 z.a, .int .i64 z.b] 50)
                have HT3 := Lib.hid (HT2.out.far (hbb.mono HZ2.out) HPO.out)
                have HO3 := Lib.hid (owns_below HO2.out hbb)
                have HB3 := Lib.hid (bel_c HB2.out (Nat.le_refl _) hbb)
                have HZ3 : Hid (w1.heap.size + 1 ≤ (w2.alloc (.cells #[.int .i64 z.s, .int .i64 z.a, .int .i64 z.b] 50)).heap.size) := Lib.hid (Nat.le_trans HZ2.out hbb.size)
                have HS := Lib.hid (KP.out _ _ (hbb.mono (Nat.le_trans HPO1.out HZ2.out)) hS)
                clear hbb
                go_simp
                refine hK.out _ _ HS.out (fun hS' => ?_)
                clear HS
                clear hK K
                replace hS := hS'
                clear hS'
                (try simp only [Act.put, List.setIfInBounds_toArray, List.set_cons_zero, List.set_cons_succ])
                refine reg_call 1 rfl (by kernel_rfl) (by rfl) (fun K hK => ?_)
                have q := HT3.out.1
                go_simp
                refine hK.out _ _ hS (fun hS' => ?_)
                clear hK K
                replace hS := hS'
                clear hS'
                (try simp only [Act.put, List.setIfInBounds_toArray, List.set_cons_zero, List.set_cons_succ])
                clear q
                refine reg_call 18 rfl (by kernel_rfl) (by rfl) (fun K hK => ?_)
                refine wp_append_lies _ _ _ _ rfl (w1.heap.size + 1) 50 i0 _ 3 24 Tryz.underlying24 hi0 hz0 hz1 hz2 rfl (by omega) v (y * m + x) _ rfl HO3.out ⟨w2.heap.size, 0, none⟩ 1 1 [.int .i64 z.s, .int .i64 z.a, .int .i64 z.b] rfl rfl (news3 w2 z) (by simp [Value.oneCell']) (by omega) (by unfold maxLen; omega) (by omega) HZ3.out _ rfl ?_
                intro gg cc w4 hown4 hgrow hat hlt4
                have hbw := (Below.refl (w1.heap.size + 1) _).grown hgrow HZ3.out (own_ge3 HO3.out)
                have HT4 := Lib.hid (HT3.out.far hbw HPO.out)
                have HB4 := Lib.hid (HB3.out.trans (hbw.mono HPO2.out))
                have HZ4 : Hid (w1.heap.size + 1 ≤ w4.heap.size) := Lib.hid (Nat.le_trans HZ3.out hbw.size)
                have HO4 := Lib.hid hown4
                have HS := Lib.hid (KP.out _ _ (hbw.mono HPO1.out) hS)
                clear hown4 hgrow hat hlt4 hbw
                refine hK.out _ _ HS.out (fun hS' => ?_)
                clear HS
                clear hK K
                replace hS := hS'
                clear hS'
                (try simp only [Act.put, List.setIfInBounds_toArray, List.set_cons_zero, List.set_cons_succ])
                refine reg_take 19 (v := ?_) rfl (by kernel_rfl) (by kernel_rfl) (by kernel_rfl) (fun _ _ _ h => h) (by rfl) (by intro w hSw; (try dsimp only at hSw); go_simp; first | done | with_reducible rfl) hS ?_
                (try simp only [Act.put, List.setIfInBounds_toArray, List.set_cons_zero, List.set_cons_succ])
                refine reg_call 20 rfl (by kernel_rfl) (by rfl) (fun K hK => ?_)
                have q := HT4.out.1
                have q2 := HT4.out.2.2.1
                have HS := Lib.hid (KP.out w4 (w4.setCell ⟨w1.heap.size, 1, none⟩ (.slice (some ⟨gg, 0, none⟩) (y * m + x + 1) cc)) ((Below.refl _ _).setCell (by have := HPO1.out; show _ ≤ w1.heap.size; have := HPO.out; omega) _) hS)
                go_simp
                refine hK.out _ _ HS.out (fun hS' => ?_)
                clear HS hS' hK K q q2
                (try simp only [Act.put, List.setIfInBounds_toArray, List.set_cons_zero, List.set_cons_succ])
                refine wpAnyH_done (by kernel_rfl) ?_ _
                have HT5 := Lib.hid (HT4.out.store HPO.out (.slice (some ⟨gg, 0, none⟩) (y * m + x + 1) cc))
                have HB5 := Lib.hid (Below.setCell HB4.out (p := ⟨w1.heap.size, 1, none⟩) (by show _ ≤ w1.heap.size; have := HPO.out; omega) (.slice (some ⟨gg, 0, none⟩) (y * m + x + 1) cc))
                have HO5 := Lib.hid (owns_set (p := ⟨w1.heap.size, 1, none⟩) HO4.out (by show w1.heap.size < w1.heap.size + 1; omega) (.slice (some ⟨gg, 0, none⟩) (y * m + x + 1) cc))
                rw [HNX.out] at HO5
                go_wp2_with fail
                go_roundw
                case rel => exact ⟨x + 1, _, by omega, by go_num, HO5, HT5, HB5, by simp [World.setCell]; exact HZ4.out⟩
                case measure => simp [intOf] <;> omega
          · obtain rfl : x = m := by omega
            have HO6 : Hid (wr.ownsRow (w1.heap.size + 1) 50 3 v ((y + 1) * x) (places (movX mirC (mP x) xs ((y + 1) * x)))) := Lib.hid (by rw [Nat.succ_mul]; exact hown.out)
            have hp0 := hcs.out.2.2.2.1
            clear hown
            go_wp2_with fail
            go_roundw
            case rel => exact ⟨y + 1, v, by omega, by go_num, HO6, hcs, hbel, hsz⟩
            case measure => simp [intOf] <;> omega
      · obtain rfl : y = m := by omega
        obtain ⟨q1, q0, f1, p0, p1, d0, d1, g0, g1⟩ := hcs0.out
        have hin : CellIn (w1.heap.size + 1) wr.heap.size wr v0 (movX mirC (mP y) xs (y * y)) := CellIn.of_owns (by rw [movX_length]; exact hown0.out) (by rw [movX_length]; have := Nat.mul_le_mul hm4 hm4; omega)
        have hvl := movX_length mirC (mP y) xs (y * y)
        obtain ⟨av, cv, hv⟩ := hin.form
        subst hv
        have HI := Lib.hid hin
        have HPW := Lib.hid (by have := HPO.out; exact (⟨by omega, by omega⟩ : w.heap.size + 1 < w1.heap.size ∧ w.heap.size ≤ w1.heap.size + 1))
        clear hin hown0 hcs0 hvl
        go_wp2_with fail
        refine bodyPost_ret (v := .agg #[.int .i64 y, .slice av (movX mirC (mP y) xs (y * y)).length cv]) (by simp [results, Tryz.results22, go_sem, d0, d1]) rfl ⟨_, rfl, ?_, ?_⟩
        · refine CellIn.wide (lo := w1.heap.size + 1) (hi := wr.heap.size) ?_ HPW.out.2 (by simp [World.setCell])
          refine CellIn.set_far (CellIn.set_far HI.out ?_ _) ?_ _ <;> (have := HPW.out.1; simp <;> omega)
        · refine Below.setCell (Below.setCell hbel0.out ?_ _) ?_ _ <;> (simp <;> omega)
  · rw [(turnB_no hb).1, (turnB_no hb).2.2]
    have HB := Lib.hid hb
    clear hb
    go_enter Tryz.func22, Tryz.ntmps22
    go_wp2_with fail
    refine (SpecBlockOk_no lo hi n _ xs _ (HR.out _ (bel_n (bel0 w _) (Nat.le_refl _) _)) (by simp; omega) HB.out).mono ?_
    rintro e w1 ⟨rfl, hb1⟩
    have d0 := kept (p := ⟨w.heap.size + 1, 0, none⟩) (x := .int .i64 0) hb1 (by go_simp)
    have d1 := kept (p := ⟨w.heap.size + 1, 1, none⟩) (x := .slice none 0 0) hb1 (by go_simp)
    have g0 := keptF (p := ⟨w.heap.size + 1, 0, none⟩) (x := .int .i64 0) hb1 (by go_simp) (by go_simp)
    have g1 := keptF (p := ⟨w.heap.size + 1, 1, none⟩) (x := .slice none 0 0) hb1 (by go_simp) (by go_simp)
    have B := bel_c (bel_n (bel0 w (.cells #[.int .i64 n, .slice a xs.length cap] 26)) (Nat.le_refl _) (.cells #[.int .i64 0, .slice none 0 0] 26)) (Nat.le_refl _) hb1
    clear hb1
    go_wp2_with fail
    refine bodyPost_ret (v := .agg #[.int .i64 0, .slice none 0 0]) (by simp [results, Tryz.results22, go_sem, d0, d1]) rfl ⟨.slice none 0 0, rfl, ⟨by simp, .inl ⟨rfl, _, _, rfl⟩⟩, ?_⟩
    refine Below.setCell (Below.setCell B ?_ _) ?_ _ <;> (simp <;> omega)

end Go.Proofs.YtfidnhhlcdbaeaaGreatDoor
