/- Blocks: the model's ColorsOf. -/
import Derived.Test.YtelpibdbnjmliaaBlkC
import Derived.Test.YtelpibdbnjmliaaIntF
import Derived.Deep.AppendLies
import Derived.OwnWalk
namespace Go.Proofs.Ytelpibdbnjmliaa
open Go.ChangeShapes Go.WideShapes Go.ChangeAt Go.RowKit

/-- The color c is used in the first k cells. -/
def usd (xs : List C3) (c : Int) (k : Nat) : Bool := (xs.take k).any fun x => (x.a == c) || (x.b == c)
theorem usd_succ (xs : List C3) (c : Int) (k : Nat) (h : k < xs.length) : usd xs c (k + 1) = (usd xs c k || ((xs.getD k C3.zero).a == c) || ((xs.getD k C3.zero).b == c)) := by
  unfold usd
  rw [List.take_succ_eq_append_getElem h, List.any_append]
  simp [List.getD, h, Bool.or_assoc]
/-- The used ones of the first colors. -/
def cols (xs : List C3) (c : Nat) : List Int := ((List.range c).filter (fun d : Nat => usd xs (d : Int) xs.length)).map (fun d : Nat => (d : Int))
theorem cols_succ (xs : List C3) (c : Nat) : cols xs (c + 1) = cols xs c ++ (if usd xs (c : Int) xs.length then [(c : Int)] else []) := by
  unfold cols
  rw [List.range_succ, List.filter_append, List.map_append]
  congr 1
  by_cases h : usd xs (c : Int) xs.length <;> simp [h]
theorem cols_le (xs : List C3) (c : Nat) : (cols xs c).length ≤ c := by
  unfold cols
  rw [List.length_map]
  have := List.length_filter_le (fun d : Nat => usd xs (d : Int) xs.length) (List.range c)
  simpa using this
noncomputable def colorsOf (n : Int) (xs : List C3) : List Int := @ite _ (BlkOk n xs) (Classical.propDecidable _) (cols xs 6) []
theorem colors_yes {n : Int} {xs : List C3} (h : BlkOk n xs) : colorsOf n xs = cols xs 6 := if_pos h
theorem colors_no {n : Int} {xs : List C3} (h : ¬ BlkOk n xs) : colorsOf n xs = [] := if_neg h

theorem info_int : (Try.prog.info? 3).map (fun i => (i.zero, i.size, i.bytes)) = some (some (.int .i64 0), 1, 8) := by kernel_rfl
theorem own_new1 (W : World) (q e : Nat) (h : W.heap.size = q) : (W.alloc (.cells #[] e)).ownsRow q e 1 (.slice (some ⟨q, 0, none⟩) 0 0) 0 [] := by
  subst h
  exact ⟨by simp, .inr ⟨_, 0, #[], rfl, Nat.le_refl _, heap_alloc_new _ _, by simp, by simp, rfl, rfl⟩⟩
theorem news_one (W : World) (q : Nat) (c : Value) (t : TypeId) (h : W.heap.size = q) : ∀ (j : Nat) u, ([c] : List Value)[j]? = some u → (W.alloc (.cells #[c] t)).cell? ((⟨q, 0, none⟩ : Addr).add j) = some u := by
  subst h
  exact World.news_of_block (cs := #[c]) (fr := (0, 0)) (heap_alloc_new W _)
theorem own_ge1 {w : World} {base e size n : Nat} {v : Value} {xs : List Value} (h : w.ownsRow base e size v n xs) : ∀ k, v.ownBlock = some k → base ≤ k := by
  intro k hk
  obtain ⟨_, h | ⟨g, cap, cur, hv, hg, _⟩⟩ := h
  · rw [h.1] at hk; cases hk
  · rw [hv] at hk; simp [Value.ownBlock] at hk; omega
theorem owns_below1 {w w' : World} {b e size n : Nat} {v : Value} {xs : List Value} (h : w.ownsRow b e size v n xs) (hb : Below w.heap.size w w') : w'.ownsRow b e size v n xs := by
  obtain ⟨h1, h2 | ⟨g, cap, cur, hv, hg, hh, r⟩⟩ := h
  · exact ⟨h1, .inl h2⟩
  · exact ⟨h1, .inr ⟨g, cap, cur, hv, hg, by rw [hb.block g (lt_of_heapI hh)]; exact hh, r⟩⟩

set_option maxHeartbeats 1000000 in
theorem SpecColors_any (lo hi : Nat) (n : Int) (v : Value) (xs : List C3) (w : World) (r : CellIn lo hi w v xs) (hhi : hi ≤ w.heap.size) :
    Calls Try.prog 13 #[.agg #[.int .i64 n, v]] w (FreshI (colorsOf n xs) w) := by
  obtain ⟨i0, hi0, hz0, hz1, hz2⟩ : ∃ i, Try.prog.info? 3 = some i ∧ i.zero = some (.int .i64 0) ∧ i.size = 1 ∧ i.bytes = 8 := info_parts3 info_int
  obtain ⟨a, cap, rfl⟩ := r.form
  have hl := r.1
  have R : ∀ W, Below w.heap.size w W → CellIn lo hi W (.slice a xs.length cap) xs := fun W hb => r.below (hb.mono hhi)
  have HR := Lib.hid R
  clear r R
  by_cases hb : BlkOk n xs
  · rw [colors_yes hb]
    have HB := Lib.hid hb
    clear hb
    go_enter Try.func13, Try.ntmps13
    go_wp2_with fail
    refine (SpecBlockOk_yes lo hi n _ xs _ (HR.out _ (bel_n (bel0 _ _) (Nat.le_refl _) _)) (by simp; omega) HB.out).mono ?_
    rintro e w1 ⟨rfl, hb1⟩
    have p1 := kept (p := ⟨w.heap.size, 1, none⟩) (x := .slice a xs.length cap) hb1 (by go_simp)
    have B1 := bel_c (bel_n (bel0 w _) (Nat.le_refl _) _) (Nat.le_refl _) hb1
    have O1 := owns_below1 (own_new1 (w.alloc (.cells #[.int .i64 n, .slice a xs.length cap] 26)) (w.heap.size + 1) 3 (by simp)) hb1
    have HP := Lib.hid p1
    have HO := Lib.hid O1
    have HB1 := Lib.hid B1
    have hsz : w.heap.size + 1 ≤ w1.heap.size := by have := hb1.size; simp at this; omega
    clear hb1 p1 O1 B1
    go_wp2_with fail
    go_loopw [3, 4] (fun q i wr => ∃ c : Nat, c ≤ 6 ∧ i = .int .i64 c ∧ Hid (wr.ownsRow (w.heap.size + 1) 3 1 q (cols xs c).length (ivals (cols xs c))) ∧ Hid (wr.cell? ⟨w.heap.size, 1, none⟩ = some (.slice a xs.length cap)) ∧ Hid (Below w.heap.size w wr) ∧ w.heap.size + 1 ≤ wr.heap.size) (fun _ i _ => 6 - (intOf i).toNat)
    case atStart => exact ⟨0, Nat.zero_le _, rfl, HO.out, HP.out, HB1.out, hsz⟩
    case round =>
      obtain ⟨c, hc, rfl, hown, hp, hbel, hsz2⟩ := hrel
      by_cases hlt : c < 6
      · have p1 := hp.out
        go_wp2_with fail
        go_loop [5, 6] (fun q i => ∃ k : Nat, k ≤ xs.length ∧ i = .int .i64 k ∧ q = .bool (usd xs c k)) (fun _ i => xs.length - (intOf i).toNat)
        case atStart => exact ⟨0, Nat.zero_le _, rfl, rfl⟩
        case round =>
          obtain ⟨k, hk, rfl, rfl⟩ := hrel
          by_cases hlk : k < xs.length
          · obtain ⟨g, rfl, _, _, ⟨e0, e1, e2⟩, _⟩ := (HR.out _ hbel.out).at (Below.refl _ _) hlk
            have HU := Lib.hid (usd_succ xs (c : Int) k hlk)
            generalize xs.getD k C3.zero = x at e0 e1 e2 HU
            generalize hu : usd xs (c : Int) k = u at HU ⊢
            clear hu
            cases u
            · by_cases h1 : x.a = c
              · have b1 : (x.a == (c : Int)) = true := by simpa using h1
                have HN : Hid (usd xs (c : Int) (k + 1) = true) := Lib.hid (by rw [HU.out, b1]; simp)
                clear h1 HU
                go_wp2_with fail
                go_round
                case rel => exact ⟨k + 1, by omega, by go_num, by rw [HN.out]⟩
                case measure => simp [intOf] <;> omega
              · have b1 : (x.a == (c : Int)) = false := by simpa using h1
                have HN : Hid (usd xs (c : Int) (k + 1) = (x.b == (c : Int))) := Lib.hid (by rw [HU.out, b1]; simp)
                clear h1 HU
                go_wp2_with fail
                go_round
                case rel => exact ⟨k + 1, by omega, by go_num, by rw [HN.out]⟩
                case measure => simp [intOf] <;> omega
            · have HN : Hid (usd xs (c : Int) (k + 1) = true) := Lib.hid (by rw [HU.out]; simp)
              clear HU
              go_wp2_with fail
              go_round
              case rel => exact ⟨k + 1, by omega, by go_num, by rw [HN.out]⟩
              case measure => simp [intOf] <;> omega
          · obtain rfl : k = xs.length := by omega
            have HS := Lib.hid (cols_succ xs c)
            generalize hu : usd xs (c : Int) xs.length = u at HS ⊢
            clear hu
            cases u
            · have HN : Hid (cols xs (c + 1) = cols xs c) := Lib.hid (by rw [HS.out]; simp)
              clear HS
              go_wp2_with fail
              go_roundw
              case rel => exact ⟨c + 1, by omega, by go_num, by rw [HN.out]; exact hown, hp, hbel, hsz2⟩
              case measure => simp [intOf] <;> omega
            · have HN : Hid (cols xs (c + 1) = cols xs c ++ [(c : Int)]) := Lib.hid (by rw [HS.out]; simp)
              have hcl := cols_le xs c
              have HO1 := Lib.hid (owns_below1 hown.out (bel0 wr (.cells #[.int .i64 c] 3)))
              have HNW := Lib.hid (news_one wr wr.heap.size (.int .i64 c) 3 rfl)
              have hb2 : w.heap.size + 1 ≤ (wr.alloc (.cells #[.int .i64 c] 3)).heap.size := by simp; omega
              have HB2 := Lib.hid hb2
              have HP2 := Lib.hid (kept (bel0 wr (.cells #[.int .i64 c] 3)) hp.out)
              have HB3 := Lib.hid (bel_n hbel.out (Nat.le_refl _) (.cells #[.int .i64 c] 3))
              clear HS hb2 hown hp hbel
              go_wp2_with (at_builtin; refine wpList_append_lies _ rfl _ _ 28 rfl (w.heap.size + 1) 3 i0 (.int .i64 0) 1 8 Try.underlying28 hi0 hz0 hz1 hz2 rfl (by decide) _ _ _ rfl HO1.out ⟨wr.heap.size, 0, none⟩ 1 1 [.int .i64 c] rfl rfl HNW.out (by simp [Value.oneCell']) (by omega) (by unfold maxLen; omega) (by omega) HB2.out (wr.heap.size + 1) (by simp) ?_; intro gg cc w2 hown2 hgrow hat hlt2)
              have hbw := (Below.refl (w.heap.size + 1) _).grown hgrow HB2.out (own_ge1 HO1.out)
              have HN2 : Hid (w2.ownsRow (w.heap.size + 1) 3 1 (.slice (some ⟨gg, 0, none⟩) ((cols xs c).length + 1) cc) (cols xs (c + 1)).length (ivals (cols xs (c + 1)))) := Lib.hid (by rw [HN.out, List.length_append]; unfold ivals at hown2 ⊢; rw [List.map_append]; exact hown2)
              have HP3 := Lib.hid ((hbw.cell (p := ⟨w.heap.size, 1, none⟩) (Nat.lt_succ_self _)).trans HP2.out)
              have HB4 := Lib.hid (HB3.out.trans (hbw.mono (by omega)))
              have hs4 : w.heap.size + 1 ≤ w2.heap.size := Nat.le_trans HB2.out hbw.size
              clear hown2 hgrow hat hlt2 hbw HO1 HNW
              go_wp2_with fail
              go_roundw
              case rel => exact ⟨c + 1, by omega, by go_num, HN2, HP3, HB4, hs4⟩
              case measure => simp [intOf] <;> omega
      · obtain rfl : c = 6 := by omega
        have hin := IntIn.of_owns (zs := cols xs 6) hown.out (by have := cols_le xs 6; omega)
        have HI := Lib.hid hin
        clear hin hown
        go_wp2_with fail
        go_ret
        exact ⟨_, rfl, HI.out.wide (by omega) (Nat.le_refl _), hbel.out⟩
  · rw [colors_no hb]
    have HB := Lib.hid hb
    clear hb
    go_enter Try.func13, Try.ntmps13
    go_wp2_with fail
    refine (SpecBlockOk_no lo hi n _ xs _ (HR.out _ (bel_n (bel0 _ _) (Nat.le_refl _) _)) (by simp; omega) HB.out).mono ?_
    rintro e w1 ⟨rfl, hb1⟩
    go_wp2_with fail
    go_ret
    exact ⟨_, rfl, ⟨by simp, .inl ⟨rfl, _, _, rfl⟩⟩, bel_c (bel_n (bel0 w _) (Nat.le_refl _) _) (Nat.le_refl _) hb1⟩

end Go.Proofs.Ytelpibdbnjmliaa
