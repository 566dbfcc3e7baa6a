/- Layouts: the program's LayoutOk. -/
import Derived.Test.YtboahceibeeifaaLayIo
import Derived.Test.YtboahceibeeifaaLayB
import Derived.Test.YtboahceibeeifaaRegM

set_option linter.unusedSimpArgs false
set_option linter.unusedVariables false
namespace Go.Proofs.Ytboahceibeeifaa
open Go.ChangeShapes Go.WideShapes Go.ChangeAt Go.RowKit

theorem lay_is0 {m n : Int} {xs : List P5} (h1 : 1 ≤ m ∧ m ≤ 12) (h2 : 1 ≤ n ∧ n ≤ 12) (h3 : xs.length ≤ 12) (h4 : LayK m n xs xs.length) : decide (ar xs xs.length = m * n) = layB m n xs := by
  rcases Nat.eq_zero_or_pos xs.length with h | h
  · have hb := (mul_bd h1.1 h1.2 h2.1 h2.2).1
    have e : ar xs xs.length = 0 := by rw [h]; rfl
    rw [e, ← lay_no_l (m := m) (n := n) (xs := xs) (by omega)]
    exact decide_eq_false (by omega)
  · exact lay_is h1 h2 (by omega) h4
theorem take_pat {xs : List P5} {k i : Nat} (hi : i < k) : pat (xs.take k) i = pat xs i := by simp [pat, List.getD, hi]
theorem args_eqL {P : Program} {f : FuncId} {xs ys : Array Value} {w : World} {Q : Ending → World → Prop} (h : Calls P f xs w Q) (e : xs = ys) : Calls P f ys w Q := e ▸ h
theorem bel_dr9 {w u : World} {b : Nat} (h : Below b w u) : Below b w u.drew := ⟨h.os, h.tape, h.output, h.size, h.block⟩

set_option maxHeartbeats 3200000 in
set_option maxRecDepth 20000 in
theorem ImplLayoutOk_any (lo hi : Nat) (m n : Int) (v : Value) (xs : List P5) (w : World) (r : PatIn lo hi w v xs) (hhi : hi ≤ w.heap.size) (wf : ∀ c ∈ xs, c.Wf) :
    Calls Try.prog 40 #[.agg #[.int .i64 m, .int .i64 n, v]] w fun e w' => e = .returned (.bool (layB m n xs)) ∧ Below w.heap.size w w' := by
  obtain ⟨a, cap, rfl⟩ := r.form
  have hcap := r.cap
  have R := Lib.hid r
  have hl := r.1
  clear r
  by_cases h0 : 1 ≤ m ∧ m ≤ 12
  · obtain ⟨p00, p01⟩ := h0
    by_cases h1 : 1 ≤ n ∧ n ≤ 12
    · obtain ⟨p10, p11⟩ := h1
      by_cases h2 : xs.length ≤ 12
      · go_enter Try.func40, Try.ntmps40
        go_wp2_with fail
        refine (LenOk_yes _ _ p00 p01).mono ?_
        rintro e w' ⟨rfl, rfl⟩
        go_wp2_with fail
        refine (LenOk_yes _ _ p10 p11).mono ?_
        rintro e w' ⟨rfl, rfl⟩
        go_wp2_with fail
        go_loopw [3, 25] (fun s i wr => ∃ (k : Nat) (A : Int), k ≤ xs.length ∧ i = .int .i64 k ∧ s = .int .i64 A ∧ Hid (A = ar xs k) ∧ 0 ≤ A ∧ A ≤ 144 * k ∧ Hid (LayK m n xs k) ∧ Below (w.heap.size + 1) (w.alloc (.cells #[.int .i64 m, .int .i64 n, .slice a xs.length cap] 26)) wr) (fun _ i _ => xs.length - (intOf i).toNat)
        case atStart => exact ⟨0, 0, Nat.zero_le _, rfl, rfl, Lib.hid rfl, by omega, by omega, Lib.hid (fun j hj => by omega), Below.refl _ _⟩
        case round =>
          obtain ⟨k, A, hk, rfl, rfl, HAr, A0, A1, hall, hbel⟩ := hrel
          have hsz := hbel.size
          simp at hsz
          have b0 : wr.cell? ⟨w.heap.size, 0, none⟩ = some (.int .i64 m) := (hbel.cell (p := ⟨w.heap.size, 0, none⟩) (by simp)).trans (by simp)
          have b1 : wr.cell? ⟨w.heap.size, 1, none⟩ = some (.int .i64 n) := (hbel.cell (p := ⟨w.heap.size, 1, none⟩) (by simp)).trans (by simp)
          have b2 : wr.cell? ⟨w.heap.size, 2, none⟩ = some (.slice a xs.length cap) := (hbel.cell (p := ⟨w.heap.size, 2, none⟩) (by simp)).trans (by simp)
          by_cases hlt : k < xs.length
          · obtain ⟨g, rfl, hg, hg1, hel, _⟩ := R.out.at (((bel0 w _).trans (hbel.mono (by omega))).mono hhi) hlt
            obtain ⟨e0, e1, e2, e3, e4⟩ := hel
            obtain ⟨c, hc⟩ : ∃ c, c = xs.getD k P5.zero := ⟨_, rfl⟩
            rw [← hc] at e0 e1 e2 e3 e4
            have HC : Hid (c = pat xs k) := Lib.hid hc
            have hwf : c.Wf := by rw [hc]; simp only [List.getD, List.getElem?_eq_getElem hlt, Option.getD_some]; exact wf _ (List.getElem_mem hlt)
            have FI0 := fun u : World => FitsInto_any m n (.slice (some ⟨g, 0, none⟩) xs.length cap) c u p00 p01 p10 p11 hwf
            have HB0 : Hid (Below w.heap.size w (wr.alloc (.cells #[.int .i64 c.x, .int .i64 c.y, .int .i64 c.w, .int .i64 c.h, .int .i64 c.c] 34))) := Lib.hid (bel_n ((bel0 w _).trans (hbel.mono (by omega))) (Nat.le_refl _) _)
            have HB1 : Hid (Below (w.heap.size + 1) (w.alloc (.cells #[.int .i64 m, .int .i64 n, .slice (some ⟨g, 0, none⟩) xs.length cap] 26)) (wr.alloc (.cells #[.int .i64 c.x, .int .i64 c.y, .int .i64 c.w, .int .i64 c.h, .int .i64 c.c] 34))) := Lib.hid (bel_n hbel (by simp) _)
            have KW : Hid (Below (wr.alloc (.cells #[.int .i64 c.x, .int .i64 c.y, .int .i64 c.w, .int .i64 c.h, .int .i64 c.c] 34)).heap.size (wr.alloc (.cells #[.int .i64 c.x, .int .i64 c.y, .int .i64 c.w, .int .i64 c.h, .int .i64 c.c] 34)) (wr.alloc (.cells #[.int .i64 c.x, .int .i64 c.y, .int .i64 c.w, .int .i64 c.h, .int .i64 c.c] 34))) := Lib.hid (Below.refl _ _)
            have b0' := kept (bel0 wr (.cells #[.int .i64 c.x, .int .i64 c.y, .int .i64 c.w, .int .i64 c.h, .int .i64 c.c] 34)) b0
            have b1' := kept (bel0 wr (.cells #[.int .i64 c.x, .int .i64 c.y, .int .i64 c.w, .int .i64 c.h, .int .i64 c.c] 34)) b1
            have b2' := kept (bel0 wr (.cells #[.int .i64 c.x, .int .i64 c.y, .int .i64 c.w, .int .i64 c.h, .int .i64 c.c] 34)) b2
            have KPP : ∀ u v : World, Below u.heap.size u v → (u.cell? ⟨w.heap.size, 0, none⟩ = some (.int .i64 m) ∧ u.cell? ⟨w.heap.size, 1, none⟩ = some (.int .i64 n) ∧ u.cell? ⟨w.heap.size, 2, none⟩ = some (.slice (some ⟨g, 0, none⟩) xs.length cap) ∧ u.cell? ⟨wr.heap.size, 0, none⟩ = some (.int .i64 c.x) ∧ u.cell? ⟨wr.heap.size, 1, none⟩ = some (.int .i64 c.y) ∧ u.cell? ⟨wr.heap.size, 2, none⟩ = some (.int .i64 c.w) ∧ u.cell? ⟨wr.heap.size, 3, none⟩ = some (.int .i64 c.h) ∧ u.cell? ⟨wr.heap.size, 4, none⟩ = some (.int .i64 c.c)) → (v.cell? ⟨w.heap.size, 0, none⟩ = some (.int .i64 m) ∧ v.cell? ⟨w.heap.size, 1, none⟩ = some (.int .i64 n) ∧ v.cell? ⟨w.heap.size, 2, none⟩ = some (.slice (some ⟨g, 0, none⟩) xs.length cap) ∧ v.cell? ⟨wr.heap.size, 0, none⟩ = some (.int .i64 c.x) ∧ v.cell? ⟨wr.heap.size, 1, none⟩ = some (.int .i64 c.y) ∧ v.cell? ⟨wr.heap.size, 2, none⟩ = some (.int .i64 c.w) ∧ v.cell? ⟨wr.heap.size, 3, none⟩ = some (.int .i64 c.h) ∧ v.cell? ⟨wr.heap.size, 4, none⟩ = some (.int .i64 c.c)) := fun u v hb h => ⟨kept hb h.1, kept hb h.2.1, kept hb h.2.2.1, kept hb h.2.2.2.1, kept hb h.2.2.2.2.1, kept hb h.2.2.2.2.2.1, kept hb h.2.2.2.2.2.2.1, kept hb h.2.2.2.2.2.2.2⟩
            have hkc : k ≤ cap := by omega
            have hkc' : (k : Int) ≤ (cap : Int) := by omega
            have hk0 : (0 : Int) ≤ (k : Int) := by omega
            clear hc hwf
            by_cases hf : Fit m n c
            · have FI : Hid (∀ u : World, Calls Try.prog 64 #[.agg #[.int .i64 c.x, .int .i64 c.y, .int .i64 c.w, .int .i64 c.h, .int .i64 c.c], .agg #[.int .i64 m, .int .i64 n, .slice (some ⟨g, 0, none⟩) xs.length cap]] u fun e w' => e = .returned (.bool true) ∧ Below u.heap.size u w') := Lib.hid (fun u => by have := FI0 u; rwa [decide_eq_true hf] at this)
              clear FI0
              have OV0 : ∀ u : World, Below (wr.alloc (.cells #[.int .i64 c.x, .int .i64 c.y, .int .i64 c.w, .int .i64 c.h, .int .i64 c.c] 34)).heap.size (wr.alloc (.cells #[.int .i64 c.x, .int .i64 c.y, .int .i64 c.w, .int .i64 c.h, .int .i64 c.c] 34)) u → Calls Try.prog 65 #[.agg #[.int .i64 c.x, .int .i64 c.y, .int .i64 c.w, .int .i64 c.h, .int .i64 c.c], .slice (some ⟨g, 0, none⟩) k cap] u fun e w' => e = .returned (.bool (ovB c (xs.take k))) ∧ Below u.heap.size u w' := fun u hu =>
                Overlaps_any lo hi c _ (xs.take k) u (hf.inp p01 p11) ((R.out.below ((bel_c HB0.out (Nat.le_refl _) hu).mono hhi)).take k hk) (by have := (bel_c HB0.out (Nat.le_refl _) hu).size; omega)
                  (fun i hi => by have hik : i < k := by simp at hi; omega
                                  rw [take_pat hik]; exact (hall.out i hik).1.inp p01 p11)
              by_cases ho : ovB c (xs.take k) = true
              · have OV : Hid (∀ u : World, Below (wr.alloc (.cells #[.int .i64 c.x, .int .i64 c.y, .int .i64 c.w, .int .i64 c.h, .int .i64 c.c] 34)).heap.size (wr.alloc (.cells #[.int .i64 c.x, .int .i64 c.y, .int .i64 c.w, .int .i64 c.h, .int .i64 c.c] 34)) u → Calls Try.prog 65 #[.agg #[.int .i64 c.x, .int .i64 c.y, .int .i64 c.w, .int .i64 c.h, .int .i64 c.c], .slice (some ⟨g, 0, none⟩) k cap] u fun e w' => e = .returned (.bool true) ∧ Below u.heap.size u w') := Lib.hid (fun u hu => by have := OV0 u hu; rwa [ho] at this)
                clear OV0
                have HH : Hid (false = layB m n xs) := by
                  have hov : Ov c (xs.take k) := by unfold ovB at ho; simpa using ho
                  obtain ⟨j, hj, hh⟩ := hov
                  have hjk : j < k := by simp at hj; omega
                  rw [take_pat hjk, HC.out] at hh
                  exact Lib.hid (lay_no_hit hlt hjk hh)
                clear ho hf hbel
                go_wp2_with fail
                go_region_held3 (fun w' => w'.cell? ⟨w.heap.size, 0, none⟩ = some (.int .i64 m) ∧ w'.cell? ⟨w.heap.size, 1, none⟩ = some (.int .i64 n) ∧ w'.cell? ⟨w.heap.size, 2, none⟩ = some (.slice (some ⟨g, 0, none⟩) xs.length cap) ∧ w'.cell? ⟨wr.heap.size, 0, none⟩ = some (.int .i64 c.x) ∧ w'.cell? ⟨wr.heap.size, 1, none⟩ = some (.int .i64 c.y) ∧ w'.cell? ⟨wr.heap.size, 2, none⟩ = some (.int .i64 c.w) ∧ w'.cell? ⟨wr.heap.size, 3, none⟩ = some (.int .i64 c.h) ∧ w'.cell? ⟨wr.heap.size, 4, none⟩ = some (.int .i64 c.c)) (first | (refine KPP _ _ (by assumption) ?_; assumption) | go_keep)
                  (first | (go_at_call 64; refine (FI.out _).mono ?_; rintro e w1 ⟨rfl, hb1⟩) | (go_at_call 65; refine (OV.out _ (bel_c (bel_dr9 KW.out) (Nat.le_refl _) hb1)).mono ?_; rintro e w2 ⟨rfl, hb2⟩))
                have HBZ := Lib.hid (bel_c (bel_c (bel_dr9 HB0.out) (Nat.le_refl _) hb1) (Nat.le_refl _) hb2)
                clear hb1 hb2 KPP
                go_wp2_with fail
                go_ret
                exact ⟨ret_bool HH.out, HBZ.out⟩
              · have hno : ovB c (xs.take k) = false := by simpa using ho
                have OV : Hid (∀ u : World, Below (wr.alloc (.cells #[.int .i64 c.x, .int .i64 c.y, .int .i64 c.w, .int .i64 c.h, .int .i64 c.c] 34)).heap.size (wr.alloc (.cells #[.int .i64 c.x, .int .i64 c.y, .int .i64 c.w, .int .i64 c.h, .int .i64 c.c] 34)) u → Calls Try.prog 65 #[.agg #[.int .i64 c.x, .int .i64 c.y, .int .i64 c.w, .int .i64 c.h, .int .i64 c.c], .slice (some ⟨g, 0, none⟩) k cap] u fun e w' => e = .returned (.bool false) ∧ Below u.heap.size u w') := Lib.hid (fun u hu => by have := OV0 u hu; rwa [hno] at this)
                clear OV0 ho
                have HN : Hid (LayK m n xs (k + 1)) := Lib.hid (hall.out.succ (by rw [← HC.out]; exact hf) (fun j hj hh => by
                  have : true = ovB c (xs.take k) := ov_yes (j := j) (by simp; omega) (by rw [take_pat hj, HC.out]; exact hh)
                  rw [hno] at this; cases this))
                have HA := Lib.hid (ar_succ HAr.out HC.out)
                obtain ⟨⟨f00, f01⟩, ⟨f10, f11⟩, ⟨f20, f21⟩, ⟨f30, f31⟩, _⟩ := hf
                obtain ⟨hw, s0, s1⟩ := mul_wrap (a := c.w) (b := c.h) (by omega) (by omega) (by omega) (by omega)
                clear hno hbel
                go_wp2_with fail
                go_region_held3 (fun w' => w'.cell? ⟨w.heap.size, 0, none⟩ = some (.int .i64 m) ∧ w'.cell? ⟨w.heap.size, 1, none⟩ = some (.int .i64 n) ∧ w'.cell? ⟨w.heap.size, 2, none⟩ = some (.slice (some ⟨g, 0, none⟩) xs.length cap) ∧ w'.cell? ⟨wr.heap.size, 0, none⟩ = some (.int .i64 c.x) ∧ w'.cell? ⟨wr.heap.size, 1, none⟩ = some (.int .i64 c.y) ∧ w'.cell? ⟨wr.heap.size, 2, none⟩ = some (.int .i64 c.w) ∧ w'.cell? ⟨wr.heap.size, 3, none⟩ = some (.int .i64 c.h) ∧ w'.cell? ⟨wr.heap.size, 4, none⟩ = some (.int .i64 c.c)) (first | (refine KPP _ _ (by assumption) ?_; assumption) | go_keep)
                  (first | (go_at_call 64; refine (FI.out _).mono ?_; rintro e w1 ⟨rfl, hb1⟩) | (go_at_call 65; refine (OV.out _ (bel_c (bel_dr9 KW.out) (Nat.le_refl _) hb1)).mono ?_; rintro e w2 ⟨rfl, hb2⟩))
                have HBZ := Lib.hid (bel_c (bel_c (bel_dr9 HB1.out) (by simp) hb1) (by simp) hb2)
                clear hb1 hb2 KPP
                go_wp2_with fail
                go_roundw
                case rel => exact ⟨k + 1, _, by omega, by go_num, rfl, HA, by omega, by omega, HN, HBZ.out⟩
                case measure => simp [intOf] <;> omega
            · have FI : Hid (∀ u : World, Calls Try.prog 64 #[.agg #[.int .i64 c.x, .int .i64 c.y, .int .i64 c.w, .int .i64 c.h, .int .i64 c.c], .agg #[.int .i64 m, .int .i64 n, .slice (some ⟨g, 0, none⟩) xs.length cap]] u fun e w' => e = .returned (.bool false) ∧ Below u.heap.size u w') := Lib.hid (fun u => by have := FI0 u; rwa [decide_eq_false hf] at this)
              clear FI0
              have HH := Lib.hid (lay_no_fit (m := m) (n := n) hlt (by rw [← HC.out]; exact hf))
              clear hf hbel
              have D0 : Below (wr.alloc (.cells #[.int .i64 c.x, .int .i64 c.y, .int .i64 c.w, .int .i64 c.h, .int .i64 c.c] 34)).heap.size (wr.alloc (.cells #[.int .i64 c.x, .int .i64 c.y, .int .i64 c.w, .int .i64 c.h, .int .i64 c.c] 34)) (wr.alloc (.cells #[.int .i64 c.x, .int .i64 c.y, .int .i64 c.w, .int .i64 c.h, .int .i64 c.c] 34)).drew := ⟨rfl, rfl, rfl, Nat.le_refl _, fun _ _ => rfl⟩
              have KP : ∀ u v, Below u.heap.size u v → (u.cell? ⟨w.heap.size, 0, none⟩ = some (.int .i64 m) ∧ u.cell? ⟨w.heap.size, 1, none⟩ = some (.int .i64 n) ∧ u.cell? ⟨w.heap.size, 2, none⟩ = some (.slice (some ⟨g, 0, none⟩) xs.length cap) ∧ u.cell? ⟨wr.heap.size, 0, none⟩ = some (.int .i64 c.x) ∧ u.cell? ⟨wr.heap.size, 1, none⟩ = some (.int .i64 c.y) ∧ u.cell? ⟨wr.heap.size, 2, none⟩ = some (.int .i64 c.w) ∧ u.cell? ⟨wr.heap.size, 3, none⟩ = some (.int .i64 c.h) ∧ u.cell? ⟨wr.heap.size, 4, none⟩ = some (.int .i64 c.c) ∧ Below (wr.alloc (.cells #[.int .i64 c.x, .int .i64 c.y, .int .i64 c.w, .int .i64 c.h, .int .i64 c.c] 34)).heap.size (wr.alloc (.cells #[.int .i64 c.x, .int .i64 c.y, .int .i64 c.w, .int .i64 c.h, .int .i64 c.c] 34)) u) → (v.cell? ⟨w.heap.size, 0, none⟩ = some (.int .i64 m) ∧ v.cell? ⟨w.heap.size, 1, none⟩ = some (.int .i64 n) ∧ v.cell? ⟨w.heap.size, 2, none⟩ = some (.slice (some ⟨g, 0, none⟩) xs.length cap) ∧ v.cell? ⟨wr.heap.size, 0, none⟩ = some (.int .i64 c.x) ∧ v.cell? ⟨wr.heap.size, 1, none⟩ = some (.int .i64 c.y) ∧ v.cell? ⟨wr.heap.size, 2, none⟩ = some (.int .i64 c.w) ∧ v.cell? ⟨wr.heap.size, 3, none⟩ = some (.int .i64 c.h) ∧ v.cell? ⟨wr.heap.size, 4, none⟩ = some (.int .i64 c.c) ∧ Below (wr.alloc (.cells #[.int .i64 c.x, .int .i64 c.y, .int .i64 c.w, .int .i64 c.h, .int .i64 c.c] 34)).heap.size (wr.alloc (.cells #[.int .i64 c.x, .int .i64 c.y, .int .i64 c.w, .int .i64 c.h, .int .i64 c.c] 34)) v) := fun u v hb h => ⟨kept hb h.1, kept hb h.2.1, kept hb h.2.2.1, kept hb h.2.2.2.1, kept hb h.2.2.2.2.1, kept hb h.2.2.2.2.2.1, kept hb h.2.2.2.2.2.2.1, kept hb h.2.2.2.2.2.2.2.1, bel_c h.2.2.2.2.2.2.2.2 (Nat.le_refl _) hb⟩
              have S0 : (wr.alloc (.cells #[.int .i64 c.x, .int .i64 c.y, .int .i64 c.w, .int .i64 c.h, .int .i64 c.c] 34)).drew.cell? ⟨w.heap.size, 0, none⟩ = some (.int .i64 m) ∧ (wr.alloc (.cells #[.int .i64 c.x, .int .i64 c.y, .int .i64 c.w, .int .i64 c.h, .int .i64 c.c] 34)).drew.cell? ⟨w.heap.size, 1, none⟩ = some (.int .i64 n) ∧ (wr.alloc (.cells #[.int .i64 c.x, .int .i64 c.y, .int .i64 c.w, .int .i64 c.h, .int .i64 c.c] 34)).drew.cell? ⟨w.heap.size, 2, none⟩ = some (.slice (some ⟨g, 0, none⟩) xs.length cap) ∧ (wr.alloc (.cells #[.int .i64 c.x, .int .i64 c.y, .int .i64 c.w, .int .i64 c.h, .int .i64 c.c] 34)).drew.cell? ⟨wr.heap.size, 0, none⟩ = some (.int .i64 c.x) ∧ (wr.alloc (.cells #[.int .i64 c.x, .int .i64 c.y, .int .i64 c.w, .int .i64 c.h, .int .i64 c.c] 34)).drew.cell? ⟨wr.heap.size, 1, none⟩ = some (.int .i64 c.y) ∧ (wr.alloc (.cells #[.int .i64 c.x, .int .i64 c.y, .int .i64 c.w, .int .i64 c.h, .int .i64 c.c] 34)).drew.cell? ⟨wr.heap.size, 2, none⟩ = some (.int .i64 c.w) ∧ (wr.alloc (.cells #[.int .i64 c.x, .int .i64 c.y, .int .i64 c.w, .int .i64 c.h, .int .i64 c.c] 34)).drew.cell? ⟨wr.heap.size, 3, none⟩ = some (.int .i64 c.h) ∧ (wr.alloc (.cells #[.int .i64 c.x, .int .i64 c.y, .int .i64 c.w, .int .i64 c.h, .int .i64 c.c] 34)).drew.cell? ⟨wr.heap.size, 4, none⟩ = some (.int .i64 c.c) ∧ Below (wr.alloc (.cells #[.int .i64 c.x, .int .i64 c.y, .int .i64 c.w, .int .i64 c.h, .int .i64 c.c] 34)).heap.size (wr.alloc (.cells #[.int .i64 c.x, .int .i64 c.y, .int .i64 c.w, .int .i64 c.h, .int .i64 c.c] 34)) (wr.alloc (.cells #[.int .i64 c.x, .int .i64 c.y, .int .i64 c.w, .int .i64 c.h, .int .i64 c.c] 34)).drew := ⟨by simpa using b0', by simpa using b1', by simpa using b2', by simp, by simp, by simp, by simp, by simp, D0⟩
              clear KPP
              go_wp2_with fail
              (try simp only [List.append_eq, List.cons_append, List.nil_append])
              have hS := S0
              refine reg_begin (fun w' => w'.cell? ⟨w.heap.size, 0, none⟩ = some (.int .i64 m) ∧ w'.cell? ⟨w.heap.size, 1, none⟩ = some (.int .i64 n) ∧ w'.cell? ⟨w.heap.size, 2, none⟩ = some (.slice (some ⟨g, 0, none⟩) xs.length cap) ∧ w'.cell? ⟨wr.heap.size, 0, none⟩ = some (.int .i64 c.x) ∧ w'.cell? ⟨wr.heap.size, 1, none⟩ = some (.int .i64 c.y) ∧ w'.cell? ⟨wr.heap.size, 2, none⟩ = some (.int .i64 c.w) ∧ w'.cell? ⟨wr.heap.size, 3, none⟩ = some (.int .i64 c.h) ∧ w'.cell? ⟨wr.heap.size, 4, none⟩ = some (.int .i64 c.c) ∧ Below (wr.alloc (.cells #[.int .i64 c.x, .int .i64 c.y, .int .i64 c.w, .int .i64 c.h, .int .i64 c.c] 34)).heap.size (wr.alloc (.cells #[.int .i64 c.x, .int .i64 c.y, .int .i64 c.w, .int .i64 c.h, .int .i64 c.c] 34)) w') (by kernel_rfl) hS ?_
              refine reg_take 0 (v := ?_) rfl (by kernel_rfl) (by kernel_rfl) (by kernel_rfl) (fun _ _ _ h => h) (by rfl) (by intro w hSw; (try dsimp only at hSw); go_simp; first | done | with_reducible rfl) hS ?_
              (try simp only [Act.put, List.setIfInBounds_toArray, List.set_cons_zero, List.set_cons_succ])
              refine reg_take 1 (v := ?_) rfl (by kernel_rfl) (by kernel_rfl) (by kernel_rfl) (fun _ _ _ h => h) (by rfl) (by intro w hSw; (try dsimp only at hSw); go_simp; first | done | with_reducible rfl) hS ?_
              (try simp only [Act.put, List.setIfInBounds_toArray, List.set_cons_zero, List.set_cons_succ])
              refine reg_call 2 rfl (by kernel_rfl) (by rfl) (fun K hK => ?_)
              go_simp
              go_at_call 64
              refine (args_eqL (FI.out _) (by with_reducible rfl)).mono ?_
              rintro e uu ⟨rfl, hb⟩
              refine hK.out _ _ (KP _ _ hb hS) (fun hS' => ?_)
              clear hK K hS
              have hS := hS'
              clear hS' hb
              try (try simp only [Act.put, List.setIfInBounds_toArray, List.set_cons_zero, List.set_cons_succ])
              refine reg_take 3 (v := ?_) rfl (by kernel_rfl) (by kernel_rfl) (by kernel_rfl) (fun _ _ _ h => h) (by rfl) (by intro w hSw; (try dsimp only at hSw); go_simp; first | done | with_reducible rfl) hS ?_
              (try simp only [Act.put, List.setIfInBounds_toArray, List.set_cons_zero, List.set_cons_succ])
              refine reg_take 4 (v := ?_) rfl (by kernel_rfl) (by kernel_rfl) (by kernel_rfl) (fun _ _ _ h => h) (by rfl) (by intro w hSw; (try dsimp only at hSw); go_simp; first | done | with_reducible rfl) hS ?_
              (try simp only [Act.put, List.setIfInBounds_toArray, List.set_cons_zero, List.set_cons_succ])
              refine reg_skip 5 rfl (by kernel_rfl) (by kernel_rfl) (by kernel_rfl) (fun _ _ _ h => h) (by rfl) hS ?_
              (try simp only [Act.put, List.setIfInBounds_toArray, List.set_cons_zero, List.set_cons_succ])
              refine reg_skip 6 rfl (by kernel_rfl) (by kernel_rfl) (by kernel_rfl) (fun _ _ _ h => h) (by rfl) hS ?_
              (try simp only [Act.put, List.setIfInBounds_toArray, List.set_cons_zero, List.set_cons_succ])
              refine reg_skip 7 rfl (by kernel_rfl) (by kernel_rfl) (by kernel_rfl) (fun _ _ _ h => h) (by rfl) hS ?_
              (try simp only [Act.put, List.setIfInBounds_toArray, List.set_cons_zero, List.set_cons_succ])
              refine reg_skip 8 rfl (by kernel_rfl) (by kernel_rfl) (by kernel_rfl) (fun _ _ _ h => h) (by rfl) hS ?_
              (try simp only [Act.put, List.setIfInBounds_toArray, List.set_cons_zero, List.set_cons_succ])
              refine reg_skip 9 rfl (by kernel_rfl) (by kernel_rfl) (by kernel_rfl) (fun _ _ _ h => h) (by rfl) hS ?_
              (try simp only [Act.put, List.setIfInBounds_toArray, List.set_cons_zero, List.set_cons_succ])
              refine reg_skip 10 rfl (by kernel_rfl) (by kernel_rfl) (by kernel_rfl) (fun _ _ _ h => h) (by rfl) hS ?_
              (try simp only [Act.put, List.setIfInBounds_toArray, List.set_cons_zero, List.set_cons_succ])
              refine reg_take 11 (v := ?_) rfl (by kernel_rfl) (by kernel_rfl) (by kernel_rfl) (fun _ _ _ h => h) (by rfl) (by intro w hSw; (try dsimp only at hSw); go_simp; first | done | with_reducible rfl) hS ?_
              (try simp only [Act.put, List.setIfInBounds_toArray, List.set_cons_zero, List.set_cons_succ])
              refine wpAnyH_done (by kernel_rfl) ?_ _
              have HBZ := Lib.hid (bel_c HB0.out (Nat.le_refl _) hS.2.2.2.2.2.2.2.2)
              clear hS S0 KP D0
              go_wp2_with fail
              go_ret
              exact ⟨ret_bool HH.out, HBZ.out⟩
          · obtain rfl : k = xs.length := by omega
            have HH := Lib.hid (lay_is0 ⟨p00, p01⟩ ⟨p10, p11⟩ h2 hall.out)
            have HB0 := Lib.hid ((bel0 w _).trans (hbel.mono (by omega)))
            obtain ⟨hw, s0, s1⟩ := mul_wrap (a := m) (b := n) (by omega) (by omega) (by omega) (by omega)
            clear hbel
            go_wp2_with fail
            go_ret
            exact ⟨ret_bool (by rw [← HH.out, ← HAr.out]; first | rfl | (by_cases z : A = m * n <;> simp [z])), HB0.out⟩
      · have HH := Lib.hid (lay_no_l (m := m) (n := n) (xs := xs) (by omega))
        go_enter Try.func40, Try.ntmps40
        go_wp2_with fail
        refine (LenOk_yes _ _ p00 p01).mono ?_
        rintro e w' ⟨rfl, rfl⟩
        go_wp2_with fail
        refine (LenOk_yes _ _ p10 p11).mono ?_
        rintro e w' ⟨rfl, rfl⟩
        go_wp2_with fail
        go_ret
        exact ⟨ret_bool HH.out, bel0 _ _⟩
    · have HH := Lib.hid (lay_no_n (m := m) (n := n) (xs := xs) h1)
      have HN : n < 1 ∨ 12 < n := by omega
      clear h1
      go_enter Try.func40, Try.ntmps40
      go_wp2_with fail
      refine (LenOk_yes _ _ p00 p01).mono ?_
      rintro e w' ⟨rfl, rfl⟩
      go_wp2_with fail
      refine (LenOk_no _ _ HN).mono ?_
      rintro e w' ⟨rfl, rfl⟩
      go_wp2_with fail
      go_ret
      exact ⟨ret_bool HH.out, bel0 _ _⟩
  · have HH := Lib.hid (lay_no_m (m := m) (n := n) (xs := xs) h0)
    have HN : m < 1 ∨ 12 < m := by omega
    clear h0
    go_enter Try.func40, Try.ntmps40
    go_wp2_with fail
    refine (LenOk_no _ _ HN).mono ?_
    rintro e w' ⟨rfl, rfl⟩
    go_wp2_with fail
    go_ret
    exact ⟨ret_bool HH.out, bel0 _ _⟩

end Go.Proofs.Ytboahceibeeifaa
