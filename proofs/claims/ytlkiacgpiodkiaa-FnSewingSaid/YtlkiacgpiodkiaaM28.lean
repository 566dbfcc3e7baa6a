/- Layouts: DrawLayout. Layouts: the model's LayoutOk. Cuts: the model's IsCut. -/
import Derived.Test.YtlkiacgpiodkiaaLayD
import Derived.Test.YtlkiacgpiodkiaaM07
import Derived.Test.YtlkiacgpiodkiaaM03
import Derived.Test.YtlkiacgpiodkiaaM22

set_option linter.unusedSimpArgs false
set_option linter.unusedVariables false
namespace Go.Proofs.Ytlkiacgpiodkiaa
open Go.ChangeShapes Go.WideShapes Go.ChangeAt Go.RowKit

theorem Src.up9 {w : World} {b b' : Nat} {a : Option Addr} {len : Nat} (h : Src w b a len) (hb : b ≤ b') : Src w b' a len := by
  obtain ⟨hm, h | ⟨xb, xo, ha, hlt, hc⟩⟩ := h
  · exact ⟨hm, .inl h⟩
  · exact ⟨hm, .inr ⟨xb, xo, ha, Nat.lt_of_lt_of_le hlt hb, hc⟩⟩

/-- A valid layout is handed back. -/
def GivenL (w : World) (e : Ending) (w' : World) : Prop :=
  ∃ (m n : Int) (v : Value) (xs : List P5), LayOk m n xs ∧ e = .returned (.agg #[.int .i64 m, .int .i64 n, v]) ∧ PatIn w.heap.size w'.heap.size w' v xs ∧ Below w.heap.size w w'

end Go.Proofs.Ytlkiacgpiodkiaa

set_option linter.unusedSimpArgs false
set_option linter.unusedVariables false
namespace Go.Proofs.Ytlkiacgpiodkiaa
open Go.ChangeShapes Go.WideShapes Go.ChangeAt Go.RowKit

set_option maxHeartbeats 3200000 in
set_option maxRecDepth 20000 in
theorem SpecLayoutOk_any (lo hi : Nat) (m n : Int) (v : Value) (xs : List P5) (w : World) (r : PatIn lo hi w v xs) (hhi : hi ≤ w.heap.size) :
    Calls Try.prog 50 #[.agg #[.int .i64 m, .int .i64 n, v]] w fun e w' => e = .returned (.bool (layB m n xs)) ∧ Below w.heap.size w w' := by
  obtain ⟨a, cap, rfl⟩ := r.form
  have R := Lib.hid r
  have hl := r.1
  clear r
  by_cases h0 : 1 ≤ m ∧ m ≤ 12
  · obtain ⟨p00, p01⟩ := h0
    by_cases h1 : 1 ≤ n ∧ n ≤ 12
    · obtain ⟨p10, p11⟩ := h1
      by_cases h2 : 1 ≤ xs.length ∧ xs.length ≤ 12
      · obtain ⟨p20, p21⟩ := h2
        go_enter Try.func50, Try.ntmps50
        go_wp2_with fail
        refine (In_yes _ _ _ _ p00 p01).mono ?_
        rintro e w' ⟨rfl, rfl⟩
        go_wp2_with fail
        refine (In_yes _ _ _ _ p10 p11).mono ?_
        rintro e w' ⟨rfl, rfl⟩
        go_wp2_with fail
        refine (In_yes _ _ _ _ (by omega) (by omega)).mono ?_
        rintro e w' ⟨rfl, rfl⟩
        go_wp2_with fail
        go_loopw [3, 4] (fun s i wr => ∃ (k : Nat) (A : Int), k ≤ xs.length ∧ i = .int .i64 k ∧ s = .int .i64 A ∧ Hid (A = ar xs k) ∧ 0 ≤ A ∧ A ≤ 144 * k ∧ Hid (LayK m n xs k) ∧ Below (w.heap.size + 1) (w.alloc (.cells #[.int .i64 m, .int .i64 n, .slice a xs.length cap] 50)) wr) (fun _ i _ => xs.length - (intOf i).toNat)
        case atStart => exact ⟨0, 0, Nat.zero_le _, rfl, rfl, Lib.hid rfl, by omega, by omega, Lib.hid (fun j hj => by omega), Below.refl _ _⟩
        case round =>
          obtain ⟨k, A, hk, rfl, rfl, HAr, A0, A1, hall, hbel⟩ := hrel
          have hsz := hbel.size
          simp at hsz
          have b0 : wr.cell? ⟨w.heap.size, 0, none⟩ = some (.int .i64 m) := (hbel.cell (p := ⟨w.heap.size, 0, none⟩) (by simp)).trans (by simp)
          have b1 : wr.cell? ⟨w.heap.size, 1, none⟩ = some (.int .i64 n) := (hbel.cell (p := ⟨w.heap.size, 1, none⟩) (by simp)).trans (by simp)
          have b2 : wr.cell? ⟨w.heap.size, 2, none⟩ = some (.slice a xs.length cap) := (hbel.cell (p := ⟨w.heap.size, 2, none⟩) (by simp)).trans (by simp)
          by_cases hlt : k < xs.length
          · obtain ⟨g, rfl, hg, hg1, hel, _⟩ := R.out.at (((bel0 w _).trans (hbel.mono (by omega))).mono hhi) hlt
            obtain ⟨e0, e1, e2, e3, e4⟩ := hel
            obtain ⟨c, hc⟩ : ∃ c, c = xs.getD k P5.zero := ⟨_, rfl⟩
            rw [← hc] at e0 e1 e2 e3 e4
            have HC : Hid (c = pat xs k) := Lib.hid hc
            have HB0 : Hid (Below w.heap.size w (wr.alloc (.cells #[.int .i64 c.x, .int .i64 c.y, .int .i64 c.w, .int .i64 c.h, .int .i64 c.c] 73))) := Lib.hid (bel_n ((bel0 w _).trans (hbel.mono (by omega))) (Nat.le_refl _) _)
            have b0' := kept (bel0 wr (.cells #[.int .i64 c.x, .int .i64 c.y, .int .i64 c.w, .int .i64 c.h, .int .i64 c.c] 73)) b0
            have b1' := kept (bel0 wr (.cells #[.int .i64 c.x, .int .i64 c.y, .int .i64 c.w, .int .i64 c.h, .int .i64 c.c] 73)) b1
            have b2' := kept (bel0 wr (.cells #[.int .i64 c.x, .int .i64 c.y, .int .i64 c.w, .int .i64 c.h, .int .i64 c.c] 73)) b2
            clear hc
            by_cases f0 : 0 ≤ c.x ∧ c.x ≤ m - 1
            · obtain ⟨f00, f01⟩ := f0
              by_cases f1 : 0 ≤ c.y ∧ c.y ≤ n - 1
              · obtain ⟨f10, f11⟩ := f1
                by_cases f2 : 1 ≤ c.w ∧ c.w ≤ m - c.x
                · obtain ⟨f20, f21⟩ := f2
                  by_cases f3 : 1 ≤ c.h ∧ c.h ≤ n - c.y
                  · obtain ⟨f30, f31⟩ := f3
                    by_cases f4 : 0 ≤ c.c ∧ c.c ≤ 5
                    · obtain ⟨f40, f41⟩ := f4
                      go_wp2_with fail
                      refine (In_yes _ _ _ _ f00 f01).mono ?_
                      rintro e w' ⟨rfl, rfl⟩
                      go_wp2_with fail
                      refine (In_yes _ _ _ _ f10 f11).mono ?_
                      rintro e w' ⟨rfl, rfl⟩
                      go_wp2_with fail
                      refine (In_yes _ _ _ _ f20 f21).mono ?_
                      rintro e w' ⟨rfl, rfl⟩
                      go_wp2_with fail
                      refine (In_yes _ _ _ _ f30 f31).mono ?_
                      rintro e w' ⟨rfl, rfl⟩
                      go_wp2_with fail
                      refine (In_yes _ _ _ _ f40 f41).mono ?_
                      rintro e w' ⟨rfl, rfl⟩
                      obtain ⟨wo, rfl⟩ : ∃ wo : World, wo = wr := ⟨_, rfl⟩
                      go_wp2_with fail
                      go_loopw [6] (fun i wr => ∃ i' : Nat, i' ≤ k ∧ i = .int .i64 i' ∧ Hid (∀ j, j < i' → ¬ Hit (pat xs k) (pat xs j)) ∧ Below (wo.heap.size + 1) (wo.alloc (.cells #[.int .i64 c.x, .int .i64 c.y, .int .i64 c.w, .int .i64 c.h, .int .i64 c.c] 73)) wr) (fun i _ => k - (intOf i).toNat)
                      case atStart => exact ⟨0, Nat.zero_le _, rfl, Lib.hid (fun j hj => by omega), Below.refl _ _⟩
                      case round =>
                        obtain ⟨i, hik, rfl, hno, hbi⟩ := hrel
                        have HBW : Below (w.heap.size + 1) (w.alloc (.cells #[.int .i64 m, .int .i64 n, .slice (some ⟨g, 0, none⟩) xs.length cap] 50)) wr := hbel.trans ((bel_n (Below.refl _ _) (by omega) _).trans (hbi.mono (by omega)))
                        have b0 : wr.cell? ⟨w.heap.size, 0, none⟩ = some (.int .i64 m) := (HBW.cell (p := ⟨w.heap.size, 0, none⟩) (by simp)).trans (by simp)
                        have b1 : wr.cell? ⟨w.heap.size, 1, none⟩ = some (.int .i64 n) := (HBW.cell (p := ⟨w.heap.size, 1, none⟩) (by simp)).trans (by simp)
                        have b2 : wr.cell? ⟨w.heap.size, 2, none⟩ = some (.slice (some ⟨g, 0, none⟩) xs.length cap) := (HBW.cell (p := ⟨w.heap.size, 2, none⟩) (by simp)).trans (by simp)
                        have e0 : wr.cell? ⟨wo.heap.size, 0, none⟩ = some (.int .i64 c.x) := (hbi.cell (p := ⟨wo.heap.size, 0, none⟩) (by simp)).trans (by simp)
                        have e1 : wr.cell? ⟨wo.heap.size, 1, none⟩ = some (.int .i64 c.y) := (hbi.cell (p := ⟨wo.heap.size, 1, none⟩) (by simp)).trans (by simp)
                        have e2 : wr.cell? ⟨wo.heap.size, 2, none⟩ = some (.int .i64 c.w) := (hbi.cell (p := ⟨wo.heap.size, 2, none⟩) (by simp)).trans (by simp)
                        have e3 : wr.cell? ⟨wo.heap.size, 3, none⟩ = some (.int .i64 c.h) := (hbi.cell (p := ⟨wo.heap.size, 3, none⟩) (by simp)).trans (by simp)
                        have e4 : wr.cell? ⟨wo.heap.size, 4, none⟩ = some (.int .i64 c.c) := (hbi.cell (p := ⟨wo.heap.size, 4, none⟩) (by simp)).trans (by simp)
                        by_cases hlt2 : i < k
                        · obtain ⟨g', hg', _, _, hel, _⟩ := R.out.at (((bel0 w _).trans (HBW.mono (by omega))).mono hhi) (i := i) (by omega)
                          obtain rfl : g = g' := by simpa using hg'
                          clear hg'
                          obtain ⟨q0, q1, q2, q3, q4⟩ := hel
                          obtain ⟨d, hd⟩ : ∃ d, d = xs.getD i P5.zero := ⟨_, rfl⟩
                          have HF : Hid (Fit m n d) := Lib.hid (by rw [hd]; exact (hall.out i hlt2).1)
                          rw [← hd] at q0 q1 q2 q3 q4
                          have HD : Hid (d = pat xs i) := Lib.hid hd
                          obtain ⟨⟨d00, d01⟩, ⟨d10, d11⟩, ⟨d20, d21⟩, ⟨d30, d31⟩, _⟩ := HF.out
                          have HB2 : Hid (Below w.heap.size w wr) := Lib.hid ((bel0 w _).trans (HBW.mono (by omega)))
                          have HB3 := Lib.hid (bel_n hbi (by simp) (.cells #[.int .i64 d.x, .int .i64 d.y, .int .i64 d.w, .int .i64 d.h, .int .i64 d.c] 73))
                          have hsi := hbi.size
                          simp at hsi
                          have e0' := kept (bel0 wr (.cells #[.int .i64 d.x, .int .i64 d.y, .int .i64 d.w, .int .i64 d.h, .int .i64 d.c] 73)) e0
                          have e1' := kept (bel0 wr (.cells #[.int .i64 d.x, .int .i64 d.y, .int .i64 d.w, .int .i64 d.h, .int .i64 d.c] 73)) e1
                          have e2' := kept (bel0 wr (.cells #[.int .i64 d.x, .int .i64 d.y, .int .i64 d.w, .int .i64 d.h, .int .i64 d.c] 73)) e2
                          have e3' := kept (bel0 wr (.cells #[.int .i64 d.x, .int .i64 d.y, .int .i64 d.w, .int .i64 d.h, .int .i64 d.c] 73)) e3
                          have e4' := kept (bel0 wr (.cells #[.int .i64 d.x, .int .i64 d.y, .int .i64 d.w, .int .i64 d.h, .int .i64 d.c] 73)) e4
                          clear hd hbi HBW
                          by_cases g0 : c.x < d.x + d.w
                          · by_cases g1 : d.x < c.x + c.w
                            · by_cases g2 : c.y < d.y + d.h
                              · by_cases g3 : d.y < c.y + c.h
                                · have HH := Lib.hid (lay_no_hit (n := n) (m := m) hlt hlt2 (by rw [← HC.out, ← HD.out]; exact ⟨g0, g1, g2, g3⟩))
                                  go_wp2_with fail
                                  go_ret
                                  exact ⟨ret_bool HH.out, bel_n HB2.out (Nat.le_refl _) _⟩
                                · have HN : Hid (∀ j, j < i + 1 → ¬ Hit (pat xs k) (pat xs j)) := Lib.hid (fun j hj => by
                                    rcases Nat.lt_succ_iff_lt_or_eq.1 hj with h | rfl
                                    · exact hno.out j h
                                    · rw [← HC.out, ← HD.out]; exact fun z => g3 z.2.2.2)
                                  go_wp2_with fail
                                  go_roundw
                                  case rel => exact ⟨i + 1, by omega, by go_num, HN, HB3.out⟩
                                  case measure => simp [intOf] <;> omega
                              · have HN : Hid (∀ j, j < i + 1 → ¬ Hit (pat xs k) (pat xs j)) := Lib.hid (fun j hj => by
                                  rcases Nat.lt_succ_iff_lt_or_eq.1 hj with h | rfl
                                  · exact hno.out j h
                                  · rw [← HC.out, ← HD.out]; exact fun z => g2 z.2.2.1)
                                go_wp2_with fail
                                go_roundw
                                case rel => exact ⟨i + 1, by omega, by go_num, HN, HB3.out⟩
                                case measure => simp [intOf] <;> omega
                            · have HN : Hid (∀ j, j < i + 1 → ¬ Hit (pat xs k) (pat xs j)) := Lib.hid (fun j hj => by
                                rcases Nat.lt_succ_iff_lt_or_eq.1 hj with h | rfl
                                · exact hno.out j h
                                · rw [← HC.out, ← HD.out]; exact fun z => g1 z.2.1)
                              go_wp2_with fail
                              go_roundw
                              case rel => exact ⟨i + 1, by omega, by go_num, HN, HB3.out⟩
                              case measure => simp [intOf] <;> omega
                          · have HN : Hid (∀ j, j < i + 1 → ¬ Hit (pat xs k) (pat xs j)) := Lib.hid (fun j hj => by
                              rcases Nat.lt_succ_iff_lt_or_eq.1 hj with h | rfl
                              · exact hno.out j h
                              · rw [← HC.out, ← HD.out]; exact fun z => g0 z.1)
                            go_wp2_with fail
                            go_roundw
                            case rel => exact ⟨i + 1, by omega, by go_num, HN, HB3.out⟩
                            case measure => simp [intOf] <;> omega
                        · obtain rfl : i = k := by omega
                          have HN := Lib.hid (hall.out.succ (by rw [← HC.out]; exact ⟨⟨f00, f01⟩, ⟨f10, f11⟩, ⟨f20, f21⟩, ⟨f30, f31⟩, ⟨f40, f41⟩⟩) hno.out)
                          have HA := Lib.hid (ar_succ HAr.out HC.out)
                          obtain ⟨hw, s0, s1⟩ := mul_wrap (a := c.w) (b := c.h) (by omega) (by omega) (by omega) (by omega)
                          have HBQ := Lib.hid HBW
                          clear HBW hbi
                          go_wp2_with fail
                          go_roundw
                          case rel => exact ⟨i + 1, _, by omega, by go_num, rfl, HA, by omega, by omega, HN, HBQ.out⟩
                          case measure => simp [intOf] <;> omega
                    · have HH := Lib.hid (lay_no_fit (n := n) (m := m) hlt (by rw [← HC.out]; intro k; exact f4 k.2.2.2.2))
                      have HN : c.c < 0 ∨ 5 < c.c := by omega
                      clear f4
                      go_wp2_with fail
                      refine (In_yes _ _ _ _ f00 f01).mono ?_
                      rintro e w' ⟨rfl, rfl⟩
                      go_wp2_with fail
                      refine (In_yes _ _ _ _ f10 f11).mono ?_
                      rintro e w' ⟨rfl, rfl⟩
                      go_wp2_with fail
                      refine (In_yes _ _ _ _ f20 f21).mono ?_
                      rintro e w' ⟨rfl, rfl⟩
                      go_wp2_with fail
                      refine (In_yes _ _ _ _ f30 f31).mono ?_
                      rintro e w' ⟨rfl, rfl⟩
                      go_wp2_with fail
                      refine (In_no _ _ _ _ HN).mono ?_
                      rintro e w' ⟨rfl, rfl⟩
                      go_wp2_with fail
                      go_ret
                      exact ⟨ret_bool HH.out, HB0.out⟩
                  · have HH := Lib.hid (lay_no_fit (n := n) (m := m) hlt (by rw [← HC.out]; intro k; exact f3 k.2.2.2.1))
                    have HN : c.h < 1 ∨ n - c.y < c.h := by omega
                    clear f3
                    go_wp2_with fail
                    refine (In_yes _ _ _ _ f00 f01).mono ?_
                    rintro e w' ⟨rfl, rfl⟩
                    go_wp2_with fail
                    refine (In_yes _ _ _ _ f10 f11).mono ?_
                    rintro e w' ⟨rfl, rfl⟩
                    go_wp2_with fail
                    refine (In_yes _ _ _ _ f20 f21).mono ?_
                    rintro e w' ⟨rfl, rfl⟩
                    go_wp2_with fail
                    refine (In_no _ _ _ _ HN).mono ?_
                    rintro e w' ⟨rfl, rfl⟩
                    go_wp2_with fail
                    go_ret
                    exact ⟨ret_bool HH.out, HB0.out⟩
                · have HH := Lib.hid (lay_no_fit (n := n) (m := m) hlt (by rw [← HC.out]; intro k; exact f2 k.2.2.1))
                  have HN : c.w < 1 ∨ m - c.x < c.w := by omega
                  clear f2
                  go_wp2_with fail
                  refine (In_yes _ _ _ _ f00 f01).mono ?_
                  rintro e w' ⟨rfl, rfl⟩
                  go_wp2_with fail
                  refine (In_yes _ _ _ _ f10 f11).mono ?_
                  rintro e w' ⟨rfl, rfl⟩
                  go_wp2_with fail
                  refine (In_no _ _ _ _ HN).mono ?_
                  rintro e w' ⟨rfl, rfl⟩
                  go_wp2_with fail
                  go_ret
                  exact ⟨ret_bool HH.out, HB0.out⟩
              · have HH := Lib.hid (lay_no_fit (n := n) (m := m) hlt (by rw [← HC.out]; intro k; exact f1 k.2.1))
                have HN : c.y < 0 ∨ n - 1 < c.y := by omega
                clear f1
                go_wp2_with fail
                refine (In_yes _ _ _ _ f00 f01).mono ?_
                rintro e w' ⟨rfl, rfl⟩
                go_wp2_with fail
                refine (In_no _ _ _ _ HN).mono ?_
                rintro e w' ⟨rfl, rfl⟩
                go_wp2_with fail
                go_ret
                exact ⟨ret_bool HH.out, HB0.out⟩
            · have HH := Lib.hid (lay_no_fit (n := n) (m := m) hlt (by rw [← HC.out]; intro k; exact f0 k.1))
              have HN : c.x < 0 ∨ m - 1 < c.x := by omega
              clear f0
              go_wp2_with fail
              refine (In_no _ _ _ _ HN).mono ?_
              rintro e w' ⟨rfl, rfl⟩
              go_wp2_with fail
              go_ret
              exact ⟨ret_bool HH.out, HB0.out⟩
          · obtain rfl : k = xs.length := by omega
            have HH := Lib.hid (lay_is ⟨p00, p01⟩ ⟨p10, p11⟩ ⟨p20, p21⟩ hall.out)
            have HB0 := Lib.hid ((bel0 w _).trans (hbel.mono (by omega)))
            obtain ⟨hw, s0, s1⟩ := mul_wrap (a := m) (b := n) (by omega) (by omega) (by omega) (by omega)
            clear hbel
            go_wp2_with fail
            go_ret
            exact ⟨ret_bool (by rw [← HH.out, ← HAr.out]; first | rfl | simp [Int.beq_eq] | (by_cases z : A = m * n <;> simp [z])), HB0.out⟩
      · have HH := Lib.hid (lay_no_l (m := m) (n := n) (xs := xs) h2)
        have HN : (xs.length : Int) < 1 ∨ 12 < (xs.length : Int) := by omega
        clear h2
        go_enter Try.func50, Try.ntmps50
        go_wp2_with fail
        refine (In_yes _ _ _ _ p00 p01).mono ?_
        rintro e w' ⟨rfl, rfl⟩
        go_wp2_with fail
        refine (In_yes _ _ _ _ p10 p11).mono ?_
        rintro e w' ⟨rfl, rfl⟩
        go_wp2_with fail
        refine (In_no _ _ _ _ HN).mono ?_
        rintro e w' ⟨rfl, rfl⟩
        go_wp2_with fail
        go_ret
        exact ⟨ret_bool HH.out, bel0 _ _⟩
    · have HH := Lib.hid (lay_no_n (m := m) (n := n) (xs := xs) h1)
      have HN : n < 1 ∨ 12 < n := by omega
      clear h1
      go_enter Try.func50, Try.ntmps50
      go_wp2_with fail
      refine (In_yes _ _ _ _ p00 p01).mono ?_
      rintro e w' ⟨rfl, rfl⟩
      go_wp2_with fail
      refine (In_no _ _ _ _ HN).mono ?_
      rintro e w' ⟨rfl, rfl⟩
      go_wp2_with fail
      go_ret
      exact ⟨ret_bool HH.out, bel0 _ _⟩
  · have HH := Lib.hid (lay_no_m (m := m) (n := n) (xs := xs) h0)
    have HN : m < 1 ∨ 12 < m := by omega
    clear h0
    go_enter Try.func50, Try.ntmps50
    go_wp2_with fail
    refine (In_no _ _ _ _ HN).mono ?_
    rintro e w' ⟨rfl, rfl⟩
    go_wp2_with fail
    go_ret
    exact ⟨ret_bool HH.out, bel0 _ _⟩

end Go.Proofs.Ytlkiacgpiodkiaa

set_option linter.unusedSimpArgs false
set_option linter.unusedVariables false
namespace Go.Proofs.Ytlkiacgpiodkiaa
open Go.ChangeShapes Go.WideShapes Go.ChangeAt Go.RowKit

set_option maxHeartbeats 3200000 in
set_option maxRecDepth 20000 in
theorem SpecIsCut_any (lo hi : Nat) (m n : Int) (v : Value) (xs : List P5) (up : Bool) (a : Int) (w : World) (r : PatIn lo hi w v xs) (hhi : hi ≤ w.heap.size) :
    Calls Try.prog 57 #[.agg #[.int .i64 m, .int .i64 n, v], .agg #[.bool up, .int .i64 a]] w fun e w' => e = .returned (.bool (cutB m n xs ⟨up, a⟩)) ∧ Below w.heap.size w w' := by
  obtain ⟨b, cap, rfl⟩ := r.form
  have R := Lib.hid r
  have hl := r.1
  have LK : Hid (∀ u : World, Below w.heap.size w u → Calls Try.prog 50 #[.agg #[.int .i64 m, .int .i64 n, .slice b xs.length cap]] u fun e w' => e = .returned (.bool (layB m n xs)) ∧ Below u.heap.size u w') := Lib.hid (fun u hb => SpecLayoutOk_any lo hi m n _ xs u (r.below (hb.mono hhi)) (Nat.le_trans hhi hb.size))
  clear r
  cases up
  · have HB0 : Hid (Below w.heap.size w ((w.alloc (.cells #[.int .i64 m, .int .i64 n, .slice b xs.length cap] 50)).alloc (.cells #[.bool false, .int .i64 a] 86))) := Lib.hid (bel_n (bel0 w _) (Nat.le_refl _) _)
    by_cases h : layB m n xs = false
    · have HH := Lib.hid (cut_no_lay (c := ⟨false, a⟩) h)
      rw [h] at LK
      clear h
      go_enter Try.func57, Try.ntmps57
      go_wp2_with fail
      refine (LK.out _ HB0.out).mono ?_
      rintro e w1 ⟨rfl, hb1⟩
      have HBZ := Lib.hid (bel_c HB0.out (Nat.le_refl _) hb1)
      clear hb1
      go_wp2_with fail
      go_ret
      exact ⟨ret_bool HH.out, HBZ.out⟩
    · have h' : layB m n xs = true := by simpa using h
      obtain ⟨⟨p00, p01⟩, ⟨p10, p11⟩, ⟨p20, p21⟩, HL4, _⟩ := lay_of h'
      have HF : Hid (∀ i, i < xs.length → Fit m n (pat xs i)) := Lib.hid (fun i hi => (HL4 i hi).1)
      have HL := Lib.hid (cut_lay (c := ⟨false, a⟩) h')
      rw [h'] at LK
      clear h h' HL4
      by_cases h0 : 1 ≤ a ∧ a ≤ n - 1
      · obtain ⟨h1, h2⟩ := h0
        go_enter Try.func57, Try.ntmps57
        go_wp2_with fail
        refine (LK.out _ HB0.out).mono ?_
        rintro e w1 ⟨rfl, hb1⟩
        have HB1 : Below ((w.alloc (.cells #[.int .i64 m, .int .i64 n, .slice b xs.length cap] 50)).alloc (.cells #[.bool false, .int .i64 a] 86)).heap.size ((w.alloc (.cells #[.int .i64 m, .int .i64 n, .slice b xs.length cap] 50)).alloc (.cells #[.bool false, .int .i64 a] 86)) w1 := hb1
        have b0 := kept (p := ⟨w.heap.size, 0, none⟩) (x := .int .i64 m) hb1 (by go_simp)
        have b1 := kept (p := ⟨w.heap.size, 1, none⟩) (x := .int .i64 n) hb1 (by go_simp)
        have b2 := kept (p := ⟨w.heap.size, 2, none⟩) (x := .slice b xs.length cap) hb1 (by go_simp)
        have b3 := kept (p := ⟨w.heap.size + 1, 0, none⟩) (x := .bool false) hb1 (by go_simp)
        have b4 := kept (p := ⟨w.heap.size + 1, 1, none⟩) (x := .int .i64 a) hb1 (by go_simp)
        clear hb1
        go_wp2_with fail
        refine (In_yes _ _ _ _ h1 h2).mono ?_
        rintro e w' ⟨rfl, rfl⟩
        go_wp2_with fail
        go_loopw [6] (fun i wr => ∃ k : Nat, k ≤ xs.length ∧ i = .int .i64 k ∧ Hid (∀ j, j < k → thr ⟨false, a⟩ (pat xs j) = false) ∧ Below ((w.alloc (.cells #[.int .i64 m, .int .i64 n, .slice b xs.length cap] 50)).alloc (.cells #[.bool false, .int .i64 a] 86)).heap.size ((w.alloc (.cells #[.int .i64 m, .int .i64 n, .slice b xs.length cap] 50)).alloc (.cells #[.bool false, .int .i64 a] 86)) wr) (fun i _ => xs.length - (intOf i).toNat)
        case atStart => exact ⟨0, Nat.zero_le _, rfl, Lib.hid (fun j hj => by omega), HB1⟩
        case round =>
          obtain ⟨k, hk, rfl, hno, hbel⟩ := hrel
          have hsz := hbel.size
          simp at hsz
          have b0 : wr.cell? ⟨w.heap.size, 0, none⟩ = some (.int .i64 m) := (hbel.cell (p := ⟨w.heap.size, 0, none⟩) (by simp; omega)).trans (by simp)
          have b1 : wr.cell? ⟨w.heap.size, 1, none⟩ = some (.int .i64 n) := (hbel.cell (p := ⟨w.heap.size, 1, none⟩) (by simp; omega)).trans (by simp)
          have b2 : wr.cell? ⟨w.heap.size, 2, none⟩ = some (.slice b xs.length cap) := (hbel.cell (p := ⟨w.heap.size, 2, none⟩) (by simp; omega)).trans (by simp)
          have b3 : wr.cell? ⟨w.heap.size + 1, 0, none⟩ = some (.bool false) := (hbel.cell (p := ⟨w.heap.size + 1, 0, none⟩) (by simp)).trans (by simp)
          have b4 : wr.cell? ⟨w.heap.size + 1, 1, none⟩ = some (.int .i64 a) := (hbel.cell (p := ⟨w.heap.size + 1, 1, none⟩) (by simp)).trans (by simp)
          by_cases hlt : k < xs.length
          · obtain ⟨g, rfl, hg, hg1, hel, _⟩ := R.out.at ((bel_c HB0.out (Nat.le_refl _) hbel).mono hhi) hlt
            obtain ⟨q0, q1, q2, q3, q4⟩ := hel
            obtain ⟨d, hd⟩ : ∃ d, d = xs.getD k P5.zero := ⟨_, rfl⟩
            obtain ⟨⟨f00, f01⟩, ⟨f10, f11⟩, ⟨f20, f21⟩, ⟨f30, f31⟩, _⟩ : Fit m n d := by rw [hd]; exact HF.out k hlt
            rw [← hd] at q0 q1 q2 q3 q4
            have HD : Hid (d = pat xs k) := Lib.hid hd
            have HB3 := Lib.hid (bel_n hbel (Nat.le_refl _) (.cells #[.int .i64 d.x, .int .i64 d.y, .int .i64 d.w, .int .i64 d.h, .int .i64 d.c] 73))
            have HB2 := Lib.hid (bel_c HB0.out (Nat.le_refl _) HB3.out)
            have b0' := kept (bel0 wr (.cells #[.int .i64 d.x, .int .i64 d.y, .int .i64 d.w, .int .i64 d.h, .int .i64 d.c] 73)) b0
            have b1' := kept (bel0 wr (.cells #[.int .i64 d.x, .int .i64 d.y, .int .i64 d.w, .int .i64 d.h, .int .i64 d.c] 73)) b1
            have b2' := kept (bel0 wr (.cells #[.int .i64 d.x, .int .i64 d.y, .int .i64 d.w, .int .i64 d.h, .int .i64 d.c] 73)) b2
            have b3' := kept (bel0 wr (.cells #[.int .i64 d.x, .int .i64 d.y, .int .i64 d.w, .int .i64 d.h, .int .i64 d.c] 73)) b3
            have b4' := kept (bel0 wr (.cells #[.int .i64 d.x, .int .i64 d.y, .int .i64 d.w, .int .i64 d.h, .int .i64 d.c] 73)) b4
            clear hd hbel
            by_cases z1 : d.y < a
            · by_cases z2 : a < d.y + d.h
              · have HH := Lib.hid (has_no_at (m := m) (n := n) (c := ⟨false, a⟩) hlt (by rw [← HD.out]; simp [thr, z1, z2]))
                go_wp2_with fail
                go_ret
                exact ⟨ret_bool (HH.out.trans HL.out), HB2.out⟩
              · have HN : Hid (∀ j, j < k + 1 → thr ⟨false, a⟩ (pat xs j) = false) := Lib.hid (fun j hj => by
                  rcases Nat.lt_succ_iff_lt_or_eq.1 hj with h | rfl
                  · exact hno.out j h
                  · rw [← HD.out]; exact thr_f.2 (by omega))
                go_wp2_with fail
                go_roundw
                case rel => exact ⟨k + 1, by omega, by go_num, HN, HB3.out⟩
                case measure => simp [intOf] <;> omega
            · have HN : Hid (∀ j, j < k + 1 → thr ⟨false, a⟩ (pat xs j) = false) := Lib.hid (fun j hj => by
                rcases Nat.lt_succ_iff_lt_or_eq.1 hj with h | rfl
                · exact hno.out j h
                · rw [← HD.out]; exact thr_f.2 (by omega))
              go_wp2_with fail
              go_roundw
              case rel => exact ⟨k + 1, by omega, by go_num, HN, HB3.out⟩
              case measure => simp [intOf] <;> omega
          · obtain rfl : k = xs.length := by omega
            have HH := Lib.hid (has_yes (m := m) (n := n) (xs := xs) (c := ⟨false, a⟩) (by show 0 < a; omega) (by simp [endC]; omega) hno.out)
            have HBZ := Lib.hid (bel_c HB0.out (Nat.le_refl _) hbel)
            clear hbel
            go_wp2_with fail
            go_ret
            exact ⟨ret_bool (HH.out.trans HL.out), HBZ.out⟩
      · have h1 : a < 1 ∨ n - 1 < a := by omega
        have HH : Hid (false = hasC m n xs ⟨false, a⟩) := Lib.hid (by
          rcases h1 with h1 | h1
          · exact has_no_lo (by show a ≤ 0; omega)
          · exact has_no_hi (by simp [endC]; omega))
        clear h0
        go_enter Try.func57, Try.ntmps57
        go_wp2_with fail
        refine (LK.out _ HB0.out).mono ?_
        rintro e w1 ⟨rfl, hb1⟩
        have HBZ := Lib.hid (bel_c HB0.out (Nat.le_refl _) hb1)
        have b0 := kept (p := ⟨w.heap.size, 0, none⟩) (x := .int .i64 m) hb1 (by go_simp)
        have b1 := kept (p := ⟨w.heap.size, 1, none⟩) (x := .int .i64 n) hb1 (by go_simp)
        have b2 := kept (p := ⟨w.heap.size, 2, none⟩) (x := .slice b xs.length cap) hb1 (by go_simp)
        have b3 := kept (p := ⟨w.heap.size + 1, 0, none⟩) (x := .bool false) hb1 (by go_simp)
        have b4 := kept (p := ⟨w.heap.size + 1, 1, none⟩) (x := .int .i64 a) hb1 (by go_simp)
        clear hb1
        go_wp2_with fail
        refine (In_no _ _ _ _ h1).mono ?_
        rintro e w' ⟨rfl, rfl⟩
        go_wp2_with fail
        go_ret
        exact ⟨ret_bool (HH.out.trans HL.out), HBZ.out⟩
  · have HB0 : Hid (Below w.heap.size w ((w.alloc (.cells #[.int .i64 m, .int .i64 n, .slice b xs.length cap] 50)).alloc (.cells #[.bool true, .int .i64 a] 86))) := Lib.hid (bel_n (bel0 w _) (Nat.le_refl _) _)
    by_cases h : layB m n xs = false
    · have HH := Lib.hid (cut_no_lay (c := ⟨true, a⟩) h)
      rw [h] at LK
      clear h
      go_enter Try.func57, Try.ntmps57
      go_wp2_with fail
      refine (LK.out _ HB0.out).mono ?_
      rintro e w1 ⟨rfl, hb1⟩
      have HBZ := Lib.hid (bel_c HB0.out (Nat.le_refl _) hb1)
      clear hb1
      go_wp2_with fail
      go_ret
      exact ⟨ret_bool HH.out, HBZ.out⟩
    · have h' : layB m n xs = true := by simpa using h
      obtain ⟨⟨p00, p01⟩, ⟨p10, p11⟩, ⟨p20, p21⟩, HL4, _⟩ := lay_of h'
      have HF : Hid (∀ i, i < xs.length → Fit m n (pat xs i)) := Lib.hid (fun i hi => (HL4 i hi).1)
      have HL := Lib.hid (cut_lay (c := ⟨true, a⟩) h')
      rw [h'] at LK
      clear h h' HL4
      by_cases h0 : 1 ≤ a ∧ a ≤ m - 1
      · obtain ⟨h1, h2⟩ := h0
        go_enter Try.func57, Try.ntmps57
        go_wp2_with fail
        refine (LK.out _ HB0.out).mono ?_
        rintro e w1 ⟨rfl, hb1⟩
        have HB1 : Below ((w.alloc (.cells #[.int .i64 m, .int .i64 n, .slice b xs.length cap] 50)).alloc (.cells #[.bool true, .int .i64 a] 86)).heap.size ((w.alloc (.cells #[.int .i64 m, .int .i64 n, .slice b xs.length cap] 50)).alloc (.cells #[.bool true, .int .i64 a] 86)) w1 := hb1
        have b0 := kept (p := ⟨w.heap.size, 0, none⟩) (x := .int .i64 m) hb1 (by go_simp)
        have b1 := kept (p := ⟨w.heap.size, 1, none⟩) (x := .int .i64 n) hb1 (by go_simp)
        have b2 := kept (p := ⟨w.heap.size, 2, none⟩) (x := .slice b xs.length cap) hb1 (by go_simp)
        have b3 := kept (p := ⟨w.heap.size + 1, 0, none⟩) (x := .bool true) hb1 (by go_simp)
        have b4 := kept (p := ⟨w.heap.size + 1, 1, none⟩) (x := .int .i64 a) hb1 (by go_simp)
        clear hb1
        go_wp2_with fail
        refine (In_yes _ _ _ _ h1 h2).mono ?_
        rintro e w' ⟨rfl, rfl⟩
        go_wp2_with fail
        go_loopw [6] (fun i wr => ∃ k : Nat, k ≤ xs.length ∧ i = .int .i64 k ∧ Hid (∀ j, j < k → thr ⟨true, a⟩ (pat xs j) = false) ∧ Below ((w.alloc (.cells #[.int .i64 m, .int .i64 n, .slice b xs.length cap] 50)).alloc (.cells #[.bool true, .int .i64 a] 86)).heap.size ((w.alloc (.cells #[.int .i64 m, .int .i64 n, .slice b xs.length cap] 50)).alloc (.cells #[.bool true, .int .i64 a] 86)) wr) (fun i _ => xs.length - (intOf i).toNat)
        case atStart => exact ⟨0, Nat.zero_le _, rfl, Lib.hid (fun j hj => by omega), HB1⟩
        case round =>
          obtain ⟨k, hk, rfl, hno, hbel⟩ := hrel
          have hsz := hbel.size
          simp at hsz
          have b0 : wr.cell? ⟨w.heap.size, 0, none⟩ = some (.int .i64 m) := (hbel.cell (p := ⟨w.heap.size, 0, none⟩) (by simp; omega)).trans (by simp)
          have b1 : wr.cell? ⟨w.heap.size, 1, none⟩ = some (.int .i64 n) := (hbel.cell (p := ⟨w.heap.size, 1, none⟩) (by simp; omega)).trans (by simp)
          have b2 : wr.cell? ⟨w.heap.size, 2, none⟩ = some (.slice b xs.length cap) := (hbel.cell (p := ⟨w.heap.size, 2, none⟩) (by simp; omega)).trans (by simp)
          have b3 : wr.cell? ⟨w.heap.size + 1, 0, none⟩ = some (.bool true) := (hbel.cell (p := ⟨w.heap.size + 1, 0, none⟩) (by simp)).trans (by simp)
          have b4 : wr.cell? ⟨w.heap.size + 1, 1, none⟩ = some (.int .i64 a) := (hbel.cell (p := ⟨w.heap.size + 1, 1, none⟩) (by simp)).trans (by simp)
          by_cases hlt : k < xs.length
          · obtain ⟨g, rfl, hg, hg1, hel, _⟩ := R.out.at ((bel_c HB0.out (Nat.le_refl _) hbel).mono hhi) hlt
            obtain ⟨q0, q1, q2, q3, q4⟩ := hel
            obtain ⟨d, hd⟩ : ∃ d, d = xs.getD k P5.zero := ⟨_, rfl⟩
            obtain ⟨⟨f00, f01⟩, ⟨f10, f11⟩, ⟨f20, f21⟩, ⟨f30, f31⟩, _⟩ : Fit m n d := by rw [hd]; exact HF.out k hlt
            rw [← hd] at q0 q1 q2 q3 q4
            have HD : Hid (d = pat xs k) := Lib.hid hd
            have HB3 := Lib.hid (bel_n hbel (Nat.le_refl _) (.cells #[.int .i64 d.x, .int .i64 d.y, .int .i64 d.w, .int .i64 d.h, .int .i64 d.c] 73))
            have HB2 := Lib.hid (bel_c HB0.out (Nat.le_refl _) HB3.out)
            have b0' := kept (bel0 wr (.cells #[.int .i64 d.x, .int .i64 d.y, .int .i64 d.w, .int .i64 d.h, .int .i64 d.c] 73)) b0
            have b1' := kept (bel0 wr (.cells #[.int .i64 d.x, .int .i64 d.y, .int .i64 d.w, .int .i64 d.h, .int .i64 d.c] 73)) b1
            have b2' := kept (bel0 wr (.cells #[.int .i64 d.x, .int .i64 d.y, .int .i64 d.w, .int .i64 d.h, .int .i64 d.c] 73)) b2
            have b3' := kept (bel0 wr (.cells #[.int .i64 d.x, .int .i64 d.y, .int .i64 d.w, .int .i64 d.h, .int .i64 d.c] 73)) b3
            have b4' := kept (bel0 wr (.cells #[.int .i64 d.x, .int .i64 d.y, .int .i64 d.w, .int .i64 d.h, .int .i64 d.c] 73)) b4
            clear hd hbel
            by_cases z1 : d.x < a
            · by_cases z2 : a < d.x + d.w
              · have HH := Lib.hid (has_no_at (m := m) (n := n) (c := ⟨true, a⟩) hlt (by rw [← HD.out]; simp [thr, z1, z2]))
                go_wp2_with fail
                go_ret
                exact ⟨ret_bool (HH.out.trans HL.out), HB2.out⟩
              · have HN : Hid (∀ j, j < k + 1 → thr ⟨true, a⟩ (pat xs j) = false) := Lib.hid (fun j hj => by
                  rcases Nat.lt_succ_iff_lt_or_eq.1 hj with h | rfl
                  · exact hno.out j h
                  · rw [← HD.out]; exact thr_t.2 (by omega))
                go_wp2_with fail
                go_roundw
                case rel => exact ⟨k + 1, by omega, by go_num, HN, HB3.out⟩
                case measure => simp [intOf] <;> omega
            · have HN : Hid (∀ j, j < k + 1 → thr ⟨true, a⟩ (pat xs j) = false) := Lib.hid (fun j hj => by
                rcases Nat.lt_succ_iff_lt_or_eq.1 hj with h | rfl
                · exact hno.out j h
                · rw [← HD.out]; exact thr_t.2 (by omega))
              go_wp2_with fail
              go_roundw
              case rel => exact ⟨k + 1, by omega, by go_num, HN, HB3.out⟩
              case measure => simp [intOf] <;> omega
          · obtain rfl : k = xs.length := by omega
            have HH := Lib.hid (has_yes (m := m) (n := n) (xs := xs) (c := ⟨true, a⟩) (by show 0 < a; omega) (by simp [endC]; omega) hno.out)
            have HBZ := Lib.hid (bel_c HB0.out (Nat.le_refl _) hbel)
            clear hbel
            go_wp2_with fail
            go_ret
            exact ⟨ret_bool (HH.out.trans HL.out), HBZ.out⟩
      · have h1 : a < 1 ∨ m - 1 < a := by omega
        have HH : Hid (false = hasC m n xs ⟨true, a⟩) := Lib.hid (by
          rcases h1 with h1 | h1
          · exact has_no_lo (by show a ≤ 0; omega)
          · exact has_no_hi (by simp [endC]; omega))
        clear h0
        go_enter Try.func57, Try.ntmps57
        go_wp2_with fail
        refine (LK.out _ HB0.out).mono ?_
        rintro e w1 ⟨rfl, hb1⟩
        have HBZ := Lib.hid (bel_c HB0.out (Nat.le_refl _) hb1)
        have b0 := kept (p := ⟨w.heap.size, 0, none⟩) (x := .int .i64 m) hb1 (by go_simp)
        have b1 := kept (p := ⟨w.heap.size, 1, none⟩) (x := .int .i64 n) hb1 (by go_simp)
        have b2 := kept (p := ⟨w.heap.size, 2, none⟩) (x := .slice b xs.length cap) hb1 (by go_simp)
        have b3 := kept (p := ⟨w.heap.size + 1, 0, none⟩) (x := .bool true) hb1 (by go_simp)
        have b4 := kept (p := ⟨w.heap.size + 1, 1, none⟩) (x := .int .i64 a) hb1 (by go_simp)
        clear hb1
        go_wp2_with fail
        refine (In_no _ _ _ _ h1).mono ?_
        rintro e w' ⟨rfl, rfl⟩
        go_wp2_with fail
        go_ret
        exact ⟨ret_bool (HH.out.trans HL.out), HBZ.out⟩

end Go.Proofs.Ytlkiacgpiodkiaa
