/- Layouts: a layout is drawn. -/
import Derived.Test.YtlkiacgpiodkiaaLayD2

set_option linter.unusedSimpArgs false
set_option linter.unusedVariables false
namespace Go.Proofs.Ytlkiacgpiodkiaa
open Go.ChangeShapes Go.WideShapes Go.ChangeAt Go.RowKit

theorem own_le9 {w : World} {base base' e size n : Nat} {v : Value} {xs : List Value} (h : w.ownsRow base e size v n xs) (hb : base' ≤ base) : w.ownsRow base' e size v n xs :=
  ⟨h.1, h.2.imp id (fun ⟨g, cap, cur, hv, hg, r⟩ => ⟨g, cap, cur, hv, Nat.le_trans hb hg, r⟩)⟩
theorem rowAt {u : World} {B g L k : Nat} {xs : List P5} (h : u.ownsRow B 73 5 (.slice (some ⟨g, 0, none⟩) L k) L (placesPat xs)) {i : Nat} (hi : i < xs.length) (hL : L = xs.length := by rfl) :
    u.cell? ⟨g, i * 5, none⟩ = some (.int .i64 (pat xs i).x) ∧ u.cell? ⟨g, i * 5 + 1, none⟩ = some (.int .i64 (pat xs i).y) ∧ u.cell? ⟨g, i * 5 + 2, none⟩ = some (.int .i64 (pat xs i).w) ∧ u.cell? ⟨g, i * 5 + 3, none⟩ = some (.int .i64 (pat xs i).h) ∧ u.cell? ⟨g, i * 5 + 4, none⟩ = some (.int .i64 (pat xs i).c) := by
  subst hL
  obtain ⟨p0, p1, p2, p3, p4⟩ := placesPat_at xs i hi
  exact ⟨(h.cellAt _ (by omega)).trans p0, (h.cellAt _ (by omega)).trans p1, (h.cellAt _ (by omega)).trans p2, (h.cellAt _ (by omega)).trans p3, (h.cellAt _ (by omega)).trans p4⟩

/-- A valid layout is handed back; the cursor goes on. -/
def DrawnL (b : Nat) (a : Option Addr) (len cap : Nat) (w : World) (e : Ending) (w' : World) : Prop :=
  ∃ (m n : Int) (v : Value) (xs : List P5), LayOk m n xs ∧ e = .returned (.agg #[.int .i64 m, .int .i64 n, v]) ∧ PatIn w.heap.size w'.heap.size w' v xs ∧ Cur w' b a len cap ∧ But b w w'

set_option maxHeartbeats 4000000 in
set_option maxRecDepth 20000 in
theorem LayoutDraw_any (b : Nat) (a : Option Addr) (len cap : Nat) (w : World) (hcur : Cur w b a len cap) :
    Calls Try.prog 34 #[.pointer (some ⟨b, 0, none⟩)] w (DrawnL b a len cap w) := by
  have HC := Lib.hid hcur
  have hlt := hcur.lt
  clear hcur
  obtain ⟨i0, hi0, hz0, hz1, hz2⟩ := info_parts3 info_Pat
  go_enter Try.func34, Try.ntmps34
  go_wp2_with fail
  refine (Below_any b a len cap 8 _ (HC.out.alloc _) (by omega) (by omega)).mono ?_
  rintro e w1 ⟨d, ⟨d0, d1⟩, rfl, hcw1, hbw1⟩
  have R1 := (BoxL.new w (.int .i64 0) (.int .i64 0) (.slice none 0 0) 50).but hbw1 (by omega)
  have U1 : But b w w1 := ((But.refl b w).alloc _).trans hbw1
  have z1 : w.heap.size < w1.heap.size := by have := hbw1.size; simp at this; omega
  clear hbw1
  go_wp2_with fail
  refine (Below_any b a len cap 8 _ hcw1 (by omega) (by omega)).mono ?_
  rintro e w2 ⟨f, ⟨f0, f1⟩, rfl, hcw2, hbw2⟩
  have R2 := R1.but hbw2 (by omega)
  have U2 := U1.trans hbw2
  have z2 : w.heap.size < w2.heap.size := by have := hbw2.size; omega
  clear hbw2 R1 U1 hcw1
  obtain ⟨m, hm⟩ : ∃ m, 2 + d = m := ⟨_, rfl⟩
  obtain ⟨n, hn⟩ : ∃ n, 2 + f = n := ⟨_, rfl⟩
  have m0 : 1 ≤ m := by omega
  have m1 : m ≤ 12 := by omega
  have n0 : 1 ≤ n := by omega
  have n1 : n ≤ 12 := by omega
  have W2 : Below w2.heap.size w2 ((w2.alloc (.cells #[.int .i64 m, .int .i64 n, .slice (some ⟨w2.heap.size + 1, 0, none⟩) 1 1] 50)).alloc (.cells #[.int .i64 0, .int .i64 0, .int .i64 m, .int .i64 n, .int .i64 0] 73)) := bel_n (bel0 w2 _) (Nat.le_refl _) _
  have LS1 : LS b w2.heap.size a len cap w m n (.slice (some ⟨w2.heap.size + 1, 0, none⟩) 1 1) [⟨0, 0, m, n, 0⟩] ((w2.alloc (.cells #[.int .i64 m, .int .i64 n, .slice (some ⟨w2.heap.size + 1, 0, none⟩) 1 1] 50)).alloc (.cells #[.int .i64 0, .int .i64 0, .int .i64 m, .int .i64 n, .int .i64 0] 73)) := by
    refine ⟨?_, (BoxL.new w2 _ _ _ _).below (bel0 _ _) (by simp), R2.below W2 z2, hcw2.kept W2, U2.trans (But.of_below W2), by simp, z2, hlt⟩
    simpa [placesPat] using World.ownsRow_lit (base := w2.heap.size + 1) (e := 73) (size := 5) (w2.alloc (.cells #[.int .i64 m, .int .i64 n, .slice (some ⟨w2.heap.size + 1, 0, none⟩) 1 1] 50)) #[.int .i64 0, .int .i64 0, .int .i64 m, .int .i64 n, .int .i64 0] 1 (by simp) (by decide) rfl
  have HS1 := Lib.hid (lay_start m0 m1 n0 n1)
  have HL1 := Lib.hid LS1
  clear W2 LS1 R2 U2 hcw2
  go_wp2_with fail
  refine (Once_any b a len cap 6 _ HL1.out.cur (by omega) (by omega)).mono ?_
  rintro e w3 ⟨x, rfl, hc3, hb3⟩
  have LS3 := HL1.out.go hb3 hc3
  clear hb3 hc3 HL1
  cases x
  · have HLS3 := Lib.hid LS3
    clear LS3
    go_wp2_with fail
    refine (Below_any b a len cap 8 _ HLS3.out.cur (by omega) (by omega)).mono ?_
    rintro e w5 ⟨q, ⟨q0, q1⟩, rfl, hcw5, hbw5⟩
    have LS0 := HLS3.out.go hbw5 hcw5
    have HOK0 := HS1.out
    clear HLS3 hbw5 hcw5
    obtain ⟨Q, rfl⟩ : ∃ Q : Nat, q = Q := ⟨q.toNat, by omega⟩
    have HL := Lib.hid LS0
    have HK := Lib.hid HOK0
    clear LS0 HOK0
    go_wp2_with fail
    go_loopw [5] (fun i wr => ∃ (k : Nat) (M N : Int) (v : Value) (xs : List P5), k ≤ Q ∧ i = .int .i64 k ∧ Hid (LayOk M N xs) ∧ Hid (LS b w2.heap.size a len cap w M N v xs wr)) (fun i _ => Q - (intOf i).toNat)
    case atStart => exact ⟨0, _, _, _, _, Nat.zero_le _, rfl, HK, HL⟩
    case round =>
      obtain ⟨k, M, N, v, xs, hk, rfl, hok, hls⟩ := hrel
      have hx0 := hok.out.2.2.1
      by_cases hlt2 : k < Q
      · by_cases h12 : xs.length < 12
        · obtain ⟨g, kc, rfl, hg, _⟩ := hls.out.own.form (by omega)
          obtain ⟨_, _, b2, _, _, _⟩ := id hls.out.box
          have hlo := hls.out.lo
          go_wp2_with fail
          clear b2
          refine (Below_any b a len cap (xs.length : Int) _ hls.out.cur (by omega) (by omega)).mono ?_
          rintro e u1 ⟨j, ⟨j0, j1⟩, rfl, hcu1, hbu1⟩
          obtain ⟨i, rfl⟩ : ∃ i : Nat, j = i := ⟨j.toNat, by omega⟩
          have hi : i < xs.length := by omega
          have L1 := hls.out.go hbu1 hcu1
          have hgu : g < u1.heap.size := (by obtain ⟨_, _, e, _, hg2⟩ := L1.own.form (by omega); simp at e; omega)
          have hlbu : w2.heap.size + 1 ≤ u1.heap.size := L1.size
          obtain ⟨e0, e1, e2, e3, e4⟩ := rowAt L1.own hi
          obtain ⟨c, hc⟩ : ∃ c, c = pat xs i := ⟨_, rfl⟩
          rw [← hc] at e0 e1 e2 e3 e4
          have HC := Lib.hid hc
          obtain ⟨⟨f00, f01⟩, ⟨f10, f11⟩, ⟨f20, f21⟩, ⟨f30, f31⟩, f40, f41⟩ : Fit M N c := by rw [hc]; exact hok.out.fit hi
          have hM := hok.out.1.2
          have hN := hok.out.2.1.2
          have s0 := BoxP.new u1 c 73
          have WW : Below u1.heap.size u1 ((u1.alloc (.cells #[.int .i64 c.x, .int .i64 c.y, .int .i64 c.w, .int .i64 c.h, .int .i64 c.c] 73)).alloc (.cells #[.int .i64 c.x, .int .i64 c.y, .int .i64 c.w, .int .i64 c.h, .int .i64 c.c] 73)) := bel_n (bel0 u1 _) (Nat.le_refl _) _
          have P2 : BoxP u1.heap.size c ((u1.alloc (.cells #[.int .i64 c.x, .int .i64 c.y, .int .i64 c.w, .int .i64 c.h, .int .i64 c.c] 73)).alloc (.cells #[.int .i64 c.x, .int .i64 c.y, .int .i64 c.w, .int .i64 c.h, .int .i64 c.c] 73)) := s0.below (bel0 _ _) (by simp)
          have Q2 : BoxP (u1.heap.size + 1) c ((u1.alloc (.cells #[.int .i64 c.x, .int .i64 c.y, .int .i64 c.w, .int .i64 c.h, .int .i64 c.c] 73)).alloc (.cells #[.int .i64 c.x, .int .i64 c.y, .int .i64 c.w, .int .i64 c.h, .int .i64 c.c] 73)) := by simpa using BoxP.new (u1.alloc (.cells #[.int .i64 c.x, .int .i64 c.y, .int .i64 c.w, .int .i64 c.h, .int .i64 c.c] 73)) c 73
          have L2 := L1.new WW
          have U2 : But b u1 ((u1.alloc (.cells #[.int .i64 c.x, .int .i64 c.y, .int .i64 c.w, .int .i64 c.h, .int .i64 c.c] 73)).alloc (.cells #[.int .i64 c.x, .int .i64 c.y, .int .i64 c.w, .int .i64 c.h, .int .i64 c.c] 73)) := But.of_below WW
          obtain ⟨_, _, b2, _, _, _⟩ := id L1.box
          clear hbu1 s0 WW hc
          go_wp2_with fail
          clear b2 e0 e1 e2 e3 e4
          refine (Once_any b a len cap 2 _ L2.cur (by omega) (by omega)).mono ?_
          rintro e u3 ⟨x, rfl, hcu3, hbu3⟩
          have U3 := U2.trans hbu3
          have P3 := P2.but hbu3 (by have := L1.bl; have := L1.lo; omega)
          have Q3 := Q2.but hbu3 (by have := L1.bl; have := L1.lo; omega)
          have hbl := L1.bl
          clear hbu3 U2 P2 Q2 L2
          cases x
          · by_cases hh : 1 < c.h
            · obtain ⟨⟨p0, p1, p2, p3, p4⟩, pf0, pf1, pf2, pf3, pf4⟩ := id P3
              go_wp2_with fail
              clear p0 pf0 p1 pf1 p2 pf2 p3 pf3 p4 pf4
              refine (Below_any b a len cap (c.h - 1) _ hcu3 (by omega) (by omega)).mono ?_
              rintro e u4 ⟨d, ⟨d0, d1⟩, rfl, hcu4, hbu4⟩
              have U4 := U3.trans hbu4
              have P4 := P3.but hbu4 (by omega)
              have Q4 := Q3.but hbu4 (by omega)
              clear hbu4 U3 P3 Q3
              have P5 : BoxP (u1.heap.size) ⟨c.x, c.y, c.w, 1 + d, c.c⟩ (((u4.setCell ⟨u1.heap.size + 1, 1, none⟩ (.int .i64 (c.y + (1 + d)))).setCell ⟨u1.heap.size + 1, 3, none⟩ (.int .i64 (c.h - (1 + d)))).setCell ⟨u1.heap.size, 3, none⟩ (.int .i64 (1 + d))) := ((P4.far (by simp) _).far (by simp) _).put3 _
              have Q5 : BoxP (u1.heap.size + 1) ⟨c.x, c.y + (1 + d), c.w, c.h - (1 + d), c.c⟩ (((u4.setCell ⟨u1.heap.size + 1, 1, none⟩ (.int .i64 (c.y + (1 + d)))).setCell ⟨u1.heap.size + 1, 3, none⟩ (.int .i64 (c.h - (1 + d)))).setCell ⟨u1.heap.size, 3, none⟩ (.int .i64 (1 + d))) := ((Q4.put1 _).put3 _).far (by simp) _
              have hc5 : Cur (((u4.setCell ⟨u1.heap.size + 1, 1, none⟩ (.int .i64 (c.y + (1 + d)))).setCell ⟨u1.heap.size + 1, 3, none⟩ (.int .i64 (c.h - (1 + d)))).setCell ⟨u1.heap.size, 3, none⟩ (.int .i64 (1 + d))) b a len cap := hcu4.below (B := u1.heap.size) (((((Below.refl (u1.heap.size) u4).setCell (p := ⟨u1.heap.size + 1, 1, none⟩) (by simp) _).setCell (p := ⟨u1.heap.size + 1, 3, none⟩) (by simp) _).setCell (p := ⟨u1.heap.size, 3, none⟩) (by simp) _)) (by omega)
              have U5 : But b u1 (((u4.setCell ⟨u1.heap.size + 1, 1, none⟩ (.int .i64 (c.y + (1 + d)))).setCell ⟨u1.heap.size + 1, 3, none⟩ (.int .i64 (c.h - (1 + d)))).setCell ⟨u1.heap.size, 3, none⟩ (.int .i64 (1 + d))) := But.setCell (But.setCell (But.setCell U4 (.inr (by simp)) _) (.inr (by simp)) _) (.inr (by simp)) _
              obtain ⟨⟨p0, p1, p2, p3, p4⟩, pf0, pf1, pf2, pf3, pf4⟩ := id P4
              obtain ⟨⟨q0, q1, q2, q3, q4⟩, qf0, qf1, qf2, qf3, qf4⟩ := id Q4
              clear P4 Q4 U4 hcu4
              go_wp2_with fail
              clear p0 pf0 p1 pf1 p2 pf2 p3 pf3 p4 pf4
              clear q0 qf0 q1 qf1 q2 qf2 q3 qf3 q4 qf4
              refine (Below_any b a len cap 5 _ hc5 (by omega) (by omega)).mono ?_
              rintro e u6 ⟨z, ⟨z0, z1⟩, rfl, hcu6, hbu6⟩
              have U6 := U5.trans hbu6
              have P6 := P5.but hbu6 (by omega)
              have Q6 := Q5.but hbu6 (by omega)
              clear hbu6 U5 P5 Q5 hc5
              have hc7 : Cur (u6.setCell ⟨u1.heap.size + 1, 4, none⟩ (.int .i64 z)) b a len cap := hcu6.below (B := u1.heap.size) ((Below.refl (u1.heap.size) u6).setCell (p := ⟨u1.heap.size + 1, 4, none⟩) (by simp) _) (by omega)
              have L7 : LS b w2.heap.size a len cap w M N (.slice (some ⟨g, 0, none⟩) xs.length kc) xs (u6.setCell ⟨u1.heap.size + 1, 4, none⟩ (.int .i64 z)) := L1.go (But.setCell U6 (.inr (by simp)) _) hc7
              have P7 : BoxP (u1.heap.size) ⟨c.x, c.y, c.w, 1 + d, c.c⟩ (u6.setCell ⟨u1.heap.size + 1, 4, none⟩ (.int .i64 z)) := P6.far (by simp) _
              have Q7 : BoxP (u1.heap.size + 1) ⟨c.x, c.y + (1 + d), c.w, c.h - (1 + d), z⟩ (u6.setCell ⟨u1.heap.size + 1, 4, none⟩ (.int .i64 z)) := Q6.put4 _
              obtain ⟨U, hU⟩ : ∃ U, (u6.setCell ⟨u1.heap.size + 1, 4, none⟩ (.int .i64 z)) = U := ⟨_, rfl⟩
              rw [hU] at L7 P7 Q7
              obtain ⟨V, hV⟩ : ∃ V, (((((U.setCell ⟨g, i * 5, none⟩ (.int .i64 (c.x))).setCell ⟨g, i * 5 + 1, none⟩ (.int .i64 (c.y))).setCell ⟨g, i * 5 + 2, none⟩ (.int .i64 (c.w))).setCell ⟨g, i * 5 + 3, none⟩ (.int .i64 (1 + d))).setCell ⟨g, i * 5 + 4, none⟩ (.int .i64 (c.c))) = V := ⟨_, rfl⟩
              have L8 : LS b w2.heap.size a len cap w M N (.slice (some ⟨g, 0, none⟩) xs.length kc) (xs.set i ⟨c.x, c.y, c.w, 1 + d, c.c⟩) V := by rw [← hV]; exact L7.put hi (c.x) (c.y) (c.w) (1 + d) (c.c) rfl
              have Q8 : BoxP (u1.heap.size + 1) ⟨c.x, c.y + (1 + d), c.w, c.h - (1 + d), z⟩ V := by rw [← hV]; exact ((((Q7.far (by simp; omega) _).far (by simp; omega) _).far (by simp; omega) _).far (by simp; omega) _).far (by simp; omega) _
              have L9 := L8.new (bel0 _ (.cells #[.int .i64 (c.x), .int .i64 (c.y + (1 + d)), .int .i64 (c.w), .int .i64 (c.h - (1 + d)), .int .i64 (z)] 73))
              have HL9 := Lib.hid L9
              have HO9 := Lib.hid L9.own
              have HNW := Lib.hid (newsL V V.heap.size #[.int .i64 (c.x), .int .i64 (c.y + (1 + d)), .int .i64 (c.w), .int .i64 (c.h - (1 + d)), .int .i64 (z)] 73 rfl)
              obtain ⟨_, _, b2', _, _, _⟩ := id L7.box
              obtain ⟨_, _, b2x, _, _, _⟩ := id L8.box
              obtain ⟨⟨_, _, _, _, q4⟩, _, _, _, _, qf4⟩ := id Q6
              obtain ⟨⟨p0, p1, p2, p3, p4⟩, _⟩ := id P7
              obtain ⟨⟨y0, y1, y2, y3, y4⟩, _⟩ := id Q8
              dsimp only at q4 p0 p1 p2 p3 p4 y0 y1 y2 y3 y4
              obtain ⟨r0, r1, r2, r3, r4⟩ := rowAt L7.own hi
              have rf0 := L7.own.frozenAt (i * 5)
              have rf1 := L7.own.frozenAt (i * 5 + 1)
              have rf2 := L7.own.frozenAt (i * 5 + 2)
              have rf3 := L7.own.frozenAt (i * 5 + 3)
              have rf4 := L7.own.frozenAt (i * 5 + 4)
              have HLN : Hid (LayOk M N (xs.set i ⟨c.x, c.y, c.w, 1 + d, c.c⟩ ++ [⟨c.x, c.y + (1 + d), c.w, c.h - (1 + d), z⟩])) := Lib.hid (lay_cuth hok.out hi h12 HC.out (d := 1 + d) (k := z) (by omega) (by omega) (by omega) (by omega))
              have hxl : (xs.set i ⟨c.x, c.y, c.w, 1 + d, c.c⟩).length = xs.length := List.length_set ..
              have HS9 := Lib.hid L9.size
              have hLn : (xs.length : Int) ≤ 11 := by omega
              have hi2 : (i : Int) < (xs.length : Int) := by omega
              have hi3 : (0 : Int) ≤ (i : Int) := by omega
              clear L7 P7 Q7 L8 Q8 L9 hc7 P6 Q6 U6 hcu6 hls hok L1 hcu1 HC
              clear f00 f01 f10 f11 f20 f21 f30 f31 f40 f41 d0 d1 hM hN
              go_wp2_with (at_builtin; refine wpList_append_lies _ rfl _ _ 48 rfl (w2.heap.size + 1) 73 i0 _ 5 40 Try.underlying48 hi0 hz0 hz1 hz2 rfl (by decide) _ _ _ rfl HO9.out ⟨_, 0, none⟩ 1 1 [.int .i64 (c.x), .int .i64 (c.y + (1 + d)), .int .i64 (c.w), .int .i64 (c.h - (1 + d)), .int .i64 (z)] rfl rfl HNW.out (by simp [Value.oneCell']) (by omega) (by unfold maxLen; omega) (by omega) HS9.out _ rfl ?_; intro gg cc w5 hown5 hgrow hat hlt5; have hbw := (Below.refl (w2.heap.size + 1) _).grown hgrow HS9.out (ogL HO9.out); have HLM0 := HL9.out.more ⟨c.x, c.y + (1 + d), c.w, c.h - (1 + d), z⟩ hbw hown5; rw [hxl] at HLM0; have HLM := Lib.hid HLM0; clear HLM0; obtain ⟨_, _, k2, _, _, kf⟩ := HL9.out.box.below hbw (Nat.lt_succ_self _))
              clear hown5 hgrow hat hlt5 hbw
              go_wp2_with fail
              go_roundw
              case rel => exact ⟨k + 1, M, N, _, _, by omega, by go_num, HLN, HLM⟩
              case measure => simp [intOf] <;> omega
            · obtain ⟨⟨p0, p1, p2, p3, p4⟩, pf0, pf1, pf2, pf3, pf4⟩ := id P3
              have HLS := Lib.hid (L1.go U3 hcu3)
              clear P3 Q3 U3 hcu3 hls
              go_wp2_with fail
              go_roundw
              case rel => exact ⟨k + 1, M, N, _, xs, by omega, by go_num, hok, HLS⟩
              case measure => simp [intOf] <;> omega
          · by_cases hw : 1 < c.w
            · obtain ⟨⟨p0, p1, p2, p3, p4⟩, pf0, pf1, pf2, pf3, pf4⟩ := id P3
              go_wp2_with fail
              clear p0 pf0 p1 pf1 p2 pf2 p3 pf3 p4 pf4
              refine (Below_any b a len cap (c.w - 1) _ hcu3 (by omega) (by omega)).mono ?_
              rintro e u4 ⟨d, ⟨d0, d1⟩, rfl, hcu4, hbu4⟩
              have U4 := U3.trans hbu4
              have P4 := P3.but hbu4 (by omega)
              have Q4 := Q3.but hbu4 (by omega)
              clear hbu4 U3 P3 Q3
              have P5 : BoxP (u1.heap.size) ⟨c.x, c.y, 1 + d, c.h, c.c⟩ (((u4.setCell ⟨u1.heap.size + 1, 0, none⟩ (.int .i64 (c.x + (1 + d)))).setCell ⟨u1.heap.size + 1, 2, none⟩ (.int .i64 (c.w - (1 + d)))).setCell ⟨u1.heap.size, 2, none⟩ (.int .i64 (1 + d))) := ((P4.far (by simp) _).far (by simp) _).put2 _
              have Q5 : BoxP (u1.heap.size + 1) ⟨c.x + (1 + d), c.y, c.w - (1 + d), c.h, c.c⟩ (((u4.setCell ⟨u1.heap.size + 1, 0, none⟩ (.int .i64 (c.x + (1 + d)))).setCell ⟨u1.heap.size + 1, 2, none⟩ (.int .i64 (c.w - (1 + d)))).setCell ⟨u1.heap.size, 2, none⟩ (.int .i64 (1 + d))) := ((Q4.put0 _).put2 _).far (by simp) _
              have hc5 : Cur (((u4.setCell ⟨u1.heap.size + 1, 0, none⟩ (.int .i64 (c.x + (1 + d)))).setCell ⟨u1.heap.size + 1, 2, none⟩ (.int .i64 (c.w - (1 + d)))).setCell ⟨u1.heap.size, 2, none⟩ (.int .i64 (1 + d))) b a len cap := hcu4.below (B := u1.heap.size) (((((Below.refl (u1.heap.size) u4).setCell (p := ⟨u1.heap.size + 1, 0, none⟩) (by simp) _).setCell (p := ⟨u1.heap.size + 1, 2, none⟩) (by simp) _).setCell (p := ⟨u1.heap.size, 2, none⟩) (by simp) _)) (by omega)
              have U5 : But b u1 (((u4.setCell ⟨u1.heap.size + 1, 0, none⟩ (.int .i64 (c.x + (1 + d)))).setCell ⟨u1.heap.size + 1, 2, none⟩ (.int .i64 (c.w - (1 + d)))).setCell ⟨u1.heap.size, 2, none⟩ (.int .i64 (1 + d))) := But.setCell (But.setCell (But.setCell U4 (.inr (by simp)) _) (.inr (by simp)) _) (.inr (by simp)) _
              obtain ⟨⟨p0, p1, p2, p3, p4⟩, pf0, pf1, pf2, pf3, pf4⟩ := id P4
              obtain ⟨⟨q0, q1, q2, q3, q4⟩, qf0, qf1, qf2, qf3, qf4⟩ := id Q4
              clear P4 Q4 U4 hcu4
              go_wp2_with fail
              clear p0 pf0 p1 pf1 p2 pf2 p3 pf3 p4 pf4
              clear q0 qf0 q1 qf1 q2 qf2 q3 qf3 q4 qf4
              refine (Below_any b a len cap 5 _ hc5 (by omega) (by omega)).mono ?_
              rintro e u6 ⟨z, ⟨z0, z1⟩, rfl, hcu6, hbu6⟩
              have U6 := U5.trans hbu6
              have P6 := P5.but hbu6 (by omega)
              have Q6 := Q5.but hbu6 (by omega)
              clear hbu6 U5 P5 Q5 hc5
              have hc7 : Cur (u6.setCell ⟨u1.heap.size + 1, 4, none⟩ (.int .i64 z)) b a len cap := hcu6.below (B := u1.heap.size) ((Below.refl (u1.heap.size) u6).setCell (p := ⟨u1.heap.size + 1, 4, none⟩) (by simp) _) (by omega)
              have L7 : LS b w2.heap.size a len cap w M N (.slice (some ⟨g, 0, none⟩) xs.length kc) xs (u6.setCell ⟨u1.heap.size + 1, 4, none⟩ (.int .i64 z)) := L1.go (But.setCell U6 (.inr (by simp)) _) hc7
              have P7 : BoxP (u1.heap.size) ⟨c.x, c.y, 1 + d, c.h, c.c⟩ (u6.setCell ⟨u1.heap.size + 1, 4, none⟩ (.int .i64 z)) := P6.far (by simp) _
              have Q7 : BoxP (u1.heap.size + 1) ⟨c.x + (1 + d), c.y, c.w - (1 + d), c.h, z⟩ (u6.setCell ⟨u1.heap.size + 1, 4, none⟩ (.int .i64 z)) := Q6.put4 _
              obtain ⟨U, hU⟩ : ∃ U, (u6.setCell ⟨u1.heap.size + 1, 4, none⟩ (.int .i64 z)) = U := ⟨_, rfl⟩
              rw [hU] at L7 P7 Q7
              obtain ⟨V, hV⟩ : ∃ V, (((((U.setCell ⟨g, i * 5, none⟩ (.int .i64 (c.x))).setCell ⟨g, i * 5 + 1, none⟩ (.int .i64 (c.y))).setCell ⟨g, i * 5 + 2, none⟩ (.int .i64 (1 + d))).setCell ⟨g, i * 5 + 3, none⟩ (.int .i64 (c.h))).setCell ⟨g, i * 5 + 4, none⟩ (.int .i64 (c.c))) = V := ⟨_, rfl⟩
              have L8 : LS b w2.heap.size a len cap w M N (.slice (some ⟨g, 0, none⟩) xs.length kc) (xs.set i ⟨c.x, c.y, 1 + d, c.h, c.c⟩) V := by rw [← hV]; exact L7.put hi (c.x) (c.y) (1 + d) (c.h) (c.c) rfl
              have Q8 : BoxP (u1.heap.size + 1) ⟨c.x + (1 + d), c.y, c.w - (1 + d), c.h, z⟩ V := by rw [← hV]; exact ((((Q7.far (by simp; omega) _).far (by simp; omega) _).far (by simp; omega) _).far (by simp; omega) _).far (by simp; omega) _
              have L9 := L8.new (bel0 _ (.cells #[.int .i64 (c.x + (1 + d)), .int .i64 (c.y), .int .i64 (c.w - (1 + d)), .int .i64 (c.h), .int .i64 (z)] 73))
              have HL9 := Lib.hid L9
              have HO9 := Lib.hid L9.own
              have HNW := Lib.hid (newsL V V.heap.size #[.int .i64 (c.x + (1 + d)), .int .i64 (c.y), .int .i64 (c.w - (1 + d)), .int .i64 (c.h), .int .i64 (z)] 73 rfl)
              obtain ⟨_, _, b2', _, _, _⟩ := id L7.box
              obtain ⟨_, _, b2x, _, _, _⟩ := id L8.box
              obtain ⟨⟨_, _, _, _, q4⟩, _, _, _, _, qf4⟩ := id Q6
              obtain ⟨⟨p0, p1, p2, p3, p4⟩, _⟩ := id P7
              obtain ⟨⟨y0, y1, y2, y3, y4⟩, _⟩ := id Q8
              dsimp only at q4 p0 p1 p2 p3 p4 y0 y1 y2 y3 y4
              obtain ⟨r0, r1, r2, r3, r4⟩ := rowAt L7.own hi
              have rf0 := L7.own.frozenAt (i * 5)
              have rf1 := L7.own.frozenAt (i * 5 + 1)
              have rf2 := L7.own.frozenAt (i * 5 + 2)
              have rf3 := L7.own.frozenAt (i * 5 + 3)
              have rf4 := L7.own.frozenAt (i * 5 + 4)
              have HLN : Hid (LayOk M N (xs.set i ⟨c.x, c.y, 1 + d, c.h, c.c⟩ ++ [⟨c.x + (1 + d), c.y, c.w - (1 + d), c.h, z⟩])) := Lib.hid (lay_cutw hok.out hi h12 HC.out (d := 1 + d) (k := z) (by omega) (by omega) (by omega) (by omega))
              have hxl : (xs.set i ⟨c.x, c.y, 1 + d, c.h, c.c⟩).length = xs.length := List.length_set ..
              have HS9 := Lib.hid L9.size
              have hLn : (xs.length : Int) ≤ 11 := by omega
              have hi2 : (i : Int) < (xs.length : Int) := by omega
              have hi3 : (0 : Int) ≤ (i : Int) := by omega
              clear L7 P7 Q7 L8 Q8 L9 hc7 P6 Q6 U6 hcu6 hls hok L1 hcu1 HC
              clear f00 f01 f10 f11 f20 f21 f30 f31 f40 f41 d0 d1 hM hN
              go_wp2_with (at_builtin; refine wpList_append_lies _ rfl _ _ 48 rfl (w2.heap.size + 1) 73 i0 _ 5 40 Try.underlying48 hi0 hz0 hz1 hz2 rfl (by decide) _ _ _ rfl HO9.out ⟨_, 0, none⟩ 1 1 [.int .i64 (c.x + (1 + d)), .int .i64 (c.y), .int .i64 (c.w - (1 + d)), .int .i64 (c.h), .int .i64 (z)] rfl rfl HNW.out (by simp [Value.oneCell']) (by omega) (by unfold maxLen; omega) (by omega) HS9.out _ rfl ?_; intro gg cc w5 hown5 hgrow hat hlt5; have hbw := (Below.refl (w2.heap.size + 1) _).grown hgrow HS9.out (ogL HO9.out); have HLM0 := HL9.out.more ⟨c.x + (1 + d), c.y, c.w - (1 + d), c.h, z⟩ hbw hown5; rw [hxl] at HLM0; have HLM := Lib.hid HLM0; clear HLM0; obtain ⟨_, _, k2, _, _, kf⟩ := HL9.out.box.below hbw (Nat.lt_succ_self _))
              clear hown5 hgrow hat hlt5 hbw
              go_wp2_with fail
              go_roundw
              case rel => exact ⟨k + 1, M, N, _, _, by omega, by go_num, HLN, HLM⟩
              case measure => simp [intOf] <;> omega
            · by_cases hh : 1 < c.h
              · obtain ⟨⟨p0, p1, p2, p3, p4⟩, pf0, pf1, pf2, pf3, pf4⟩ := id P3
                go_wp2_with fail
                clear p0 pf0 p1 pf1 p2 pf2 p3 pf3 p4 pf4
                refine (Below_any b a len cap (c.h - 1) _ hcu3 (by omega) (by omega)).mono ?_
                rintro e u4 ⟨d, ⟨d0, d1⟩, rfl, hcu4, hbu4⟩
                have U4 := U3.trans hbu4
                have P4 := P3.but hbu4 (by omega)
                have Q4 := Q3.but hbu4 (by omega)
                clear hbu4 U3 P3 Q3
                have P5 : BoxP (u1.heap.size) ⟨c.x, c.y, c.w, 1 + d, c.c⟩ (((u4.setCell ⟨u1.heap.size + 1, 1, none⟩ (.int .i64 (c.y + (1 + d)))).setCell ⟨u1.heap.size + 1, 3, none⟩ (.int .i64 (c.h - (1 + d)))).setCell ⟨u1.heap.size, 3, none⟩ (.int .i64 (1 + d))) := ((P4.far (by simp) _).far (by simp) _).put3 _
                have Q5 : BoxP (u1.heap.size + 1) ⟨c.x, c.y + (1 + d), c.w, c.h - (1 + d), c.c⟩ (((u4.setCell ⟨u1.heap.size + 1, 1, none⟩ (.int .i64 (c.y + (1 + d)))).setCell ⟨u1.heap.size + 1, 3, none⟩ (.int .i64 (c.h - (1 + d)))).setCell ⟨u1.heap.size, 3, none⟩ (.int .i64 (1 + d))) := ((Q4.put1 _).put3 _).far (by simp) _
                have hc5 : Cur (((u4.setCell ⟨u1.heap.size + 1, 1, none⟩ (.int .i64 (c.y + (1 + d)))).setCell ⟨u1.heap.size + 1, 3, none⟩ (.int .i64 (c.h - (1 + d)))).setCell ⟨u1.heap.size, 3, none⟩ (.int .i64 (1 + d))) b a len cap := hcu4.below (B := u1.heap.size) (((((Below.refl (u1.heap.size) u4).setCell (p := ⟨u1.heap.size + 1, 1, none⟩) (by simp) _).setCell (p := ⟨u1.heap.size + 1, 3, none⟩) (by simp) _).setCell (p := ⟨u1.heap.size, 3, none⟩) (by simp) _)) (by omega)
                have U5 : But b u1 (((u4.setCell ⟨u1.heap.size + 1, 1, none⟩ (.int .i64 (c.y + (1 + d)))).setCell ⟨u1.heap.size + 1, 3, none⟩ (.int .i64 (c.h - (1 + d)))).setCell ⟨u1.heap.size, 3, none⟩ (.int .i64 (1 + d))) := But.setCell (But.setCell (But.setCell U4 (.inr (by simp)) _) (.inr (by simp)) _) (.inr (by simp)) _
                obtain ⟨⟨p0, p1, p2, p3, p4⟩, pf0, pf1, pf2, pf3, pf4⟩ := id P4
                obtain ⟨⟨q0, q1, q2, q3, q4⟩, qf0, qf1, qf2, qf3, qf4⟩ := id Q4
                clear P4 Q4 U4 hcu4
                go_wp2_with fail
                clear p0 pf0 p1 pf1 p2 pf2 p3 pf3 p4 pf4
                clear q0 qf0 q1 qf1 q2 qf2 q3 qf3 q4 qf4
                refine (Below_any b a len cap 5 _ hc5 (by omega) (by omega)).mono ?_
                rintro e u6 ⟨z, ⟨z0, z1⟩, rfl, hcu6, hbu6⟩
                have U6 := U5.trans hbu6
                have P6 := P5.but hbu6 (by omega)
                have Q6 := Q5.but hbu6 (by omega)
                clear hbu6 U5 P5 Q5 hc5
                have hc7 : Cur (u6.setCell ⟨u1.heap.size + 1, 4, none⟩ (.int .i64 z)) b a len cap := hcu6.below (B := u1.heap.size) ((Below.refl (u1.heap.size) u6).setCell (p := ⟨u1.heap.size + 1, 4, none⟩) (by simp) _) (by omega)
                have L7 : LS b w2.heap.size a len cap w M N (.slice (some ⟨g, 0, none⟩) xs.length kc) xs (u6.setCell ⟨u1.heap.size + 1, 4, none⟩ (.int .i64 z)) := L1.go (But.setCell U6 (.inr (by simp)) _) hc7
                have P7 : BoxP (u1.heap.size) ⟨c.x, c.y, c.w, 1 + d, c.c⟩ (u6.setCell ⟨u1.heap.size + 1, 4, none⟩ (.int .i64 z)) := P6.far (by simp) _
                have Q7 : BoxP (u1.heap.size + 1) ⟨c.x, c.y + (1 + d), c.w, c.h - (1 + d), z⟩ (u6.setCell ⟨u1.heap.size + 1, 4, none⟩ (.int .i64 z)) := Q6.put4 _
                obtain ⟨U, hU⟩ : ∃ U, (u6.setCell ⟨u1.heap.size + 1, 4, none⟩ (.int .i64 z)) = U := ⟨_, rfl⟩
                rw [hU] at L7 P7 Q7
                obtain ⟨V, hV⟩ : ∃ V, (((((U.setCell ⟨g, i * 5, none⟩ (.int .i64 (c.x))).setCell ⟨g, i * 5 + 1, none⟩ (.int .i64 (c.y))).setCell ⟨g, i * 5 + 2, none⟩ (.int .i64 (c.w))).setCell ⟨g, i * 5 + 3, none⟩ (.int .i64 (1 + d))).setCell ⟨g, i * 5 + 4, none⟩ (.int .i64 (c.c))) = V := ⟨_, rfl⟩
                have L8 : LS b w2.heap.size a len cap w M N (.slice (some ⟨g, 0, none⟩) xs.length kc) (xs.set i ⟨c.x, c.y, c.w, 1 + d, c.c⟩) V := by rw [← hV]; exact L7.put hi (c.x) (c.y) (c.w) (1 + d) (c.c) rfl
                have Q8 : BoxP (u1.heap.size + 1) ⟨c.x, c.y + (1 + d), c.w, c.h - (1 + d), z⟩ V := by rw [← hV]; exact ((((Q7.far (by simp; omega) _).far (by simp; omega) _).far (by simp; omega) _).far (by simp; omega) _).far (by simp; omega) _
                have L9 := L8.new (bel0 _ (.cells #[.int .i64 (c.x), .int .i64 (c.y + (1 + d)), .int .i64 (c.w), .int .i64 (c.h - (1 + d)), .int .i64 (z)] 73))
                have HL9 := Lib.hid L9
                have HO9 := Lib.hid L9.own
                have HNW := Lib.hid (newsL V V.heap.size #[.int .i64 (c.x), .int .i64 (c.y + (1 + d)), .int .i64 (c.w), .int .i64 (c.h - (1 + d)), .int .i64 (z)] 73 rfl)
                obtain ⟨_, _, b2', _, _, _⟩ := id L7.box
                obtain ⟨_, _, b2x, _, _, _⟩ := id L8.box
                obtain ⟨⟨_, _, _, _, q4⟩, _, _, _, _, qf4⟩ := id Q6
                obtain ⟨⟨p0, p1, p2, p3, p4⟩, _⟩ := id P7
                obtain ⟨⟨y0, y1, y2, y3, y4⟩, _⟩ := id Q8
                dsimp only at q4 p0 p1 p2 p3 p4 y0 y1 y2 y3 y4
                obtain ⟨r0, r1, r2, r3, r4⟩ := rowAt L7.own hi
                have rf0 := L7.own.frozenAt (i * 5)
                have rf1 := L7.own.frozenAt (i * 5 + 1)
                have rf2 := L7.own.frozenAt (i * 5 + 2)
                have rf3 := L7.own.frozenAt (i * 5 + 3)
                have rf4 := L7.own.frozenAt (i * 5 + 4)
                have HLN : Hid (LayOk M N (xs.set i ⟨c.x, c.y, c.w, 1 + d, c.c⟩ ++ [⟨c.x, c.y + (1 + d), c.w, c.h - (1 + d), z⟩])) := Lib.hid (lay_cuth hok.out hi h12 HC.out (d := 1 + d) (k := z) (by omega) (by omega) (by omega) (by omega))
                have hxl : (xs.set i ⟨c.x, c.y, c.w, 1 + d, c.c⟩).length = xs.length := List.length_set ..
                have HS9 := Lib.hid L9.size
                have hLn : (xs.length : Int) ≤ 11 := by omega
                have hi2 : (i : Int) < (xs.length : Int) := by omega
                have hi3 : (0 : Int) ≤ (i : Int) := by omega
                clear L7 P7 Q7 L8 Q8 L9 hc7 P6 Q6 U6 hcu6 hls hok L1 hcu1 HC
                clear f00 f01 f10 f11 f20 f21 f30 f31 f40 f41 d0 d1 hM hN
                go_wp2_with (at_builtin; refine wpList_append_lies _ rfl _ _ 48 rfl (w2.heap.size + 1) 73 i0 _ 5 40 Try.underlying48 hi0 hz0 hz1 hz2 rfl (by decide) _ _ _ rfl HO9.out ⟨_, 0, none⟩ 1 1 [.int .i64 (c.x), .int .i64 (c.y + (1 + d)), .int .i64 (c.w), .int .i64 (c.h - (1 + d)), .int .i64 (z)] rfl rfl HNW.out (by simp [Value.oneCell']) (by omega) (by unfold maxLen; omega) (by omega) HS9.out _ rfl ?_; intro gg cc w5 hown5 hgrow hat hlt5; have hbw := (Below.refl (w2.heap.size + 1) _).grown hgrow HS9.out (ogL HO9.out); have HLM0 := HL9.out.more ⟨c.x, c.y + (1 + d), c.w, c.h - (1 + d), z⟩ hbw hown5; rw [hxl] at HLM0; have HLM := Lib.hid HLM0; clear HLM0; obtain ⟨_, _, k2, _, _, kf⟩ := HL9.out.box.below hbw (Nat.lt_succ_self _))
                clear hown5 hgrow hat hlt5 hbw
                go_wp2_with fail
                go_roundw
                case rel => exact ⟨k + 1, M, N, _, _, by omega, by go_num, HLN, HLM⟩
                case measure => simp [intOf] <;> omega
              · obtain ⟨⟨p0, p1, p2, p3, p4⟩, pf0, pf1, pf2, pf3, pf4⟩ := id P3
                have HLS := Lib.hid (L1.go U3 hcu3)
                clear P3 Q3 U3 hcu3 hls
                go_wp2_with fail
                go_roundw
                case rel => exact ⟨k + 1, M, N, _, xs, by omega, by go_num, hok, HLS⟩
                case measure => simp [intOf] <;> omega
        · have h12' : ¬ (xs.length : Int) < 12 := by omega
          have HI : Hid (PatIn (w2.heap.size + 1) wr.heap.size wr v xs) := Lib.hid (PatIn.of_owns hls.out.own (by have := hok.out.2.2.1; omega))
          obtain ⟨q0, q1, q2, _, _, _⟩ := id hls.out.box
          obtain ⟨r0, r1, r2, f0, f1, f2⟩ := id hls.out.res
          have hlo := hls.out.lo
          obtain ⟨av, cv, rfl⟩ := HI.out.form
          go_wp2_with fail
          refine bodyPost_ret (v := .agg #[.int .i64 M, .int .i64 N, .slice av xs.length cv]) (by simp [results, Try.results34, go_sem, r0, r1, r2]) rfl ⟨M, N, _, xs, hok.out, rfl, ?_, ?_, ?_⟩
          · refine PatIn.wide (lo := w2.heap.size + 1) (hi := wr.heap.size) ?_ (by omega) (by simp [World.setCell])
            refine PatIn.set_far (PatIn.set_far (PatIn.set_far HI.out ?_ _) ?_ _) ?_ _ <;> (simp <;> omega)
          · refine hls.out.cur.below (B := w.heap.size) ?_ hlt
            refine Below.setCell (Below.setCell (Below.setCell (Below.refl _ _) ?_ _) ?_ _) ?_ _ <;> exact Nat.le_refl _
          · exact But.setCell (But.setCell (But.setCell hls.out.but (.inr (Nat.le_refl _)) _) (.inr (Nat.le_refl _)) _) (.inr (Nat.le_refl _)) _
      · have HI : Hid (PatIn (w2.heap.size + 1) wr.heap.size wr v xs) := Lib.hid (PatIn.of_owns hls.out.own (by have := hok.out.2.2.1; omega))
        obtain ⟨q0, q1, q2, _, _, _⟩ := id hls.out.box
        obtain ⟨r0, r1, r2, f0, f1, f2⟩ := id hls.out.res
        have hlo := hls.out.lo
        obtain ⟨av, cv, rfl⟩ := HI.out.form
        go_wp2_with fail
        refine bodyPost_ret (v := .agg #[.int .i64 M, .int .i64 N, .slice av xs.length cv]) (by simp [results, Try.results34, go_sem, r0, r1, r2]) rfl ⟨M, N, _, xs, hok.out, rfl, ?_, ?_, ?_⟩
        · refine PatIn.wide (lo := w2.heap.size + 1) (hi := wr.heap.size) ?_ (by omega) (by simp [World.setCell])
          refine PatIn.set_far (PatIn.set_far (PatIn.set_far HI.out ?_ _) ?_ _) ?_ _ <;> (simp <;> omega)
        · refine hls.out.cur.below (B := w.heap.size) ?_ hlt
          refine Below.setCell (Below.setCell (Below.setCell (Below.refl _ _) ?_ _) ?_ _) ?_ _ <;> exact Nat.le_refl _
        · exact But.setCell (But.setCell (But.setCell hls.out.but (.inr (Nat.le_refl _)) _) (.inr (Nat.le_refl _)) _) (.inr (Nat.le_refl _)) _
  · have HLS3 := Lib.hid LS3
    clear LS3
    go_wp2_with fail
    refine (SpecSample_own _).mono ?_
    rintro e w4 ⟨gs, rfl, hos, hb4⟩
    have L4 := HLS3.out.new hb4
    have L4b := L4.box
    obtain ⟨q0, q1, q2, qf0, qf1, qf2⟩ := id L4b
    have hlo4 := L4.lo
    have hbl4 := L4.bl
    have h34 : w2.heap.size + 1 ≤ w3.heap.size := HLS3.out.size
    have LS5 : LS b w2.heap.size a len cap w 3 3 (.slice (some ⟨gs, 0, none⟩) 5 5) smpL (((w4.setCell ⟨w2.heap.size, 0, none⟩ (.int .i64 3)).setCell ⟨w2.heap.size, 1, none⟩ (.int .i64 3)).setCell ⟨w2.heap.size, 2, none⟩ (.slice (some ⟨gs, 0, none⟩) 5 5)) := by
      refine ⟨osL (osL (osL (own_le9 hos h34) (by simp) _) (by simp) _) (by simp) _, ?_, ((L4.res.far (by simp; omega) _).far (by simp; omega) _).far (by simp; omega) _, ?_, ?_, by simpa [World.setCell] using L4.size, hlo4, hbl4⟩
      · obtain ⟨h0, h1, h2, f0, f1, f2⟩ := L4b
        refine ⟨?_, ?_, ?_, ?_, ?_, ?_⟩
        · rw [World.cell?_setCell_other _ _ _ _ (by simp), World.cell?_setCell_other _ _ _ _ (by simp)]; exact World.cell?_setCell_same _ _ _ h0
        · rw [World.cell?_setCell_other _ _ _ _ (by simp)]; exact World.cell?_setCell_same _ _ _ ((World.cell?_setCell_other _ _ _ _ (by simp)).trans h1)
        · exact World.cell?_setCell_same _ _ _ ((World.cell?_setCell_other _ _ _ _ (by simp)).trans ((World.cell?_setCell_other _ _ _ _ (by simp)).trans h2))
        all_goals
          rw [World.frozen?_setCell, World.frozen?_setCell, World.frozen?_setCell]
          assumption
      · exact L4.cur.below (B := w2.heap.size) ((((Below.refl w2.heap.size w4).setCell (p := ⟨w2.heap.size, 0, none⟩) (Nat.le_refl _) _).setCell (p := ⟨w2.heap.size, 1, none⟩) (Nat.le_refl _) _).setCell (p := ⟨w2.heap.size, 2, none⟩) (Nat.le_refl _) _) (by omega)
      · exact But.setCell (But.setCell (But.setCell L4.but (.inr (by simp; omega)) _) (.inr (by simp; omega)) _) (.inr (by simp; omega)) _
    have HL5 := Lib.hid LS5
    clear HLS3 LS5 L4 L4b hos hb4
    go_wp2_with fail
    clear q0 q1 q2 qf0 qf1 qf2
    refine (Below_any b a len cap 8 _ HL5.out.cur (by omega) (by omega)).mono ?_
    rintro e w5 ⟨q, ⟨q0, q1⟩, rfl, hcw5, hbw5⟩
    have LS0 := HL5.out.go hbw5 hcw5
    have HOK0 := smp_ok
    clear HL5 hbw5 hcw5
    obtain ⟨Q, rfl⟩ : ∃ Q : Nat, q = Q := ⟨q.toNat, by omega⟩
    have HL := Lib.hid LS0
    have HK := Lib.hid HOK0
    clear LS0 HOK0
    go_wp2_with fail
    go_loopw [5] (fun i wr => ∃ (k : Nat) (M N : Int) (v : Value) (xs : List P5), k ≤ Q ∧ i = .int .i64 k ∧ Hid (LayOk M N xs) ∧ Hid (LS b w2.heap.size a len cap w M N v xs wr)) (fun i _ => Q - (intOf i).toNat)
    case atStart => exact ⟨0, _, _, _, _, Nat.zero_le _, rfl, HK, HL⟩
    case round =>
      obtain ⟨k, M, N, v, xs, hk, rfl, hok, hls⟩ := hrel
      have hx0 := hok.out.2.2.1
      by_cases hlt2 : k < Q
      · by_cases h12 : xs.length < 12
        · obtain ⟨g, kc, rfl, hg, _⟩ := hls.out.own.form (by omega)
          obtain ⟨_, _, b2, _, _, _⟩ := id hls.out.box
          have hlo := hls.out.lo
          go_wp2_with fail
          clear b2
          refine (Below_any b a len cap (xs.length : Int) _ hls.out.cur (by omega) (by omega)).mono ?_
          rintro e u1 ⟨j, ⟨j0, j1⟩, rfl, hcu1, hbu1⟩
          obtain ⟨i, rfl⟩ : ∃ i : Nat, j = i := ⟨j.toNat, by omega⟩
          have hi : i < xs.length := by omega
          have L1 := hls.out.go hbu1 hcu1
          have hgu : g < u1.heap.size := (by obtain ⟨_, _, e, _, hg2⟩ := L1.own.form (by omega); simp at e; omega)
          have hlbu : w2.heap.size + 1 ≤ u1.heap.size := L1.size
          obtain ⟨e0, e1, e2, e3, e4⟩ := rowAt L1.own hi
          obtain ⟨c, hc⟩ : ∃ c, c = pat xs i := ⟨_, rfl⟩
          rw [← hc] at e0 e1 e2 e3 e4
          have HC := Lib.hid hc
          obtain ⟨⟨f00, f01⟩, ⟨f10, f11⟩, ⟨f20, f21⟩, ⟨f30, f31⟩, f40, f41⟩ : Fit M N c := by rw [hc]; exact hok.out.fit hi
          have hM := hok.out.1.2
          have hN := hok.out.2.1.2
          have s0 := BoxP.new u1 c 73
          have WW : Below u1.heap.size u1 ((u1.alloc (.cells #[.int .i64 c.x, .int .i64 c.y, .int .i64 c.w, .int .i64 c.h, .int .i64 c.c] 73)).alloc (.cells #[.int .i64 c.x, .int .i64 c.y, .int .i64 c.w, .int .i64 c.h, .int .i64 c.c] 73)) := bel_n (bel0 u1 _) (Nat.le_refl _) _
          have P2 : BoxP u1.heap.size c ((u1.alloc (.cells #[.int .i64 c.x, .int .i64 c.y, .int .i64 c.w, .int .i64 c.h, .int .i64 c.c] 73)).alloc (.cells #[.int .i64 c.x, .int .i64 c.y, .int .i64 c.w, .int .i64 c.h, .int .i64 c.c] 73)) := s0.below (bel0 _ _) (by simp)
          have Q2 : BoxP (u1.heap.size + 1) c ((u1.alloc (.cells #[.int .i64 c.x, .int .i64 c.y, .int .i64 c.w, .int .i64 c.h, .int .i64 c.c] 73)).alloc (.cells #[.int .i64 c.x, .int .i64 c.y, .int .i64 c.w, .int .i64 c.h, .int .i64 c.c] 73)) := by simpa using BoxP.new (u1.alloc (.cells #[.int .i64 c.x, .int .i64 c.y, .int .i64 c.w, .int .i64 c.h, .int .i64 c.c] 73)) c 73
          have L2 := L1.new WW
          have U2 : But b u1 ((u1.alloc (.cells #[.int .i64 c.x, .int .i64 c.y, .int .i64 c.w, .int .i64 c.h, .int .i64 c.c] 73)).alloc (.cells #[.int .i64 c.x, .int .i64 c.y, .int .i64 c.w, .int .i64 c.h, .int .i64 c.c] 73)) := But.of_below WW
          obtain ⟨_, _, b2, _, _, _⟩ := id L1.box
          clear hbu1 s0 WW hc
          go_wp2_with fail
          clear b2 e0 e1 e2 e3 e4
          refine (Once_any b a len cap 2 _ L2.cur (by omega) (by omega)).mono ?_
          rintro e u3 ⟨x, rfl, hcu3, hbu3⟩
          have U3 := U2.trans hbu3
          have P3 := P2.but hbu3 (by have := L1.bl; have := L1.lo; omega)
          have Q3 := Q2.but hbu3 (by have := L1.bl; have := L1.lo; omega)
          have hbl := L1.bl
          clear hbu3 U2 P2 Q2 L2
          cases x
          · by_cases hh : 1 < c.h
            · obtain ⟨⟨p0, p1, p2, p3, p4⟩, pf0, pf1, pf2, pf3, pf4⟩ := id P3
              go_wp2_with fail
              clear p0 pf0 p1 pf1 p2 pf2 p3 pf3 p4 pf4
              refine (Below_any b a len cap (c.h - 1) _ hcu3 (by omega) (by omega)).mono ?_
              rintro e u4 ⟨d, ⟨d0, d1⟩, rfl, hcu4, hbu4⟩
              have U4 := U3.trans hbu4
              have P4 := P3.but hbu4 (by omega)
              have Q4 := Q3.but hbu4 (by omega)
              clear hbu4 U3 P3 Q3
              have P5 : BoxP (u1.heap.size) ⟨c.x, c.y, c.w, 1 + d, c.c⟩ (((u4.setCell ⟨u1.heap.size + 1, 1, none⟩ (.int .i64 (c.y + (1 + d)))).setCell ⟨u1.heap.size + 1, 3, none⟩ (.int .i64 (c.h - (1 + d)))).setCell ⟨u1.heap.size, 3, none⟩ (.int .i64 (1 + d))) := ((P4.far (by simp) _).far (by simp) _).put3 _
              have Q5 : BoxP (u1.heap.size + 1) ⟨c.x, c.y + (1 + d), c.w, c.h - (1 + d), c.c⟩ (((u4.setCell ⟨u1.heap.size + 1, 1, none⟩ (.int .i64 (c.y + (1 + d)))).setCell ⟨u1.heap.size + 1, 3, none⟩ (.int .i64 (c.h - (1 + d)))).setCell ⟨u1.heap.size, 3, none⟩ (.int .i64 (1 + d))) := ((Q4.put1 _).put3 _).far (by simp) _
              have hc5 : Cur (((u4.setCell ⟨u1.heap.size + 1, 1, none⟩ (.int .i64 (c.y + (1 + d)))).setCell ⟨u1.heap.size + 1, 3, none⟩ (.int .i64 (c.h - (1 + d)))).setCell ⟨u1.heap.size, 3, none⟩ (.int .i64 (1 + d))) b a len cap := hcu4.below (B := u1.heap.size) (((((Below.refl (u1.heap.size) u4).setCell (p := ⟨u1.heap.size + 1, 1, none⟩) (by simp) _).setCell (p := ⟨u1.heap.size + 1, 3, none⟩) (by simp) _).setCell (p := ⟨u1.heap.size, 3, none⟩) (by simp) _)) (by omega)
              have U5 : But b u1 (((u4.setCell ⟨u1.heap.size + 1, 1, none⟩ (.int .i64 (c.y + (1 + d)))).setCell ⟨u1.heap.size + 1, 3, none⟩ (.int .i64 (c.h - (1 + d)))).setCell ⟨u1.heap.size, 3, none⟩ (.int .i64 (1 + d))) := But.setCell (But.setCell (But.setCell U4 (.inr (by simp)) _) (.inr (by simp)) _) (.inr (by simp)) _
              obtain ⟨⟨p0, p1, p2, p3, p4⟩, pf0, pf1, pf2, pf3, pf4⟩ := id P4
              obtain ⟨⟨q0, q1, q2, q3, q4⟩, qf0, qf1, qf2, qf3, qf4⟩ := id Q4
              clear P4 Q4 U4 hcu4
              go_wp2_with fail
              clear p0 pf0 p1 pf1 p2 pf2 p3 pf3 p4 pf4
              clear q0 qf0 q1 qf1 q2 qf2 q3 qf3 q4 qf4
              refine (Below_any b a len cap 5 _ hc5 (by omega) (by omega)).mono ?_
              rintro e u6 ⟨z, ⟨z0, z1⟩, rfl, hcu6, hbu6⟩
              have U6 := U5.trans hbu6
              have P6 := P5.but hbu6 (by omega)
              have Q6 := Q5.but hbu6 (by omega)
              clear hbu6 U5 P5 Q5 hc5
              have hc7 : Cur (u6.setCell ⟨u1.heap.size + 1, 4, none⟩ (.int .i64 z)) b a len cap := hcu6.below (B := u1.heap.size) ((Below.refl (u1.heap.size) u6).setCell (p := ⟨u1.heap.size + 1, 4, none⟩) (by simp) _) (by omega)
              have L7 : LS b w2.heap.size a len cap w M N (.slice (some ⟨g, 0, none⟩) xs.length kc) xs (u6.setCell ⟨u1.heap.size + 1, 4, none⟩ (.int .i64 z)) := L1.go (But.setCell U6 (.inr (by simp)) _) hc7
              have P7 : BoxP (u1.heap.size) ⟨c.x, c.y, c.w, 1 + d, c.c⟩ (u6.setCell ⟨u1.heap.size + 1, 4, none⟩ (.int .i64 z)) := P6.far (by simp) _
              have Q7 : BoxP (u1.heap.size + 1) ⟨c.x, c.y + (1 + d), c.w, c.h - (1 + d), z⟩ (u6.setCell ⟨u1.heap.size + 1, 4, none⟩ (.int .i64 z)) := Q6.put4 _
              obtain ⟨U, hU⟩ : ∃ U, (u6.setCell ⟨u1.heap.size + 1, 4, none⟩ (.int .i64 z)) = U := ⟨_, rfl⟩
              rw [hU] at L7 P7 Q7
              obtain ⟨V, hV⟩ : ∃ V, (((((U.setCell ⟨g, i * 5, none⟩ (.int .i64 (c.x))).setCell ⟨g, i * 5 + 1, none⟩ (.int .i64 (c.y))).setCell ⟨g, i * 5 + 2, none⟩ (.int .i64 (c.w))).setCell ⟨g, i * 5 + 3, none⟩ (.int .i64 (1 + d))).setCell ⟨g, i * 5 + 4, none⟩ (.int .i64 (c.c))) = V := ⟨_, rfl⟩
              have L8 : LS b w2.heap.size a len cap w M N (.slice (some ⟨g, 0, none⟩) xs.length kc) (xs.set i ⟨c.x, c.y, c.w, 1 + d, c.c⟩) V := by rw [← hV]; exact L7.put hi (c.x) (c.y) (c.w) (1 + d) (c.c) rfl
              have Q8 : BoxP (u1.heap.size + 1) ⟨c.x, c.y + (1 + d), c.w, c.h - (1 + d), z⟩ V := by rw [← hV]; exact ((((Q7.far (by simp; omega) _).far (by simp; omega) _).far (by simp; omega) _).far (by simp; omega) _).far (by simp; omega) _
              have L9 := L8.new (bel0 _ (.cells #[.int .i64 (c.x), .int .i64 (c.y + (1 + d)), .int .i64 (c.w), .int .i64 (c.h - (1 + d)), .int .i64 (z)] 73))
              have HL9 := Lib.hid L9
              have HO9 := Lib.hid L9.own
              have HNW := Lib.hid (newsL V V.heap.size #[.int .i64 (c.x), .int .i64 (c.y + (1 + d)), .int .i64 (c.w), .int .i64 (c.h - (1 + d)), .int .i64 (z)] 73 rfl)
              obtain ⟨_, _, b2', _, _, _⟩ := id L7.box
              obtain ⟨_, _, b2x, _, _, _⟩ := id L8.box
              obtain ⟨⟨_, _, _, _, q4⟩, _, _, _, _, qf4⟩ := id Q6
              obtain ⟨⟨p0, p1, p2, p3, p4⟩, _⟩ := id P7
              obtain ⟨⟨y0, y1, y2, y3, y4⟩, _⟩ := id Q8
              dsimp only at q4 p0 p1 p2 p3 p4 y0 y1 y2 y3 y4
              obtain ⟨r0, r1, r2, r3, r4⟩ := rowAt L7.own hi
              have rf0 := L7.own.frozenAt (i * 5)
              have rf1 := L7.own.frozenAt (i * 5 + 1)
              have rf2 := L7.own.frozenAt (i * 5 + 2)
              have rf3 := L7.own.frozenAt (i * 5 + 3)
              have rf4 := L7.own.frozenAt (i * 5 + 4)
              have HLN : Hid (LayOk M N (xs.set i ⟨c.x, c.y, c.w, 1 + d, c.c⟩ ++ [⟨c.x, c.y + (1 + d), c.w, c.h - (1 + d), z⟩])) := Lib.hid (lay_cuth hok.out hi h12 HC.out (d := 1 + d) (k := z) (by omega) (by omega) (by omega) (by omega))
              have hxl : (xs.set i ⟨c.x, c.y, c.w, 1 + d, c.c⟩).length = xs.length := List.length_set ..
              have HS9 := Lib.hid L9.size
              have hLn : (xs.length : Int) ≤ 11 := by omega
              have hi2 : (i : Int) < (xs.length : Int) := by omega
              have hi3 : (0 : Int) ≤ (i : Int) := by omega
              clear L7 P7 Q7 L8 Q8 L9 hc7 P6 Q6 U6 hcu6 hls hok L1 hcu1 HC
              clear f00 f01 f10 f11 f20 f21 f30 f31 f40 f41 d0 d1 hM hN
              go_wp2_with (at_builtin; refine wpList_append_lies _ rfl _ _ 48 rfl (w2.heap.size + 1) 73 i0 _ 5 40 Try.underlying48 hi0 hz0 hz1 hz2 rfl (by decide) _ _ _ rfl HO9.out ⟨_, 0, none⟩ 1 1 [.int .i64 (c.x), .int .i64 (c.y + (1 + d)), .int .i64 (c.w), .int .i64 (c.h - (1 + d)), .int .i64 (z)] rfl rfl HNW.out (by simp [Value.oneCell']) (by omega) (by unfold maxLen; omega) (by omega) HS9.out _ rfl ?_; intro gg cc w5 hown5 hgrow hat hlt5; have hbw := (Below.refl (w2.heap.size + 1) _).grown hgrow HS9.out (ogL HO9.out); have HLM0 := HL9.out.more ⟨c.x, c.y + (1 + d), c.w, c.h - (1 + d), z⟩ hbw hown5; rw [hxl] at HLM0; have HLM := Lib.hid HLM0; clear HLM0; obtain ⟨_, _, k2, _, _, kf⟩ := HL9.out.box.below hbw (Nat.lt_succ_self _))
              clear hown5 hgrow hat hlt5 hbw
              go_wp2_with fail
              go_roundw
              case rel => exact ⟨k + 1, M, N, _, _, by omega, by go_num, HLN, HLM⟩
              case measure => simp [intOf] <;> omega
            · obtain ⟨⟨p0, p1, p2, p3, p4⟩, pf0, pf1, pf2, pf3, pf4⟩ := id P3
              have HLS := Lib.hid (L1.go U3 hcu3)
              clear P3 Q3 U3 hcu3 hls
              go_wp2_with fail
              go_roundw
              case rel => exact ⟨k + 1, M, N, _, xs, by omega, by go_num, hok, HLS⟩
              case measure => simp [intOf] <;> omega
          · by_cases hw : 1 < c.w
            · obtain ⟨⟨p0, p1, p2, p3, p4⟩, pf0, pf1, pf2, pf3, pf4⟩ := id P3
              go_wp2_with fail
              clear p0 pf0 p1 pf1 p2 pf2 p3 pf3 p4 pf4
              refine (Below_any b a len cap (c.w - 1) _ hcu3 (by omega) (by omega)).mono ?_
              rintro e u4 ⟨d, ⟨d0, d1⟩, rfl, hcu4, hbu4⟩
              have U4 := U3.trans hbu4
              have P4 := P3.but hbu4 (by omega)
              have Q4 := Q3.but hbu4 (by omega)
              clear hbu4 U3 P3 Q3
              have P5 : BoxP (u1.heap.size) ⟨c.x, c.y, 1 + d, c.h, c.c⟩ (((u4.setCell ⟨u1.heap.size + 1, 0, none⟩ (.int .i64 (c.x + (1 + d)))).setCell ⟨u1.heap.size + 1, 2, none⟩ (.int .i64 (c.w - (1 + d)))).setCell ⟨u1.heap.size, 2, none⟩ (.int .i64 (1 + d))) := ((P4.far (by simp) _).far (by simp) _).put2 _
              have Q5 : BoxP (u1.heap.size + 1) ⟨c.x + (1 + d), c.y, c.w - (1 + d), c.h, c.c⟩ (((u4.setCell ⟨u1.heap.size + 1, 0, none⟩ (.int .i64 (c.x + (1 + d)))).setCell ⟨u1.heap.size + 1, 2, none⟩ (.int .i64 (c.w - (1 + d)))).setCell ⟨u1.heap.size, 2, none⟩ (.int .i64 (1 + d))) := ((Q4.put0 _).put2 _).far (by simp) _
              have hc5 : Cur (((u4.setCell ⟨u1.heap.size + 1, 0, none⟩ (.int .i64 (c.x + (1 + d)))).setCell ⟨u1.heap.size + 1, 2, none⟩ (.int .i64 (c.w - (1 + d)))).setCell ⟨u1.heap.size, 2, none⟩ (.int .i64 (1 + d))) b a len cap := hcu4.below (B := u1.heap.size) (((((Below.refl (u1.heap.size) u4).setCell (p := ⟨u1.heap.size + 1, 0, none⟩) (by simp) _).setCell (p := ⟨u1.heap.size + 1, 2, none⟩) (by simp) _).setCell (p := ⟨u1.heap.size, 2, none⟩) (by simp) _)) (by omega)
              have U5 : But b u1 (((u4.setCell ⟨u1.heap.size + 1, 0, none⟩ (.int .i64 (c.x + (1 + d)))).setCell ⟨u1.heap.size + 1, 2, none⟩ (.int .i64 (c.w - (1 + d)))).setCell ⟨u1.heap.size, 2, none⟩ (.int .i64 (1 + d))) := But.setCell (But.setCell (But.setCell U4 (.inr (by simp)) _) (.inr (by simp)) _) (.inr (by simp)) _
              obtain ⟨⟨p0, p1, p2, p3, p4⟩, pf0, pf1, pf2, pf3, pf4⟩ := id P4
              obtain ⟨⟨q0, q1, q2, q3, q4⟩, qf0, qf1, qf2, qf3, qf4⟩ := id Q4
              clear P4 Q4 U4 hcu4
              go_wp2_with fail
              clear p0 pf0 p1 pf1 p2 pf2 p3 pf3 p4 pf4
              clear q0 qf0 q1 qf1 q2 qf2 q3 qf3 q4 qf4
              refine (Below_any b a len cap 5 _ hc5 (by omega) (by omega)).mono ?_
              rintro e u6 ⟨z, ⟨z0, z1⟩, rfl, hcu6, hbu6⟩
              have U6 := U5.trans hbu6
              have P6 := P5.but hbu6 (by omega)
              have Q6 := Q5.but hbu6 (by omega)
              clear hbu6 U5 P5 Q5 hc5
              have hc7 : Cur (u6.setCell ⟨u1.heap.size + 1, 4, none⟩ (.int .i64 z)) b a len cap := hcu6.below (B := u1.heap.size) ((Below.refl (u1.heap.size) u6).setCell (p := ⟨u1.heap.size + 1, 4, none⟩) (by simp) _) (by omega)
              have L7 : LS b w2.heap.size a len cap w M N (.slice (some ⟨g, 0, none⟩) xs.length kc) xs (u6.setCell ⟨u1.heap.size + 1, 4, none⟩ (.int .i64 z)) := L1.go (But.setCell U6 (.inr (by simp)) _) hc7
              have P7 : BoxP (u1.heap.size) ⟨c.x, c.y, 1 + d, c.h, c.c⟩ (u6.setCell ⟨u1.heap.size + 1, 4, none⟩ (.int .i64 z)) := P6.far (by simp) _
              have Q7 : BoxP (u1.heap.size + 1) ⟨c.x + (1 + d), c.y, c.w - (1 + d), c.h, z⟩ (u6.setCell ⟨u1.heap.size + 1, 4, none⟩ (.int .i64 z)) := Q6.put4 _
              obtain ⟨U, hU⟩ : ∃ U, (u6.setCell ⟨u1.heap.size + 1, 4, none⟩ (.int .i64 z)) = U := ⟨_, rfl⟩
              rw [hU] at L7 P7 Q7
              obtain ⟨V, hV⟩ : ∃ V, (((((U.setCell ⟨g, i * 5, none⟩ (.int .i64 (c.x))).setCell ⟨g, i * 5 + 1, none⟩ (.int .i64 (c.y))).setCell ⟨g, i * 5 + 2, none⟩ (.int .i64 (1 + d))).setCell ⟨g, i * 5 + 3, none⟩ (.int .i64 (c.h))).setCell ⟨g, i * 5 + 4, none⟩ (.int .i64 (c.c))) = V := ⟨_, rfl⟩
              have L8 : LS b w2.heap.size a len cap w M N (.slice (some ⟨g, 0, none⟩) xs.length kc) (xs.set i ⟨c.x, c.y, 1 + d, c.h, c.c⟩) V := by rw [← hV]; exact L7.put hi (c.x) (c.y) (1 + d) (c.h) (c.c) rfl
              have Q8 : BoxP (u1.heap.size + 1) ⟨c.x + (1 + d), c.y, c.w - (1 + d), c.h, z⟩ V := by rw [← hV]; exact ((((Q7.far (by simp; omega) _).far (by simp; omega) _).far (by simp; omega) _).far (by simp; omega) _).far (by simp; omega) _
              have L9 := L8.new (bel0 _ (.cells #[.int .i64 (c.x + (1 + d)), .int .i64 (c.y), .int .i64 (c.w - (1 + d)), .int .i64 (c.h), .int .i64 (z)] 73))
              have HL9 := Lib.hid L9
              have HO9 := Lib.hid L9.own
              have HNW := Lib.hid (newsL V V.heap.size #[.int .i64 (c.x + (1 + d)), .int .i64 (c.y), .int .i64 (c.w - (1 + d)), .int .i64 (c.h), .int .i64 (z)] 73 rfl)
              obtain ⟨_, _, b2', _, _, _⟩ := id L7.box
              obtain ⟨_, _, b2x, _, _, _⟩ := id L8.box
              obtain ⟨⟨_, _, _, _, q4⟩, _, _, _, _, qf4⟩ := id Q6
              obtain ⟨⟨p0, p1, p2, p3, p4⟩, _⟩ := id P7
              obtain ⟨⟨y0, y1, y2, y3, y4⟩, _⟩ := id Q8
              dsimp only at q4 p0 p1 p2 p3 p4 y0 y1 y2 y3 y4
              obtain ⟨r0, r1, r2, r3, r4⟩ := rowAt L7.own hi
              have rf0 := L7.own.frozenAt (i * 5)
              have rf1 := L7.own.frozenAt (i * 5 + 1)
              have rf2 := L7.own.frozenAt (i * 5 + 2)
              have rf3 := L7.own.frozenAt (i * 5 + 3)
              have rf4 := L7.own.frozenAt (i * 5 + 4)
              have HLN : Hid (LayOk M N (xs.set i ⟨c.x, c.y, 1 + d, c.h, c.c⟩ ++ [⟨c.x + (1 + d), c.y, c.w - (1 + d), c.h, z⟩])) := Lib.hid (lay_cutw hok.out hi h12 HC.out (d := 1 + d) (k := z) (by omega) (by omega) (by omega) (by omega))
              have hxl : (xs.set i ⟨c.x, c.y, 1 + d, c.h, c.c⟩).length = xs.length := List.length_set ..
              have HS9 := Lib.hid L9.size
              have hLn : (xs.length : Int) ≤ 11 := by omega
              have hi2 : (i : Int) < (xs.length : Int) := by omega
              have hi3 : (0 : Int) ≤ (i : Int) := by omega
              clear L7 P7 Q7 L8 Q8 L9 hc7 P6 Q6 U6 hcu6 hls hok L1 hcu1 HC
              clear f00 f01 f10 f11 f20 f21 f30 f31 f40 f41 d0 d1 hM hN
              go_wp2_with (at_builtin; refine wpList_append_lies _ rfl _ _ 48 rfl (w2.heap.size + 1) 73 i0 _ 5 40 Try.underlying48 hi0 hz0 hz1 hz2 rfl (by decide) _ _ _ rfl HO9.out ⟨_, 0, none⟩ 1 1 [.int .i64 (c.x + (1 + d)), .int .i64 (c.y), .int .i64 (c.w - (1 + d)), .int .i64 (c.h), .int .i64 (z)] rfl rfl HNW.out (by simp [Value.oneCell']) (by omega) (by unfold maxLen; omega) (by omega) HS9.out _ rfl ?_; intro gg cc w5 hown5 hgrow hat hlt5; have hbw := (Below.refl (w2.heap.size + 1) _).grown hgrow HS9.out (ogL HO9.out); have HLM0 := HL9.out.more ⟨c.x + (1 + d), c.y, c.w - (1 + d), c.h, z⟩ hbw hown5; rw [hxl] at HLM0; have HLM := Lib.hid HLM0; clear HLM0; obtain ⟨_, _, k2, _, _, kf⟩ := HL9.out.box.below hbw (Nat.lt_succ_self _))
              clear hown5 hgrow hat hlt5 hbw
              go_wp2_with fail
              go_roundw
              case rel => exact ⟨k + 1, M, N, _, _, by omega, by go_num, HLN, HLM⟩
              case measure => simp [intOf] <;> omega
            · by_cases hh : 1 < c.h
              · obtain ⟨⟨p0, p1, p2, p3, p4⟩, pf0, pf1, pf2, pf3, pf4⟩ := id P3
                go_wp2_with fail
                clear p0 pf0 p1 pf1 p2 pf2 p3 pf3 p4 pf4
                refine (Below_any b a len cap (c.h - 1) _ hcu3 (by omega) (by omega)).mono ?_
                rintro e u4 ⟨d, ⟨d0, d1⟩, rfl, hcu4, hbu4⟩
                have U4 := U3.trans hbu4
                have P4 := P3.but hbu4 (by omega)
                have Q4 := Q3.but hbu4 (by omega)
                clear hbu4 U3 P3 Q3
                have P5 : BoxP (u1.heap.size) ⟨c.x, c.y, c.w, 1 + d, c.c⟩ (((u4.setCell ⟨u1.heap.size + 1, 1, none⟩ (.int .i64 (c.y + (1 + d)))).setCell ⟨u1.heap.size + 1, 3, none⟩ (.int .i64 (c.h - (1 + d)))).setCell ⟨u1.heap.size, 3, none⟩ (.int .i64 (1 + d))) := ((P4.far (by simp) _).far (by simp) _).put3 _
                have Q5 : BoxP (u1.heap.size + 1) ⟨c.x, c.y + (1 + d), c.w, c.h - (1 + d), c.c⟩ (((u4.setCell ⟨u1.heap.size + 1, 1, none⟩ (.int .i64 (c.y + (1 + d)))).setCell ⟨u1.heap.size + 1, 3, none⟩ (.int .i64 (c.h - (1 + d)))).setCell ⟨u1.heap.size, 3, none⟩ (.int .i64 (1 + d))) := ((Q4.put1 _).put3 _).far (by simp) _
                have hc5 : Cur (((u4.setCell ⟨u1.heap.size + 1, 1, none⟩ (.int .i64 (c.y + (1 + d)))).setCell ⟨u1.heap.size + 1, 3, none⟩ (.int .i64 (c.h - (1 + d)))).setCell ⟨u1.heap.size, 3, none⟩ (.int .i64 (1 + d))) b a len cap := hcu4.below (B := u1.heap.size) (((((Below.refl (u1.heap.size) u4).setCell (p := ⟨u1.heap.size + 1, 1, none⟩) (by simp) _).setCell (p := ⟨u1.heap.size + 1, 3, none⟩) (by simp) _).setCell (p := ⟨u1.heap.size, 3, none⟩) (by simp) _)) (by omega)
                have U5 : But b u1 (((u4.setCell ⟨u1.heap.size + 1, 1, none⟩ (.int .i64 (c.y + (1 + d)))).setCell ⟨u1.heap.size + 1, 3, none⟩ (.int .i64 (c.h - (1 + d)))).setCell ⟨u1.heap.size, 3, none⟩ (.int .i64 (1 + d))) := But.setCell (But.setCell (But.setCell U4 (.inr (by simp)) _) (.inr (by simp)) _) (.inr (by simp)) _
                obtain ⟨⟨p0, p1, p2, p3, p4⟩, pf0, pf1, pf2, pf3, pf4⟩ := id P4
                obtain ⟨⟨q0, q1, q2, q3, q4⟩, qf0, qf1, qf2, qf3, qf4⟩ := id Q4
                clear P4 Q4 U4 hcu4
                go_wp2_with fail
                clear p0 pf0 p1 pf1 p2 pf2 p3 pf3 p4 pf4
                clear q0 qf0 q1 qf1 q2 qf2 q3 qf3 q4 qf4
                refine (Below_any b a len cap 5 _ hc5 (by omega) (by omega)).mono ?_
                rintro e u6 ⟨z, ⟨z0, z1⟩, rfl, hcu6, hbu6⟩
                have U6 := U5.trans hbu6
                have P6 := P5.but hbu6 (by omega)
                have Q6 := Q5.but hbu6 (by omega)
                clear hbu6 U5 P5 Q5 hc5
                have hc7 : Cur (u6.setCell ⟨u1.heap.size + 1, 4, none⟩ (.int .i64 z)) b a len cap := hcu6.below (B := u1.heap.size) ((Below.refl (u1.heap.size) u6).setCell (p := ⟨u1.heap.size + 1, 4, none⟩) (by simp) _) (by omega)
                have L7 : LS b w2.heap.size a len cap w M N (.slice (some ⟨g, 0, none⟩) xs.length kc) xs (u6.setCell ⟨u1.heap.size + 1, 4, none⟩ (.int .i64 z)) := L1.go (But.setCell U6 (.inr (by simp)) _) hc7
                have P7 : BoxP (u1.heap.size) ⟨c.x, c.y, c.w, 1 + d, c.c⟩ (u6.setCell ⟨u1.heap.size + 1, 4, none⟩ (.int .i64 z)) := P6.far (by simp) _
                have Q7 : BoxP (u1.heap.size + 1) ⟨c.x, c.y + (1 + d), c.w, c.h - (1 + d), z⟩ (u6.setCell ⟨u1.heap.size + 1, 4, none⟩ (.int .i64 z)) := Q6.put4 _
                obtain ⟨U, hU⟩ : ∃ U, (u6.setCell ⟨u1.heap.size + 1, 4, none⟩ (.int .i64 z)) = U := ⟨_, rfl⟩
                rw [hU] at L7 P7 Q7
                obtain ⟨V, hV⟩ : ∃ V, (((((U.setCell ⟨g, i * 5, none⟩ (.int .i64 (c.x))).setCell ⟨g, i * 5 + 1, none⟩ (.int .i64 (c.y))).setCell ⟨g, i * 5 + 2, none⟩ (.int .i64 (c.w))).setCell ⟨g, i * 5 + 3, none⟩ (.int .i64 (1 + d))).setCell ⟨g, i * 5 + 4, none⟩ (.int .i64 (c.c))) = V := ⟨_, rfl⟩
                have L8 : LS b w2.heap.size a len cap w M N (.slice (some ⟨g, 0, none⟩) xs.length kc) (xs.set i ⟨c.x, c.y, c.w, 1 + d, c.c⟩) V := by rw [← hV]; exact L7.put hi (c.x) (c.y) (c.w) (1 + d) (c.c) rfl
                have Q8 : BoxP (u1.heap.size + 1) ⟨c.x, c.y + (1 + d), c.w, c.h - (1 + d), z⟩ V := by rw [← hV]; exact ((((Q7.far (by simp; omega) _).far (by simp; omega) _).far (by simp; omega) _).far (by simp; omega) _).far (by simp; omega) _
                have L9 := L8.new (bel0 _ (.cells #[.int .i64 (c.x), .int .i64 (c.y + (1 + d)), .int .i64 (c.w), .int .i64 (c.h - (1 + d)), .int .i64 (z)] 73))
                have HL9 := Lib.hid L9
                have HO9 := Lib.hid L9.own
                have HNW := Lib.hid (newsL V V.heap.size #[.int .i64 (c.x), .int .i64 (c.y + (1 + d)), .int .i64 (c.w), .int .i64 (c.h - (1 + d)), .int .i64 (z)] 73 rfl)
                obtain ⟨_, _, b2', _, _, _⟩ := id L7.box
                obtain ⟨_, _, b2x, _, _, _⟩ := id L8.box
                obtain ⟨⟨_, _, _, _, q4⟩, _, _, _, _, qf4⟩ := id Q6
                obtain ⟨⟨p0, p1, p2, p3, p4⟩, _⟩ := id P7
                obtain ⟨⟨y0, y1, y2, y3, y4⟩, _⟩ := id Q8
                dsimp only at q4 p0 p1 p2 p3 p4 y0 y1 y2 y3 y4
                obtain ⟨r0, r1, r2, r3, r4⟩ := rowAt L7.own hi
                have rf0 := L7.own.frozenAt (i * 5)
                have rf1 := L7.own.frozenAt (i * 5 + 1)
                have rf2 := L7.own.frozenAt (i * 5 + 2)
                have rf3 := L7.own.frozenAt (i * 5 + 3)
                have rf4 := L7.own.frozenAt (i * 5 + 4)
                have HLN : Hid (LayOk M N (xs.set i ⟨c.x, c.y, c.w, 1 + d, c.c⟩ ++ [⟨c.x, c.y + (1 + d), c.w, c.h - (1 + d), z⟩])) := Lib.hid (lay_cuth hok.out hi h12 HC.out (d := 1 + d) (k := z) (by omega) (by omega) (by omega) (by omega))
                have hxl : (xs.set i ⟨c.x, c.y, c.w, 1 + d, c.c⟩).length = xs.length := List.length_set ..
                have HS9 := Lib.hid L9.size
                have hLn : (xs.length : Int) ≤ 11 := by omega
                have hi2 : (i : Int) < (xs.length : Int) := by omega
                have hi3 : (0 : Int) ≤ (i : Int) := by omega
                clear L7 P7 Q7 L8 Q8 L9 hc7 P6 Q6 U6 hcu6 hls hok L1 hcu1 HC
                clear f00 f01 f10 f11 f20 f21 f30 f31 f40 f41 d0 d1 hM hN
                go_wp2_with (at_builtin; refine wpList_append_lies _ rfl _ _ 48 rfl (w2.heap.size + 1) 73 i0 _ 5 40 Try.underlying48 hi0 hz0 hz1 hz2 rfl (by decide) _ _ _ rfl HO9.out ⟨_, 0, none⟩ 1 1 [.int .i64 (c.x), .int .i64 (c.y + (1 + d)), .int .i64 (c.w), .int .i64 (c.h - (1 + d)), .int .i64 (z)] rfl rfl HNW.out (by simp [Value.oneCell']) (by omega) (by unfold maxLen; omega) (by omega) HS9.out _ rfl ?_; intro gg cc w5 hown5 hgrow hat hlt5; have hbw := (Below.refl (w2.heap.size + 1) _).grown hgrow HS9.out (ogL HO9.out); have HLM0 := HL9.out.more ⟨c.x, c.y + (1 + d), c.w, c.h - (1 + d), z⟩ hbw hown5; rw [hxl] at HLM0; have HLM := Lib.hid HLM0; clear HLM0; obtain ⟨_, _, k2, _, _, kf⟩ := HL9.out.box.below hbw (Nat.lt_succ_self _))
                clear hown5 hgrow hat hlt5 hbw
                go_wp2_with fail
                go_roundw
                case rel => exact ⟨k + 1, M, N, _, _, by omega, by go_num, HLN, HLM⟩
                case measure => simp [intOf] <;> omega
              · obtain ⟨⟨p0, p1, p2, p3, p4⟩, pf0, pf1, pf2, pf3, pf4⟩ := id P3
                have HLS := Lib.hid (L1.go U3 hcu3)
                clear P3 Q3 U3 hcu3 hls
                go_wp2_with fail
                go_roundw
                case rel => exact ⟨k + 1, M, N, _, xs, by omega, by go_num, hok, HLS⟩
                case measure => simp [intOf] <;> omega
        · have h12' : ¬ (xs.length : Int) < 12 := by omega
          have HI : Hid (PatIn (w2.heap.size + 1) wr.heap.size wr v xs) := Lib.hid (PatIn.of_owns hls.out.own (by have := hok.out.2.2.1; omega))
          obtain ⟨q0, q1, q2, _, _, _⟩ := id hls.out.box
          obtain ⟨r0, r1, r2, f0, f1, f2⟩ := id hls.out.res
          have hlo := hls.out.lo
          obtain ⟨av, cv, rfl⟩ := HI.out.form
          go_wp2_with fail
          refine bodyPost_ret (v := .agg #[.int .i64 M, .int .i64 N, .slice av xs.length cv]) (by simp [results, Try.results34, go_sem, r0, r1, r2]) rfl ⟨M, N, _, xs, hok.out, rfl, ?_, ?_, ?_⟩
          · refine PatIn.wide (lo := w2.heap.size + 1) (hi := wr.heap.size) ?_ (by omega) (by simp [World.setCell])
            refine PatIn.set_far (PatIn.set_far (PatIn.set_far HI.out ?_ _) ?_ _) ?_ _ <;> (simp <;> omega)
          · refine hls.out.cur.below (B := w.heap.size) ?_ hlt
            refine Below.setCell (Below.setCell (Below.setCell (Below.refl _ _) ?_ _) ?_ _) ?_ _ <;> exact Nat.le_refl _
          · exact But.setCell (But.setCell (But.setCell hls.out.but (.inr (Nat.le_refl _)) _) (.inr (Nat.le_refl _)) _) (.inr (Nat.le_refl _)) _
      · have HI : Hid (PatIn (w2.heap.size + 1) wr.heap.size wr v xs) := Lib.hid (PatIn.of_owns hls.out.own (by have := hok.out.2.2.1; omega))
        obtain ⟨q0, q1, q2, _, _, _⟩ := id hls.out.box
        obtain ⟨r0, r1, r2, f0, f1, f2⟩ := id hls.out.res
        have hlo := hls.out.lo
        obtain ⟨av, cv, rfl⟩ := HI.out.form
        go_wp2_with fail
        refine bodyPost_ret (v := .agg #[.int .i64 M, .int .i64 N, .slice av xs.length cv]) (by simp [results, Try.results34, go_sem, r0, r1, r2]) rfl ⟨M, N, _, xs, hok.out, rfl, ?_, ?_, ?_⟩
        · refine PatIn.wide (lo := w2.heap.size + 1) (hi := wr.heap.size) ?_ (by omega) (by simp [World.setCell])
          refine PatIn.set_far (PatIn.set_far (PatIn.set_far HI.out ?_ _) ?_ _) ?_ _ <;> (simp <;> omega)
        · refine hls.out.cur.below (B := w.heap.size) ?_ hlt
          refine Below.setCell (Below.setCell (Below.setCell (Below.refl _ _) ?_ _) ?_ _) ?_ _ <;> exact Nat.le_refl _
        · exact But.setCell (But.setCell (But.setCell hls.out.but (.inr (Nat.le_refl _)) _) (.inr (Nat.le_refl _)) _) (.inr (Nat.le_refl _)) _

end Go.Proofs.Ytlkiacgpiodkiaa
