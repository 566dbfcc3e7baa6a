/- Sameness: the library's CompactFunc over a row of blocks. Sameness: what is sorted and compacted has as many blocks as there are forms. Pure. Sameness: the program's LeastForm and LeastPattern. -/
import Derived.Test.YtfidnhhlcdbaeaaGreatDoorM22
import Derived.Lib.SliceRun
import Derived.BigFrame

namespace Go.Proofs.YtfidnhhlcdbaeaaGreatDoor
open Go.ChangeShapes Go.WideShapes Go.ChangeAt Go.RowKit

/-- How many of the first i have no equal neighbour ahead of them. -/
noncomputable def sameV (a b : BV) : Bool := sameB a.n b.n a.xs b.xs
noncomputable def hd (l : List BV) : Nat → Nat
  | 0 => 0
  | i + 1 => hd l i + (if i = 0 then 1 else if sameV (l.getD i BV.zero) (l.getD (i - 1) BV.zero) = true then 0 else 1)
theorem hd_le (l : List BV) : ∀ i, hd l i ≤ i
  | 0 => Nat.le_refl _
  | i + 1 => by have := hd_le l i; unfold hd; split <;> (try split) <;> omega
theorem hd_yes {l : List BV} {i : Nat} (h : i ≠ 0) (e : sameV (l.getD i BV.zero) (l.getD (i - 1) BV.zero) = true) : hd l (i + 1) = hd l i := by
  show hd l i + (if i = 0 then 1 else if sameV (l.getD i BV.zero) (l.getD (i - 1) BV.zero) = true then 0 else 1) = _
  rw [if_neg h, if_pos e]; rfl
theorem hd_no {l : List BV} {i : Nat} (e : sameV (l.getD i BV.zero) (l.getD (i - 1) BV.zero) = false) : hd l (i + 1) = hd l i + 1 := by
  show hd l i + (if i = 0 then 1 else if sameV (l.getD i BV.zero) (l.getD (i - 1) BV.zero) = true then 0 else 1) = _
  split
  · rfl
  · rw [e]; rfl
theorem But.setCells {g : Nat} {u : World} : ∀ (vs : List Value) (o : Nat) (w : World), But g u w → But g u (w.setCells g o vs)
  | [], _, _, h => h
  | v :: r, o, _, h => But.setCells r (o + 1) _ (h.setCell (p := ⟨g, o, none⟩) (.inl rfl) v)
theorem zeroB (w : World) : (zeroValue 26).run Tryz.prog w = .ok (.agg #[.int .i64 0, .slice none 0 0]) w := by kernel_rfl
theorem clearB (w : World) (ty : TypeId) (g o n c : Nat) (hn : 0 < n) (hc : ∀ j, j < n * 2 → (w.cell? ⟨g, o + j, none⟩).isSome = true) (hf : ∀ j, j < n * 2 → w.frozen? ⟨g, o + j, none⟩ = false) :
    (Builtin.clear_ #[44] ty #[.slice (some ⟨g, o, none⟩) n c]).run Tryz.prog w = .ok (.tuple #[]) (w.setCells g o (Builtin.zeroCells #[.int .i64 0, .slice none 0 0] n).toList) := by
  have hlen : (Builtin.zeroCells #[.int .i64 0, .slice none 0 0] n).toList.length = n * 2 := by simp [Builtin.zeroCells]
  have hone : ∀ v ∈ (Builtin.zeroCells #[.int .i64 0, .slice none 0 0] n).toList, v.oneCell' = true := by
    intro v hv
    simp only [Builtin.zeroCells, Array.toList_map, List.mem_map] at hv
    obtain ⟨i, _, rfl⟩ := hv
    have : i % (#[Value.int .i64 0, Value.slice none 0 0] : Array Value).size = 0 ∨ i % (#[Value.int .i64 0, Value.slice none 0 0] : Array Value).size = 1 := by simp; omega
    rcases this with e | e <;> (rw [e]; rfl)
  have hst := run_storeCells_cells (P := Tryz.prog) g o _ 0 w (by rw [hlen]; simpa using hc) (by rw [hlen]; simpa using hf) hone
  simp only [Nat.add_zero] at hst
  obtain ⟨m, rfl⟩ : ∃ m, n = m + 1 := ⟨n - 1, by omega⟩
  simp [Builtin.clear_, run_underlying Tryz.underlying44, Value.cells, hst]
theorem row_cells {u : World} {g : Nat} {l : List BV} (h : BRow u g l) {k : Nat} (hk : k ≤ l.length) : ∀ j, j < (l.length - k) * 2 → (u.cell? ⟨g, k * 2 + j, none⟩).isSome = true ∧ u.frozen? ⟨g, k * 2 + j, none⟩ = false := by
  intro j hj
  obtain ⟨i, hi⟩ : ∃ i, k * 2 + j = i * 2 ∨ k * 2 + j = i * 2 + 1 := ⟨(k * 2 + j) / 2, by omega⟩
  obtain ⟨h0, h1, h2, h3⟩ := (h i (by omega)).1
  rcases hi with e | e <;> rw [e]
  · exact ⟨by rw [h0]; rfl, h2⟩
  · exact ⟨by rw [h1]; rfl, h3⟩
set_option maxRecDepth 100000 in
set_option maxHeartbeats 8000000 in
theorem Compact_any (g : Nat) (l : List BV) (w : World) (hrow : BRow w g l) (hl : l.length = 8) :
    Calls Tryz.prog 34 #[.slice (some ⟨g, 0, none⟩) 8 8, .func (.func 13) #[] #[]] w
      fun e w' => e = .returned (.slice (some ⟨g, 0, none⟩) (hd l 8) 8) ∧ But g w w' := by
  have HR0 : Hid (BRow w g l ∧ But g w w) := Lib.hid ⟨hrow, But.refl _ _⟩
  have HLL := Lib.hid hl
  have HD1 : Hid (hd l 1 = 1) := Lib.hid rfl
  clear hrow hl
  go_enter Tryz.func34, Tryz.ntmps34
  go_wp2_with fail
  go_loopw [5] (fun v5 wr => ∃ k : Nat, 1 ≤ k ∧ k ≤ 8 ∧ v5 = .int .i64 k ∧ Hid (hd l k = k) ∧ Hid (BRow wr g l ∧ But g w wr)) (fun v5 _ => 8 - (intOf v5).toNat)
  case atStart => exact ⟨1, by omega, by omega, rfl, HD1, HR0⟩
  case round =>
    clear HR0 HD1
    obtain ⟨k, hk1, hk8, rfl, HD, HR⟩ := hrel
    by_cases hlt : k < 8
    · obtain ⟨m, hm⟩ : ∃ m, k = m + 1 := ⟨k - 1, by omega⟩
      have HKM := Lib.hid hm
      have hwk : IntKind.i64.wrap ((k : Int) - 1) = (m : Int) := by rw [IntKind.wrap_i64]; omega
      have hm8 : (m : Int) < 8 := by omega
      have hltz : (k : Int) < 8 := by omega
      clear hm
      obtain ⟨wo, rfl⟩ : ∃ wo, wo = wr := ⟨_, rfl⟩
      obtain ⟨nk, ak, ck, xk, evk, ⟨q0, q1, -, -⟩, rk⟩ := HR.out.1.cell (Below.refl _ _) (i := k) (by rw [HLL.out]; omega)
      obtain ⟨nm, am, cm, xm, evm, ⟨p0, p1, -, -⟩, rm⟩ := HR.out.1.cell (Below.refl _ _) (i := m) (by rw [HLL.out]; omega)
      have CC : Hid (∀ u, Below wo.heap.size wo u → Calls Tryz.prog 13 #[.agg #[.int .i64 nk, .slice ak xk.length ck], .agg #[.int .i64 nm, .slice am xm.length cm]] u fun e w' => e = .returned (.bool (sameB nk nm xk xm)) ∧ Below u.heap.size u w') := Lib.hid (fun u hu =>
        ImplSame_any _ _ _ _ nk nm _ _ xk xm u (rk.below hu) (rm.below hu) hu.size hu.size)
      have HSV : Hid (sameV (l.getD k BV.zero) (l.getD (k - 1) BV.zero) = sameB nk nm xk xm) := Lib.hid (by rw [show k - 1 = m by have := HKM.out; omega, evk, evm]; rfl)
      obtain ⟨c, hc⟩ : ∃ c, sameB nk nm xk xm = c := ⟨_, rfl⟩
      rw [hc] at CC HSV
      clear rk rm evk evm hc
      have D0 : Below wo.heap.size wo wo.drew := ⟨rfl, rfl, rfl, Nat.le_refl _, fun _ _ => rfl⟩
      have KP : ∀ u v, Below u.heap.size u v → (u.cell? ⟨g, k * 2, none⟩ = some (.int .i64 nk) ∧ u.cell? ⟨g, k * 2 + 1, none⟩ = some (.slice ak xk.length ck) ∧ u.cell? ⟨g, m * 2, none⟩ = some (.int .i64 nm) ∧ u.cell? ⟨g, m * 2 + 1, none⟩ = some (.slice am xm.length cm) ∧ Below wo.heap.size wo u) → (v.cell? ⟨g, k * 2, none⟩ = some (.int .i64 nk) ∧ v.cell? ⟨g, k * 2 + 1, none⟩ = some (.slice ak xk.length ck) ∧ v.cell? ⟨g, m * 2, none⟩ = some (.int .i64 nm) ∧ v.cell? ⟨g, m * 2 + 1, none⟩ = some (.slice am xm.length cm) ∧ Below wo.heap.size wo v) := fun u v hb h => ⟨kept hb h.1, kept hb h.2.1, kept hb h.2.2.1, kept hb h.2.2.2.1, bel_c h.2.2.2.2 (Nat.le_refl _) hb⟩
      have S0 : wo.drew.cell? ⟨g, k * 2, none⟩ = some (.int .i64 nk) ∧ wo.drew.cell? ⟨g, k * 2 + 1, none⟩ = some (.slice ak xk.length ck) ∧ wo.drew.cell? ⟨g, m * 2, none⟩ = some (.int .i64 nm) ∧ wo.drew.cell? ⟨g, m * 2 + 1, none⟩ = some (.slice am xm.length cm) ∧ Below wo.heap.size wo wo.drew := ⟨kept D0 q0, kept D0 q1, kept D0 p0, kept D0 p1, D0⟩
      clear q0 q1 p0 p1
      go_upto_region 6 with fail
      cases c with
      | false =>
        have HD2 : Hid (hd l (k + 1) = k + 1) := Lib.hid (by rw [hd_no HSV.out, HD.out])
        clear HSV HD
        go_region_held3 (fun w' => w'.cell? ⟨g, k * 2, none⟩ = some (.int .i64 nk) ∧ w'.cell? ⟨g, k * 2 + 1, none⟩ = some (.slice ak xk.length ck) ∧ w'.cell? ⟨g, m * 2, none⟩ = some (.int .i64 nm) ∧ w'.cell? ⟨g, m * 2 + 1, none⟩ = some (.slice am xm.length cm) ∧ Below wo.heap.size wo w') (first | assumption | (refine KP _ _ (by assumption) ?_; assumption))
          ((first
            | (go_at_call 13; refine (args_eq (CC.out _ (And.right (And.right (And.right (And.right (by assumption)))))) (by with_reducible rfl)).mono ?_; rintro e y ⟨rfl, hb⟩)))
        all_goals
          have HY := And.right (And.right (And.right (And.right (show y.cell? ⟨g, k * 2, none⟩ = some (.int .i64 nk) ∧ y.cell? ⟨g, k * 2 + 1, none⟩ = some (.slice ak xk.length ck) ∧ y.cell? ⟨g, m * 2, none⟩ = some (.int .i64 nm) ∧ y.cell? ⟨g, m * 2 + 1, none⟩ = some (.slice am xm.length cm) ∧ Below wo.heap.size wo y by assumption))))
          have HNX : Hid (BRow y g l ∧ But g w y) := Lib.hid ⟨HR.out.1.keep HY, HR.out.2.thenBelow (HY.mono HR.out.2.size)⟩
          clear S0 KP CC
          go_wp2_with fail
          go_roundw
          case rel => exact ⟨k + 1, by omega, by omega, by go_num, HD2, HNX⟩
          case measure => simp [intOf] <;> omega
      | true =>
        have HD2 : Hid (hd l (k + 1) = k) := Lib.hid (by rw [hd_yes (by omega) HSV.out, HD.out])
        clear HSV HD
        go_region_held3 (fun w' => w'.cell? ⟨g, k * 2, none⟩ = some (.int .i64 nk) ∧ w'.cell? ⟨g, k * 2 + 1, none⟩ = some (.slice ak xk.length ck) ∧ w'.cell? ⟨g, m * 2, none⟩ = some (.int .i64 nm) ∧ w'.cell? ⟨g, m * 2 + 1, none⟩ = some (.slice am xm.length cm) ∧ Below wo.heap.size wo w') (first | assumption | (refine KP _ _ (by assumption) ?_; assumption))
          ((first
            | (go_at_call 13; refine (args_eq (CC.out _ (And.right (And.right (And.right (And.right (by assumption)))))) (by with_reducible rfl)).mono ?_; rintro e y ⟨rfl, hb⟩)))
        all_goals
          have HY := And.right (And.right (And.right (And.right (show y.cell? ⟨g, k * 2, none⟩ = some (.int .i64 nk) ∧ y.cell? ⟨g, k * 2 + 1, none⟩ = some (.slice ak xk.length ck) ∧ y.cell? ⟨g, m * 2, none⟩ = some (.int .i64 nm) ∧ y.cell? ⟨g, m * 2 + 1, none⟩ = some (.slice am xm.length cm) ∧ Below wo.heap.size wo y by assumption))))
          have HNX : Hid (BRow y g l ∧ But g w y) := Lib.hid ⟨HR.out.1.keep HY, HR.out.2.thenBelow (HY.mono HR.out.2.size)⟩
          clear S0 KP CC HY hb
          obtain ⟨r, hr⟩ : ∃ r, 8 - k = r := ⟨_, rfl⟩
          have HKR : Hid (k + r = 8) := Lib.hid (by omega)
          go_wp2_with fail
          (try rw [hr])
          clear hr
          go_loopw [5, 7] (fun v5 v7 wr => ∃ (kk p : Nat) (ll : List BV), 1 ≤ kk ∧ kk ≤ m + p ∧ 1 ≤ p ∧ p ≤ r ∧ v5 = .int .i64 kk ∧ v7 = .int .i64 p ∧ Hid (hd l (k + p) = kk) ∧ Hid (ll.length = 8 ∧ ∀ i, m + p ≤ i → ll.getD i BV.zero = l.getD i BV.zero) ∧ Hid (BRow wr g ll ∧ But g w wr)) (fun _ v7 _ => r - (intOf v7).toNat)
          case atStart => exact ⟨k, 1, l, by omega, by have := HKM.out; omega, by omega, by have := HKR.out; omega, rfl, rfl, HD2, Lib.hid ⟨HLL.out, fun _ _ => rfl⟩, HNX⟩
          case round =>
            clear HD2 HNX HR
            obtain ⟨kk, p, ll, hkk1, hkk, hp1, hpr, rfl, rfl, HD, HLX, HR⟩ := hrel
            have HKB : Hid (kk < 8) := Lib.hid (by have := HKR.out; have := HKM.out; omega)
            by_cases hlt2 : p < r
            · obtain ⟨q, hq⟩ : ∃ q, p = q + 1 := ⟨p - 1, by omega⟩
              have HPQ := Lib.hid hq
              have hwp : IntKind.i64.wrap ((p : Int) - 1) = (q : Int) := by rw [IntKind.wrap_i64]; have := HKR.out; omega
              have hqr : (q : Int) < (r : Int) := by omega
              have hr8 : r < 8 := by have := HKR.out; omega
              have hltr : (p : Int) < (r : Int) := by omega
              have hkk8 : kk < 8 := HKB.out
              clear hq
              obtain ⟨wo, rfl⟩ : ∃ wo, wo = wr := ⟨_, rfl⟩
              obtain ⟨np, ap, cp, xp, evp, ⟨q0, q1, q2, q3⟩, rp⟩ := HR.out.1.cell (Below.refl _ _) (i := k + p) (by rw [HLX.out.1]; have := HKR.out; omega)
              obtain ⟨nq, aq, cq, xq, evq, ⟨p0, p1, -, -⟩, rq⟩ := HR.out.1.cell (Below.refl _ _) (i := k + q) (by rw [HLX.out.1]; have := HKR.out; omega)
              have ekp : (k + p) * 2 = k * 2 + p * 2 := by omega
              have ekq : (k + q) * 2 = k * 2 + q * 2 := by omega
              rw [ekp] at q0 q1 q2 q3
              rw [ekq] at p0 p1
              clear ekp ekq
              have CC : Hid (∀ u, Below wo.heap.size wo u → Calls Tryz.prog 13 #[.agg #[.int .i64 np, .slice ap xp.length cp], .agg #[.int .i64 nq, .slice aq xq.length cq]] u fun e w' => e = .returned (.bool (sameB np nq xp xq)) ∧ Below u.heap.size u w') := Lib.hid (fun u hu =>
                ImplSame_any _ _ _ _ np nq _ _ xp xq u (rp.below hu) (rq.below hu) hu.size hu.size)
              have HSV : Hid (sameV (l.getD (k + p) BV.zero) (l.getD (k + p - 1) BV.zero) = sameB np nq xp xq) := Lib.hid (by
                rw [show k + p - 1 = k + q by have := HPQ.out; omega, ← HLX.out.2 (k + p) (by have := HKM.out; omega), ← HLX.out.2 (k + q) (by have := HKM.out; have := HPQ.out; omega), evp, evq]; rfl)
              obtain ⟨c, hc⟩ : ∃ c, sameB np nq xp xq = c := ⟨_, rfl⟩
              rw [hc] at CC HSV
              have HRP : Hid (∀ u, Below wo.heap.size wo u → CellIn (g + 1) u.heap.size u (.slice ap xp.length cp) xp) := Lib.hid (fun u hu => (rp.below hu).wide (Nat.le_refl _) hu.size)
              have HEP := Lib.hid evp
              have HFZ : Hid (∀ u, Below wo.heap.size wo u → ElB u g kk (ll.getD kk BV.zero)) := Lib.hid (fun u hu => (HR.out.1 kk (by rw [HLX.out.1]; exact HKB.out)).1.keep hu)
              clear rp rq evp evq hc
              have D0 : Below wo.heap.size wo wo.drew := ⟨rfl, rfl, rfl, Nat.le_refl _, fun _ _ => rfl⟩
              have KP : ∀ u v, Below u.heap.size u v → (u.cell? ⟨g, k * 2 + p * 2, none⟩ = some (.int .i64 np) ∧ u.cell? ⟨g, k * 2 + p * 2 + 1, none⟩ = some (.slice ap xp.length cp) ∧ u.cell? ⟨g, k * 2 + q * 2, none⟩ = some (.int .i64 nq) ∧ u.cell? ⟨g, k * 2 + q * 2 + 1, none⟩ = some (.slice aq xq.length cq) ∧ Below wo.heap.size wo u) → (v.cell? ⟨g, k * 2 + p * 2, none⟩ = some (.int .i64 np) ∧ v.cell? ⟨g, k * 2 + p * 2 + 1, none⟩ = some (.slice ap xp.length cp) ∧ v.cell? ⟨g, k * 2 + q * 2, none⟩ = some (.int .i64 nq) ∧ v.cell? ⟨g, k * 2 + q * 2 + 1, none⟩ = some (.slice aq xq.length cq) ∧ Below wo.heap.size wo v) := fun u v hb h => ⟨kept hb h.1, kept hb h.2.1, kept hb h.2.2.1, kept hb h.2.2.2.1, bel_c h.2.2.2.2 (Nat.le_refl _) hb⟩
              have S0 : wo.drew.cell? ⟨g, k * 2 + p * 2, none⟩ = some (.int .i64 np) ∧ wo.drew.cell? ⟨g, k * 2 + p * 2 + 1, none⟩ = some (.slice ap xp.length cp) ∧ wo.drew.cell? ⟨g, k * 2 + q * 2, none⟩ = some (.int .i64 nq) ∧ wo.drew.cell? ⟨g, k * 2 + q * 2 + 1, none⟩ = some (.slice aq xq.length cq) ∧ Below wo.heap.size wo wo.drew := ⟨kept D0 q0, kept D0 q1, kept D0 p0, kept D0 p1, D0⟩
              clear q0 q1 q2 q3 p0 p1
              go_upto_region 11 with fail
              cases c with
              | true =>
                have HD3 : Hid (hd l (k + (p + 1)) = kk) := Lib.hid (by rw [show k + (p + 1) = k + p + 1 by omega, hd_yes (by omega) HSV.out, HD.out])
                have HLN : Hid (ll.length = 8 ∧ ∀ i, m + (p + 1) ≤ i → ll.getD i BV.zero = l.getD i BV.zero) := Lib.hid ⟨HLX.out.1, fun i hi => HLX.out.2 i (by omega)⟩
                clear HSV HD HLX
                go_region_held3 (fun w' => w'.cell? ⟨g, k * 2 + p * 2, none⟩ = some (.int .i64 np) ∧ w'.cell? ⟨g, k * 2 + p * 2 + 1, none⟩ = some (.slice ap xp.length cp) ∧ w'.cell? ⟨g, k * 2 + q * 2, none⟩ = some (.int .i64 nq) ∧ w'.cell? ⟨g, k * 2 + q * 2 + 1, none⟩ = some (.slice aq xq.length cq) ∧ Below wo.heap.size wo w') (first | assumption | (refine KP _ _ (by assumption) ?_; assumption))
                  ((first
                    | (go_at_call 13; refine (args_eq (CC.out _ (And.right (And.right (And.right (And.right (by assumption)))))) (by with_reducible rfl)).mono ?_; rintro e y ⟨rfl, hb⟩)))
                all_goals
                  have HY := And.right (And.right (And.right (And.right (show y.cell? ⟨g, k * 2 + p * 2, none⟩ = some (.int .i64 np) ∧ y.cell? ⟨g, k * 2 + p * 2 + 1, none⟩ = some (.slice ap xp.length cp) ∧ y.cell? ⟨g, k * 2 + q * 2, none⟩ = some (.int .i64 nq) ∧ y.cell? ⟨g, k * 2 + q * 2 + 1, none⟩ = some (.slice aq xq.length cq) ∧ Below wo.heap.size wo y by assumption))))
                  have HNX : Hid (BRow y g ll ∧ But g w y) := Lib.hid ⟨HR.out.1.keep HY, HR.out.2.thenBelow (HY.mono HR.out.2.size)⟩
                  clear S0 KP CC HFZ HRP
                  go_wp2_with fail
                  go_roundw
                  case rel => exact ⟨kk, p + 1, ll, by omega, by omega, by omega, by omega, rfl, by go_num, HD3, HLN, HNX⟩
                  case measure => simp [intOf] <;> omega
              | false =>
                have HD3 : Hid (hd l (k + (p + 1)) = kk + 1) := Lib.hid (by rw [show k + (p + 1) = k + p + 1 by omega, hd_no HSV.out, HD.out])
                have HLN : Hid ((ll.set kk ⟨np, .slice ap xp.length cp, xp⟩).length = 8 ∧ ∀ i, m + (p + 1) ≤ i → (ll.set kk ⟨np, .slice ap xp.length cp, xp⟩).getD i BV.zero = l.getD i BV.zero) := Lib.hid ⟨by rw [List.length_set]; exact HLX.out.1, fun i hi => by
                  rw [← HLX.out.2 i (by omega)]
                  simp [List.getD, show kk ≠ i by omega]⟩
                clear HSV HD HLX
                go_region_held3 (fun w' => w'.cell? ⟨g, k * 2 + p * 2, none⟩ = some (.int .i64 np) ∧ w'.cell? ⟨g, k * 2 + p * 2 + 1, none⟩ = some (.slice ap xp.length cp) ∧ w'.cell? ⟨g, k * 2 + q * 2, none⟩ = some (.int .i64 nq) ∧ w'.cell? ⟨g, k * 2 + q * 2 + 1, none⟩ = some (.slice aq xq.length cq) ∧ Below wo.heap.size wo w') (first | assumption | (refine KP _ _ (by assumption) ?_; assumption))
                  ((first
                    | (go_at_call 13; refine (args_eq (CC.out _ (And.right (And.right (And.right (And.right (by assumption)))))) (by with_reducible rfl)).mono ?_; rintro e y ⟨rfl, hb⟩)))
                all_goals
                  have HYS := (show y.cell? ⟨g, k * 2 + p * 2, none⟩ = some (.int .i64 np) ∧ y.cell? ⟨g, k * 2 + p * 2 + 1, none⟩ = some (.slice ap xp.length cp) ∧ y.cell? ⟨g, k * 2 + q * 2, none⟩ = some (.int .i64 nq) ∧ y.cell? ⟨g, k * 2 + q * 2 + 1, none⟩ = some (.slice aq xq.length cq) ∧ Below wo.heap.size wo y by assumption)
                  have HY := And.right (And.right (And.right (And.right HYS)))
                  obtain ⟨z0, z1, -, -, -⟩ := HYS
                  obtain ⟨t0, t1, t2, t3⟩ := HFZ.out y HY
                  have HNX : Hid (BRow (setB y g kk np (.slice ap xp.length cp)) g (ll.set kk ⟨np, .slice ap xp.length cp, xp⟩) ∧ But g w (setB y g kk np (.slice ap xp.length cp))) := Lib.hid ⟨(HR.out.1.keep HY).set kk np _ xp (HRP.out y HY), (HR.out.2.thenBelow (HY.mono HR.out.2.size)).setB _ _ _⟩
                  clear S0 KP CC HFZ HRP HEP
                  go_wp2_with fail
                  go_roundw
                  case rel => exact ⟨kk + 1, p + 1, _, by omega, by omega, by omega, by omega, by go_num, by go_num, HD3, HLN, HNX⟩
                  case measure => simp [intOf] <;> omega
            · obtain rfl : p = r := by omega
              have hkr : ¬ (p : Int) < (p : Int) := by omega
              have hkk8 : kk < 8 := HKB.out
              have hkz : (kk : Int) ≤ 8 := by omega
              have HAN : Hid (hd l 8 = kk) := Lib.hid (by rw [← HKR.out]; exact HD.out)
              obtain ⟨wo, rfl⟩ : ∃ wo, wo = wr := ⟨_, rfl⟩
              have hcl : ∀ ty, (Builtin.clear_ #[44] ty #[.slice (some ⟨g, kk * 2, none⟩) (8 - kk) (8 - kk)]).run Tryz.prog wo = .ok (.tuple #[]) (wo.setCells g (kk * 2) (Builtin.zeroCells #[.int .i64 0, .slice none 0 0] (8 - kk)).toList) := fun ty =>
                clearB wo ty g (kk * 2) (8 - kk) (8 - kk) (by omega) (fun j hj => (row_cells HR.out.1 (k := kk) (by rw [HLX.out.1]; omega) j (by rw [HLX.out.1]; exact hj)).1) (fun j hj => (row_cells HR.out.1 (k := kk) (by rw [HLX.out.1]; omega) j (by rw [HLX.out.1]; exact hj)).2)
              have HBW : Hid (But g w (wo.setCells g (kk * 2) (Builtin.zeroCells #[.int .i64 0, .slice none 0 0] (8 - kk)).toList)) := Lib.hid (But.setCells _ _ _ HR.out.2)
              generalize wo.setCells g (kk * 2) (Builtin.zeroCells #[.int .i64 0, .slice none 0 0] (8 - kk)).toList = we at hcl HBW
              go_wp2_with (simp only [hcl])
              go_ret
              exact ⟨by rw [HAN.out]; rfl, HBW.out⟩
    · obtain rfl : k = 8 := by omega
      go_wp2_with fail
      go_ret
      exact ⟨by rw [HD.out]; rfl, HR.out.2⟩

end Go.Proofs.YtfidnhhlcdbaeaaGreatDoor

namespace Go.Proofs.YtfidnhhlcdbaeaaGreatDoor
open Go.ChangeShapes Go.WideShapes Go.ChangeAt Go.RowKit

/-- What orders a block. -/
noncomputable def keyB (z : BV) : List UInt8 := (txtA z.n z.xs).data.toList
theorem less_iff {a b : BV} : lessB a b = true ↔ Op.bytesLess (keyB a) (keyB b) = true := by
  unfold lessB keyB
  rw [decide_eq_true_iff]; exact cmpT_neg _ _
def LeB (a b : BV) : Prop := lessB b a = false
theorem le_key {a b : BV} : LeB a b ↔ Op.bytesLess (keyB b) (keyB a) = false := by
  unfold LeB
  rw [← Bool.not_eq_true, ← Bool.not_eq_true, less_iff]
theorem LeB.trans {a b c : BV} (h : LeB a b) (k : LeB b c) : LeB a c := le_key.2 (bl_le_trans (le_key.1 h) (le_key.1 k))
theorem LeB.of_less {a b : BV} (h : lessB a b = true) : LeB a b := by
  rw [le_key]
  by_cases c : Op.bytesLess (keyB b) (keyB a) = true
  · have := bl_trans _ _ _ c (less_iff.1 h)
    rw [bl_irr] at this; cases this
  · simpa using c
theorem LeB.key_eq {a b : BV} (h : LeB a b) (k : LeB b a) : keyB a = keyB b := bl_tri _ _ (le_key.1 k) (le_key.1 h)
theorem swp_at (l : List BV) {j : Nat} (hj : j + 1 < l.length) (k : Nat) : (swpB l j).getD k BV.zero = if k = j then l.getD (j + 1) BV.zero else if k = j + 1 then l.getD j BV.zero else l.getD k BV.zero := by
  unfold swpB
  by_cases h : k = j
  · subst h
    simp [List.getD, show k < l.length by omega]
  · rw [if_neg h]
    by_cases h2 : k = j + 1
    · subst h2
      simp [List.getD, hj]
    · rw [if_neg h2]
      simp [List.getD, Ne.symm h, Ne.symm h2]
theorem bub_sorted (i : Nat) : ∀ (j : Nat) (l : List BV), j ≤ i → i < l.length → (∀ a b, a < b → b ≤ i → a ≠ j → b ≠ j → LeB (l.getD a BV.zero) (l.getD b BV.zero)) → (∀ b, j < b → b ≤ i → LeB (l.getD j BV.zero) (l.getD b BV.zero)) →
    ∀ a b, a < b → b ≤ i → LeB ((bub j l).getD a BV.zero) ((bub j l).getD b BV.zero)
  | 0, l, _, _, h1, h2, a, b, hab, hb => by
    show LeB (l.getD a _) (l.getD b _)
    by_cases e : a = 0
    · subst e; exact h2 b hab hb
    · exact h1 a b hab hb e (by omega)
  | j + 1, l, hj, hl, h1, h2, a, b, hab, hb => by
    unfold bub
    by_cases c : lessB (l.getD (j + 1) BV.zero) (l.getD j BV.zero) = true
    · rw [if_pos c]
      refine bub_sorted i j (swpB l j) (by omega) (by rw [swpB_len]; exact hl) (fun a b hab hb ha hb' => ?_) (fun b hjb hb => ?_) a b hab hb
      · rw [swp_at l (by omega), swp_at l (by omega), if_neg ha, if_neg hb']
        by_cases e : a = j + 1
        · rw [if_pos e, if_neg (by omega)]
          exact h1 j b (by omega) hb (by omega) (by omega)
        · rw [if_neg e]
          by_cases f : b = j + 1
          · rw [if_pos f]
            exact h1 a j (by omega) (by omega) e (by omega)
          · rw [if_neg f]
            exact h1 a b hab hb e f
      · rw [swp_at l (by omega), swp_at l (by omega), if_pos rfl, if_neg (by omega)]
        by_cases f : b = j + 1
        · rw [if_pos f]; exact LeB.of_less c
        · rw [if_neg f]; exact h2 b (by omega) hb
    · rw [if_neg c]
      have hc : LeB (l.getD j BV.zero) (l.getD (j + 1) BV.zero) := by unfold LeB; simpa using c
      by_cases e : a = j + 1
      · subst e; exact h2 b hab hb
      · by_cases f : b = j + 1
        · subst f
          by_cases k : a = j
          · subst k; exact hc
          · exact (h1 a j (by omega) (by omega) e (by omega)).trans hc
        · exact h1 a b hab hb e f
theorem srt_sorted (l : List BV) : ∀ i, i < l.length → ∀ a b, a < b → b ≤ i → LeB ((srt i l).getD a BV.zero) ((srt i l).getD b BV.zero)
  | 0, _, a, b, hab, hb => by omega
  | i + 1, hi, a, b, hab, hb => by
    have ih := srt_sorted l i (by omega)
    exact bub_sorted (i + 1) (i + 1) (srt i l) (Nat.le_refl _) (by rw [srt_len]; exact hi) (fun a b hab hb _ hb' => ih a b hab (by omega)) (fun b h h' => by omega) a b hab hb
theorem parts_at (l : List BV) {j : Nat} (hj : j + 1 < l.length) (x y : BV) : ∀ k, (l.take j ++ x :: y :: l.drop (j + 2))[k]? = if k = j then some x else if k = j + 1 then some y else l[k]? := by
  intro k
  have hl : (l.take j).length = j := by simp; omega
  by_cases h : k < j
  · rw [List.getElem?_append_left (by omega), if_neg (by omega), if_neg (by omega), List.getElem?_take_of_lt h]
  · rw [List.getElem?_append_right (by omega), hl]
    by_cases h2 : k = j
    · subst h2; simp
    · rw [if_neg h2]
      by_cases h3 : k = j + 1
      · subst h3; simp
      · rw [if_neg h3]
        obtain ⟨m, rfl⟩ : ∃ m, k = j + 2 + m := ⟨k - (j + 2), by omega⟩
        rw [show j + 2 + m - j = m + 1 + 1 by omega, List.getElem?_cons_succ, List.getElem?_cons_succ, List.getElem?_drop]
theorem swp_perm (l : List BV) {j : Nat} (hj : j + 1 < l.length) : (swpB l j).Perm l := by
  have e1 : l = l.take j ++ l.getD j BV.zero :: l.getD (j + 1) BV.zero :: l.drop (j + 2) := by
    apply List.ext_getElem?
    intro k
    rw [parts_at l hj]
    split
    · rename_i h; subst h; simp [List.getD, show k < l.length by omega]
    · split
      · rename_i h; subst h; simp [List.getD, hj]
      · rfl
  have e2 : swpB l j = l.take j ++ l.getD (j + 1) BV.zero :: l.getD j BV.zero :: l.drop (j + 2) := by
    apply List.ext_getElem?
    intro k
    rw [parts_at l hj]
    unfold swpB
    by_cases h : k = j
    · subst h; simp [show k < l.length by omega]
    · rw [if_neg h]
      by_cases h2 : k = j + 1
      · subst h2; simp [hj]
      · rw [if_neg h2]; simp [Ne.symm h, Ne.symm h2]
  rw [e2]
  conv => rhs; rw [e1]
  exact (List.Perm.swap _ _ _).append_left _
theorem bub_perm : ∀ (j : Nat) (l : List BV), j < l.length → (bub j l).Perm l
  | 0, l, _ => List.Perm.refl _
  | j + 1, l, h => by
    unfold bub
    split
    · exact (bub_perm j _ (by rw [swpB_len]; omega)).trans (swp_perm l h)
    · exact List.Perm.refl _
theorem srt_perm : ∀ (i : Nat) (l : List BV), i < l.length → (srt i l).Perm l
  | 0, l, _ => List.Perm.refl _
  | i + 1, l, h => (bub_perm (i + 1) _ (by rw [srt_len]; exact h)).trans (srt_perm i l (by omega))
theorem sameV_iff {a b : BV} : sameV a b = true ↔ a.n = b.n ∧ a.xs = b.xs := sameB_iff
theorem sameV_symm (a b : BV) : sameV a b = sameV b a := by
  rw [Bool.eq_iff_iff, sameV_iff, sameV_iff]
  constructor <;> (rintro ⟨h, k⟩; exact ⟨h.symm, k.symm⟩)
theorem sameV_any {a b : BV} (h : sameV a b = true) (r : List BV) : r.any (sameV a) = r.any (sameV b) := by
  obtain ⟨h1, h2⟩ := sameV_iff.1 h
  rw [Bool.eq_iff_iff, List.any_eq_true, List.any_eq_true]
  constructor
  · rintro ⟨x, hx, e⟩; exact ⟨x, hx, sameV_iff.2 ⟨h1.symm.trans (sameV_iff.1 e).1, h2.symm.trans (sameV_iff.1 e).2⟩⟩
  · rintro ⟨x, hx, e⟩; exact ⟨x, hx, sameV_iff.2 ⟨h1.trans (sameV_iff.1 e).1, h2.trans (sameV_iff.1 e).2⟩⟩
/-- How many blocks of a list differ. -/
noncomputable def dstB : List BV → Nat
  | [] => 0
  | a :: r => dstB r + cond (r.any (sameV a)) 0 1
theorem dst_perm {l m : List BV} (h : l.Perm m) : dstB l = dstB m := by
  induction h with
  | nil => rfl
  | cons a h ih => unfold dstB; rw [ih, h.any_eq]
  | swap a b r =>
    simp only [dstB, List.any_cons]
    by_cases c : sameV a b = true
    · have c' : sameV b a = true := by rw [sameV_symm]; exact c
      rw [c, c', sameV_any c r]
    · have c1 : sameV a b = false := by simpa using c
      have c2 : sameV b a = false := by rw [sameV_symm]; exact c1
      rw [c1, c2]
      simp only [Bool.false_or]
      omega
  | trans _ _ i1 i2 => exact i1.trans i2
/-- Counted by first places: the same. -/
theorem cnt_dst (l : List BV) : ∀ m, m ≤ l.length → cntE (fun i k => sameV (l.getD i BV.zero) (l.getD k BV.zero)) m = dstB (l.take m).reverse
  | 0, _ => by simp [cntE, dstB]
  | m + 1, h => by
    have e : (l.take (m + 1)).reverse = l.getD m BV.zero :: (l.take m).reverse := by
      rw [List.take_add_one]
      simp [List.getD, show m < l.length by omega]
    rw [e]
    unfold cntE dstB
    rw [cnt_dst l m (by omega)]
    congr 1
    have e2 : firstE (fun i k => sameV (l.getD i BV.zero) (l.getD k BV.zero)) m = !((l.take m).reverse.any (sameV (l.getD m BV.zero))) := by
      rw [Bool.eq_iff_iff]
      unfold firstE
      rw [List.all_eq_true, Bool.not_eq_true', ← Bool.not_eq_true, List.any_eq_true]
      constructor
      · rintro hh ⟨x, hx, ex⟩
        have hx := List.mem_reverse.1 hx
        obtain ⟨i, hi, rfl⟩ := List.getElem_of_mem hx
        have hi' : i < m := by simp at hi; omega
        have : (!(sameV (l.getD i BV.zero) (l.getD m BV.zero))) = true := hh i (List.mem_range.2 hi')
        rw [sameV_symm] at ex
        have e3 : l.getD i BV.zero = (l.take m)[i] := by simp [List.getD, show i < l.length by omega]
        rw [e3, ex] at this
        cases this
      · intro hh i hi
        have hi := List.mem_range.1 hi
        by_cases c : sameV (l.getD i BV.zero) (l.getD m BV.zero) = true
        · exfalso
          refine hh ⟨l.getD i BV.zero, List.mem_reverse.2 ?_, by rw [sameV_symm]; exact c⟩
          have : (l.take m)[i]? = some (l.getD i BV.zero) := by
            rw [List.getElem?_take_of_lt hi]
            simp [List.getD, show i < l.length by omega]
          exact List.mem_of_getElem? this
        · simp only [Bool.not_eq_true] at c
          show (!(sameV (l.getD i BV.zero) (l.getD m BV.zero))) = true
          rw [c]; rfl
    rw [e2]
    cases (l.take m).reverse.any (sameV (l.getD m BV.zero)) <;> rfl
/-- In a sorted list the neighbours tell. -/
theorem hd_cnt (l : List BV) (N : Nat) (hs : ∀ a b, a < b → b < N → LeB (l.getD a BV.zero) (l.getD b BV.zero)) (hk : ∀ a b, a < N → b < N → keyB (l.getD a BV.zero) = keyB (l.getD b BV.zero) → sameV (l.getD a BV.zero) (l.getD b BV.zero) = true) :
    ∀ m, m ≤ N → hd l m = cntE (fun i k => sameV (l.getD i BV.zero) (l.getD k BV.zero)) m
  | 0, _ => rfl
  | m + 1, h => by
    unfold hd cntE
    rw [hd_cnt l N hs hk m (by omega)]
    congr 1
    by_cases h0 : m = 0
    · subst h0
      rw [if_pos rfl]; rfl
    · rw [if_neg h0]
      have e : firstE (fun i k => sameV (l.getD i BV.zero) (l.getD k BV.zero)) m = !(sameV (l.getD m BV.zero) (l.getD (m - 1) BV.zero)) := by
        rw [Bool.eq_iff_iff]
        unfold firstE
        rw [List.all_eq_true, Bool.not_eq_true', sameV_symm]
        constructor
        · intro hh
          have := hh (m - 1) (List.mem_range.2 (by omega))
          simpa using this
        · intro hh i hi
          have hi := List.mem_range.1 hi
          by_cases c : sameV (l.getD i BV.zero) (l.getD m BV.zero) = true
          · exfalso
            have h1 : LeB (l.getD (m - 1) BV.zero) (l.getD m BV.zero) := hs _ _ (by omega) (by omega)
            have h2 : LeB (l.getD m BV.zero) (l.getD (m - 1) BV.zero) := by
              have e1 : keyB (l.getD m BV.zero) = keyB (l.getD i BV.zero) := by
                obtain ⟨a, b⟩ := sameV_iff.1 c
                unfold keyB; rw [a, b]
              by_cases f : i = m - 1
              · rw [le_key, e1, f]; exact bl_irr _
              · have := hs i (m - 1) (by omega) (by omega)
                rw [le_key, e1, ← le_key]; exact this
            have := hk (m - 1) m (by omega) (by omega) (h1.key_eq h2)
            rw [this] at hh; cases hh
          · simp only [Bool.not_eq_true] at c
            show (!(sameV (l.getD i BV.zero) (l.getD m BV.zero))) = true
            rw [c]; rfl
      rw [e]
      cases sameV (l.getD m BV.zero) (l.getD (m - 1) BV.zero) <;> rfl
theorem forms_hd {n : Int} {xs : List C3} (hb : BlkOk n xs) {l : List BV} (hv : Views n (fun k => seeL n k xs) l) : (hd (srt 7 l) 8 : Int) = forms n xs := by
  rw [forms_yes hb]
  have hlen : (srt 7 l).length = 8 := by rw [srt_len]; exact hv.1
  have hp := srt_perm 7 l (by rw [hv.1]; omega)
  have hall : ∀ z ∈ srt 7 l, z.n = n ∧ BlkOk n z.xs := by
    intro z hz
    have hz := hp.mem_iff.1 hz
    obtain ⟨i, hi, rfl⟩ := List.getElem_of_mem hz
    have := hv.2 i (by rw [← hv.1]; exact hi)
    have e : l.getD i BV.zero = l[i] := by simp [List.getD, hi]
    rw [e] at this
    exact ⟨this.1, by rw [this.2]; exact seeL_ok hb⟩
  have hat : ∀ a, a < 8 → (srt 7 l).getD a BV.zero ∈ srt 7 l := by
    intro a ha
    have : (srt 7 l)[a]? = some ((srt 7 l).getD a BV.zero) := by simp [List.getD, hlen, ha]
    exact List.mem_of_getElem? this
  have h1 := hd_cnt (srt 7 l) 8 (fun a b hab hb8 => srt_sorted l 7 (by rw [hv.1]; omega) a b hab (by omega)) (fun a b ha hb8 e => by
    obtain ⟨na, oa⟩ := hall _ (hat a ha)
    obtain ⟨nb, ob⟩ := hall _ (hat b hb8)
    refine sameV_iff.2 ⟨na.trans nb.symm, ?_⟩
    unfold keyB at e
    rw [na, nb, (sam_yes oa).1, (sam_yes ob).1] at e
    exact txtL_inj oa.2.2 ob.2.2 e) 8 (Nat.le_refl _)
  rw [h1, cnt_dst _ 8 (by rw [hlen]; omega), List.take_of_length_le (by omega)]
  have h2 : dstB (srt 7 l).reverse = dstB l.reverse := dst_perm ((List.reverse_perm _).trans (hp.trans (List.reverse_perm _).symm))
  rw [h2]
  have h3 := cnt_dst l 8 (by rw [hv.1]; omega)
  rw [List.take_of_length_le (by rw [hv.1]; omega)] at h3
  rw [← h3]
  congr 1
  refine cntE_congr 8 (fun i k hi hk => ?_)
  obtain ⟨ni, xi⟩ := hv.2 i (by omega)
  obtain ⟨nk, xk⟩ := hv.2 k hk
  unfold sameV eqV
  rw [ni, xi, nk, xk]

end Go.Proofs.YtfidnhhlcdbaeaaGreatDoor

namespace Go.Proofs.YtfidnhhlcdbaeaaGreatDoor
open Go.ChangeShapes Go.WideShapes Go.ChangeAt Go.RowKit

theorem lst_is {n : Int} {f h : Nat → List C3} (e : ∀ k, f k = h k) (ho : ∀ k, BlkOk n (h k)) : ∀ k, f (lstT n f k) = lstK h k
  | 0 => e 0
  | k + 1 => by
    have ih := lst_is e ho k
    unfold lstT lstK
    have hx : ∀ j, (txtA n (f j)).data.toList = txtL (h j) := fun j => by rw [e j, (sam_yes (ho j)).1]; rfl
    obtain ⟨i, _, hi⟩ := lstK_mem h k
    have h2 : (txtA n (f (lstT n f k))).data.toList = txtL (lstK h k) := by rw [ih, hi, (sam_yes (ho i)).1]; rfl
    by_cases c : cmpT (txtA n (f (k + 1))) (txtA n (f (lstT n f k))) < 0
    · have c' := (cmpT_neg _ _).1 c
      rw [hx, h2] at c'
      rw [if_pos c, if_pos c', e]
    · have c' : ¬ Op.bytesLess (txtL (h (k + 1))) (txtL (lstK h k)) = true := fun d => c ((cmpT_neg _ _).2 (by rw [hx, h2]; exact d))
      rw [if_neg c, if_neg c', ih]
theorem lf_is (n : Int) (xs : List C3) : fV n xs (lstT (turnN n xs) (fV n xs) 7) = lfB n xs := by
  by_cases hb : BlkOk n xs
  · rw [(sam_yes hb).2.1, (turnB_yes hb).1]
    exact lst_is (fun k => fV_yes hb k) (fun k => seeL_ok hb) 7
  · rw [(sam_no hb).2.1, fV_no hb]
theorem lp_is (n : Int) (xs : List C3) : fP n xs (lstT (turnN n xs) (fP n xs) 7) = lpB n xs := by
  by_cases hb : BlkOk n xs
  · rw [(sam_yes hb).2.2, (turnB_yes hb).1]
    exact lst_is (fun k => fP_yes hb k) (fun k => plainL_ok (seeL_ok hb)) 7
  · rw [(sam_no hb).2.2, fP_no hb]
set_option maxRecDepth 100000 in
set_option maxHeartbeats 4000000 in
theorem ImplLeastForm_any (lo hi : Nat) (n : Int) (v : Value) (xs : List C3) (w : World) (r : CellIn lo hi w v xs) (hhi : hi ≤ w.heap.size) : Calls Tryz.prog 8 #[.agg #[.int .i64 n, v]] w (FreshB (turnN n xs) (lfB n xs) w) := by
  obtain ⟨a, cap, rfl⟩ := r.form
  have hA := lf_is n xs
  have CV := Lib.hid (FromAllV_any lo hi n _ xs ((w.alloc (.cells #[.int .i64 n, .slice a xs.length cap] 26)).alloc (.cells #[.int .i64 0, .slice none 0 0] 26)) (r.below ((bel_n (bel0 w _) (Nat.le_refl _) _).mono hhi)) (by simp; omega))
  clear r
  generalize turnN n xs = N at CV hA ⊢
  generalize fV n xs = f at CV hA
  generalize lfB n xs = ys at hA ⊢
  have HA := Lib.hid hA
  clear hA
  go_enter Tryz.func8, Tryz.ntmps8
  go_wp2_with fail
  refine CV.out.mono ?_
  rintro e w3 ⟨g, l, rfl, hg, hv, hrow, hb3⟩
  have hg' : w.heap.size + 1 < g := by simp at hg; omega
  have HX3 : Hid (BoxB (w.heap.size + 1) (.int .i64 0) (.slice none 0 0) w3) := Lib.hid (by
    have h := BoxB.new (w.alloc (.cells #[.int .i64 n, .slice a xs.length cap] 26)) (.int .i64 0) (.slice none 0 0) 26
    have h2 : BoxB (w.heap.size + 1) (.int .i64 0) (.slice none 0 0) ((w.alloc (.cells #[.int .i64 n, .slice a xs.length cap] 26)).alloc (.cells #[.int .i64 0, .slice none 0 0] 26)) := by simpa using h
    exact h2.below hb3 (by simp))
  have HB3 := Lib.hid (bel_c (bel_n (bel0 w (.cells #[.int .i64 n, .slice a xs.length cap] 26)) (Nat.le_refl _) (.cells #[.int .i64 0, .slice none 0 0] 26)) (Nat.le_refl _) hb3)
  have HV := Lib.hid (fun (W : World) (hb : Below w3.heap.size w3 W) => hv.read hrow hb (i := lstT N f 7) (by have := lstT_le N f 7; omega))
  have CM := Lib.hid (MinFunc_any g l N f w3 hrow hv)
  obtain ⟨aj, cj, ej, -, -⟩ := HV.out w3 (Below.refl _ _)
  rw [ej] at CM
  have HVV : Hid (∀ W, Below w3.heap.size w3 W → CellIn (g + 1) w3.heap.size W (.slice aj (f (lstT N f 7)).length cj) (f (lstT N f 7))) := Lib.hid (fun W hb => by
    obtain ⟨a', c', e', -, h'⟩ := HV.out W hb
    rw [ej] at e'; rw [e']; exact h')
  clear ej HV hg hv hrow hb3 CV
  rw [HA.out] at HVV CM
  clear HA
  go_wp2_with fail
  refine CM.out.mono ?_
  rintro e w4 ⟨rfl, hb4⟩
  obtain ⟨d0, d1, g0, g1⟩ := HX3.out.below hb4 HX3.out.lt
  have HI := Lib.hid (HVV.out w4 hb4)
  have HB4 := Lib.hid (bel_c HB3.out (Nat.le_refl _) hb4)
  have hz := hb4.size
  clear hb4 HX3 HB3 HVV CM
  go_wp2_with fail
  refine bodyPost_ret (v := .agg #[.int .i64 N, .slice aj ys.length cj]) (by simp [results, Tryz.results8, go_sem, d0, d1]) rfl ⟨_, rfl, ?_, ?_⟩
  · refine CellIn.wide (lo := g + 1) (hi := w3.heap.size) ?_ (by omega) (by simp [World.setCell]; omega)
    refine CellIn.set_far (CellIn.set_far HI.out ?_ _) ?_ _ <;> (simp <;> omega)
  · refine Below.setCell (Below.setCell HB4.out ?_ _) ?_ _ <;> simp
set_option maxRecDepth 100000 in
set_option maxHeartbeats 4000000 in
theorem ImplLeastPattern_any (lo hi : Nat) (n : Int) (v : Value) (xs : List C3) (w : World) (r : CellIn lo hi w v xs) (hhi : hi ≤ w.heap.size) : Calls Tryz.prog 9 #[.agg #[.int .i64 n, v]] w (FreshB (turnN n xs) (lpB n xs) w) := by
  obtain ⟨a, cap, rfl⟩ := r.form
  have hA := lp_is n xs
  have CV := Lib.hid (FromAllP_any lo hi n _ xs ((w.alloc (.cells #[.int .i64 n, .slice a xs.length cap] 26)).alloc (.cells #[.int .i64 0, .slice none 0 0] 26)) (r.below ((bel_n (bel0 w _) (Nat.le_refl _) _).mono hhi)) (by simp; omega))
  clear r
  generalize turnN n xs = N at CV hA ⊢
  generalize fP n xs = f at CV hA
  generalize lpB n xs = ys at hA ⊢
  have HA := Lib.hid hA
  clear hA
  go_enter Tryz.func9, Tryz.ntmps9
  go_wp2_with fail
  refine CV.out.mono ?_
  rintro e w3 ⟨g, l, rfl, hg, hv, hrow, hb3⟩
  have hg' : w.heap.size + 1 < g := by simp at hg; omega
  have HX3 : Hid (BoxB (w.heap.size + 1) (.int .i64 0) (.slice none 0 0) w3) := Lib.hid (by
    have h := BoxB.new (w.alloc (.cells #[.int .i64 n, .slice a xs.length cap] 26)) (.int .i64 0) (.slice none 0 0) 26
    have h2 : BoxB (w.heap.size + 1) (.int .i64 0) (.slice none 0 0) ((w.alloc (.cells #[.int .i64 n, .slice a xs.length cap] 26)).alloc (.cells #[.int .i64 0, .slice none 0 0] 26)) := by simpa using h
    exact h2.below hb3 (by simp))
  have HB3 := Lib.hid (bel_c (bel_n (bel0 w (.cells #[.int .i64 n, .slice a xs.length cap] 26)) (Nat.le_refl _) (.cells #[.int .i64 0, .slice none 0 0] 26)) (Nat.le_refl _) hb3)
  have HV := Lib.hid (fun (W : World) (hb : Below w3.heap.size w3 W) => hv.read hrow hb (i := lstT N f 7) (by have := lstT_le N f 7; omega))
  have CM := Lib.hid (MinFunc_any g l N f w3 hrow hv)
  obtain ⟨aj, cj, ej, -, -⟩ := HV.out w3 (Below.refl _ _)
  rw [ej] at CM
  have HVV : Hid (∀ W, Below w3.heap.size w3 W → CellIn (g + 1) w3.heap.size W (.slice aj (f (lstT N f 7)).length cj) (f (lstT N f 7))) := Lib.hid (fun W hb => by
    obtain ⟨a', c', e', -, h'⟩ := HV.out W hb
    rw [ej] at e'; rw [e']; exact h')
  clear ej HV hg hv hrow hb3 CV
  rw [HA.out] at HVV CM
  clear HA
  go_wp2_with fail
  refine CM.out.mono ?_
  rintro e w4 ⟨rfl, hb4⟩
  obtain ⟨d0, d1, g0, g1⟩ := HX3.out.below hb4 HX3.out.lt
  have HI := Lib.hid (HVV.out w4 hb4)
  have HB4 := Lib.hid (bel_c HB3.out (Nat.le_refl _) hb4)
  have hz := hb4.size
  clear hb4 HX3 HB3 HVV CM
  go_wp2_with fail
  refine bodyPost_ret (v := .agg #[.int .i64 N, .slice aj ys.length cj]) (by simp [results, Tryz.results9, go_sem, d0, d1]) rfl ⟨_, rfl, ?_, ?_⟩
  · refine CellIn.wide (lo := g + 1) (hi := w3.heap.size) ?_ (by omega) (by simp [World.setCell]; omega)
    refine CellIn.set_far (CellIn.set_far HI.out ?_ _) ?_ _ <;> (simp <;> omega)
  · refine Below.setCell (Below.setCell HB4.out ?_ _) ?_ _ <;> simp

end Go.Proofs.YtfidnhhlcdbaeaaGreatDoor
