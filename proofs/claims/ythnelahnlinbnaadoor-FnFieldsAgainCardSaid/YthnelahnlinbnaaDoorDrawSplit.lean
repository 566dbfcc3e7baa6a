/- The drawn line of SplitFields. -/
import Derived.Test.YthnelahnlinbnaaDoorText
import Derived.Test.YthnelahnlinbnaaDoorNumF
import Derived.Test.YthnelahnlinbnaaDoorFieldF
namespace Go.Proofs.YthnelahnlinbnaaDoor
open Go.ChangeShapes Go.WideShapes Go.ChangeAt Go.RowKit

/-- A list of strings to be picked from: its elements are cells outside block b. -/
def Strs (w : World) (b : Nat) (xb : Nat) (zs : List ByteArray) : Prop :=
  xb ≠ b ∧ ∀ i, i < zs.length → w.cell? ⟨xb, i, none⟩ = some (.string (zs.getD i ⟨#[]⟩))

theorem Pick_any (b : Nat) (a : Option Addr) (len cap : Nat) (xb n c : Nat) (zs : List ByteArray) (w : World) (hcur : Cur w b a len cap) (hx : Strs w b xb zs) (hn : n = zs.length) (h0 : 0 < n) (h1 : n ≤ 256) :
    Calls Tryd.prog 30 #[.pointer (some ⟨b, 0, none⟩), .slice (some ⟨xb, 0, none⟩) n c] w (DrawnS (fun s => s ∈ zs) b a len cap w) := by
  have HN := Lib.hid hn
  obtain ⟨hne, hc⟩ := hx
  have HC := Lib.hid hc
  clear hn hc
  go_enter Tryd.func30, Tryd.ntmps30
  go_wp2_with fail
  refine (Below_any b a len cap _ _ hcur (by omega) (by omega)).mono ?_
  rintro e w' ⟨x, ⟨x0, x1⟩, rfl, hcur1, hb1⟩
  obtain ⟨k, rfl⟩ : ∃ k : Nat, x = k := ⟨x.toNat, by omega⟩
  have hk : k < zs.length := by have := HN.out; omega
  have hcell : w'.cell? ⟨xb, k, none⟩ = some (.string (zs.getD k ⟨#[]⟩)) := by
    have hh := HC.out k hk
    rw [hb1.cell (lt_of_cell hh) hne]; exact hh
  have hmem : zs.getD k ⟨#[]⟩ ∈ zs := by
    have e1 : zs.getD k ⟨#[]⟩ = zs[k] := by simp [List.getD, hk]
    rw [e1]; exact List.getElem_mem hk
  obtain ⟨t, ht⟩ : ∃ t, t = zs.getD k ⟨#[]⟩ := ⟨_, rfl⟩
  rw [← ht] at hcell hmem
  have HM := Lib.hid hmem
  clear ht hmem
  go_wp2_with fail
  go_ret
  exact ⟨_, HM.out, rfl, hcur1, hb1⟩

set_option maxRecDepth 20000 in
set_option maxHeartbeats 4000000 in
theorem DrawSplit_any (a : Option Addr) (len cap : Nat) (w : World) (hs : Src w w.heap.size a len) (hlen : len ≤ 1048576) :
    Calls Tryd.prog 15 #[.slice a len cap] w (DrawnT (fun s => s.size ≤ 2000) w) := by
  go_enter Tryd.func15, Tryd.ntmps15
  go_wp2_with fail
  refine (New_any a len cap w hs hlen).mono ?_
  rintro e w1 ⟨rfl, hc1, hb1⟩
  have z1 := hb1.size
  go_wp2_with fail
  refine (Below_any _ a len cap _ w1 hc1 (by omega) (by omega)).mono ?_
  rintro e w2 ⟨n0, ⟨n00, n01⟩, rfl, hc2, hb2⟩
  go_wp2_with fail
  refine (Once_any _ a len cap _ w2 hc2 (by omega) (by omega)).mono ?_
  rintro e w3 ⟨x, rfl, hc3, hb3⟩
  have hbut3 : But w.heap.size w1 w3 := hb2.trans hb3
  clear hb2 hb3 hc1 hc2
  have step : ∃ (n1 : Int) (w4 : World), True := ⟨0, w, trivial⟩
  clear step
  cases x
  case' false =>
    obtain ⟨n1, rfl⟩ : ∃ n1, n1 = n0 := ⟨_, rfl⟩
    have h25 : n1 ≤ 25 := by omega
    obtain ⟨w4, rfl⟩ : ∃ w4, w4 = w3 := ⟨_, rfl⟩
    clear n00 n01
    go_wp2_with fail
  case' true =>
    go_wp2_with fail
    refine (Below_any _ a len cap _ w3 hc3 (by omega) (by omega)).mono ?_
    rintro e w4 ⟨x2, ⟨x20, x21⟩, rfl, hc4, hb4⟩
    have h25 : 24 + x2 ≤ 25 := by omega
    have hbut4 := hbut3.trans hb4
    clear hc3 hbut3 hb4
    have hc3 := hc4
    have hbut3 := hbut4
    clear hc4 hbut4
    go_wp2_with fail
    generalize 24 + x2 = n1 at h25 ⊢
    clear x20 x21 n00 n01
  all_goals
    go_loopw [5, 6] (fun t i wr => ∃ (k : Nat) (s : ByteArray), i = .int .i64 k ∧ t = .string s ∧ (k : Int) ≤ 25 ∧ s.size ≤ 8 * k ∧ Cur wr w.heap.size a len cap ∧ But w.heap.size w1 wr) (fun _ i _ => (25 - intOf i).toNat)
    case atStart => exact ⟨0, _, rfl, rfl, by omega, Nat.le_refl 0, hc3, hbut3⟩
    case round =>
      obtain ⟨k, s, rfl, rfl, hk, hsz, hc, hbut⟩ := hrel
      by_cases hlt : (k : Int) < n1
      · have spaces : ∀ (x y : Int), 0 ≤ x → x < 2 → 0 ≤ y → y < 3 → 0 ≤ x * y ∧ x * y ≤ 2 := fun x y a0 a1 b0 b1 => by
          have h : x = 0 ∨ x = 1 := by omega
          rcases h with rfl | rfl
          · simp
          · simp; omega
        have HSP := Lib.hid spaces
        clear spaces
        by_cases hk0 : k = 0
        case' neg =>
          have hk1 : 0 < k := by omega
          clear hk0
          go_wp2_with fail
          refine (Below_any _ a len cap _ wr hc (by omega) (by omega)).mono ?_
          rintro e wa ⟨x, ⟨x0, x1⟩, rfl, hca, hba⟩
          go_wp2_with fail
          refine (Below_any _ a len cap _ wa hca (by omega) (by omega)).mono ?_
          rintro e wb ⟨y, ⟨y0, y1⟩, rfl, hcb, hbb⟩
          obtain ⟨p0, p1⟩ := HSP.out x y x0 x1 y0 y1
          go_wp2_with fail
          refine (Long_at (1 + (x * y).toNat) _ 32 wb (by omega) (by omega)).mono ?_
          rintro e wq ⟨rfl, hbq⟩
          have hu : (⟨(List.replicate (1 + (x * y).toNat) (32 : UInt8)).toArray⟩ : ByteArray).size ≤ 3 := by
            show (List.replicate (1 + (x * y).toNat) (32 : UInt8)).toArray.size ≤ 3
            simp
            omega
          generalize (⟨(List.replicate (1 + (x * y).toNat) (32 : UInt8)).toArray⟩ : ByteArray) = u at hu ⊢
          have ht : (s ++ u).size ≤ 8 * k + 3 := by rw [ByteArray.size_append]; omega
          have hcq := hcb.kept hbq
          have hbq2 := ((hbut.trans hba).trans hbb).trans (But.of_below hbq)
          clear hc hca hcb hbut hba hbb hbq p0 p1 x0 x1 y0 y1
          go_wp2_with fail
          generalize s ++ u = t at ht ⊢
        case' pos =>
          subst hk0
          go_wp2_with fail
          refine (Once_any _ a len cap _ wr hc (by omega) (by omega)).mono ?_
          rintro e wo ⟨xo, rfl, hco, hbo⟩
          cases xo
          case' false =>
            obtain ⟨t, rfl⟩ : ∃ t, t = s := ⟨_, rfl⟩
            obtain ⟨wq, rfl⟩ : ∃ wq, wq = wo := ⟨_, rfl⟩
            obtain ⟨k, hkz⟩ : ∃ k : Nat, Hid (k = 0) := ⟨0, rfl⟩
            have hk25 : (k : Int) ≤ 25 := by have := hkz.out; omega
            have ht : t.size ≤ 8 * k + 3 := by omega
            have hcq := hco
            have hbq2 := hbut.trans hbo
            clear hc hco hbut hbo
            go_wp2_with fail
          case' true =>
            have hc9 := hco
            have hbut9 := hbut.trans hbo
            clear hc hco hbut hbo
            have hc := hc9
            have hbut := hbut9
            clear hc9 hbut9
            go_wp2_with fail
            refine (Below_any _ a len cap _ wo hc (by omega) (by omega)).mono ?_
            rintro e wa ⟨x, ⟨x0, x1⟩, rfl, hca, hba⟩
            go_wp2_with fail
            refine (Below_any _ a len cap _ wa hca (by omega) (by omega)).mono ?_
            rintro e wb ⟨y, ⟨y0, y1⟩, rfl, hcb, hbb⟩
            obtain ⟨p0, p1⟩ := HSP.out x y x0 x1 y0 y1
            go_wp2_with fail
            refine (Long_at (1 + (x * y).toNat) _ 32 wb (by omega) (by omega)).mono ?_
            rintro e wq ⟨rfl, hbq⟩
            have hu : (⟨(List.replicate (1 + (x * y).toNat) (32 : UInt8)).toArray⟩ : ByteArray).size ≤ 3 := by
              show (List.replicate (1 + (x * y).toNat) (32 : UInt8)).toArray.size ≤ 3
              simp
              omega
            generalize (⟨(List.replicate (1 + (x * y).toNat) (32 : UInt8)).toArray⟩ : ByteArray) = u at hu ⊢
            obtain ⟨k, hkz⟩ : ∃ k : Nat, Hid (k = 0) := ⟨0, rfl⟩
            have hk25 : (k : Int) ≤ 25 := by have := hkz.out; omega
            have ht : (s ++ u).size ≤ 8 * k + 3 := by rw [ByteArray.size_append]; omega
            have hcq := hcb.kept hbq
            have hbq2 := ((hbut.trans hba).trans hbb).trans (But.of_below hbq)
            clear hc hca hcb hbut hba hbb hbq p0 p1 x0 x1 y0 y1
            go_wp2_with fail
            generalize s ++ u = t at ht ⊢
        all_goals
          go_loopw [5, 7] (fun t5 i7 wi => ∃ (m : Nat) (v : ByteArray), i7 = .int .i64 m ∧ t5 = .string v ∧ (m : Int) ≤ 5 ∧ v.size ≤ 8 * k + 3 + m ∧ Cur wi w.heap.size a len cap ∧ But w.heap.size w1 wi) (fun _ i7 _ => (6 - intOf i7).toNat)
          case atStart => exact ⟨0, _, rfl, rfl, by omega, by omega, hcq, hbq2⟩
          case round =>
            obtain ⟨m, v, rfl, rfl, hm, hv, hci, hbi⟩ := hrel
            go_wp2_with fail
            refine (Below_any _ a len cap _ _ hci (by omega) (by omega)).mono ?_
            rintro e wj ⟨z, ⟨z0, z1⟩, rfl, hcj, hbj⟩
            have hbij := hbi.trans hbj
            clear hci hbi hbj
            by_cases hle : (m : Int) ≤ z
            · go_wp2_with fail
              refine (Below_any _ a len cap _ wj hcj (by omega) (by omega)).mono ?_
              rintro e wl ⟨q, ⟨q0, q1⟩, rfl, hcl, hbl⟩
              have hbil := hbij.trans hbl
              clear hcj hbij hbl
              obtain ⟨c, hc⟩ := byte_of (x := 33 + q) (by omega) (by omega)
              have cv := fun (w : World) => string_one (P := Tryd.prog) w c Tryd.underlying22 Tryd.underlying5 Tryd.underlying9
              rw [← hc] at cv
              clear hc
              go_wp2_with fail
              have hv2 : (v ++ (⟨#[c]⟩ : ByteArray)).size ≤ 8 * k + 3 + (m + 1) := by
                rw [ByteArray.size_append]
                show v.size + 1 ≤ _
                omega
              generalize v ++ (⟨#[c]⟩ : ByteArray) = v2 at hv2 ⊢
              go_roundw
              case rel => exact ⟨m + 1, v2, by go_num, rfl, by omega, hv2, hcl.alloc _, hbil.alloc _⟩
              case measure => simp [intOf] <;> omega
            · go_wp2_with fail
              go_roundw
              case rel => first | exact ⟨k + 1, v, by go_num, rfl, by omega, by omega, hcj, hbij⟩ | exact ⟨1, v, by go_num, rfl, by omega, by have := hkz.out; omega, hcj, hbij⟩
              case measure => simp [intOf] <;> omega
      · have hk200 : s.size ≤ 200 := by omega
        go_wp2_with fail
        clear hlt
        refine (Below_any _ a len cap _ wr hc (by omega) (by omega)).mono ?_
        rintro e wj ⟨r, ⟨r0, r1⟩, rfl, hcj, hbj⟩
        have hbut2 := hbut.trans hbj
        clear hc hbut hbj
        have fin : ∀ w', But w.heap.size w1 w' → Below w.heap.size w w' := fun w' h => hb1.trans (h.below (Nat.le_refl _) hb1.size)
        have FIN := Lib.hid fin
        clear fin
        by_cases hr0 : r = 0
        · have q : (r == 0) = true := by rw [hr0]; rfl
          clear hr0
          go_wp2_with fail
          refine (Pick_any _ a len cap wj.heap.size 6 6 [⟨#[32]⟩, ⟨#[32, 32]⟩, ⟨#[9]⟩, ⟨#[10]⟩, ⟨#[127]⟩, ⟨#[233]⟩] _ (hcj.alloc _) ⟨Nat.ne_of_gt hcj.lt, ?_⟩ rfl (by omega) (by omega)).mono ?_
          · intro i hi
            match i, hi with
            | 0, _ | 1, _ | 2, _ | 3, _ | 4, _ | 5, _ => simp
          rintro e wk ⟨u, hu, rfl, hck, hbk⟩
          have hu2 : u.size ≤ 2 := by
            simp at hu
            rcases hu with rfl | rfl | rfl | rfl | rfl | rfl <;> decide
          have hbk2 := (hbut2.alloc _).trans hbk
          clear hu hcj hbut2 hbk
          go_wp2_with fail
          go_ret
          exact ⟨_, by show (s ++ u).size ≤ 2000; rw [ByteArray.size_append]; omega, rfl, FIN.out _ hbk2⟩
        · have q : (r == 0) = false := by simpa using hr0
          by_cases hr1 : r = 1
          · clear q hr0 hsz hk
            subst hr1
            have q6 : decide ((s.size : Int) < 600) = true := by simp; omega
            have K2 := Lib.hid hk200
            clear hk200
            go_wp2_with fail
            have hk200 := K2.out
            clear q6
            refine (Below_any _ a len cap _ wj hcj (by omega) (by omega)).mono ?_
            rintro e wk ⟨y, ⟨y0, y1⟩, rfl, hck, hbk⟩
            have hbut3 := hbut2.trans hbk
            clear hcj hbut2 hbk
            obtain ⟨m, hmm⟩ : ∃ m : Nat, (600 : Int) - s.size + y = m := ⟨((600 : Int) - s.size + y).toNat, by omega⟩
            have hm6 : m ≤ 601 := by omega
            go_wp2_with fail
            refine (Long_at m _ 32 wk (by omega) (by rw [IntWalk.wrap64_in (600 - (s.size : Int)) ⟨by omega, by omega⟩, IntWalk.wrap64_in _ ⟨by omega, by omega⟩]; exact hmm)).mono ?_
            rintro e wl ⟨rfl, hbl⟩
            have hu : (⟨(List.replicate m (32 : UInt8)).toArray⟩ : ByteArray).size ≤ 601 := by
              show (List.replicate m (32 : UInt8)).toArray.size ≤ 601
              simpa using hm6
            generalize (⟨(List.replicate m (32 : UInt8)).toArray⟩ : ByteArray) = u at hu ⊢
            have hbk2 := hbut3.trans (But.of_below hbl)
            clear hck hbut3 hbl hmm
            go_wp2_with fail
            go_ret
            exact ⟨_, by show (s ++ u).size ≤ 2000; rw [ByteArray.size_append]; omega, rfl, FIN.out _ hbk2⟩
          · have q1 : (r == 1) = false := by simpa using hr1
            clear hr0 hr1
            go_wp2_with fail
            go_ret
            exact ⟨_, by omega, rfl, FIN.out _ hbut2⟩
end Go.Proofs.YthnelahnlinbnaaDoor
