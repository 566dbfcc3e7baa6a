/- Sameness: the library's MinFunc over a row of views. Sameness: the library's insertion sort over a row of blocks. Sameness: the library's SortFunc over a row of blocks. Blocks: the program's SameBlock. -/
import Derived.Test.YtfidnhhlcdbaeaaGreatDoorM19
import Derived.Test.YtfidnhhlcdbaeaaGreatDoorM21
import Derived.BigRegion
import Derived.BigQuiet
import Derived.Deep.QuietTactic
import Derived.Test.YtfidnhhlcdbaeaaGreatDoorM03

namespace Go.Proofs.YtfidnhhlcdbaeaaGreatDoor
open Go.ChangeShapes Go.WideShapes Go.ChangeAt Go.RowKit

/-- The number of the view with the least text, the first of those, of the views up to k. -/
noncomputable def lstT (N : Int) (f : Nat → List C3) : Nat → Nat
  | 0 => 0
  | k + 1 => if cmpT (txtA N (f (k + 1))) (txtA N (f (lstT N f k))) < 0 then k + 1 else lstT N f k
theorem lstT_step {N : Int} {f : Nat → List C3} {k : Nat} (h : 1 ≤ k) : lstT N f k = if cmpT (txtA N (f k)) (txtA N (f (lstT N f (k - 1)))) < 0 then k else lstT N f (k - 1) := by
  obtain ⟨m, rfl⟩ : ∃ m, k = m + 1 := ⟨k - 1, by omega⟩
  rfl
theorem lstT_le (N : Int) (f : Nat → List C3) : ∀ k, lstT N f k ≤ k
  | 0 => Nat.le_refl _
  | k + 1 => by have := lstT_le N f k; unfold lstT; split <;> omega
/-- What of a row may be read in any later world. -/
theorem BRow.read {w W : World} {g : Nat} {l : List BV} (h : BRow w g l) (hb : Below w.heap.size w W) {i : Nat} (hi : i < l.length) :
    ElB W g i (l.getD i BV.zero) ∧ CellIn (g + 1) w.heap.size W (l.getD i BV.zero).v (l.getD i BV.zero).xs := ⟨(h i hi).1.keep hb, (h i hi).2.below hb⟩
theorem Views.read {N : Int} {f : Nat → List C3} {w W : World} {g : Nat} {l : List BV} (hv : Views N f l) (h : BRow w g l) (hb : Below w.heap.size w W) {i : Nat} (hi : i < 8) :
    ∃ a c, (l.getD i BV.zero).v = .slice a (f i).length c ∧ ElB W g i ⟨N, .slice a (f i).length c, f i⟩ ∧ CellIn (g + 1) w.heap.size W (.slice a (f i).length c) (f i) := by
  obtain ⟨h1, h2⟩ := h.read hb (i := i) (by rw [hv.1]; exact hi)
  obtain ⟨e1, e2⟩ := hv.2 i hi
  rw [e2] at h2
  obtain ⟨a, c, hf⟩ := h2.form
  refine ⟨a, c, hf, ?_, hf ▸ h2⟩
  unfold ElB at h1 ⊢
  rw [e1, hf] at h1
  exact h1
set_option maxRecDepth 100000 in
set_option maxHeartbeats 8000000 in
theorem MinFunc_any (g : Nat) (l : List BV) (N : Int) (f : Nat → List C3) (w : World) (hrow : BRow w g l) (hv : Views N f l) :
    Calls Tryz.prog 24 #[.slice (some ⟨g, 0, none⟩) 8 8, .func (.func 27) #[] #[]] w
      fun e w' => e = .returned (.agg #[.int .i64 N, (l.getD (lstT N f 7) BV.zero).v]) ∧ Below w.heap.size w w' := by
  have HV := Lib.hid (fun (W : World) (hb : Below w.heap.size w W) (i : Nat) (hi : i < 8) => hv.read hrow hb hi)
  have hg : g < w.heap.size := lt_of_cell (hrow 0 (by rw [hv.1]; omega)).1.1
  clear hrow hv
  obtain ⟨a0, c0, ev0, ⟨q0, q1, q2, q3⟩, _⟩ := HV.out (w.alloc (.cells #[.int .i64 0, .slice none 0 0] 26)) (bel0 _ _) 0 (by omega)
  have q0' : (w.alloc (.cells #[.int .i64 0, .slice none 0 0] 26)).cell? ⟨g, 0, none⟩ = some (.int .i64 N) := by simpa using q0
  have q1' : (w.alloc (.cells #[.int .i64 0, .slice none 0 0] 26)).cell? ⟨g, 1, none⟩ = some (.slice a0 (f 0).length c0) := by simpa using q1
  clear q0 q1 q2 q3
  obtain ⟨G, hG⟩ : ∃ G, G = (w.alloc (.cells #[.int .i64 0, .slice none 0 0] 26)).alloc (.cells #[.int .i64 N, .slice a0 (f 0).length c0] 26) := ⟨_, rfl⟩
  have HBG : Hid (Below w.heap.size w G) := Lib.hid (by rw [hG]; exact bel_n (bel0 _ _) (Nat.le_refl _) _)
  have HX : Hid (BoxB (w.heap.size + 1) (.int .i64 N) (l.getD (lstT N f 0) BV.zero).v G ∧ BoxB w.heap.size (.int .i64 0) (.slice none 0 0) G) := Lib.hid (by
    rw [hG]
    refine ⟨?_, (BoxB.new w _ _ _).below (bel0 _ _) (by simp)⟩
    have h := BoxB.new (w.alloc (.cells #[.int .i64 0, .slice none 0 0] 26)) (.int .i64 N) (.slice a0 (f 0).length c0) 26
    rw [show lstT N f 0 = 0 from rfl, ev0]
    simpa using h)
  clear ev0
  go_enter Tryz.func24, Tryz.ntmps24
  go_wp2_with fail
  rw [← hG]
  clear hG q0' q1'
  go_loopw [6] (fun i wr => ∃ k : Nat, 1 ≤ k ∧ k ≤ 8 ∧ i = .int .i64 k ∧ Hid (BoxB (w.heap.size + 1) (.int .i64 N) (l.getD (lstT N f (k - 1)) BV.zero).v wr ∧ BoxB w.heap.size (.int .i64 0) (.slice none 0 0) wr) ∧ Hid (Below w.heap.size w wr)) (fun i _ => 8 - (intOf i).toNat)
  case atStart => exact ⟨1, by omega, by omega, rfl, HX, HBG⟩
  case round =>
    clear HX HBG
    obtain ⟨k, hk1, hk8, rfl, hbox, hbel⟩ := hrel
    by_cases hlt : k < 8
    · obtain ⟨ak, ck, evk, ⟨q0, q1, -, -⟩, hck⟩ := HV.out wr hbel.out k hlt
      obtain ⟨b, hb⟩ : ∃ b, lstT N f (k - 1) = b := ⟨_, rfl⟩
      have hb8 : b < 8 := by have := lstT_le N f (k - 1); omega
      have HST : Hid (lstT N f (k + 1 - 1) = if cmpT (txtA N (f k)) (txtA N (f b)) < 0 then k else b) := Lib.hid (by rw [← hb]; exact lstT_step hk1)
      rw [hb] at hbox
      clear hb
      obtain ⟨ab, cb, evb, -, hcb⟩ := HV.out wr hbel.out b hb8
      have HEB := Lib.hid evb
      have HEK := Lib.hid evk
      rw [evb] at hbox
      obtain ⟨⟨p0, p1, -, -⟩, -⟩ := hbox.out
      clear evb evk
      obtain ⟨wo, rfl⟩ : ∃ wo, wo = wr := ⟨_, rfl⟩
      have CC : Hid (∀ u, Below wo.heap.size wo u → Calls Tryz.prog 27 #[.agg #[.int .i64 N, .slice ak (f k).length ck], .agg #[.int .i64 N, .slice ab (f b).length cb]] u fun e w' => e = .returned (.int .i64 (cmpT (txtA N (f k)) (txtA N (f b)))) ∧ Below u.heap.size u w') := Lib.hid (fun u hu =>
        CmpTexts_any _ _ _ _ N N _ _ (f k) (f b) u (hck.below (hu.mono hbel.out.size)) (Nat.le_trans hbel.out.size hu.size) (hcb.below (hu.mono hbel.out.size)) (Nat.le_trans hbel.out.size hu.size))
      generalize cmpT (txtA N (f k)) (txtA N (f b)) = c at CC HST
      clear hck hcb
      have D0 : Below wo.heap.size wo wo.drew := ⟨rfl, rfl, rfl, Nat.le_refl _, fun _ _ => rfl⟩
      have KP : ∀ u v, Below u.heap.size u v → (u.cell? ⟨g, k * 2, none⟩ = some (.int .i64 N) ∧ u.cell? ⟨g, k * 2 + 1, none⟩ = some (.slice ak (f k).length ck) ∧ u.cell? ⟨w.heap.size + 1, 0, none⟩ = some (.int .i64 N) ∧ u.cell? ⟨w.heap.size + 1, 1, none⟩ = some (.slice ab (f b).length cb) ∧ Below wo.heap.size wo u) → (v.cell? ⟨g, k * 2, none⟩ = some (.int .i64 N) ∧ v.cell? ⟨g, k * 2 + 1, none⟩ = some (.slice ak (f k).length ck) ∧ v.cell? ⟨w.heap.size + 1, 0, none⟩ = some (.int .i64 N) ∧ v.cell? ⟨w.heap.size + 1, 1, none⟩ = some (.slice ab (f b).length cb) ∧ Below wo.heap.size wo v) := fun u v hb h => ⟨kept hb h.1, kept hb h.2.1, kept hb h.2.2.1, kept hb h.2.2.2.1, bel_c h.2.2.2.2 (Nat.le_refl _) hb⟩
      have S0 : wo.drew.cell? ⟨g, k * 2, none⟩ = some (.int .i64 N) ∧ wo.drew.cell? ⟨g, k * 2 + 1, none⟩ = some (.slice ak (f k).length ck) ∧ wo.drew.cell? ⟨w.heap.size + 1, 0, none⟩ = some (.int .i64 N) ∧ wo.drew.cell? ⟨w.heap.size + 1, 1, none⟩ = some (.slice ab (f b).length cb) ∧ Below wo.heap.size wo wo.drew := ⟨kept D0 q0, kept D0 q1, kept D0 p0, kept D0 p1, D0⟩
      go_upto_region 7 with fail
      by_cases hcmp : c < 0
      · have HN1 : Hid (lstT N f (k + 1 - 1) = k) := Lib.hid (by rw [HST.out, if_pos hcmp])
        clear HST q0 q1 p0 p1
        go_region_held3 (fun w' => w'.cell? ⟨g, k * 2, none⟩ = some (.int .i64 N) ∧ w'.cell? ⟨g, k * 2 + 1, none⟩ = some (.slice ak (f k).length ck) ∧ w'.cell? ⟨w.heap.size + 1, 0, none⟩ = some (.int .i64 N) ∧ w'.cell? ⟨w.heap.size + 1, 1, none⟩ = some (.slice ab (f b).length cb) ∧ Below wo.heap.size wo w') (first | assumption | (refine KP _ _ (by assumption) ?_; assumption))
          ((first
            | (go_at_call 27; refine (args_eq (CC.out _ (And.right (And.right (And.right (And.right (by assumption)))))) (by with_reducible rfl)).mono ?_; rintro e y ⟨rfl, hb⟩)))
        all_goals
          have HY : y.cell? ⟨g, k * 2, none⟩ = some (.int .i64 N) ∧ y.cell? ⟨g, k * 2 + 1, none⟩ = some (.slice ak (f k).length ck) ∧ y.cell? ⟨w.heap.size + 1, 0, none⟩ = some (.int .i64 N) ∧ y.cell? ⟨w.heap.size + 1, 1, none⟩ = some (.slice ab (f b).length cb) ∧ Below wo.heap.size wo y := by assumption
          have HBX : Hid (BoxB (w.heap.size + 1) (.int .i64 N) (l.getD (lstT N f (k + 1 - 1)) BV.zero).v ((y.setCell ⟨w.heap.size + 1, 0, none⟩ (.int .i64 N)).setCell ⟨w.heap.size + 1, 1, none⟩ (.slice ak (f k).length ck)) ∧ BoxB w.heap.size (.int .i64 0) (.slice none 0 0) ((y.setCell ⟨w.heap.size + 1, 0, none⟩ (.int .i64 N)).setCell ⟨w.heap.size + 1, 1, none⟩ (.slice ak (f k).length ck))) := Lib.hid (by
            rw [HN1.out, HEK.out]
            have h1 := hbox.out.1.below HY.2.2.2.2 hbox.out.1.lt
            have h2 := hbox.out.2.below HY.2.2.2.2 hbox.out.2.lt
            exact ⟨h1.two, (h2.set_far (q := w.heap.size + 1) (o := 0) (by omega) _).set_far (q := w.heap.size + 1) (o := 1) (by omega) _⟩)
          have HBW : Hid (Below w.heap.size w ((y.setCell ⟨w.heap.size + 1, 0, none⟩ (.int .i64 N)).setCell ⟨w.heap.size + 1, 1, none⟩ (.slice ak (f k).length ck))) := Lib.hid (((bel_c hbel.out (Nat.le_refl _) HY.2.2.2.2).setCell (p := ⟨w.heap.size + 1, 0, none⟩) (by show _ ≤ w.heap.size + 1; omega) _).setCell (p := ⟨w.heap.size + 1, 1, none⟩) (by show _ ≤ w.heap.size + 1; omega) _)
          have HYB := (hbox.out.1.below HY.2.2.2.2 hbox.out.1.lt)
          obtain ⟨r0, r1, -, -, -⟩ := HY
          obtain ⟨p0, p1, p2, p3⟩ := HYB
          clear hbel hbox S0 KP CC
          go_wp2_with fail
          go_roundw
          case rel => exact ⟨k + 1, by omega, by omega, by go_num, HBX, HBW⟩
          case measure => simp [intOf] <;> omega
      · have HN1 : Hid (lstT N f (k + 1 - 1) = b) := Lib.hid (by rw [HST.out, if_neg hcmp])
        clear HST q0 q1 p0 p1
        go_region_held3 (fun w' => w'.cell? ⟨g, k * 2, none⟩ = some (.int .i64 N) ∧ w'.cell? ⟨g, k * 2 + 1, none⟩ = some (.slice ak (f k).length ck) ∧ w'.cell? ⟨w.heap.size + 1, 0, none⟩ = some (.int .i64 N) ∧ w'.cell? ⟨w.heap.size + 1, 1, none⟩ = some (.slice ab (f b).length cb) ∧ Below wo.heap.size wo w') (first | assumption | (refine KP _ _ (by assumption) ?_; assumption))
          ((first
            | (go_at_call 27; refine (args_eq (CC.out _ (And.right (And.right (And.right (And.right (by assumption)))))) (by with_reducible rfl)).mono ?_; rintro e y ⟨rfl, hb⟩)))
        all_goals
          have HY : y.cell? ⟨g, k * 2, none⟩ = some (.int .i64 N) ∧ y.cell? ⟨g, k * 2 + 1, none⟩ = some (.slice ak (f k).length ck) ∧ y.cell? ⟨w.heap.size + 1, 0, none⟩ = some (.int .i64 N) ∧ y.cell? ⟨w.heap.size + 1, 1, none⟩ = some (.slice ab (f b).length cb) ∧ Below wo.heap.size wo y := by assumption
          have HBX : Hid (BoxB (w.heap.size + 1) (.int .i64 N) (l.getD (lstT N f (k + 1 - 1)) BV.zero).v y ∧ BoxB w.heap.size (.int .i64 0) (.slice none 0 0) y) := Lib.hid (by
            rw [HN1.out, HEB.out]
            exact ⟨hbox.out.1.below HY.2.2.2.2 hbox.out.1.lt, hbox.out.2.below HY.2.2.2.2 hbox.out.2.lt⟩)
          have HBW : Hid (Below w.heap.size w y) := Lib.hid (bel_c hbel.out (Nat.le_refl _) HY.2.2.2.2)
          clear hbel hbox S0 KP CC
          go_wp2_with fail
          go_roundw
          case rel => exact ⟨k + 1, by omega, by omega, by go_num, HBX, HBW⟩
          case measure => simp [intOf] <;> omega
    · obtain rfl : k = 8 := by omega
      obtain ⟨⟨p0, p1, -, -⟩, ⟨d0, d1, g0, g1⟩⟩ := hbox.out
      have hb7 : lstT N f 7 < 8 := by have := lstT_le N f 7; omega
      obtain ⟨ab, cb, evb, -, -⟩ := HV.out wr hbel.out (lstT N f 7) hb7
      have p1' : wr.cell? ⟨w.heap.size + 1, 1, none⟩ = some (.slice ab (f (lstT N f 7)).length cb) := by rw [← evb]; exact p1
      have HEV := Lib.hid evb
      clear p1 evb
      generalize (f (lstT N f 7)).length = m at p1' HEV
      go_wp2_with fail
      refine bodyPost_ret (v := .agg #[.int .i64 N, .slice ab m cb]) (by simp [results, Tryz.results24, go_sem, d0, d1]) rfl ⟨by rw [HEV.out], ?_⟩
      refine Below.setCell (Below.setCell hbel.out ?_ _) ?_ _ <;> simp

end Go.Proofs.YtfidnhhlcdbaeaaGreatDoor

namespace Go.Proofs.YtfidnhhlcdbaeaaGreatDoor
open Go.ChangeShapes Go.WideShapes Go.ChangeAt Go.RowKit

/-- The order of two blocks. -/
noncomputable def lessB (a b : BV) : Bool := decide (cmpT (txtA a.n a.xs) (txtA b.n b.xs) < 0)
def swpB (l : List BV) (j : Nat) : List BV := (l.set (j + 1) (l.getD j BV.zero)).set j (l.getD (j + 1) BV.zero)
/-- Element j goes down as far as it is less. -/
noncomputable def bub : Nat → List BV → List BV
  | 0, l => l
  | j + 1, l => if lessB (l.getD (j + 1) BV.zero) (l.getD j BV.zero) = true then bub j (swpB l j) else l
noncomputable def srt : Nat → List BV → List BV
  | 0, l => l
  | i + 1, l => bub (i + 1) (srt i l)
theorem swpB_len (l : List BV) (j : Nat) : (swpB l j).length = l.length := by simp [swpB]
theorem bub_len : ∀ (j : Nat) (l : List BV), (bub j l).length = l.length
  | 0, _ => rfl
  | j + 1, l => by unfold bub; split; · rw [bub_len j, swpB_len]
                   · rfl
theorem srt_len : ∀ (i : Nat) (l : List BV), (srt i l).length = l.length
  | 0, _ => rfl
  | i + 1, l => by unfold srt; rw [bub_len, srt_len i]
theorem srt_step {i : Nat} (h : 1 ≤ i) (l : List BV) : srt i l = bub i (srt (i - 1) l) := by
  obtain ⟨m, rfl⟩ : ∃ m, i = m + 1 := ⟨i - 1, by omega⟩
  rfl
theorem BRow.cell {w W : World} {g : Nat} {l : List BV} (h : BRow w g l) (hb : Below w.heap.size w W) {i : Nat} (hi : i < l.length) :
    ∃ n a c xs, l.getD i BV.zero = ⟨n, .slice a xs.length c, xs⟩ ∧ ElB W g i ⟨n, .slice a xs.length c, xs⟩ ∧ CellIn (g + 1) w.heap.size W (.slice a xs.length c) xs := by
  obtain ⟨h1, h2⟩ := h.read hb hi
  generalize l.getD i BV.zero = z at h1 h2
  obtain ⟨n, v, xs⟩ := z
  have h2 : CellIn (g + 1) w.heap.size W v xs := h2
  obtain ⟨a, c, rfl⟩ := h2.form
  exact ⟨n, a, c, xs, rfl, h1, h2⟩
theorem But.setB {g : Nat} {u w : World} (h : But g u w) (j : Nat) (n : Int) (v : Value) : But g u (setB w g j n v) := (h.setCell (p := ⟨g, j * 2, none⟩) (.inl rfl) _).setCell (p := ⟨g, j * 2 + 1, none⟩) (.inl rfl) _
set_option maxRecDepth 100000 in
set_option maxHeartbeats 8000000 in
theorem InsSort_any (g : Nat) (l : List BV) (w : World) (hrow : BRow w g l) (hl : l.length = 8) :
    Calls Tryz.prog 71 #[.slice (some ⟨g, 0, none⟩) 8 8, .int .i64 0, .int .i64 8, .func (.func 27) #[] #[]] w
      fun e w' => e = .returned (.tuple #[]) ∧ BRow w' g (srt 7 l) ∧ But g w w' := by
  have HR0 : Hid (BRow w g l ∧ But g w w) := Lib.hid ⟨hrow, But.refl _ _⟩
  have HL0 : Hid (l.length = 8 ∧ l = srt 0 l) := Lib.hid ⟨hl, rfl⟩
  clear hrow hl
  go_enter Tryz.func71, Tryz.ntmps71
  go_wp2_with fail
  go_loopw [8] (fun vi wr => ∃ (i : Nat) (li : List BV), 1 ≤ i ∧ i ≤ 8 ∧ vi = .int .i64 i ∧ Hid (li.length = 8 ∧ li = srt (i - 1) l) ∧ Hid (BRow wr g li ∧ But g w wr)) (fun vi _ => 8 - (intOf vi).toNat)
  case atStart => exact ⟨1, l, by omega, by omega, rfl, HL0, HR0⟩
  case round =>
    clear HR0 HL0
    obtain ⟨i, li, hi1, hi8, rfl, HLi, HRi⟩ := hrel
    by_cases hlt : i < 8
    · have hltz : (i : Int) < 8 := by omega
      have HST : Hid (bub i li = srt i l) := Lib.hid (by rw [srt_step hi1, ← HLi.out.2])
      have HL2 : Hid (li.length = 8 ∧ bub i li = srt i l) := Lib.hid ⟨HLi.out.1, HST.out⟩
      clear HST HLi
      go_wp2_with fail
      go_loopw [9] (fun vj wr2 => ∃ (j : Nat) (lj : List BV), j ≤ i ∧ vj = .int .i64 j ∧ Hid (lj.length = 8 ∧ bub j lj = srt i l) ∧ Hid (BRow wr2 g lj ∧ But g w wr2)) (fun vj _ => (intOf vj).toNat)
      case atStart => exact ⟨i, li, Nat.le_refl _, rfl, HL2, HRi⟩
      case round =>
        clear HL2 HRi
        obtain ⟨j, lj, hji, rfl, HLj, HRj⟩ := hrel
        by_cases hja : 0 < j
        · obtain ⟨m, rfl⟩ : ∃ m, j = m + 1 := ⟨j - 1, by omega⟩
          obtain ⟨wo, rfl⟩ : ∃ wo, wo = wr := ⟨_, rfl⟩
          obtain ⟨nj, aj, cj, xj, evj, ⟨q0, q1, q2, q3⟩, rj⟩ := HRj.out.1.cell (Below.refl _ _) (i := m + 1) (by rw [HLj.out.1]; omega)
          obtain ⟨nm, am, cm, xm, evm, ⟨p0, p1, p2, p3⟩, rm⟩ := HRj.out.1.cell (Below.refl _ _) (i := m) (by rw [HLj.out.1]; omega)
          have HEJ := Lib.hid evj
          have HEM := Lib.hid evm
          have HC : Hid (∀ u, Below wo.heap.size wo u → CellIn (g + 1) wo.heap.size u (.slice aj xj.length cj) xj ∧ CellIn (g + 1) wo.heap.size u (.slice am xm.length cm) xm) := Lib.hid (fun u hu => ⟨rj.below hu, rm.below hu⟩)
          have CC : Hid (∀ u, Below wo.heap.size wo u → Calls Tryz.prog 27 #[.agg #[.int .i64 nj, .slice aj xj.length cj], .agg #[.int .i64 nm, .slice am xm.length cm]] u fun e w' => e = .returned (.int .i64 (cmpT (txtA nj xj) (txtA nm xm))) ∧ Below u.heap.size u w') := Lib.hid (fun u hu =>
            CmpTexts_any _ _ _ _ nj nm _ _ xj xm u (rj.below hu) hu.size (rm.below hu) hu.size)
          have HLE : Hid (lessB (lj.getD (m + 1) BV.zero) (lj.getD m BV.zero) = decide (cmpT (txtA nj xj) (txtA nm xm) < 0)) := Lib.hid (by rw [evj, evm]; rfl)
          generalize cmpT (txtA nj xj) (txtA nm xm) = c at CC HLE
          clear rj rm evj evm
          have jz : (m : Int) + 1 < 8 := by omega
          have jz1 : (m : Int) < 8 := by omega
          have jz0 : (0 : Int) < (m : Int) + 1 := by omega
          have hwp : IntKind.i64.wrap (m : Int) = (m : Int) := by rw [IntKind.wrap_i64]; omega
          have p0z : (0 : Int) ≤ (m : Int) + 1 := by omega
          have e0 : ((m : Int) + 1).toNat = m + 1 := by omega
          have D0 : Below wo.heap.size wo wo.drew := ⟨rfl, rfl, rfl, Nat.le_refl _, fun _ _ => rfl⟩
          have KP : ∀ u v, Below u.heap.size u v → (u.cell? ⟨g, (m + 1) * 2, none⟩ = some (.int .i64 nj) ∧ u.cell? ⟨g, (m + 1) * 2 + 1, none⟩ = some (.slice aj xj.length cj) ∧ u.cell? ⟨g, m * 2, none⟩ = some (.int .i64 nm) ∧ u.cell? ⟨g, m * 2 + 1, none⟩ = some (.slice am xm.length cm) ∧ Below wo.heap.size wo u) → (v.cell? ⟨g, (m + 1) * 2, none⟩ = some (.int .i64 nj) ∧ v.cell? ⟨g, (m + 1) * 2 + 1, none⟩ = some (.slice aj xj.length cj) ∧ v.cell? ⟨g, m * 2, none⟩ = some (.int .i64 nm) ∧ v.cell? ⟨g, m * 2 + 1, none⟩ = some (.slice am xm.length cm) ∧ Below wo.heap.size wo v) := fun u v hb h => ⟨kept hb h.1, kept hb h.2.1, kept hb h.2.2.1, kept hb h.2.2.2.1, bel_c h.2.2.2.2 (Nat.le_refl _) hb⟩
          have S0 : wo.drew.cell? ⟨g, (m + 1) * 2, none⟩ = some (.int .i64 nj) ∧ wo.drew.cell? ⟨g, (m + 1) * 2 + 1, none⟩ = some (.slice aj xj.length cj) ∧ wo.drew.cell? ⟨g, m * 2, none⟩ = some (.int .i64 nm) ∧ wo.drew.cell? ⟨g, m * 2 + 1, none⟩ = some (.slice am xm.length cm) ∧ Below wo.heap.size wo wo.drew := ⟨kept D0 q0, kept D0 q1, kept D0 p0, kept D0 p1, D0⟩
          have HFZ : Hid (∀ u, Below wo.heap.size wo u → ElB u g (m + 1) ⟨nj, .slice aj xj.length cj, xj⟩ ∧ ElB u g m ⟨nm, .slice am xm.length cm, xm⟩) := Lib.hid (fun u hu => ⟨(show ElB wo g (m + 1) ⟨nj, .slice aj xj.length cj, xj⟩ from ⟨q0, q1, q2, q3⟩).keep hu, (show ElB wo g m ⟨nm, .slice am xm.length cm, xm⟩ from ⟨p0, p1, p2, p3⟩).keep hu⟩)
          clear q0 q1 q2 q3 p0 p1 p2 p3
          go_upto_region 4 with fail
          by_cases hcmp : c < 0
          · have HBU : Hid (bub (m + 1) lj = bub m (swpB lj m)) := Lib.hid (by
              show (if lessB _ _ = true then _ else _) = _
              rw [HLE.out, if_pos (decide_eq_true hcmp)])
            clear HLE
            go_region_held3 (fun w' => w'.cell? ⟨g, (m + 1) * 2, none⟩ = some (.int .i64 nj) ∧ w'.cell? ⟨g, (m + 1) * 2 + 1, none⟩ = some (.slice aj xj.length cj) ∧ w'.cell? ⟨g, m * 2, none⟩ = some (.int .i64 nm) ∧ w'.cell? ⟨g, m * 2 + 1, none⟩ = some (.slice am xm.length cm) ∧ Below wo.heap.size wo w') (first | assumption | (refine KP _ _ (by assumption) ?_; assumption))
              ((first
                | (go_at_call 27; refine (args_eq (CC.out _ (And.right (And.right (And.right (And.right (by assumption)))))) (by with_reducible rfl)).mono ?_; rintro e y ⟨rfl, hb⟩)))
            all_goals
              have HY := And.right (And.right (And.right (And.right (show y.cell? ⟨g, (m + 1) * 2, none⟩ = some (.int .i64 nj) ∧ y.cell? ⟨g, (m + 1) * 2 + 1, none⟩ = some (.slice aj xj.length cj) ∧ y.cell? ⟨g, m * 2, none⟩ = some (.int .i64 nm) ∧ y.cell? ⟨g, m * 2 + 1, none⟩ = some (.slice am xm.length cm) ∧ Below wo.heap.size wo y by assumption))))
              clear S0 KP CC
              obtain ⟨⟨q0, q1, q2, q3⟩, ⟨p0, p1, p2, p3⟩⟩ := HFZ.out y HY
              obtain ⟨j1, hj1⟩ : ∃ j1, j1 = m + 1 := ⟨_, rfl⟩
              rw [← hj1] at q0 q1 q2 q3 e0
              have J1 : Hid (j1 = m + 1) := Lib.hid hj1
              clear hj1
              have HNX : Hid (BRow (setB (setB y g j1 nm (.slice am xm.length cm)) g m nj (.slice aj xj.length cj)).drew g (swpB lj m) ∧ But g w (setB (setB y g j1 nm (.slice am xm.length cm)) g m nj (.slice aj xj.length cj)).drew) := Lib.hid (by
                rw [J1.out]
                have hr := HRj.out.1.keep HY
                have c1 := (HC.out y HY).2.wide (Nat.le_refl (g + 1)) HY.size
                have c2 := (HC.out y HY).1.wide (Nat.le_refl (g + 1)) HY.size
                refine ⟨?_, (((HRj.out.2.thenBelow (HY.mono HRj.out.2.size)).setB _ _ _).setB _ _ _).drew⟩
                unfold swpB
                rw [HEJ.out, HEM.out]
                refine BRow.keep ?_ (show Below _ _ _ from ⟨rfl, rfl, rfl, Nat.le_refl _, fun _ _ => rfl⟩)
                refine (hr.set (m + 1) nm _ xm c1).set m nj _ xj ?_
                rw [setB_size]
                exact (c2.set_far (p := ⟨g, (m + 1) * 2, none⟩) (Nat.lt_succ_self g) _).set_far (p := ⟨g, (m + 1) * 2 + 1, none⟩) (Nat.lt_succ_self g) _)
              go_wp2_with fail
              go_big_region
              all_goals go_wp2_with fail
              go_roundw
              case rel => exact ⟨m, swpB lj m, by omega, by go_num, Lib.hid ⟨by rw [swpB_len]; exact HLj.out.1, by rw [← HBU.out]; exact HLj.out.2⟩, HNX⟩
              case measure => simp [intOf] <;> omega
          · have HBU : Hid (lj = srt i l) := Lib.hid (by
              rw [← HLj.out.2]
              show lj = (if lessB _ _ = true then _ else _)
              rw [HLE.out, if_neg (by simpa using hcmp)])
            clear HLE
            go_region_held3 (fun w' => w'.cell? ⟨g, (m + 1) * 2, none⟩ = some (.int .i64 nj) ∧ w'.cell? ⟨g, (m + 1) * 2 + 1, none⟩ = some (.slice aj xj.length cj) ∧ w'.cell? ⟨g, m * 2, none⟩ = some (.int .i64 nm) ∧ w'.cell? ⟨g, m * 2 + 1, none⟩ = some (.slice am xm.length cm) ∧ Below wo.heap.size wo w') (first | assumption | (refine KP _ _ (by assumption) ?_; assumption))
              ((first
                | (go_at_call 27; refine (args_eq (CC.out _ (And.right (And.right (And.right (And.right (by assumption)))))) (by with_reducible rfl)).mono ?_; rintro e y ⟨rfl, hb⟩)))
            all_goals
              have HY := And.right (And.right (And.right (And.right (show y.cell? ⟨g, (m + 1) * 2, none⟩ = some (.int .i64 nj) ∧ y.cell? ⟨g, (m + 1) * 2 + 1, none⟩ = some (.slice aj xj.length cj) ∧ y.cell? ⟨g, m * 2, none⟩ = some (.int .i64 nm) ∧ y.cell? ⟨g, m * 2 + 1, none⟩ = some (.slice am xm.length cm) ∧ Below wo.heap.size wo y by assumption))))
              have HNX : Hid (BRow y g lj ∧ But g w y) := Lib.hid ⟨HRj.out.1.keep HY, HRj.out.2.thenBelow (HY.mono HRj.out.2.size)⟩
              clear S0 KP CC HFZ
              go_wp2_with fail
              go_roundw
              case rel => exact ⟨i + 1, lj, by omega, by omega, by go_num, Lib.hid ⟨HLj.out.1, HBU.out⟩, HNX⟩
              case measure => simp [intOf] <;> omega
        · obtain rfl : j = 0 := by omega
          have hjaz : decide (((0 : Nat) : Int) > (0 : Int)) = false := by decide
          have HBU : Hid (lj = srt i l) := Lib.hid (by rw [← HLj.out.2]; rfl)
          obtain ⟨wo, rfl⟩ : ∃ wo, wo = wr := ⟨_, rfl⟩
          have D0 : Below wo.heap.size wo wo.drew := ⟨rfl, rfl, rfl, Nat.le_refl _, fun _ _ => rfl⟩
          have HNX : Hid (BRow wo.drew g lj ∧ But g w wo.drew) := Lib.hid ⟨HRj.out.1.keep D0, HRj.out.2.thenBelow (D0.mono HRj.out.2.size)⟩
          go_wp2_with fail
          go_big_region
          all_goals go_wp2_with fail
          go_roundw
          case rel => exact ⟨i + 1, lj, by omega, by omega, by go_num, Lib.hid ⟨HLj.out.1, HBU.out⟩, HNX⟩
          case measure => simp [intOf] <;> omega
    · obtain rfl : i = 8 := by omega
      go_wp2_with fail
      go_end0
      exact ⟨rfl, by have h := HRi.out.1; rw [HLi.out.2] at h; exact h, HRi.out.2⟩

end Go.Proofs.YtfidnhhlcdbaeaaGreatDoor

namespace Go.Proofs.YtfidnhhlcdbaeaaGreatDoor
open Go.ChangeShapes Go.WideShapes Go.ChangeAt Go.RowKit

set_option maxRecDepth 100000 in
set_option maxHeartbeats 4000000 in
theorem Len64_8 (w : World) : Calls Tryz.prog 80 #[.int .u64 8] w fun e w' => e = .returned (.int .i64 4) ∧ w' = w := by
  go_enter Tryz.func80, Tryz.ntmps80
  go_wp2_with fail
  go_ret
  exact ⟨by kernel_rfl, rfl⟩
set_option maxRecDepth 100000 in
set_option maxHeartbeats 4000000 in
theorem Len_8 (w : World) : Calls Tryz.prog 57 #[.int .u64 8] w fun e w' => e = .returned (.int .i64 4) ∧ w' = w := by
  go_enter Tryz.func57, Tryz.ntmps57
  go_wp2_with (refine (Len64_8 _).mono ?_; rintro e w' ⟨rfl, rfl⟩)
  go_ret
  exact ⟨rfl, rfl⟩
set_option maxRecDepth 100000 in
set_option maxHeartbeats 8000000 in
theorem Pdq_any (g : Nat) (l : List BV) (w : World) (hrow : BRow w g l) (hl : l.length = 8) :
    Calls Tryz.prog 56 #[.slice (some ⟨g, 0, none⟩) 8 8, .int .i64 0, .int .i64 8, .int .i64 4, .func (.func 27) #[] #[]] w
      fun e w' => e = .returned (.tuple #[]) ∧ BRow w' g (srt 7 l) ∧ But g w w' := by
  have CI := Lib.hid (InsSort_any g l w hrow hl)
  clear hrow hl
  go_enter Tryz.func56, Tryz.ntmps56
  go_wp2_with fail
  go_loopw [1, 2] (fun p q wr => p = .int .i64 0 ∧ q = .int .i64 8 ∧ Hid (wr = w)) (fun _ _ _ => 0)
  case atStart => exact ⟨rfl, rfl, Lib.hid rfl⟩
  case round =>
    obtain ⟨rfl, rfl, hw⟩ := hrel
    have hw' := hw.out
    subst hw'
    go_wp2_with fail
    refine CI.out.mono ?_
    rintro e w2 ⟨rfl, hr, hb⟩
    have HH := Lib.hid (And.intro hr hb)
    clear hr hb CI hw
    go_wp2_with fail
    (try simp only [Exit.inBlock, Exit.then])
    refine bodyPost_ret (results_none rfl _ _ _) rfl ?_
    exact ⟨rfl, HH.out⟩
set_option maxRecDepth 100000 in
set_option maxHeartbeats 4000000 in
theorem SortFunc_any (g : Nat) (l : List BV) (w : World) (hrow : BRow w g l) (hl : l.length = 8) :
    Calls Tryz.prog 33 #[.slice (some ⟨g, 0, none⟩) 8 8, .func (.func 27) #[] #[]] w
      fun e w' => e = .returned (.tuple #[]) ∧ BRow w' g (srt 7 l) ∧ But g w w' := by
  have CI := Lib.hid (Pdq_any g l w hrow hl)
  clear hrow hl
  go_enter Tryz.func33, Tryz.ntmps33
  go_wp2_with fail
  refine (Len_8 _).mono ?_
  rintro e w1 ⟨rfl, rfl⟩
  go_wp2_with fail
  refine CI.out.mono ?_
  rintro e w2 ⟨rfl, hr, hb⟩
  have HH := Lib.hid (And.intro hr hb)
  clear hr hb CI
  go_wp2_with fail
  go_end0
  exact ⟨rfl, HH.out⟩

end Go.Proofs.YtfidnhhlcdbaeaaGreatDoor

namespace Go.Proofs.YtfidnhhlcdbaeaaGreatDoor
open Go.ChangeShapes Go.WideShapes Go.ChangeAt Go.RowKit

set_option maxHeartbeats 1000000 in
theorem EqCells_any (l1 h1 l2 h2 : Nat) (v1 v2 : Value) (xs ys : List C3) (w : World) (r1 : CellIn l1 h1 w v1 xs) (r2 : CellIn l2 h2 w v2 ys) (hh1 : h1 ≤ w.heap.size) (hh2 : h2 ≤ w.heap.size) :
    Calls Tryz.prog 35 #[v1, v2] w fun e w' => e = .returned (.bool (sameB 0 0 xs ys)) ∧ Below w.heap.size w w' := by
  obtain ⟨a1, c1, rfl⟩ := r1.form
  obtain ⟨a2, c2, rfl⟩ := r2.form
  have R1 := Lib.hid r1
  have R2 := Lib.hid r2
  have hl1 := r1.1
  have hl2 := r2.1
  clear r1 r2
  by_cases hl : xs.length = ys.length
  · have HL := Lib.hid hl
    have hb : ((xs.length : Int) != (ys.length : Int)) = false := by simp [hl]
    clear hl
    go_enter Tryz.func35, Tryz.ntmps35
    go_wp2_with fail
    go_loopw [13] (fun i wr => ∃ k : Nat, k ≤ xs.length ∧ i = .int .i64 k ∧ Hid (∀ j, j < k → xs.getD j C3.zero = ys.getD j C3.zero) ∧ Hid (Below w.heap.size w wr)) (fun i _ => xs.length - (intOf i).toNat)
    case atStart => exact ⟨0, Nat.zero_le _, rfl, fun j hj => by omega, Below.refl _ _⟩
    case round =>
      obtain ⟨k, hk, rfl, hup, hbel⟩ := hrel
      by_cases hlt : k < xs.length
      · obtain ⟨g1, rfl, _, _, ⟨e0, e1, e2⟩, _⟩ := R1.out.at (hbel.out.mono hh1) hlt
        have hlt2 : k < ys.length := by rw [← HL.out]; exact hlt
        obtain ⟨g2, rfl, _, _, ⟨f0, f1, f2⟩, _⟩ := R2.out.at (hbel.out.mono hh2) hlt2
        obtain ⟨c, hc⟩ : ∃ c, xs.getD k C3.zero = c := ⟨_, rfl⟩
        obtain ⟨d, hd⟩ : ∃ d, ys.getD k C3.zero = d := ⟨_, rfl⟩
        rw [hc] at e0 e1 e2
        rw [hd] at f0 f1 f2
        have HC := Lib.hid hc
        have HD := Lib.hid hd
        clear hc hd
        rcases C3.parts c d with ⟨q0, hne⟩ | ⟨q0, q1, hne⟩ | ⟨q0, q1, q2, hne⟩ | he
        case inr.inr.inr =>
          subst he
          have HN : Hid (∀ j, j < k + 1 → xs.getD j C3.zero = ys.getD j C3.zero) := Lib.hid (fun j hj => by
            rcases Nat.lt_succ_iff_lt_or_eq.1 hj with h | rfl
            · exact hup.out j h
            · rw [HC.out, HD.out])
          clear HC HD hup
          go_wp2_with fail
          go_quiet (fail)
          go_wp2_with fail
          go_roundw
          case rel => exact ⟨k + 1, by omega, by go_num, HN, Lib.hid ⟨hbel.out.os, hbel.out.tape, hbel.out.output, hbel.out.size, hbel.out.block⟩⟩
          case measure => simp [intOf] <;> omega
        all_goals
          have HN := Lib.hid (same_no_at (n := 0) (m := 0) (xs := xs) (ys := ys) (i := k) (by rw [HC.out, HD.out]; exact hne))
          clear HC HD hup hne
          go_wp2_with fail
          go_quiet (fail)
          go_wp2_with fail
          go_ret
          exact ⟨ret_bool HN.out, ⟨hbel.out.os, hbel.out.tape, hbel.out.output, hbel.out.size, hbel.out.block⟩⟩
      · obtain rfl : k = xs.length := by omega
        have HN := Lib.hid (same_yes (n := 0) (m := 0) rfl HL.out hup.out)
        go_wp2_with fail
        go_ret
        exact ⟨ret_bool HN.out, hbel.out⟩
  · have hb : ((xs.length : Int) != (ys.length : Int)) = true := by simp; omega
    have HN := Lib.hid (same_no (n := 0) (m := 0) (xs := xs) (ys := ys) (fun h => hl (by rw [h.2])))
    clear hl
    go_enter Tryz.func35, Tryz.ntmps35
    go_wp2_with fail
    go_ret
    exact ⟨ret_bool HN.out, Below.refl _ _⟩

theorem ImplSame_any (l1 h1 l2 h2 : Nat) (n m : Int) (v1 v2 : Value) (xs ys : List C3) (w : World) (r1 : CellIn l1 h1 w v1 xs) (r2 : CellIn l2 h2 w v2 ys) (hh1 : h1 ≤ w.heap.size) (hh2 : h2 ≤ w.heap.size) :
    Calls Tryz.prog 13 #[.agg #[.int .i64 n, v1], .agg #[.int .i64 m, v2]] w fun e w' => e = .returned (.bool (sameB n m xs ys)) ∧ Below w.heap.size w w' := by
  obtain ⟨a1, c1, rfl⟩ := r1.form
  obtain ⟨a2, c2, rfl⟩ := r2.form
  have R1 : ∀ W, Below w.heap.size w W → CellIn l1 h1 W (.slice a1 xs.length c1) xs := fun W hb => r1.below (hb.mono hh1)
  have R2 : ∀ W, Below w.heap.size w W → CellIn l2 h2 W (.slice a2 ys.length c2) ys := fun W hb => r2.below (hb.mono hh2)
  have HR1 := Lib.hid R1
  have HR2 := Lib.hid R2
  clear r1 r2 R1 R2
  by_cases hn : n = m
  · subst hn
    have HE : Hid (sameB 0 0 xs ys = sameB n n xs ys) := Lib.hid (by unfold sameB; simp)
    go_enter Tryz.func13, Tryz.ntmps13
    go_wp2_with fail
    refine (EqCells_any l1 h1 l2 h2 _ _ xs ys _ (HR1.out _ (bel_n (bel0 w _) (Nat.le_refl _) _)) (HR2.out _ (bel_n (bel0 w _) (Nat.le_refl _) _)) (by simp; omega) (by simp; omega)).mono ?_
    rintro e w1 ⟨rfl, hb⟩
    have HB := Lib.hid (bel_c (bel_n (bel0 w _) (Nat.le_refl _) _) (Nat.le_refl _) hb)
    clear hb
    generalize sameB 0 0 xs ys = r at HE ⊢
    go_wp2_with fail
    go_ret
    exact ⟨ret_bool HE.out, HB.out⟩
  · have hb : (n == m) = false := by simpa using hn
    have HN := Lib.hid (same_no (n := n) (m := m) (xs := xs) (ys := ys) (fun h => hn h.1))
    clear hn
    go_enter Tryz.func13, Tryz.ntmps13
    go_wp2_with fail
    go_ret
    exact ⟨ret_bool HN.out, bel_n (bel0 w _) (Nat.le_refl _) _⟩

end Go.Proofs.YtfidnhhlcdbaeaaGreatDoor
