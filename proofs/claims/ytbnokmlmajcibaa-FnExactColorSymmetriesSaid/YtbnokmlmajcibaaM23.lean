/- Rows of ints: marks from one on. Symmetries: the model's IsClosed. Rows of integers that came in; taken from the law's argument. Symmetries: the model's IsMirrored. -/
import Derived.Test.YtbnokmlmajcibaaM22
import Derived.Test.YtbnokmlmajcibaaM05
import Derived.Test.YtbnokmlmajcibaaM21
import Derived.Test.YtbnokmlmajcibaaM06
import Derived.Test.YtbnokmlmajcibaaM11
import Derived.Test.YtbnokmlmajcibaaM10
import Derived.Deep.DeepCutAuto
import Derived.Deep.RegionHeld3
import Derived.Test.YtbnokmlmajcibaaM01
import Derived.OwnWalk

namespace Go.Proofs.Ytbnokmlmajcibaa
open Go.ChangeShapes Go.WideShapes Go.ChangeAt Go.RowKit

/-- The number behind the last mark. -/
def mkI (zs : List Int) : Int := ((1 + zs.length : Nat) : Int)
theorem mkI_pos (zs : List Int) : ¬ mkI zs < 0 := by unfold mkI; omega
theorem MarkIOne (lo hi : Nat) (v : Value) (zs : List Int) (w : World) (r : IntIn lo hi w v zs) :
    Calls Try.prog 30 #[v, .int .i64 1] w fun e w' => e = .returned (.int .i64 (mkI zs)) ∧ IntIn lo hi w' v (markI 1 zs.length) ∧ Within lo hi w w' :=
  MarkIntS_any lo hi v zs 1 w r (by omega)
theorem HeldIOne (lo hi : Nat) (v : Value) (zs : List Int) (w : World) (r : IntIn lo hi w v (markI 1 zs.length)) :
    Calls Try.prog 31 #[v, .int .i64 1] w fun e w' => e = .returned (.int .i64 (mkI zs)) ∧ w' = w :=
  HeldIntS_any lo hi v zs.length 1 w r (by omega)

end Go.Proofs.Ytbnokmlmajcibaa

namespace Go.Proofs.Ytbnokmlmajcibaa
open Go.ChangeShapes Go.WideShapes Go.ChangeAt Go.RowKit

/-- Eight Booleans in block g. -/
def Row8b (g : Nat) (f : Nat → Bool) (u : World) : Prop := ∀ j, j < 8 → u.cell? ⟨g, j, none⟩ = some (.bool (f j)) ∧ u.frozen? ⟨g, j, none⟩ = false
theorem Row8b.keep {g : Nat} {f : Nat → Bool} {u v : World} (h : Row8b g f u) (hb : Below u.heap.size u v) : Row8b g f v := fun j hj => ⟨kept hb (h j hj).1, keptF hb (h j hj).1 (h j hj).2⟩
theorem make8b (w : World) : (Instr.makeSlice 68 (.int .i64 8) (.int .i64 8)).run Try.prog w = .ok (.slice (some ⟨w.heap.size, 0, none⟩) 8 8) (w.alloc (.cells #[.bool false, .bool false, .bool false, .bool false, .bool false, .bool false, .bool false, .bool false] 4)) := by kernel_rfl
theorem Row8b.new (w : World) (T : TypeId) : Row8b w.heap.size (fun _ => false) (w.alloc (.cells #[.bool false, .bool false, .bool false, .bool false, .bool false, .bool false, .bool false, .bool false] T)) := by
  intro j hj
  have : j = 0 ∨ j = 1 ∨ j = 2 ∨ j = 3 ∨ j = 4 ∨ j = 5 ∨ j = 6 ∨ j = 7 := by omega
  rcases this with rfl | rfl | rfl | rfl | rfl | rfl | rfl | rfl <;> exact ⟨by simp, by simp⟩
/-- The numbers among the first k. -/
def memK (zs : List Int) (k : Nat) (j : Nat) : Bool := decide ((j : Int) ∈ zs.take k)
theorem memK_zero (zs : List Int) : memK zs 0 = fun _ => false := by funext j; simp [memK]
theorem memK_succ {zs : List Int} {k : Nat} (hk : k < zs.length) (j : Nat) : memK zs (k + 1) j = (memK zs k j || decide ((j : Int) = zs.getD k 0)) := by
  have e : zs.getD k 0 = zs[k] := by simp [List.getD, hk]
  unfold memK
  rw [Bool.eq_iff_iff, e]
  simp only [decide_eq_true_eq, Bool.or_eq_true]
  rw [List.take_succ_eq_append_getElem hk, List.mem_append, List.mem_singleton]
theorem Row8b.set {g : Nat} {u : World} (kn : Nat) (zs : List Int) (k : Nat) (h : Row8b g (memK zs k) u) (hk : k < zs.length) (e : zs.getD k 0 = (kn : Int)) : Row8b g (memK zs (k + 1)) (u.setCell ⟨g, kn, none⟩ (.bool true)) := by
  intro j hj
  refine ⟨?_, by rw [World.frozen?_setCell]; exact (h j hj).2⟩
  rw [memK_succ hk, e]
  by_cases c : j = kn
  · subst c
    rw [World.cell?_setCell_same _ _ _ (h j hj).1]
    simp
  · rw [World.cell?_setCell_other _ _ _ _ (by simp <;> omega), (h j hj).1, decide_eq_false (show ¬ (j : Int) = (kn : Int) by omega), Bool.or_false]

set_option maxRecDepth 100000 in
set_option maxHeartbeats 4000000 in
theorem SpecClosed_any (lo hi : Nat) (v : Value) (zs : List Int) (w : World) (r : IntO lo hi w v zs) (hhi : hi ≤ w.heap.size) :
    Calls Try.prog 35 #[v] w fun e w' => e = .returned (.bool (closedB zs)) ∧ Below w.heap.size w w' := by
  obtain ⟨a, cap, rfl⟩ := r.form
  have hl := r.1
  have HR := Lib.hid (fun W (hb : Below w.heap.size w W) => r.below (hb.mono hhi))
  clear r
  have hmk := make8b
  obtain ⟨G, hG⟩ : ∃ G, G = w.alloc (.cells #[.bool false, .bool false, .bool false, .bool false, .bool false, .bool false, .bool false, .bool false] 4) := ⟨_, rfl⟩
  have HG : Hid (Row8b w.heap.size (memK zs 0) G ∧ Below w.heap.size w G) := Lib.hid (by rw [hG, memK_zero]; exact ⟨Row8b.new _ _, bel0 _ _⟩)
  go_enter Try.func35, Try.ntmps35
  go_wp2_with fail
  rw [← hG]
  clear hG hmk
  go_loopw [4] (fun i wr => ∃ k : Nat, k ≤ zs.length ∧ i = .int .i64 k ∧ Hid (ascK zs k = true) ∧ Hid (Row8b w.heap.size (memK zs k) wr) ∧ Hid (Below w.heap.size w wr)) (fun i _ => zs.length - (intOf i).toNat)
  case atStart => exact ⟨0, Nat.zero_le _, rfl, Lib.hid (ascK_zero _), Lib.hid HG.out.1, Lib.hid HG.out.2⟩
  case round =>
    clear HG
    obtain ⟨k, hk, rfl, hall, hrow, hbel⟩ := hrel
    by_cases hlt : k < zs.length
    · obtain ⟨g, o, rfl, _, _, e0, _⟩ := (HR.out _ hbel.out).at (Below.refl _ _) hlt
      by_cases hc : 0 ≤ zs.getD k 0 ∧ zs.getD k 0 ≤ 7
      · obtain ⟨kn, hkn, hkn8⟩ := nat8 hc
        have CI := Lib.hid (fun u => In_yes (kn : Int) 0 7 u (by omega) (by omega))
        have HKN := Lib.hid hkn
        rcases k with _ | m
        · have HASC := Lib.hid (ascK_succ hall.out (ascP_zero hc))
          rw [Nat.add_zero, hkn] at e0
          clear hall hc hkn
          go_upto_region 5 with fail
          have D0 : Below wr.heap.size wr wr.drew := ⟨rfl, rfl, rfl, Nat.le_refl _, fun _ _ => rfl⟩
          have KP : ∀ u v, Below u.heap.size u v → (u.cell? ⟨g, o, none⟩ = some (.int .i64 (kn : Int)) ∧ Below wr.heap.size wr u) → (v.cell? ⟨g, o, none⟩ = some (.int .i64 (kn : Int)) ∧ Below wr.heap.size wr v) := fun u v hb h => ⟨kept hb h.1, bel_c h.2 (Nat.le_refl _) hb⟩
          have S0 : wr.drew.cell? ⟨g, o, none⟩ = some (.int .i64 (kn : Int)) ∧ Below wr.heap.size wr wr.drew := ⟨kept D0 e0, D0⟩
          clear e0
          try simp only [List.append_eq, List.cons_append, List.nil_append]
          have hS := S0
          refine reg_begin (fun w' => w'.cell? ⟨g, o, none⟩ = some (.int .i64 (kn : Int)) ∧ Below wr.heap.size wr w') (by kernel_rfl) hS ?_
          refine reg_take 0 (v := ?_) rfl (by kernel_rfl) (by kernel_rfl) (by kernel_rfl) (fun _ _ _ h => h) (by rfl) (by intro w hSw; (try dsimp only at hSw); go_simp; first | done | with_reducible rfl) hS ?_
          simp only [Act.put, List.setIfInBounds_toArray, List.set_cons_zero, List.set_cons_succ]
          refine reg_take 1 (v := ?_) rfl (by kernel_rfl) (by kernel_rfl) (by kernel_rfl) (fun _ _ _ h => h) (by rfl) (by intro w hSw; (try dsimp only at hSw); go_simp; first | done | with_reducible rfl) hS ?_
          simp only [Act.put, List.setIfInBounds_toArray, List.set_cons_zero, List.set_cons_succ]
          refine reg_take 2 (v := ?_) rfl (by kernel_rfl) (by kernel_rfl) (by kernel_rfl) (fun _ _ _ h => h) (by rfl) (by intro w hSw; (try dsimp only at hSw); go_simp; first | done | with_reducible rfl) hS ?_
          simp only [Act.put, List.setIfInBounds_toArray, List.set_cons_zero, List.set_cons_succ]
          refine reg_take 3 (v := ?_) rfl (by kernel_rfl) (by kernel_rfl) (by kernel_rfl) (fun _ _ _ h => h) (by rfl) (by intro w hSw; (try dsimp only at hSw); go_simp; first | done | with_reducible rfl) hS ?_
          simp only [Act.put, List.setIfInBounds_toArray, List.set_cons_zero, List.set_cons_succ]
          refine reg_call 4 rfl (by kernel_rfl) (by rfl) (fun K hK => ?_)
          go_simp
          go_at_call 47
          refine (args_eq (CI.out _) (by with_reducible rfl)).mono ?_
          rintro e uu ⟨rfl, huu⟩
          have hb : Below wr.drew.heap.size wr.drew uu := by rw [huu]; exact Below.refl _ _
          clear huu
          refine hK.out _ _ (KP _ _ hb hS) (fun hS' => ?_)
          clear hK K hS
          have hS := hS'
          clear hS' hb
          try simp only [Act.put, List.setIfInBounds_toArray, List.set_cons_zero, List.set_cons_succ]
          refine reg_take 5 (v := ?_) rfl (by kernel_rfl) (by kernel_rfl) (by kernel_rfl) (fun _ _ _ h => h) (by rfl) (by intro w hSw; (try dsimp only at hSw); go_simp; first | done | with_reducible rfl) hS ?_
          simp only [Act.put, List.setIfInBounds_toArray, List.set_cons_zero, List.set_cons_succ]
          refine reg_take 6 (v := ?_) rfl (by kernel_rfl) (by kernel_rfl) (by kernel_rfl) (fun _ _ _ h => h) (by rfl) (by intro w hSw; (try dsimp only at hSw); go_simp; first | done | with_reducible rfl) hS ?_
          simp only [Act.put, List.setIfInBounds_toArray, List.set_cons_zero, List.set_cons_succ]
          refine reg_take 7 (v := ?_) rfl (by kernel_rfl) (by kernel_rfl) (by kernel_rfl) (fun _ _ _ h => h) (by rfl) (by intro w hSw; (try dsimp only at hSw); go_simp; first | done | with_reducible rfl) hS ?_
          simp only [Act.put, List.setIfInBounds_toArray, List.set_cons_zero, List.set_cons_succ]
          refine reg_take 8 (v := ?_) rfl (by kernel_rfl) (by kernel_rfl) (by kernel_rfl) (fun _ _ _ h => h) (by rfl) (by intro w hSw; (try dsimp only at hSw); go_simp; first | done | with_reducible rfl) hS ?_
          simp only [Act.put, List.setIfInBounds_toArray, List.set_cons_zero, List.set_cons_succ]
          refine reg_take 9 (v := ?_) rfl (by kernel_rfl) (by kernel_rfl) (by kernel_rfl) (fun _ _ _ h => h) (by rfl) (by intro w hSw; (try dsimp only at hSw); go_simp; first | done | with_reducible rfl) hS ?_
          simp only [Act.put, List.setIfInBounds_toArray, List.set_cons_zero, List.set_cons_succ]
          refine reg_skip 10 rfl (by kernel_rfl) (by kernel_rfl) (by kernel_rfl) (fun _ _ _ h => h) (by rfl) hS ?_
          simp only [Act.put, List.setIfInBounds_toArray, List.set_cons_zero, List.set_cons_succ]
          refine reg_skip 11 rfl (by kernel_rfl) (by kernel_rfl) (by kernel_rfl) (fun _ _ _ h => h) (by rfl) hS ?_
          simp only [Act.put, List.setIfInBounds_toArray, List.set_cons_zero, List.set_cons_succ]
          refine reg_skip 12 rfl (by kernel_rfl) (by kernel_rfl) (by kernel_rfl) (fun _ _ _ h => h) (by rfl) hS ?_
          simp only [Act.put, List.setIfInBounds_toArray, List.set_cons_zero, List.set_cons_succ]
          refine reg_skip 13 rfl (by kernel_rfl) (by kernel_rfl) (by kernel_rfl) (fun _ _ _ h => h) (by rfl) hS ?_
          simp only [Act.put, List.setIfInBounds_toArray, List.set_cons_zero, List.set_cons_succ]
          refine reg_skip 14 rfl (by kernel_rfl) (by kernel_rfl) (by kernel_rfl) (fun _ _ _ h => h) (by rfl) hS ?_
          simp only [Act.put, List.setIfInBounds_toArray, List.set_cons_zero, List.set_cons_succ]
          refine reg_skip 15 rfl (by kernel_rfl) (by kernel_rfl) (by kernel_rfl) (fun _ _ _ h => h) (by rfl) hS ?_
          simp only [Act.put, List.setIfInBounds_toArray, List.set_cons_zero, List.set_cons_succ]
          refine reg_skip 16 rfl (by kernel_rfl) (by kernel_rfl) (by kernel_rfl) (fun _ _ _ h => h) (by rfl) hS ?_
          simp only [Act.put, List.setIfInBounds_toArray, List.set_cons_zero, List.set_cons_succ]
          refine reg_skip 17 rfl (by kernel_rfl) (by kernel_rfl) (by kernel_rfl) (fun _ _ _ h => h) (by rfl) hS ?_
          simp only [Act.put, List.setIfInBounds_toArray, List.set_cons_zero, List.set_cons_succ]
          refine reg_skip 18 rfl (by kernel_rfl) (by kernel_rfl) (by kernel_rfl) (fun _ _ _ h => h) (by rfl) hS ?_
          simp only [Act.put, List.setIfInBounds_toArray, List.set_cons_zero, List.set_cons_succ]
          refine reg_skip 19 rfl (by kernel_rfl) (by kernel_rfl) (by kernel_rfl) (fun _ _ _ h => h) (by rfl) hS ?_
          simp only [Act.put, List.setIfInBounds_toArray, List.set_cons_zero, List.set_cons_succ]
          refine reg_take 20 (v := ?_) rfl (by kernel_rfl) (by kernel_rfl) (by kernel_rfl) (fun _ _ _ h => h) (by rfl) (by intro w hSw; (try dsimp only at hSw); go_simp; first | done | with_reducible rfl) hS ?_
          simp only [Act.put, List.setIfInBounds_toArray, List.set_cons_zero, List.set_cons_succ]
          refine reg_take 21 (v := ?_) rfl (by kernel_rfl) (by kernel_rfl) (by kernel_rfl) (fun _ _ _ h => h) (by rfl) (by intro w hSw; (try dsimp only at hSw); go_simp; first | done | with_reducible rfl) hS ?_
          simp only [Act.put, List.setIfInBounds_toArray, List.set_cons_zero, List.set_cons_succ]
          refine wpAnyH_done (by kernel_rfl) ?_ _
          have HY := Lib.hid (hS.2)
          have e1 := hS.1
          clear hS S0 KP D0
          have HROW := Lib.hid (hrow.out.keep HY.out)
          have HBEL := Lib.hid (bel_c hbel.out (Nat.le_refl _) HY.out)
          have q0 := (HROW.out kn hkn8).1
          have q1 := (HROW.out kn hkn8).2
          have HN := Lib.hid (HROW.out.set kn zs _ hlt HKN.out)
          have HB2 := Lib.hid ((HBEL.out).setCell (p := ⟨w.heap.size, kn, none⟩) (Nat.le_refl _) (.bool true))
          clear HROW HBEL hrow hbel HY
          go_wp2_with fail
          go_roundw
          case rel => exact ⟨1, by omega, by go_num, HASC, HN, HB2⟩
          case measure => simp [intOf] <;> omega
        · obtain ⟨g2, o2, e2, _, _, d0, _⟩ := (HR.out _ hbel.out).at (Below.refl _ _) (show m < zs.length by omega)
          simp only [Option.some.injEq, Addr.mk.injEq, and_true] at e2
          obtain ⟨rfl, rfl⟩ := e2
          have j0 : (0 : Int) ≤ (m : Int) + 1 := by omega
          have j1 : (m : Int) + 1 < (zs.length : Int) := by omega
          have j2 : IntKind.i64.wrap (m : Int) = (m : Int) := by rw [IntKind.wrap_i64]; omega
          have j3 : (m : Int) < (zs.length : Int) := by omega
          by_cases hcd : zs.getD (m + 1) 0 ≤ zs.getD m 0
          · have HF := Lib.hid (closed_asc hlt (ascP_no hcd))
            generalize zs.getD m 0 = d at d0 hcd
            rw [hkn] at e0 hcd
            clear hall hc hkn
            go_upto_region 5 with fail
            have D0 : Below wr.heap.size wr wr.drew := ⟨rfl, rfl, rfl, Nat.le_refl _, fun _ _ => rfl⟩
            have KP : ∀ u v, Below u.heap.size u v → (u.cell? ⟨g, o + (m + 1), none⟩ = some (.int .i64 (kn : Int)) ∧ u.cell? ⟨g, o + m, none⟩ = some (.int .i64 d) ∧ Below wr.heap.size wr u) → (v.cell? ⟨g, o + (m + 1), none⟩ = some (.int .i64 (kn : Int)) ∧ v.cell? ⟨g, o + m, none⟩ = some (.int .i64 d) ∧ Below wr.heap.size wr v) := fun u v hb h => ⟨kept hb h.1, kept hb h.2.1, bel_c h.2.2 (Nat.le_refl _) hb⟩
            have S0 : wr.drew.cell? ⟨g, o + (m + 1), none⟩ = some (.int .i64 (kn : Int)) ∧ wr.drew.cell? ⟨g, o + m, none⟩ = some (.int .i64 d) ∧ Below wr.heap.size wr wr.drew := ⟨kept D0 e0, kept D0 d0, D0⟩
            clear e0 d0
            try simp only [List.append_eq, List.cons_append, List.nil_append]
            have hS := S0
            refine reg_begin (fun w' => w'.cell? ⟨g, o + (m + 1), none⟩ = some (.int .i64 (kn : Int)) ∧ w'.cell? ⟨g, o + m, none⟩ = some (.int .i64 d) ∧ Below wr.heap.size wr w') (by kernel_rfl) hS ?_
            refine reg_take 0 (v := ?_) rfl (by kernel_rfl) (by kernel_rfl) (by kernel_rfl) (fun _ _ _ h => h) (by rfl) (by intro w hSw; (try dsimp only at hSw); go_simp; first | done | with_reducible rfl) hS ?_
            simp only [Act.put, List.setIfInBounds_toArray, List.set_cons_zero, List.set_cons_succ]
            refine reg_take 1 (v := ?_) rfl (by kernel_rfl) (by kernel_rfl) (by kernel_rfl) (fun _ _ _ h => h) (by rfl) (by intro w hSw; (try dsimp only at hSw); go_simp; first | done | with_reducible rfl) hS ?_
            simp only [Act.put, List.setIfInBounds_toArray, List.set_cons_zero, List.set_cons_succ]
            refine reg_take 2 (v := ?_) rfl (by kernel_rfl) (by kernel_rfl) (by kernel_rfl) (fun _ _ _ h => h) (by rfl) (by intro w hSw; (try dsimp only at hSw); go_simp; first | done | with_reducible rfl) hS ?_
            simp only [Act.put, List.setIfInBounds_toArray, List.set_cons_zero, List.set_cons_succ]
            refine reg_take 3 (v := ?_) rfl (by kernel_rfl) (by kernel_rfl) (by kernel_rfl) (fun _ _ _ h => h) (by rfl) (by intro w hSw; (try dsimp only at hSw); go_simp; first | done | with_reducible rfl) hS ?_
            simp only [Act.put, List.setIfInBounds_toArray, List.set_cons_zero, List.set_cons_succ]
            refine reg_call 4 rfl (by kernel_rfl) (by rfl) (fun K hK => ?_)
            go_simp
            go_at_call 47
            refine (args_eq (CI.out _) (by with_reducible rfl)).mono ?_
            rintro e uu ⟨rfl, huu⟩
            have hb : Below wr.drew.heap.size wr.drew uu := by rw [huu]; exact Below.refl _ _
            clear huu
            refine hK.out _ _ (KP _ _ hb hS) (fun hS' => ?_)
            clear hK K hS
            have hS := hS'
            clear hS' hb
            try simp only [Act.put, List.setIfInBounds_toArray, List.set_cons_zero, List.set_cons_succ]
            refine reg_take 5 (v := ?_) rfl (by kernel_rfl) (by kernel_rfl) (by kernel_rfl) (fun _ _ _ h => h) (by rfl) (by intro w hSw; (try dsimp only at hSw); go_simp; first | done | with_reducible rfl) hS ?_
            simp only [Act.put, List.setIfInBounds_toArray, List.set_cons_zero, List.set_cons_succ]
            refine reg_take 6 (v := ?_) rfl (by kernel_rfl) (by kernel_rfl) (by kernel_rfl) (fun _ _ _ h => h) (by rfl) (by intro w hSw; (try dsimp only at hSw); go_simp; first | done | with_reducible rfl) hS ?_
            simp only [Act.put, List.setIfInBounds_toArray, List.set_cons_zero, List.set_cons_succ]
            refine reg_take 7 (v := ?_) rfl (by kernel_rfl) (by kernel_rfl) (by kernel_rfl) (fun _ _ _ h => h) (by rfl) (by intro w hSw; (try dsimp only at hSw); go_simp; first | done | with_reducible rfl) hS ?_
            simp only [Act.put, List.setIfInBounds_toArray, List.set_cons_zero, List.set_cons_succ]
            refine reg_take 8 (v := ?_) rfl (by kernel_rfl) (by kernel_rfl) (by kernel_rfl) (fun _ _ _ h => h) (by rfl) (by intro w hSw; (try dsimp only at hSw); go_simp; first | done | with_reducible rfl) hS ?_
            simp only [Act.put, List.setIfInBounds_toArray, List.set_cons_zero, List.set_cons_succ]
            refine reg_take 9 (v := ?_) rfl (by kernel_rfl) (by kernel_rfl) (by kernel_rfl) (fun _ _ _ h => h) (by rfl) (by intro w hSw; (try dsimp only at hSw); go_simp; first | done | with_reducible rfl) hS ?_
            simp only [Act.put, List.setIfInBounds_toArray, List.set_cons_zero, List.set_cons_succ]
            refine reg_take 10 (v := ?_) rfl (by kernel_rfl) (by kernel_rfl) (by kernel_rfl) (fun _ _ _ h => h) (by rfl) (by intro w hSw; (try dsimp only at hSw); go_simp; first | done | with_reducible rfl) hS ?_
            simp only [Act.put, List.setIfInBounds_toArray, List.set_cons_zero, List.set_cons_succ]
            refine reg_take 11 (v := ?_) rfl (by kernel_rfl) (by kernel_rfl) (by kernel_rfl) (fun _ _ _ h => h) (by rfl) (by intro w hSw; (try dsimp only at hSw); go_simp; first | done | with_reducible rfl) hS ?_
            simp only [Act.put, List.setIfInBounds_toArray, List.set_cons_zero, List.set_cons_succ]
            refine reg_take 12 (v := ?_) rfl (by kernel_rfl) (by kernel_rfl) (by kernel_rfl) (fun _ _ _ h => h) (by rfl) (by intro w hSw; (try dsimp only at hSw); go_simp; first | done | with_reducible rfl) hS ?_
            simp only [Act.put, List.setIfInBounds_toArray, List.set_cons_zero, List.set_cons_succ]
            refine reg_take 13 (v := ?_) rfl (by kernel_rfl) (by kernel_rfl) (by kernel_rfl) (fun _ _ _ h => h) (by rfl) (by intro w hSw; (try dsimp only at hSw); go_simp; first | done | with_reducible rfl) hS ?_
            simp only [Act.put, List.setIfInBounds_toArray, List.set_cons_zero, List.set_cons_succ]
            refine reg_take 14 (v := ?_) rfl (by kernel_rfl) (by kernel_rfl) (by kernel_rfl) (fun _ _ _ h => h) (by rfl) (by intro w hSw; (try dsimp only at hSw); go_simp; first | done | with_reducible rfl) hS ?_
            simp only [Act.put, List.setIfInBounds_toArray, List.set_cons_zero, List.set_cons_succ]
            refine reg_take 15 (v := ?_) rfl (by kernel_rfl) (by kernel_rfl) (by kernel_rfl) (fun _ _ _ h => h) (by rfl) (by intro w hSw; (try dsimp only at hSw); go_simp; first | done | with_reducible rfl) hS ?_
            simp only [Act.put, List.setIfInBounds_toArray, List.set_cons_zero, List.set_cons_succ]
            refine reg_take 16 (v := ?_) rfl (by kernel_rfl) (by kernel_rfl) (by kernel_rfl) (fun _ _ _ h => h) (by rfl) (by intro w hSw; (try dsimp only at hSw); go_simp; first | done | with_reducible rfl) hS ?_
            simp only [Act.put, List.setIfInBounds_toArray, List.set_cons_zero, List.set_cons_succ]
            refine reg_take 17 (v := ?_) rfl (by kernel_rfl) (by kernel_rfl) (by kernel_rfl) (fun _ _ _ h => h) (by rfl) (by intro w hSw; (try dsimp only at hSw); go_simp; first | done | with_reducible rfl) hS ?_
            simp only [Act.put, List.setIfInBounds_toArray, List.set_cons_zero, List.set_cons_succ]
            refine reg_take 18 (v := ?_) rfl (by kernel_rfl) (by kernel_rfl) (by kernel_rfl) (fun _ _ _ h => h) (by rfl) (by intro w hSw; (try dsimp only at hSw); go_simp; first | done | with_reducible rfl) hS ?_
            simp only [Act.put, List.setIfInBounds_toArray, List.set_cons_zero, List.set_cons_succ]
            refine reg_take 19 (v := ?_) rfl (by kernel_rfl) (by kernel_rfl) (by kernel_rfl) (fun _ _ _ h => h) (by rfl) (by intro w hSw; (try dsimp only at hSw); go_simp; first | done | with_reducible rfl) hS ?_
            simp only [Act.put, List.setIfInBounds_toArray, List.set_cons_zero, List.set_cons_succ]
            refine reg_take 20 (v := ?_) rfl (by kernel_rfl) (by kernel_rfl) (by kernel_rfl) (fun _ _ _ h => h) (by rfl) (by intro w hSw; (try dsimp only at hSw); go_simp; first | done | with_reducible rfl) hS ?_
            simp only [Act.put, List.setIfInBounds_toArray, List.set_cons_zero, List.set_cons_succ]
            refine reg_take 21 (v := ?_) rfl (by kernel_rfl) (by kernel_rfl) (by kernel_rfl) (fun _ _ _ h => h) (by rfl) (by intro w hSw; (try dsimp only at hSw); go_simp; first | done | with_reducible rfl) hS ?_
            simp only [Act.put, List.setIfInBounds_toArray, List.set_cons_zero, List.set_cons_succ]
            refine wpAnyH_done (by kernel_rfl) ?_ _
            have HBEL := Lib.hid (bel_c hbel.out (Nat.le_refl _) hS.2.2)
            clear hS S0 KP D0 hrow hbel
            go_wp2_with fail
            go_ret
            exact ⟨ret_bool HF.out.symm, HBEL.out⟩
          · have HASC := Lib.hid (ascK_succ hall.out (ascP_yes hc (by omega)))
            generalize zs.getD m 0 = d at d0 hcd
            rw [hkn] at e0 hcd
            clear hall hc hkn
            go_upto_region 5 with fail
            have D0 : Below wr.heap.size wr wr.drew := ⟨rfl, rfl, rfl, Nat.le_refl _, fun _ _ => rfl⟩
            have KP : ∀ u v, Below u.heap.size u v → (u.cell? ⟨g, o + (m + 1), none⟩ = some (.int .i64 (kn : Int)) ∧ u.cell? ⟨g, o + m, none⟩ = some (.int .i64 d) ∧ Below wr.heap.size wr u) → (v.cell? ⟨g, o + (m + 1), none⟩ = some (.int .i64 (kn : Int)) ∧ v.cell? ⟨g, o + m, none⟩ = some (.int .i64 d) ∧ Below wr.heap.size wr v) := fun u v hb h => ⟨kept hb h.1, kept hb h.2.1, bel_c h.2.2 (Nat.le_refl _) hb⟩
            have S0 : wr.drew.cell? ⟨g, o + (m + 1), none⟩ = some (.int .i64 (kn : Int)) ∧ wr.drew.cell? ⟨g, o + m, none⟩ = some (.int .i64 d) ∧ Below wr.heap.size wr wr.drew := ⟨kept D0 e0, kept D0 d0, D0⟩
            clear e0 d0
            try simp only [List.append_eq, List.cons_append, List.nil_append]
            have hS := S0
            refine reg_begin (fun w' => w'.cell? ⟨g, o + (m + 1), none⟩ = some (.int .i64 (kn : Int)) ∧ w'.cell? ⟨g, o + m, none⟩ = some (.int .i64 d) ∧ Below wr.heap.size wr w') (by kernel_rfl) hS ?_
            refine reg_take 0 (v := ?_) rfl (by kernel_rfl) (by kernel_rfl) (by kernel_rfl) (fun _ _ _ h => h) (by rfl) (by intro w hSw; (try dsimp only at hSw); go_simp; first | done | with_reducible rfl) hS ?_
            simp only [Act.put, List.setIfInBounds_toArray, List.set_cons_zero, List.set_cons_succ]
            refine reg_take 1 (v := ?_) rfl (by kernel_rfl) (by kernel_rfl) (by kernel_rfl) (fun _ _ _ h => h) (by rfl) (by intro w hSw; (try dsimp only at hSw); go_simp; first | done | with_reducible rfl) hS ?_
            simp only [Act.put, List.setIfInBounds_toArray, List.set_cons_zero, List.set_cons_succ]
            refine reg_take 2 (v := ?_) rfl (by kernel_rfl) (by kernel_rfl) (by kernel_rfl) (fun _ _ _ h => h) (by rfl) (by intro w hSw; (try dsimp only at hSw); go_simp; first | done | with_reducible rfl) hS ?_
            simp only [Act.put, List.setIfInBounds_toArray, List.set_cons_zero, List.set_cons_succ]
            refine reg_take 3 (v := ?_) rfl (by kernel_rfl) (by kernel_rfl) (by kernel_rfl) (fun _ _ _ h => h) (by rfl) (by intro w hSw; (try dsimp only at hSw); go_simp; first | done | with_reducible rfl) hS ?_
            simp only [Act.put, List.setIfInBounds_toArray, List.set_cons_zero, List.set_cons_succ]
            refine reg_call 4 rfl (by kernel_rfl) (by rfl) (fun K hK => ?_)
            go_simp
            go_at_call 47
            refine (args_eq (CI.out _) (by with_reducible rfl)).mono ?_
            rintro e uu ⟨rfl, huu⟩
            have hb : Below wr.drew.heap.size wr.drew uu := by rw [huu]; exact Below.refl _ _
            clear huu
            refine hK.out _ _ (KP _ _ hb hS) (fun hS' => ?_)
            clear hK K hS
            have hS := hS'
            clear hS' hb
            try simp only [Act.put, List.setIfInBounds_toArray, List.set_cons_zero, List.set_cons_succ]
            refine reg_take 5 (v := ?_) rfl (by kernel_rfl) (by kernel_rfl) (by kernel_rfl) (fun _ _ _ h => h) (by rfl) (by intro w hSw; (try dsimp only at hSw); go_simp; first | done | with_reducible rfl) hS ?_
            simp only [Act.put, List.setIfInBounds_toArray, List.set_cons_zero, List.set_cons_succ]
            refine reg_take 6 (v := ?_) rfl (by kernel_rfl) (by kernel_rfl) (by kernel_rfl) (fun _ _ _ h => h) (by rfl) (by intro w hSw; (try dsimp only at hSw); go_simp; first | done | with_reducible rfl) hS ?_
            simp only [Act.put, List.setIfInBounds_toArray, List.set_cons_zero, List.set_cons_succ]
            refine reg_take 7 (v := ?_) rfl (by kernel_rfl) (by kernel_rfl) (by kernel_rfl) (fun _ _ _ h => h) (by rfl) (by intro w hSw; (try dsimp only at hSw); go_simp; first | done | with_reducible rfl) hS ?_
            simp only [Act.put, List.setIfInBounds_toArray, List.set_cons_zero, List.set_cons_succ]
            refine reg_take 8 (v := ?_) rfl (by kernel_rfl) (by kernel_rfl) (by kernel_rfl) (fun _ _ _ h => h) (by rfl) (by intro w hSw; (try dsimp only at hSw); go_simp; first | done | with_reducible rfl) hS ?_
            simp only [Act.put, List.setIfInBounds_toArray, List.set_cons_zero, List.set_cons_succ]
            refine reg_take 9 (v := ?_) rfl (by kernel_rfl) (by kernel_rfl) (by kernel_rfl) (fun _ _ _ h => h) (by rfl) (by intro w hSw; (try dsimp only at hSw); go_simp; first | done | with_reducible rfl) hS ?_
            simp only [Act.put, List.setIfInBounds_toArray, List.set_cons_zero, List.set_cons_succ]
            refine reg_take 10 (v := ?_) rfl (by kernel_rfl) (by kernel_rfl) (by kernel_rfl) (fun _ _ _ h => h) (by rfl) (by intro w hSw; (try dsimp only at hSw); go_simp; first | done | with_reducible rfl) hS ?_
            simp only [Act.put, List.setIfInBounds_toArray, List.set_cons_zero, List.set_cons_succ]
            refine reg_take 11 (v := ?_) rfl (by kernel_rfl) (by kernel_rfl) (by kernel_rfl) (fun _ _ _ h => h) (by rfl) (by intro w hSw; (try dsimp only at hSw); go_simp; first | done | with_reducible rfl) hS ?_
            simp only [Act.put, List.setIfInBounds_toArray, List.set_cons_zero, List.set_cons_succ]
            refine reg_take 12 (v := ?_) rfl (by kernel_rfl) (by kernel_rfl) (by kernel_rfl) (fun _ _ _ h => h) (by rfl) (by intro w hSw; (try dsimp only at hSw); go_simp; first | done | with_reducible rfl) hS ?_
            simp only [Act.put, List.setIfInBounds_toArray, List.set_cons_zero, List.set_cons_succ]
            refine reg_take 13 (v := ?_) rfl (by kernel_rfl) (by kernel_rfl) (by kernel_rfl) (fun _ _ _ h => h) (by rfl) (by intro w hSw; (try dsimp only at hSw); go_simp; first | done | with_reducible rfl) hS ?_
            simp only [Act.put, List.setIfInBounds_toArray, List.set_cons_zero, List.set_cons_succ]
            refine reg_take 14 (v := ?_) rfl (by kernel_rfl) (by kernel_rfl) (by kernel_rfl) (fun _ _ _ h => h) (by rfl) (by intro w hSw; (try dsimp only at hSw); go_simp; first | done | with_reducible rfl) hS ?_
            simp only [Act.put, List.setIfInBounds_toArray, List.set_cons_zero, List.set_cons_succ]
            refine reg_take 15 (v := ?_) rfl (by kernel_rfl) (by kernel_rfl) (by kernel_rfl) (fun _ _ _ h => h) (by rfl) (by intro w hSw; (try dsimp only at hSw); go_simp; first | done | with_reducible rfl) hS ?_
            simp only [Act.put, List.setIfInBounds_toArray, List.set_cons_zero, List.set_cons_succ]
            refine reg_take 16 (v := ?_) rfl (by kernel_rfl) (by kernel_rfl) (by kernel_rfl) (fun _ _ _ h => h) (by rfl) (by intro w hSw; (try dsimp only at hSw); go_simp; first | done | with_reducible rfl) hS ?_
            simp only [Act.put, List.setIfInBounds_toArray, List.set_cons_zero, List.set_cons_succ]
            refine reg_take 17 (v := ?_) rfl (by kernel_rfl) (by kernel_rfl) (by kernel_rfl) (fun _ _ _ h => h) (by rfl) (by intro w hSw; (try dsimp only at hSw); go_simp; first | done | with_reducible rfl) hS ?_
            simp only [Act.put, List.setIfInBounds_toArray, List.set_cons_zero, List.set_cons_succ]
            refine reg_take 18 (v := ?_) rfl (by kernel_rfl) (by kernel_rfl) (by kernel_rfl) (fun _ _ _ h => h) (by rfl) (by intro w hSw; (try dsimp only at hSw); go_simp; first | done | with_reducible rfl) hS ?_
            simp only [Act.put, List.setIfInBounds_toArray, List.set_cons_zero, List.set_cons_succ]
            refine reg_take 19 (v := ?_) rfl (by kernel_rfl) (by kernel_rfl) (by kernel_rfl) (fun _ _ _ h => h) (by rfl) (by intro w hSw; (try dsimp only at hSw); go_simp; first | done | with_reducible rfl) hS ?_
            simp only [Act.put, List.setIfInBounds_toArray, List.set_cons_zero, List.set_cons_succ]
            refine reg_take 20 (v := ?_) rfl (by kernel_rfl) (by kernel_rfl) (by kernel_rfl) (fun _ _ _ h => h) (by rfl) (by intro w hSw; (try dsimp only at hSw); go_simp; first | done | with_reducible rfl) hS ?_
            simp only [Act.put, List.setIfInBounds_toArray, List.set_cons_zero, List.set_cons_succ]
            refine reg_take 21 (v := ?_) rfl (by kernel_rfl) (by kernel_rfl) (by kernel_rfl) (fun _ _ _ h => h) (by rfl) (by intro w hSw; (try dsimp only at hSw); go_simp; first | done | with_reducible rfl) hS ?_
            simp only [Act.put, List.setIfInBounds_toArray, List.set_cons_zero, List.set_cons_succ]
            refine wpAnyH_done (by kernel_rfl) ?_ _
            have HY := Lib.hid (hS.2.2)
            have e1 := hS.1
            clear hS S0 KP D0
            have HROW := Lib.hid (hrow.out.keep HY.out)
            have HBEL := Lib.hid (bel_c hbel.out (Nat.le_refl _) HY.out)
            have q0 := (HROW.out kn hkn8).1
            have q1 := (HROW.out kn hkn8).2
            have HN := Lib.hid (HROW.out.set kn zs _ hlt HKN.out)
            have HB2 := Lib.hid ((HBEL.out).setCell (p := ⟨w.heap.size, kn, none⟩) (Nat.le_refl _) (.bool true))
            clear HROW HBEL hrow hbel HY
            go_wp2_with fail
            go_roundw
            case rel => exact ⟨m + 1 + 1, by omega, by go_num, HASC, HN, HB2⟩
            case measure => simp [intOf] <;> omega
      · have CI := Lib.hid (fun u => In_no (zs.getD k 0) 0 7 u (by omega))
        have HF := Lib.hid (closed_asc hlt (ascP_out hc))
        generalize zs.getD k 0 = c at e0 CI
        clear hall hc
        go_upto_region 5 with fail
        have D0 : Below wr.heap.size wr wr.drew := ⟨rfl, rfl, rfl, Nat.le_refl _, fun _ _ => rfl⟩
        have KP : ∀ u v, Below u.heap.size u v → (u.cell? ⟨g, o + k, none⟩ = some (.int .i64 c) ∧ Below wr.heap.size wr u) → (v.cell? ⟨g, o + k, none⟩ = some (.int .i64 c) ∧ Below wr.heap.size wr v) := fun u v hb h => ⟨kept hb h.1, bel_c h.2 (Nat.le_refl _) hb⟩
        have S0 : wr.drew.cell? ⟨g, o + k, none⟩ = some (.int .i64 c) ∧ Below wr.heap.size wr wr.drew := ⟨kept D0 e0, D0⟩
        clear e0
        try simp only [List.append_eq, List.cons_append, List.nil_append]
        have hS := S0
        refine reg_begin (fun w' => w'.cell? ⟨g, o + k, none⟩ = some (.int .i64 c) ∧ Below wr.heap.size wr w') (by kernel_rfl) hS ?_
        refine reg_take 0 (v := ?_) rfl (by kernel_rfl) (by kernel_rfl) (by kernel_rfl) (fun _ _ _ h => h) (by rfl) (by intro w hSw; (try dsimp only at hSw); go_simp; first | done | with_reducible rfl) hS ?_
        simp only [Act.put, List.setIfInBounds_toArray, List.set_cons_zero, List.set_cons_succ]
        refine reg_take 1 (v := ?_) rfl (by kernel_rfl) (by kernel_rfl) (by kernel_rfl) (fun _ _ _ h => h) (by rfl) (by intro w hSw; (try dsimp only at hSw); go_simp; first | done | with_reducible rfl) hS ?_
        simp only [Act.put, List.setIfInBounds_toArray, List.set_cons_zero, List.set_cons_succ]
        refine reg_take 2 (v := ?_) rfl (by kernel_rfl) (by kernel_rfl) (by kernel_rfl) (fun _ _ _ h => h) (by rfl) (by intro w hSw; (try dsimp only at hSw); go_simp; first | done | with_reducible rfl) hS ?_
        simp only [Act.put, List.setIfInBounds_toArray, List.set_cons_zero, List.set_cons_succ]
        refine reg_take 3 (v := ?_) rfl (by kernel_rfl) (by kernel_rfl) (by kernel_rfl) (fun _ _ _ h => h) (by rfl) (by intro w hSw; (try dsimp only at hSw); go_simp; first | done | with_reducible rfl) hS ?_
        simp only [Act.put, List.setIfInBounds_toArray, List.set_cons_zero, List.set_cons_succ]
        refine reg_call 4 rfl (by kernel_rfl) (by rfl) (fun K hK => ?_)
        go_simp
        go_at_call 47
        refine (args_eq (CI.out _) (by with_reducible rfl)).mono ?_
        rintro e uu ⟨rfl, huu⟩
        have hb : Below wr.drew.heap.size wr.drew uu := by rw [huu]; exact Below.refl _ _
        clear huu
        refine hK.out _ _ (KP _ _ hb hS) (fun hS' => ?_)
        clear hK K hS
        have hS := hS'
        clear hS' hb
        try simp only [Act.put, List.setIfInBounds_toArray, List.set_cons_zero, List.set_cons_succ]
        refine reg_take 5 (v := ?_) rfl (by kernel_rfl) (by kernel_rfl) (by kernel_rfl) (fun _ _ _ h => h) (by rfl) (by intro w hSw; (try dsimp only at hSw); go_simp; first | done | with_reducible rfl) hS ?_
        simp only [Act.put, List.setIfInBounds_toArray, List.set_cons_zero, List.set_cons_succ]
        refine reg_take 6 (v := ?_) rfl (by kernel_rfl) (by kernel_rfl) (by kernel_rfl) (fun _ _ _ h => h) (by rfl) (by intro w hSw; (try dsimp only at hSw); go_simp; first | done | with_reducible rfl) hS ?_
        simp only [Act.put, List.setIfInBounds_toArray, List.set_cons_zero, List.set_cons_succ]
        refine reg_skip 7 rfl (by kernel_rfl) (by kernel_rfl) (by kernel_rfl) (fun _ _ _ h => h) (by rfl) hS ?_
        simp only [Act.put, List.setIfInBounds_toArray, List.set_cons_zero, List.set_cons_succ]
        refine reg_skip 8 rfl (by kernel_rfl) (by kernel_rfl) (by kernel_rfl) (fun _ _ _ h => h) (by rfl) hS ?_
        simp only [Act.put, List.setIfInBounds_toArray, List.set_cons_zero, List.set_cons_succ]
        refine reg_skip 9 rfl (by kernel_rfl) (by kernel_rfl) (by kernel_rfl) (fun _ _ _ h => h) (by rfl) hS ?_
        simp only [Act.put, List.setIfInBounds_toArray, List.set_cons_zero, List.set_cons_succ]
        refine reg_skip 10 rfl (by kernel_rfl) (by kernel_rfl) (by kernel_rfl) (fun _ _ _ h => h) (by rfl) hS ?_
        simp only [Act.put, List.setIfInBounds_toArray, List.set_cons_zero, List.set_cons_succ]
        refine reg_skip 11 rfl (by kernel_rfl) (by kernel_rfl) (by kernel_rfl) (fun _ _ _ h => h) (by rfl) hS ?_
        simp only [Act.put, List.setIfInBounds_toArray, List.set_cons_zero, List.set_cons_succ]
        refine reg_skip 12 rfl (by kernel_rfl) (by kernel_rfl) (by kernel_rfl) (fun _ _ _ h => h) (by rfl) hS ?_
        simp only [Act.put, List.setIfInBounds_toArray, List.set_cons_zero, List.set_cons_succ]
        refine reg_skip 13 rfl (by kernel_rfl) (by kernel_rfl) (by kernel_rfl) (fun _ _ _ h => h) (by rfl) hS ?_
        simp only [Act.put, List.setIfInBounds_toArray, List.set_cons_zero, List.set_cons_succ]
        refine reg_skip 14 rfl (by kernel_rfl) (by kernel_rfl) (by kernel_rfl) (fun _ _ _ h => h) (by rfl) hS ?_
        simp only [Act.put, List.setIfInBounds_toArray, List.set_cons_zero, List.set_cons_succ]
        refine reg_skip 15 rfl (by kernel_rfl) (by kernel_rfl) (by kernel_rfl) (fun _ _ _ h => h) (by rfl) hS ?_
        simp only [Act.put, List.setIfInBounds_toArray, List.set_cons_zero, List.set_cons_succ]
        refine reg_skip 16 rfl (by kernel_rfl) (by kernel_rfl) (by kernel_rfl) (fun _ _ _ h => h) (by rfl) hS ?_
        simp only [Act.put, List.setIfInBounds_toArray, List.set_cons_zero, List.set_cons_succ]
        refine reg_skip 17 rfl (by kernel_rfl) (by kernel_rfl) (by kernel_rfl) (fun _ _ _ h => h) (by rfl) hS ?_
        simp only [Act.put, List.setIfInBounds_toArray, List.set_cons_zero, List.set_cons_succ]
        refine reg_skip 18 rfl (by kernel_rfl) (by kernel_rfl) (by kernel_rfl) (fun _ _ _ h => h) (by rfl) hS ?_
        simp only [Act.put, List.setIfInBounds_toArray, List.set_cons_zero, List.set_cons_succ]
        refine reg_skip 19 rfl (by kernel_rfl) (by kernel_rfl) (by kernel_rfl) (fun _ _ _ h => h) (by rfl) hS ?_
        simp only [Act.put, List.setIfInBounds_toArray, List.set_cons_zero, List.set_cons_succ]
        refine reg_skip 20 rfl (by kernel_rfl) (by kernel_rfl) (by kernel_rfl) (fun _ _ _ h => h) (by rfl) hS ?_
        simp only [Act.put, List.setIfInBounds_toArray, List.set_cons_zero, List.set_cons_succ]
        refine reg_take 21 (v := ?_) rfl (by kernel_rfl) (by kernel_rfl) (by kernel_rfl) (fun _ _ _ h => h) (by rfl) (by intro w hSw; (try dsimp only at hSw); go_simp; first | done | with_reducible rfl) hS ?_
        simp only [Act.put, List.setIfInBounds_toArray, List.set_cons_zero, List.set_cons_succ]
        refine wpAnyH_done (by kernel_rfl) ?_ _
        have HBEL := Lib.hid (bel_c hbel.out (Nat.le_refl _) hS.2)
        clear hS S0 KP D0 hrow hbel
        go_wp2_with fail
        go_ret
        exact ⟨ret_bool HF.out.symm, HBEL.out⟩
    · obtain rfl : k = zs.length := by omega
      have HAS := hall
      have HR0 : Hid (Row8b w.heap.size (fun j => decide ((j : Int) ∈ zs)) wr) := Lib.hid (by
        have h := hrow.out
        unfold memK at h
        rw [List.take_length] at h
        exact h)
      have HB0 := hbel
      clear hall hrow hbel
      go_wp2_with fail
      go_loopw [5] (fun x wr => ∃ i : Nat, i ≤ zs.length ∧ x = .int .i64 i ∧ Hid (mulA zs i = true) ∧ Hid (Row8b w.heap.size (fun j => decide ((j : Int) ∈ zs)) wr) ∧ Hid (Below w.heap.size w wr)) (fun x _ => zs.length - (intOf x).toNat)
      case atStart => exact ⟨0, Nat.zero_le _, rfl, Lib.hid rfl, HR0, HB0⟩
      case round =>
        clear HR0 HB0
        obtain ⟨i, hi', rfl, hall, hrow, hbel⟩ := hrel
        by_cases hlt : i < zs.length
        · go_wp2_with fail
          go_loopw [6] (fun x wr => ∃ k : Nat, k ≤ zs.length ∧ x = .int .i64 k ∧ Hid (mulK zs i k = true) ∧ Hid (Row8b w.heap.size (fun j => decide ((j : Int) ∈ zs)) wr) ∧ Hid (Below w.heap.size w wr)) (fun x _ => zs.length - (intOf x).toNat)
          case atStart => exact ⟨0, Nat.zero_le _, rfl, Lib.hid rfl, hrow, hbel⟩
          case round =>
            clear hrow hbel
            obtain ⟨k, hk, rfl, hin, hrow, hbel⟩ := hrel
            by_cases hlk : k < zs.length
            · obtain ⟨g, o, rfl, _, _, e0, _⟩ := (HR.out _ hbel.out).at (Below.refl _ _) hlt
              obtain ⟨g2, o2, e2, _, _, d0, _⟩ := (HR.out _ hbel.out).at (Below.refl _ _) hlk
              simp only [Option.some.injEq, Addr.mk.injEq, and_true] at e2
              obtain ⟨rfl, rfl⟩ := e2
              obtain ⟨c, hc, hc8⟩ := asc_at HAS.out hlt
              obtain ⟨d, hd, hd8⟩ := asc_at HAS.out hlk
              rw [hc] at e0
              rw [hd] at d0
              obtain ⟨p, hp⟩ : ∃ p, mulV c d = p := ⟨_, rfl⟩
              have hp8 : p < 8 := hp ▸ mulV_lt hc8 hd8
              have hpi : prodI (c : Int) (d : Int) = (p : Nat) := by rw [prod_yes hc8 hd8, hp]
              have CP := Lib.hid (fun u => SpecProd_any (c : Int) (d : Int) u)
              rw [hpi] at CP
              have q0 := (hrow.out p hp8).1
              obtain ⟨b, hb⟩ : ∃ b, decide ((p : Int) ∈ zs) = b := ⟨_, rfl⟩
              have HM : Hid (mulP zs i k = b) := Lib.hid (by unfold mulP; rw [hc, hd, hpi, hb])
              dsimp only at q0
              rw [hb] at q0
              have p8 : (p : Int) < 8 := by omega
              clear hc hd hp hpi hb
              go_upto_region 14 with fail
              have D0 : Below wr.heap.size wr wr.drew := ⟨rfl, rfl, rfl, Nat.le_refl _, fun _ _ => rfl⟩
              have KP : ∀ u v, Below u.heap.size u v → (u.cell? ⟨g, o + i, none⟩ = some (.int .i64 (c : Nat)) ∧ u.cell? ⟨g, o + k, none⟩ = some (.int .i64 (d : Nat)) ∧ u.cell? ⟨w.heap.size, p, none⟩ = some (.bool b) ∧ Below wr.heap.size wr u) → (v.cell? ⟨g, o + i, none⟩ = some (.int .i64 (c : Nat)) ∧ v.cell? ⟨g, o + k, none⟩ = some (.int .i64 (d : Nat)) ∧ v.cell? ⟨w.heap.size, p, none⟩ = some (.bool b) ∧ Below wr.heap.size wr v) := fun u v hb h => ⟨kept hb h.1, kept hb h.2.1, kept hb h.2.2.1, bel_c h.2.2.2 (Nat.le_refl _) hb⟩
              have S0 : wr.drew.cell? ⟨g, o + i, none⟩ = some (.int .i64 (c : Nat)) ∧ wr.drew.cell? ⟨g, o + k, none⟩ = some (.int .i64 (d : Nat)) ∧ wr.drew.cell? ⟨w.heap.size, p, none⟩ = some (.bool b) ∧ Below wr.heap.size wr wr.drew := ⟨kept D0 e0, kept D0 d0, kept D0 q0, D0⟩
              clear e0 d0 q0
              try simp only [List.append_eq, List.cons_append, List.nil_append]
              have hS := S0
              refine reg_begin (fun w' => w'.cell? ⟨g, o + i, none⟩ = some (.int .i64 (c : Nat)) ∧ w'.cell? ⟨g, o + k, none⟩ = some (.int .i64 (d : Nat)) ∧ w'.cell? ⟨w.heap.size, p, none⟩ = some (.bool b) ∧ Below wr.heap.size wr w') (by kernel_rfl) hS ?_
              refine reg_take 0 (v := ?_) rfl (by kernel_rfl) (by kernel_rfl) (by kernel_rfl) (fun _ _ _ h => h) (by rfl) (by intro w hSw; (try dsimp only at hSw); go_simp; first | done | with_reducible rfl) hS ?_
              simp only [Act.put, List.setIfInBounds_toArray, List.set_cons_zero, List.set_cons_succ]
              refine reg_take 1 (v := ?_) rfl (by kernel_rfl) (by kernel_rfl) (by kernel_rfl) (fun _ _ _ h => h) (by rfl) (by intro w hSw; (try dsimp only at hSw); go_simp; first | done | with_reducible rfl) hS ?_
              simp only [Act.put, List.setIfInBounds_toArray, List.set_cons_zero, List.set_cons_succ]
              refine reg_take 2 (v := ?_) rfl (by kernel_rfl) (by kernel_rfl) (by kernel_rfl) (fun _ _ _ h => h) (by rfl) (by intro w hSw; (try dsimp only at hSw); go_simp; first | done | with_reducible rfl) hS ?_
              simp only [Act.put, List.setIfInBounds_toArray, List.set_cons_zero, List.set_cons_succ]
              refine reg_take 3 (v := ?_) rfl (by kernel_rfl) (by kernel_rfl) (by kernel_rfl) (fun _ _ _ h => h) (by rfl) (by intro w hSw; (try dsimp only at hSw); go_simp; first | done | with_reducible rfl) hS ?_
              simp only [Act.put, List.setIfInBounds_toArray, List.set_cons_zero, List.set_cons_succ]
              refine reg_take 4 (v := ?_) rfl (by kernel_rfl) (by kernel_rfl) (by kernel_rfl) (fun _ _ _ h => h) (by rfl) (by intro w hSw; (try dsimp only at hSw); go_simp; first | done | with_reducible rfl) hS ?_
              simp only [Act.put, List.setIfInBounds_toArray, List.set_cons_zero, List.set_cons_succ]
              refine reg_take 5 (v := ?_) rfl (by kernel_rfl) (by kernel_rfl) (by kernel_rfl) (fun _ _ _ h => h) (by rfl) (by intro w hSw; (try dsimp only at hSw); go_simp; first | done | with_reducible rfl) hS ?_
              simp only [Act.put, List.setIfInBounds_toArray, List.set_cons_zero, List.set_cons_succ]
              refine reg_take 6 (v := ?_) rfl (by kernel_rfl) (by kernel_rfl) (by kernel_rfl) (fun _ _ _ h => h) (by rfl) (by intro w hSw; (try dsimp only at hSw); go_simp; first | done | with_reducible rfl) hS ?_
              simp only [Act.put, List.setIfInBounds_toArray, List.set_cons_zero, List.set_cons_succ]
              refine reg_take 7 (v := ?_) rfl (by kernel_rfl) (by kernel_rfl) (by kernel_rfl) (fun _ _ _ h => h) (by rfl) (by intro w hSw; (try dsimp only at hSw); go_simp; first | done | with_reducible rfl) hS ?_
              simp only [Act.put, List.setIfInBounds_toArray, List.set_cons_zero, List.set_cons_succ]
              refine reg_take 8 (v := ?_) rfl (by kernel_rfl) (by kernel_rfl) (by kernel_rfl) (fun _ _ _ h => h) (by rfl) (by intro w hSw; (try dsimp only at hSw); go_simp; first | done | with_reducible rfl) hS ?_
              simp only [Act.put, List.setIfInBounds_toArray, List.set_cons_zero, List.set_cons_succ]
              refine reg_call 9 rfl (by kernel_rfl) (by rfl) (fun K hK => ?_)
              go_simp
              go_at_call 33
              refine (args_eq (CP.out _) (by with_reducible rfl)).mono ?_
              rintro e uu ⟨rfl, huu⟩
              have hb : Below wr.drew.heap.size wr.drew uu := by rw [huu]; exact Below.refl _ _
              clear huu
              refine hK.out _ _ (KP _ _ hb hS) (fun hS' => ?_)
              clear hK K hS
              have hS := hS'
              clear hS' hb
              try simp only [Act.put, List.setIfInBounds_toArray, List.set_cons_zero, List.set_cons_succ]
              refine reg_take 10 (v := ?_) rfl (by kernel_rfl) (by kernel_rfl) (by kernel_rfl) (fun _ _ _ h => h) (by rfl) (by intro w hSw; (try dsimp only at hSw); go_simp; first | done | with_reducible rfl) hS ?_
              simp only [Act.put, List.setIfInBounds_toArray, List.set_cons_zero, List.set_cons_succ]
              refine reg_take 11 (v := ?_) rfl (by kernel_rfl) (by kernel_rfl) (by kernel_rfl) (fun _ _ _ h => h) (by rfl) (by intro w hSw; (try dsimp only at hSw); go_simp; first | done | with_reducible rfl) hS ?_
              simp only [Act.put, List.setIfInBounds_toArray, List.set_cons_zero, List.set_cons_succ]
              refine reg_take 12 (v := ?_) rfl (by kernel_rfl) (by kernel_rfl) (by kernel_rfl) (fun _ _ _ h => h) (by rfl) (by intro w hSw; (try dsimp only at hSw); go_simp; first | done | with_reducible rfl) hS ?_
              simp only [Act.put, List.setIfInBounds_toArray, List.set_cons_zero, List.set_cons_succ]
              refine wpAnyH_done (by kernel_rfl) ?_ _
              have HY := Lib.hid hS.2.2.2
              have HROW := Lib.hid (hrow.out.keep HY.out)
              have HBEL := Lib.hid (bel_c hbel.out (Nat.le_refl _) HY.out)
              clear hS S0 KP D0 hrow hbel HY
              cases b
              · have HF := Lib.hid (closed_mul hlt hlk HM.out)
                clear HM hin hall
                go_wp2_with fail
                go_ret
                exact ⟨ret_bool HF.out.symm, HBEL.out⟩
              · have HN := Lib.hid (mulK_succ hin.out HM.out)
                clear HM hin
                go_wp2_with fail
                go_roundw
                case rel => exact ⟨k + 1, by omega, by go_num, HN, HROW, HBEL⟩
                case measure => simp [intOf] <;> omega
            · obtain rfl : k = zs.length := by omega
              have HN := Lib.hid (mulA_succ hall.out hin.out)
              clear hin hall
              go_wp2_with fail
              go_roundw
              case rel => exact ⟨i + 1, by omega, by go_num, HN, hrow, hbel⟩
              case measure => simp [intOf] <;> omega
        · obtain rfl : i = zs.length := by omega
          have q0 := (hrow.out 0 (by omega)).1
          have HF : Hid (closedB zs = decide ((0 : Int) ∈ zs)) := Lib.hid (closed_yes HAS.out hall.out)
          dsimp only at q0
          change wr.cell? _ = some (.bool (decide ((0 : Int) ∈ zs))) at q0
          generalize decide ((0 : Int) ∈ zs) = b at q0 HF
          clear hall hrow
          go_wp2_with fail
          go_ret
          exact ⟨ret_bool HF.out.symm, hbel.out⟩

end Go.Proofs.Ytbnokmlmajcibaa

namespace Go.Proofs.Ytbnokmlmajcibaa
open Go.ChangeShapes Go.WideShapes Go.ChangeAt Go.RowKit

/-- A slice of ints that came in. -/
def ArgI (w : World) (a : Option Addr) (len : Nat) (zs : List Int) : Prop :=
  zs.length = len ∧ len ≤ maxLen ∧ (len = 0 ∨ ∃ x : Addr, a = some x ∧ ∀ i, i < len → w.cell? (x.add i) = some (.int .i64 (zs.getD i 0)))
theorem add_block (x : Addr) (i : Nat) : (x.add i).block = x.block := by unfold Addr.add; split <;> rfl
theorem ArgI.below {w w' : World} {a : Option Addr} {len : Nat} {zs : List Int} (h : ArgI w a len zs) (hb : Below w.heap.size w w') : ArgI w' a len zs := by
  obtain ⟨h1, h2, h | ⟨x, hx, hc⟩⟩ := h
  · exact ⟨h1, h2, .inl h⟩
  · exact ⟨h1, h2, .inr ⟨x, hx, fun i hi => (hb.cell (lt_of_cell (hc i hi))).trans (hc i hi)⟩⟩
theorem ArgI.of_row {w : World} {a : Option Addr} {len cap : Nat} {zs : List Int} (h : (a = none ∧ len = 0 ∧ cap = 0 ∧ zs = []) ∨ ∃ x, a = some x ∧ len ≤ cap ∧ cap ≤ maxLen ∧ zs.length = cap ∧ (∀ i, i < zs.length → w.cell? (x.add i) = some (.int .i64 (zs.getD i 0))) ∧ ∀ n ∈ zs, (Lit.int .i64 n).wf = true) : ArgI w a len (zs.take len) := by
  rcases h with ⟨_, rfl, _, rfl⟩ | ⟨x, rfl, h1, h2, rfl, hc, _⟩
  · exact ⟨rfl, Nat.zero_le _, .inl rfl⟩
  · refine ⟨by simp; omega, Nat.le_trans h1 h2, .inr ⟨x, rfl, fun i hi => ?_⟩⟩
    rw [hc i (by omega)]
    simp [List.getD, hi]

theorem infoA : (Try.prog.info? 3).map (fun i => (i.zero, i.size, i.bytes)) = some (some (.int .i64 0), 1, 8) := by kernel_rfl
theorem madeA (n : Nat) : (madeCells (Value.int .i64 0).cells (n * 1)).toList = ivals (List.replicate n 0) := by
  apply List.ext_getElem
  · simp [madeCells, ivals]
  · intro i a b
    simp [madeCells, ivals, Value.cells, Nat.mod_one]
set_option maxHeartbeats 400000 in
theorem ToIntS_any (a : Option Addr) (len cap : Nat) (zs : List Int) (w : World) (r : ArgI w a len zs) (hlen : len ≤ 1048576) :
    Calls Try.prog 36 #[.slice a len cap] w (FreshI zs w) := by
  obtain ⟨i0, hi0, hz0, hz1, hz2⟩ : ∃ i, Try.prog.info? 3 = some i ∧ i.zero = some (.int .i64 0) ∧ i.size = 1 ∧ i.bytes = 8 := info_parts3 infoA
  have HR := Lib.hid (fun W (hb : Below w.heap.size w W) => r.below hb)
  obtain ⟨hxl, _, _⟩ := r
  subst hxl
  go_enter Try.func36, Try.ntmps36
  go_wp2_with (at_make; refine wpList_make_full _ rfl _ _ 28 rfl w.heap.size 3 i0 _ 1 Try.underlying28 hi0 hz0 hz1 .i64 .i64 _ _ zs.length rfl rfl rfl rfl (by rw [hz2]; omega) (by unfold maxLen; omega) (Nat.le_refl _) ?_; intro w0 hown0 hgrow0)
  have hb0 := own_none hgrow0
  rw [madeA] at hown0
  have hin0 := IntIn.of_owns (zs := List.replicate zs.length 0) (by rw [List.length_replicate]; exact hown0) (by simpa using hlen)
  have HB := Lib.hid hb0
  have HW := Lib.hid hin0
  clear hb0 hown0 hgrow0 hin0
  go_loopw [4] (fun i wr => ∃ (k : Nat) (ys : List Int), k ≤ zs.length ∧ i = .int .i64 k ∧ Hid (UpToI k zs ys) ∧ Hid (IntIn w.heap.size w0.heap.size wr (.slice (some ⟨w.heap.size, 0, none⟩) zs.length zs.length) ys) ∧ Hid (Below w.heap.size w wr) ∧ w0.heap.size ≤ wr.heap.size) (fun i _ => zs.length - (intOf i).toNat)
  case atStart => exact ⟨0, _, Nat.zero_le _, rfl, Lib.hid ⟨by simp, fun i hi => by omega⟩, HW, HB, Nat.le_refl _⟩
  case round =>
    obtain ⟨k, ys, hk, rfl, hup, hin, hbel, hsz⟩ := hrel
    by_cases hlt : k < zs.length
    · obtain ⟨_, _, h | ⟨x, rfl, hc⟩⟩ := HR.out _ hbel.out
      · omega
      have c0 := hc k hlt
      clear hc
      have hyl := hup.out.1
      obtain ⟨g, hg, _, _, e0, f0⟩ := hin.out.at (Below.refl _ _) (i := k) (by omega)
      obtain rfl : w.heap.size = g := by simpa using hg
      have HN := Lib.hid (hin.out.set k (by omega) (zs.getD k 0))
      have HU := Lib.hid (hup.out.set (c := zs.getD k 0) hlt rfl)
      have HB1 := Lib.hid (Below.setCell hbel.out (p := ⟨w.heap.size, k, none⟩) (Nat.le_refl _) (.int .i64 (zs.getD k 0)))
      generalize zs.getD k 0 = z at c0 HN HU HB1
      generalize ys.getD k 0 = y at e0
      clear hg hin hup hbel
      go_wp2_with fail
      go_roundw
      case rel => exact ⟨k + 1, _, by omega, by go_num, HU, HN, HB1, by simp [World.setCell]; exact hsz⟩
      case measure => simp [intOf] <;> omega
    · obtain rfl : k = zs.length := by omega
      have hall := hup.out.all
      subst hall
      go_wp2_with fail
      go_ret
      exact ⟨_, rfl, hin.out.wide (Nat.le_refl _) hsz, hbel.out⟩

end Go.Proofs.Ytbnokmlmajcibaa

namespace Go.Proofs.Ytbnokmlmajcibaa
open Go.ChangeShapes Go.WideShapes Go.ChangeAt Go.RowKit

set_option maxHeartbeats 400000 in
theorem SpecMirr_any (lo hi : Nat) (n : Int) (v : Value) (xs : List C3) (w : World) (r : CellIn lo hi w v xs) (hhi : hi ≤ w.heap.size) :
    Calls Try.prog 37 #[.agg #[.int .i64 n, v]] w fun e w' => e = .returned (.bool (mirrI (symsOf n xs))) ∧ Below w.heap.size w w' := by
  obtain ⟨a, cap, rfl⟩ := r.form
  have CV := Lib.hid (SpecSyms_any lo hi n _ xs (w.alloc (.cells #[.int .i64 n, .slice a xs.length cap] 26)) (r.below ((bel0 w _).mono hhi)) (by simp; omega))
  clear r
  rw [mirr_syms]
  have hle := syms_le n xs
  generalize symsOf n xs = zs at CV hle ⊢
  go_enter Try.func37, Try.ntmps37
  go_wp2_with fail
  refine CV.out.mono ?_
  rintro e w3 ⟨v3, rfl, I3, hb3⟩
  have HB := Lib.hid (bel_c (bel0 w (.cells #[.int .i64 n, .slice a xs.length cap] 26)) (Nat.le_refl _) hb3)
  obtain ⟨a3, c3, rfl⟩ := I3.form
  have HI := Lib.hid I3
  clear hb3 CV I3
  rcases Nat.eq_zero_or_pos zs.length with h0 | h0
  · have HF : Hid (lastI zs = false) := Lib.hid (by unfold lastI; rw [h0]; rfl)
    rw [h0]
    clear hle h0
    go_wp2_with fail
    go_ret
    exact ⟨ret_bool HF.out.symm, HB.out⟩
  · obtain ⟨m, hm⟩ : ∃ m, zs.length = m + 1 := ⟨zs.length - 1, by omega⟩
    obtain ⟨g, rfl, _, _, e0, _⟩ := HI.out.at (Below.refl _ _) (show m < zs.length by omega)
    have HF : Hid (lastI zs = decide (4 ≤ zs.getD m 0)) := Lib.hid (by unfold lastI; rw [hm]; simp)
    generalize zs.getD m 0 = c at e0 HF
    rw [hm]
    have hm8 : m < 8 := by omega
    clear hle h0 hm
    go_wp2_with fail
    go_ret
    exact ⟨ret_bool HF.out.symm, HB.out⟩

end Go.Proofs.Ytbnokmlmajcibaa
