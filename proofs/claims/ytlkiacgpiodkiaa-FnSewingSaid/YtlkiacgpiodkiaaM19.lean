/- Channels in one goroutine: code that sends and receives; nothing waits. Orders of sewing: firstInLine, nextRound of the program. Rows of rows of integers. -/
import Derived.Test.YtlkiacgpiodkiaaM00
import Derived.Conc.LoneCalls
import Derived.WalkKit
import Derived.Lib.Hide
import Derived.Test.YtlkiacgpiodkiaaM16
import Derived.Test.YtlkiacgpiodkiaaM18
import Derived.Test.YtlkiacgpiodkiaaM11
import Derived.Test.YtlkiacgpiodkiaaM12
import Derived.Test.YtlkiacgpiodkiaaM13
import Derived.Test.YtlkiacgpiodkiaaM17

set_option linter.unusedSimpArgs false
set_option linter.unusedVariables false
namespace Go.Proofs.Ytlkiacgpiodkiaa
open Go.ChangeShapes Go.WideShapes Go.ChangeAt Go.RowKit
open Go.Conc

section
variable {P : Program} {Q : Exit → Act → World → Prop} {a : Act} {w : World}
/-- From this machine the code comes to an end of which Q holds. -/
def EndsN (P : Program) (Q : Exit → Act → World → Prop) (m : Machine) (b : Frame) (k : List Item) (cs : List Frame) : Prop :=
  ∃ e a' w', Q e a' w' ∧ Arrives P m b k cs e a' w'
/-- Code of a frame that is no early one. -/
def WpN (P : Program) (c : Code) (Q : Exit → Act → World → Prop) (a : Act) (w : World) : Prop :=
  ∀ (b : Frame), b.kind ≠ .early → ∀ k cs, EndsN P Q (lone (b.at a (.code c :: k)) cs w) b k cs
/-- The rest of a region. -/
def RegN (P : Program) (ops : Array Oper) (Q : Exit → Act → World → Prop) (l : List Nat) (a : Act) (w : World) : Prop :=
  ∀ (b : Frame), b.kind ≠ .early → ∀ k cs, EndsN P Q (lone (b.at a (.inRegion ops l :: k)) cs w) b k cs
theorem EndsN.before {m m₁ : Machine} {b : Frame} {k : List Item} {cs : List Frame} (h : EndsN P Q m₁ b k cs) (hs : Steps P m m₁) : EndsN P Q m b k cs := by
  obtain ⟨e, a', w', hq, har⟩ := h
  exact ⟨e, a', w', hq, har.of_steps hs⟩
theorem WpN.of_wp {c : Code} (h : c.wp P Q a w) : WpN P c Q a w := fun b _ k cs => h b k cs
/-- An end behind which something plain still lies. -/
theorem EndsN.pass {m : Machine} {b : Frame} {x : Item} {k : List Item} {cs : List Frame} {R : Exit → Act → World → Prop} (hx : x.plain = true)
    (h : EndsN P R m b (x :: k) cs) (hn : ∀ a₁ w₁, R .normal a₁ w₁ → EndsN P Q (lone (b.at a₁ (x :: k)) cs w₁) b k cs) (ho : ∀ e a₁ w₁, e ≠ .normal → R e a₁ w₁ → Q e a₁ w₁) : EndsN P Q m b k cs := by
  obtain ⟨e, a₁, w₁, hq, har⟩ := h
  by_cases he : e = .normal
  · subst he
    exact (hn a₁ w₁ hq).before har
  · exact ⟨e, a₁, w₁, ho e a₁ w₁ he hq, Arrives.pass hx (fun _ _ => .inl he) har⟩
theorem WpN.seq {x y : Code} (h : ∀ K : Act → World → Prop, (∀ a w, WpN P y Q a w → K a w) → WpN P x (Exit.then K Q) a w) : WpN P (.seq x y) Q a w := by
  intro b hb k cs
  refine EndsN.before (m₁ := lone (b.at a (.code x :: .code y :: k)) cs w) ?_ (.one step_seq)
  refine EndsN.pass (x := .code y) rfl (h (WpN P y Q) (fun _ _ h => h) b hb (.code y :: k) cs) (fun a₁ w₁ h₁ => h₁ b hb k cs) ?_
  intro e a₁ w₁ he h₁
  cases e <;> first | exact absurd rfl he | exact h₁
theorem WpN.seq' {x y : Code} (h : ∀ K : Act → World → Prop, (∀ a w, WpN P y Q a w → K a w) → x.wp P (Exit.then K Q) a w) : WpN P (.seq x y) Q a w :=
  .seq fun K hK => .of_wp (h K hK)
theorem WpN.cond {c : Operand} {x y : Code} {t : Bool} (hc : a.eval c = .bool t) (h : WpN P (if t then x else y) Q a w) : WpN P (.cond c x y) Q a w :=
  fun b hb k cs => (h b hb k cs).before (.one (step_cond hc))
theorem WpN.block {id : Nat} {c : Code} (h : WpN P c (Exit.inBlock id Q) a w) : WpN P (.block id c) Q a w := by
  intro b hb k cs
  refine EndsN.before (m₁ := lone (b.at a (.code c :: .inBlock id :: k)) cs w) ?_ (.one step_block)
  obtain ⟨e, a₁, w₁, hq, har⟩ := h b hb (.inBlock id :: k) cs
  cases e with
  | normal => exact ⟨.normal, a₁, w₁, hq, Steps.trans har (.one step_inBlock)⟩
  | exit i =>
    simp only [Exit.inBlock] at hq
    by_cases e : i = id
    · subst e
      rw [if_pos rfl] at hq
      exact ⟨.normal, a₁, w₁, hq, har k (by simp [exitTo])⟩
    · rw [if_neg e] at hq
      have e' : (id == i) = false := by simpa using fun h => e h.symm
      exact ⟨.exit i, a₁, w₁, hq, fun k' hk => har k' (by simp [exitTo, e', hk])⟩
  | goto l => exact ⟨.goto l, a₁, w₁, hq, fun k' hk => har k' (by simp [gotoIn, hk])⟩
  | ret => exact ⟨.ret, a₁, w₁, hq, har⟩
  | panic ch => exact ⟨.panic ch, a₁, w₁, hq, har⟩
  | outgrown => exact ⟨.outgrown, a₁, w₁, hq, har⟩
theorem WpN.loop {c : Code} (I : Nat → Act → World → Prop) (n : Nat) (h₀ : I n a w)
    (round : ∀ n a w, I n a w → WpN P c (Exit.then (fun a' w' => ∃ m, m < n ∧ I m a' w') Q) a w) : WpN P (.loop c) Q a w := by
  intro b hb k cs
  refine EndsN.before (m₁ := lone (b.at a (.code c :: .inLoop c :: k)) cs w) ?_ (.one step_loop)
  induction n using Nat.strongRecOn generalizing a w with
  | _ n ih =>
    refine EndsN.pass (x := .inLoop c) rfl (round n a w h₀ b hb (.inLoop c :: k) cs) ?_ ?_
    · rintro a₁ w₁ ⟨m, hm, hI⟩
      exact (ih m hm hI).before (.one step_inLoop)
    · intro e a₁ w₁ he h₁
      cases e <;> first | exact absurd rfl he | exact h₁
theorem WpN.skip (h : Q .normal a w) : WpN P .skip Q a w := .of_wp (wp_skip h)
theorem WpN.exit {id : Nat} (h : Q (.exit id) a w) : WpN P (.exit id) Q a w := .of_wp (wp_exit h)
theorem WpN.region {id : Nat} {ops : Array Oper} (h : RegN P ops Q (List.range ops.size) a w) : WpN P (.region id ops false) Q a w :=
  fun b hb k cs => (h b hb k cs).before (.one step_region)
theorem WpN.calls {f : FuncId} {fn : Func} {c : Code} {args : Array Value} {R : Ending → World → Prop} (hf : P.funcs[f]? = some fn) (hb : fn.body = some c)
    (h : WpN P c (bodyPost P fn R) { tmps := args ++ Array.replicate (fn.ntmps - args.size) undef, defers := [] } w) : Calls P f args w R := by
  intro cs
  obtain ⟨b, hbd⟩ : ∃ b : Frame, b = { (default : Frame) with fn := f, kind := .normal } := ⟨_, rfl⟩
  have hk : b.kind = .normal := by rw [hbd]
  have hfn : b.fn = f := by rw [hbd]
  have hin : Frame.enter P f args .normal = b.at { tmps := args ++ Array.replicate (fn.ntmps - args.size) undef, defers := [] } [.code c] := by
    rw [hbd]; simp [Frame.enter, Frame.at, hf, hb]
  obtain ⟨e, a', w', hq, har⟩ := h b (by rw [hk]; decide) [] cs
  rw [← hin] at har
  cases e with
  | normal =>
    obtain ⟨hd, v, hr, hR⟩ := hq
    exact ⟨.returned v, w', _, hR, Steps.trans har (.one step_end), hfn, rfl, hd, hk, fn, by simp only [Frame.at]; rw [hfn]; exact hf, hr⟩
  | ret =>
    obtain ⟨hd, v, hr, hR⟩ := hq
    obtain ⟨todo, hs⟩ := har
    exact ⟨.returned v, w', _, hR, hs, hfn, rfl, hd, hk, fn, by simp only [Frame.at]; rw [hfn]; exact hf, hr⟩
  | panic chain =>
    obtain ⟨hd, hR⟩ := hq
    obtain ⟨todo, hs⟩ := har
    exact ⟨.panicked chain, w', _, hR, hs, hfn, rfl, hd, fn, by simp only [Frame.at]; rw [hfn]; exact hf⟩
  | exit id => exact hq.elim
  | goto l => exact hq.elim
  | outgrown => exact ⟨.outgrown, w', b, hq, har.resolve_left (by rw [hk]; decide), hfn, trivial⟩

/-! Within a region. -/
variable {ops : Array Oper} {i : Nat} {rest : List Nat} {o : Oper}
theorem RegN.nil (h : Q .normal a w) : RegN P ops Q [] a w := fun b _ k cs => ⟨.normal, a, w, h, .one step_region_end⟩
theorem RegN.value {v : Value} {w' : World} (ho : ops[i]? = some o) (hg : o.guard = none) (hr : (execOp a.eval o).run P w = .ok (.value v) w') (h : RegN P ops Q rest (a.put o.dst v) w') : RegN P ops Q (i :: rest) a w := by
  intro b hb k cs
  refine (h b hb k cs).before (.one (step_lone_go ?_))
  rw [stepG_op ho (by simp [Region.wanted, hg])]
  have := Frame.finish_at b a ops i rest k v
  rw [ho] at this
  simp only [Option.bind_some] at this
  rw [← this]; simp [stepG.apply, hr]
theorem RegN.send {c cap s r : Nat} {buf : Array Value} {v z : Value} {tm : Bool} (ho : ops[i]? = some o) (hg : o.guard = none) (hr : (execOp a.eval o).run P w = .ok (.comm #[scase c v z] true .send) w)
    (hc : w.heap[c]? = some (.chan cap buf false s r tm)) (hroom : buf.size < cap) (h : RegN P ops Q rest (a.put o.dst undef) (w.setChan c cap (buf.push v) false (s + 1) r tm)) : RegN P ops Q (i :: rest) a w := by
  intro b hb k cs
  have hs := step_lone_send_room (stepG_comm (main := true) (k := k) (cs := cs) (rest := rest) ho (by simp [Region.wanted, hg]) hb hr) hc hroom
  rw [Frame.finish_at, ho] at hs
  exact (h b hb k cs).before (.one hs)
theorem RegN.recv {c cap s r : Nat} {buf : Array Value} {z : Value} {tm closed ok : Bool} (ho : ops[i]? = some o) (hg : o.guard = none) (hr : (execOp a.eval o).run P w = .ok (.comm #[rcase c z] true (.recv ok)) w)
    (hc : w.heap[c]? = some (.chan cap buf closed s r tm)) (hsome : 0 < buf.size) (h : RegN P ops Q rest (a.put o.dst (got ok (buf.getD 0 undef) true)) (w.setChan c cap (buf.extract 1 buf.size) closed s (r + 1) tm)) : RegN P ops Q (i :: rest) a w := by
  intro b hb k cs
  have hs := step_lone_recv_buf ok (stepG_comm (main := true) (k := k) (cs := cs) (rest := rest) ho (by simp [Region.wanted, hg]) hb hr) hc hsome
  rw [Frame.finish_at, ho] at hs
  exact (h b hb k cs).before (.one hs)
theorem RegN.shut {c cap s r : Nat} {z : Value} {tm ok : Bool} (ho : ops[i]? = some o) (hg : o.guard = none) (hr : (execOp a.eval o).run P w = .ok (.comm #[rcase c z] true (.recv ok)) w)
    (hc : w.heap[c]? = some (.chan cap #[] true s r tm)) (h : RegN P ops Q rest (a.put o.dst (got ok z false)) w) : RegN P ops Q (i :: rest) a w := by
  intro b hb k cs
  have hs := step_lone_recv_shut ok (stepG_comm (main := true) (k := k) (cs := cs) (rest := rest) ho (by simp [Region.wanted, hg]) hb hr) hc
  rw [Frame.finish_at, ho] at hs
  exact (h b hb k cs).before (.one hs)
end
end Go.Proofs.Ytlkiacgpiodkiaa

set_option linter.unusedSimpArgs false
set_option linter.unusedVariables false
namespace Go.Proofs.Ytlkiacgpiodkiaa
open Go.ChangeShapes Go.WideShapes Go.ChangeAt Go.RowKit
open Go.Conc

/-- A channel of ints. -/
def ChanC (w : World) (c cap : Nat) (ls : List Int) (closed : Bool) : Prop := ∃ s r, w.heap[c]? = some (.chan cap (ivals ls).toArray closed s r false)
theorem ChanC.lt {w : World} {c cap : Nat} {ls : List Int} {cl : Bool} (h : ChanC w c cap ls cl) : c < w.heap.size := by
  obtain ⟨s, r, h⟩ := h
  exact (Array.getElem?_eq_some_iff.1 h).1
theorem ChanC.only {S : Nat → Prop} {u w : World} {c cap : Nat} {ls : List Int} {cl : Bool} (h : ChanC u c cap ls cl) (k : Only S u w) (hn : ¬ S c) : ChanC w c cap ls cl := by
  have hl := h.lt
  obtain ⟨s, r, h⟩ := h
  exact ⟨s, r, by rw [k.block c hl hn]; exact h⟩
theorem ChanC.below {u w : World} {c cap : Nat} {ls : List Int} {cl : Bool} (h : ChanC u c cap ls cl) (k : Below u.heap.size u w) : ChanC w c cap ls cl := by
  have hl := h.lt
  obtain ⟨s, r, h⟩ := h
  exact ⟨s, r, by rw [k.block c hl]; exact h⟩
theorem Only.setChan {S : Nat → Prop} {u w : World} (h : Only S u w) {c : Nat} (hc : c < u.heap.size → S c) (cap : Nat) (buf : Array Value) (cl : Bool) (s r : Nat) : Only S u (w.setChan c cap buf cl s r false) :=
  ⟨h.os, h.tape, h.output, by simp [World.setChan]; exact h.size, fun k hk hn => by
    simp only [World.setChan]
    rw [Array.getElem?_setIfInBounds_ne (fun e => by subst e; exact hn (hc hk))]; exact h.block k hk hn⟩
theorem ivals_push (ls : List Int) (z : Int) : (ivals ls).toArray.push (.int .i64 z) = (ivals (ls ++ [z])).toArray := by simp [ivals]
theorem make_chan (w : World) (n : Nat) (hn : n ≤ 100) : (Instr.makeChan 79 (.int .i64 n)).run Try.prog w = .ok (.chan (some w.heap.size)) (w.alloc (.chan n #[] false 0 0 false)) := by
  have h : (Try.prog.info? 3).map (·.bytes) = some 8 := by kernel_rfl
  obtain ⟨i, hi, hb⟩ := Option.map_eq_some_iff.1 h
  exact run_makeChan (P := Try.prog) (w := w) Try.underlying79 hi .i64 n (by omega) (by rw [hb]; omega)
set_option maxHeartbeats 3200000 in
set_option maxRecDepth 20000 in
theorem ImplLine_any (v : Value) (js : List J3) (N : Nat) (a : Option Addr) (cap : Nat) (vb : Value) (w : World) (hv : v = .slice a js.length cap) (ab : Option Addr) (nb cb : Nat) (hvb : vb = .slice ab nb cb) (hlM : js.length ≤ 11) :
    Calls Try.prog 38 #[.agg #[v, .int .i64 N, vb]] w fun e w' => ∃ c, e = .returned (.chan (some c)) ∧ w.heap.size ≤ c ∧ ChanC w' c js.length (idxL js.length) true ∧ Below w.heap.size w w' := by
  subst hv
  subst hvb
  obtain ⟨W1, hW1⟩ : ∃ W1, W1 = (w.alloc (.cells #[.slice a js.length cap, .int .i64 N, .slice ab nb cb] 57)).alloc (.chan js.length #[] false 0 0 false) := ⟨_, rfl⟩
  have HW : Hid (Below w.heap.size w W1 ∧ W1.heap.size = w.heap.size + 2 ∧ ChanC W1 (w.heap.size + 1) js.length [] false ∧ W1.cell? ⟨w.heap.size, 0, none⟩ = some (.slice a js.length cap)) := Lib.hid (by
    rw [hW1]
    refine ⟨bel_n (bel0 w _) (Nat.le_refl _) _, by simp, ⟨0, 0, ?_⟩, ?_⟩
    · have := heap_alloc_new (w.alloc (.cells #[.slice a js.length cap, .int .i64 N, .slice ab nb cb] 57)) (.chan js.length #[] false 0 0 false)
      rw [show (w.alloc (.cells #[.slice a js.length cap, .int .i64 N, .slice ab nb cb] 57)).heap.size = w.heap.size + 1 by simp] at this
      exact this
    · exact kept (bel0 _ _) (by go_simp))
  have hmc := make_chan (w.alloc (.cells #[.slice a js.length cap, .int .i64 N, .slice ab nb cb] 57)) js.length (by omega)
  refine WpN.calls Try.func38 rfl ?_
  simp only [Try.ntmps38, List.size_toArray, List.length_cons, List.length_nil, Nat.reduceAdd, Nat.reduceSub, Array.replicate_succ,
     Array.replicate_zero, List.push_toArray, List.append_toArray, List.nil_append, List.cons_append]
  refine WpN.seq' (fun K hK => ?_)
  go_wp2_with fail
  refine WpN.seq' (fun K hK => ?_)
  go_wp2_with fail
  rw [← hW1]
  obtain ⟨hb1, hs1, hc1, d0⟩ := HW.out
  have HB1 := Lib.hid hb1
  have HC1 := Lib.hid hc1
  clear hb1 hc1 hmc hW1
  refine WpN.seq (fun K hK => WpN.seq' (fun K2 hK2 => ?_))
  go_wp2_with fail
  refine WpN.block (WpN.loop (fun n x u => ∃ (k : Nat) (v4 v13 v14 v15 v16 v17 : Value), k + n = js.length ∧
      x = ⟨#[.agg #[.slice a js.length cap, .int .i64 N, .slice ab nb cb], .pointer (some ⟨w.heap.size, 0, none⟩), .chan none, .chan (some (w.heap.size + 1)), v4, .pointer (some ⟨w.heap.size, 0, none⟩), .slice a js.length cap, .int .i64 js.length, .chan (some (w.heap.size + 1)),
        .pointer (some ⟨w.heap.size, 0, none⟩), .slice a js.length cap, .int .i64 js.length, .int .i64 k, v13, v14, v15, v16, v17, undef, undef], []⟩ ∧
      Hid (ChanC u (w.heap.size + 1) js.length (idxL k) false) ∧ Hid (Below w.heap.size w u)) js.length ?_ ?_)
  · refine ⟨0, _, _, _, _, _, _, by omega, rfl, HC1, HB1⟩
  clear HC1 HB1 HW d0 hs1
  rintro n x u ⟨k, v4, v13, v14, v15, v16, v17, hkn, rfl, hch, hbel⟩
  by_cases hlt : k < js.length
  · refine WpN.seq' (fun K3 hK3 => ?_)
    go_wp2_with fail
    refine WpN.seq' (fun K3 hK3 => ?_)
    go_wp2_with fail
    refine WpN.seq (fun K3 hK3 => WpN.block (WpN.seq' (fun K4 hK4 => ?_)))
    go_wp2_with fail
    obtain ⟨s, r, hc⟩ := hch.out
    have hil := idxL_len k
    have hroom : (ivals (idxL k)).toArray.size < js.length := by simp [ivals, hil]; exact hlt
    refine WpN.region (show RegN _ _ _ [0, 1, 2] _ _ from ?_)
    refine RegN.value (v := .chan (some (w.heap.size + 1))) rfl rfl rfl ?_
    refine RegN.value (v := .int .i64 k) rfl rfl rfl ?_
    refine RegN.send (v := .int .i64 k) (z := .tuple #[]) rfl rfl rfl hc hroom ?_
    rw [ivals_push, ← idxL_succ]
    refine RegN.nil ?_
    have HO := (Only.refl (fun c => c = w.heap.size + 1) u).setChan (c := w.heap.size + 1) (fun _ => rfl) js.length (ivals (idxL (k + 1))).toArray false (s + 1) r
    have HC2 : Hid (ChanC (u.setChan (w.heap.size + 1) js.length (ivals (idxL (k + 1))).toArray false (s + 1) r false) (w.heap.size + 1) js.length (idxL (k + 1)) false) := Lib.hid (by
      refine ⟨s + 1, r, ?_⟩
      exact heap_setChan _ _ _ _ _ _ _ _ hch.out.lt)
    have HB2 := Lib.hid (hbel.out.trans (HO.below (B := w.heap.size) (fun j hj => by omega) hbel.out.size))
    clear HO hch hbel hc hroom hil
    refine hK3 _ _ (WpN.of_wp ?_)
    clear hK3
    go_wp2_with fail
    exact ⟨n - 1, by omega, k + 1, _, _, _, _, _, _, by omega, by simp; exact ⟨rfl, rfl, rfl, rfl, rfl, rfl⟩, HC2, HB2⟩
  · obtain rfl : k = js.length := by omega
    obtain ⟨s, r, hc⟩ := hch.out
    have hcl := fun ats ty => run_close_open (P := Try.prog) (w := u) ats ty hc
    have HO := (Only.refl (fun c => c = w.heap.size + 1) u).setChan (c := w.heap.size + 1) (fun _ => rfl) js.length (ivals (idxL js.length)).toArray true s r
    have HC2 : Hid (ChanC (u.setChan (w.heap.size + 1) js.length (ivals (idxL js.length)).toArray true s r false) (w.heap.size + 1) js.length (idxL js.length) true) := Lib.hid ⟨s, r, heap_setChan _ _ _ _ _ _ _ _ hch.out.lt⟩
    have HB2 := Lib.hid (hbel.out.trans (HO.below (B := w.heap.size) (fun j hj => by omega) hbel.out.size))
    clear HO hch hbel hc
    refine WpN.seq' (fun K3 hK3 => ?_)
    go_wp2_with fail
    refine WpN.seq' (fun K3 hK3 => ?_)
    go_wp2_with fail
    refine WpN.of_wp ?_
    clear hK3
    go_wp2_with fail
    go_ret
    exact ⟨_, rfl, by omega, HC2.out, HB2.out⟩
theorem Only.of_grown {u w : World} {ob : Option Nat} (h : u.grownBy w ob) : Only (fun k => ob = some k) u w := ⟨h.os, h.tape, h.output, h.size, fun k hk hn => h.block k hk fun e => hn e.symm⟩
theorem chan_head {ls : List Int} {k : Nat} (h : k < ls.length) : (ivals (ls.drop k)).toArray.getD 0 undef = .int .i64 (ls.getD k 0) ∧ (ivals (ls.drop k)).toArray.extract 1 (ivals (ls.drop k)).toArray.size = (ivals (ls.drop (k + 1))).toArray ∧ 0 < (ivals (ls.drop k)).toArray.size := by
  rw [drop_int h]
  refine ⟨by simp [ivals], ?_, by simp [ivals]⟩
  apply Array.ext'
  simp [ivals]
  rw [List.take_of_length_le (by simp)]
theorem OwnD.base {b b' : Nat} {w : World} {v : Value} {ds : List Int} (h : OwnD b w v ds) (hb : b' ≤ b) : OwnD b' w v ds := by
  obtain ⟨h1, h2 | ⟨g, cap, cur, hv, hg, r⟩⟩ := h
  · exact ⟨h1, .inl h2⟩
  · exact ⟨h1, .inr ⟨g, cap, cur, hv, Nat.le_trans hb hg, r⟩⟩
theorem own_chan {w : World} {b e size n c cap : Nat} {v : Value} {xs : List Value} {ls : List Int} {cl : Bool} (h : w.ownsRow b e size v n xs) (hc : ChanC w c cap ls cl) : ∀ g, v.ownBlock = some g → g ≠ c := by
  rintro g hg rfl
  obtain ⟨s, r, hc⟩ := hc
  obtain ⟨_, ⟨hv, _⟩ | ⟨g', cap, cur, hv, _, hh, _⟩⟩ := h
  · rw [hv] at hg; cases hg
  · rw [hv] at hg
    simp only [Value.ownBlock, Option.some.injEq] at hg
    subst hg
    rw [hh] at hc; cases hc
theorem bool_chan {w : World} {g c cap : Nat} {v : Value} {bs : List Bool} {ls : List Int} {cl : Bool} (h : BoolIn g (g + 1) w v bs) (hne : bs ≠ []) (hc : ChanC w c cap ls cl) : g ≠ c := by
  rintro rfl
  obtain ⟨s, r, hc⟩ := hc
  obtain ⟨_, ⟨hb, _⟩ | ⟨g', cap, hv, h1, h2, hcell⟩⟩ := h
  · exact hne hb
  · obtain rfl : g' = g := by omega
    have := (hcell 0 (by rcases bs with _ | ⟨b, bs⟩; exact absurd rfl hne; simp)).1
    simp [World.cell?, hc] at this
set_option maxHeartbeats 6400000 in
set_option maxRecDepth 20000 in
theorem ImplNext_any (lo hi : Nat) (v : Value) (js : List J3) (N : Nat) (vb : Value) (g : Nat) (U : Nat → Bool) (c : Nat) (ls : List Int) (w : World) (r : JnIn lo hi w v js) (hhi : hi ≤ w.heap.size) (hT : TreeJ js N)
    (rb : BoolIn g (g + 1) w vb (rowB (N + js.length) U)) (hg : g < w.heap.size) (hch : ChanC w c js.length ls true) (hjc : hi ≤ c) (hls : ∀ o ∈ ls, InU js.length o) (hll : ls.length ≤ js.length) :
    Calls Try.prog 40 #[.agg #[v, .int .i64 N, vb], .chan (some c)] w fun e w' => ∃ vr c2, e = .returned (.tuple #[vr, .chan (some c2)]) ∧ OwnD w.heap.size w' vr (goL js N U ls) ∧ w.heap.size ≤ c2 ∧
      ChanC w' c2 js.length (stayL js N U ls) true ∧ BoolIn g (g + 1) w' vb (rowB (N + js.length) (putU N U (goL js N U ls))) ∧ Only (fun k => k = c ∨ k = g) w w' := by
  obtain ⟨i0, hi0, hz0, hz1, hz2⟩ := info_parts3 info_intJ
  have hN : N ≤ 12 := hT.n12
  have hlM : js.length ≤ 11 := by have := hT.len; omega
  have hgc : g ≠ c := bool_chan rb (by have := hT.n1; intro h; have := congrArg List.length h; rw [rowB_len] at this; simp at this; omega) hch
  obtain ⟨a, cap, rfl⟩ := r.form
  obtain ⟨ab, cb, rfl⟩ := rb.form
  rw [rowB_len] at rb ⊢
  have hcw := hch.lt
  have R := Lib.hid r
  have RB := Lib.hid rb
  have HT := Lib.hid hT
  have HLS := Lib.hid hls
  clear r rb hT hls
  obtain ⟨W1, hW1⟩ : ∃ W1, W1 = (w.alloc (.cells #[.slice a js.length cap, .int .i64 N, .slice ab (N + js.length) cb] 57)).alloc (.chan js.length #[] false 0 0 false) := ⟨_, rfl⟩
  have HW : Hid (Below w.heap.size w W1 ∧ W1.heap.size = w.heap.size + 2 ∧ ChanC W1 (w.heap.size + 1) js.length [] false ∧ W1.cell? ⟨w.heap.size, 0, none⟩ = some (.slice a js.length cap) ∧ W1.cell? ⟨w.heap.size, 1, none⟩ = some (.int .i64 N) ∧ W1.cell? ⟨w.heap.size, 2, none⟩ = some (.slice ab (N + js.length) cb)) := Lib.hid (by
    rw [hW1]
    refine ⟨bel_n (bel0 w _) (Nat.le_refl _) _, by simp, ⟨0, 0, ?_⟩, kept (bel0 _ _) (by go_simp), kept (bel0 _ _) (by go_simp), kept (bel0 _ _) (by go_simp)⟩
    have := heap_alloc_new (w.alloc (.cells #[.slice a js.length cap, .int .i64 N, .slice ab (N + js.length) cb] 57)) (.chan js.length #[] false 0 0 false)
    rw [show (w.alloc (.cells #[.slice a js.length cap, .int .i64 N, .slice ab (N + js.length) cb] 57)).heap.size = w.heap.size + 1 by simp] at this
    exact this)
  have hmc := make_chan (w.alloc (.cells #[.slice a js.length cap, .int .i64 N, .slice ab (N + js.length) cb] 57)) js.length (by omega)
  refine WpN.calls Try.func40 rfl ?_
  simp only [Try.ntmps40, List.size_toArray, List.length_cons, List.length_nil, Nat.reduceAdd, Nat.reduceSub, Array.replicate_succ,
     Array.replicate_zero, List.push_toArray, List.append_toArray, List.nil_append, List.cons_append]
  refine WpN.seq' (fun K hK => ?_)
  go_wp2_with fail
  refine WpN.seq' (fun K hK => ?_)
  go_wp2_with fail
  refine WpN.seq' (fun K hK => ?_)
  go_wp2_with fail
  rw [← hW1]
  refine WpN.seq (fun K hK => WpN.seq' (fun K2 hK2 => ?_))
  go_wp2_with fail
  obtain ⟨hb1, hs1, hc1, d0, d1, d2⟩ := HW.out
  have HB1 : Hid (Only (fun k => k = c) w W1) := Lib.hid (Only.of_below hb1)
  have HC1 := Lib.hid hc1
  have HCH := Lib.hid (hch.below hb1)
  clear hb1 hc1 hmc hW1
  refine WpN.block (WpN.loop (fun n x u => ∃ (k : Nat) (v6 v8 v14 v15 v16 v17 v18 v19 v20 v21 v22 v23 v24 v25 : Value), k + n = ls.length ∧
      x = ⟨#[.agg #[.slice a js.length cap, .int .i64 N, .slice ab (N + js.length) cb], .chan (some c), .pointer (some ⟨w.heap.size, 0, none⟩), undef, .slice none 0 0, .chan none, v6, .chan (some (w.heap.size + 1)), v8,
        .pointer (some ⟨w.heap.size, 0, none⟩), .slice a js.length cap, .int .i64 js.length, .chan (some (w.heap.size + 1)), .chan (some c), v14, v15, v16, v17, v18, v19, v20, v21, v22, v23, v24, v25, undef, undef, undef, undef, undef, undef], []⟩ ∧
      Hid (ChanC u c js.length (ls.drop k) true) ∧ Hid (ChanC u (w.heap.size + 1) js.length (stayL js N U (ls.take k)) false) ∧ Hid (OwnD (w.heap.size + 2) u v6 (goL js N U (ls.take k))) ∧ Hid (Only (fun k => k = c) w u) ∧
      (u.cell? ⟨w.heap.size, 0, none⟩ = some (.slice a js.length cap) ∧ u.cell? ⟨w.heap.size, 1, none⟩ = some (.int .i64 N) ∧ u.cell? ⟨w.heap.size, 2, none⟩ = some (.slice ab (N + js.length) cb)) ∧ w.heap.size + 2 ≤ u.heap.size) ls.length ?_ ?_)
  · exact ⟨0, _, _, _, _, _, _, _, _, _, _, _, _, _, _, by omega, rfl, HCH, HC1, Lib.hid ⟨by simp [goL, ivals], .inl ⟨rfl, rfl⟩⟩, HB1, ⟨d0, d1, d2⟩, by omega⟩
  clear HC1 HB1 HCH HW d0 d1 d2 hs1 hch
  rintro n x u ⟨k, v6, v8, v14, v15, v16, v17, v18, v19, v20, v21, v22, v23, v24, v25, hkn, rfl, hch, hch2, hrow, hbel, ⟨d0, d1, d2⟩, hsz⟩
  by_cases hlt : k < ls.length
  · obtain ⟨hd1, hd2, hd3⟩ := chan_head hlt
    obtain ⟨s, r, hc⟩ := hch.out
    obtain ⟨o, ho⟩ : ∃ o, o = ls.getD k 0 := ⟨_, rfl⟩
    have hmem : o ∈ ls := by rw [ho, List.getD_eq_getElem?_getD, List.getElem?_eq_getElem hlt]; exact List.getElem_mem hlt
    obtain ⟨o0, o1⟩ := HLS.out o hmem
    obtain ⟨q, rfl⟩ : ∃ q : Nat, o = q := ⟨o.toNat, by omega⟩
    have hq : q < js.length := by omega
    refine WpN.seq (fun K3 hK3 => WpN.region (show RegN _ _ _ [0, 1] _ _ from ?_))
    refine RegN.recv (ok := true) (c := c) (z := .int .i64 0) rfl rfl (by simp [go_sem, rcase, execOp]) hc hd3 ?_
    rw [show (ivals (ls.drop k)).toArray.getD 0 undef = .int .i64 q from by rw [hd1, ho], hd2, show got true (.int .i64 q) true = .tuple #[.int .i64 q, .bool true] from rfl]
    refine RegN.value (v := .bool true) rfl rfl rfl ?_
    refine RegN.nil ?_
    refine hK3 _ _ ?_
    clear hK3
    obtain ⟨u1, hu1⟩ : ∃ u1, u1 = u.setChan c js.length (ivals (ls.drop (k + 1))).toArray true s (r + 1) false := ⟨_, rfl⟩
    have HO1 : Hid (Only (fun k => k = c) u u1) := Lib.hid (by rw [hu1]; exact (Only.refl (fun k => k = c) u).setChan (fun _ => rfl) _ _ _ _ _)
    have HC1 : Hid (ChanC u1 c js.length (ls.drop (k + 1)) true) := Lib.hid ⟨s, r + 1, by rw [hu1]; exact heap_setChan _ _ _ _ _ _ _ _ hch.out.lt⟩
    rw [← hu1]
    have hcw2 : c ≠ w.heap.size + 1 := by omega
    have HC2 : Hid (ChanC u1 (w.heap.size + 1) js.length (stayL js N U (ls.take k)) false) := Lib.hid (hch2.out.only HO1.out (by omega))
    have HR1 : Hid (OwnD (w.heap.size + 2) u1 v6 (goL js N U (ls.take k))) := Lib.hid (owO hrow.out HO1.out (fun j hj h => own_chan hrow.out hch.out j hj h))
    have HB1 : Hid (Only (fun k => k = c) w u1) := Lib.hid (hbel.out.trans HO1.out)
    have d0 := HO1.out.cell d0 (by simp only; omega)
    have d1 := HO1.out.cell d1 (by simp only; omega)
    have d2 := HO1.out.cell d2 (by simp only; omega)
    have hsz1 : w.heap.size + 2 ≤ u1.heap.size := Nat.le_trans hsz HO1.out.size
    have HOO := Lib.hid ho
    clear hu1 HO1 hch hch2 hrow hbel hc hd1 hd2 hd3 hsz ho hmem o0 o1
    refine WpN.seq' (fun K3 hK3 => ?_)
    go_wp2_with fail
    refine WpN.block ?_
    refine WpN.seq' (fun K3 hK3 => ?_)
    go_wp2_with fail
    refine WpN.seq' (fun K3 hK3 => ?_)
    go_wp2_with fail
    have hsw := HB1.out.size
    refine (args_eqL (ImplCan_any lo hi _ js N (.slice ab (N + js.length) cb) g U q u1 ((R.out.below (HB1.out.below (B := hi) (fun j hj => by omega) hhi))) (by omega) HT.out hq (RB.out.only HB1.out (fun j h1 h2 => by omega) (by omega)) (by omega)) (by with_reducible rfl)).mono ?_
    rintro e u2 ⟨rfl, hb2⟩
    have HC3 := Lib.hid (HC1.out.below hb2)
    have HC4 := Lib.hid (HC2.out.below hb2)
    have HR2 : Hid (OwnD (w.heap.size + 2) u2 v6 (goL js N U (ls.take k))) := Lib.hid (owL HR1.out hb2)
    have HB2 : Hid (Only (fun k => k = c) w u2) := Lib.hid (HB1.out.trans (Only.of_below hb2))
    have d0 := kept hb2 d0
    have d1 := kept hb2 d1
    have d2 := kept hb2 d2
    have hsz2 : w.heap.size + 2 ≤ u2.heap.size := Nat.le_trans hsz1 hb2.size
    clear hb2 HC1 HC2 HR1 HB1 hsw hsz1
    cases hcan : canB js N U q with
    | true =>
      have HGS := Lib.hid (goL_step (js := js) (N := N) (U := U) hlt (by rw [← HOO.out]; exact hcan))
      rw [← HOO.out] at HGS
      go_wp2_with fail
      refine WpN.cond (t := true) rfl ?_
      simp only [if_true]
      refine WpN.of_wp ?_
      have hgl := (stayL_le (js := js) (N := N) (U := U) (ls := ls) k).2.2
      obtain ⟨gs, hgs⟩ : ∃ gs, gs = goL js N U (ls.take k) := ⟨_, rfl⟩
      rw [← hgs] at HR2 HGS hgl
      clear hgs
      obtain ⟨a6, c6, rfl⟩ := (HR2.out.row (by omega)).form
      have BX := bel0 u2 (.cells #[.int .i64 (q : Int)] 3)
      have HO3 : Hid (OwnD (w.heap.size + 2) (u2.alloc (.cells #[.int .i64 (q : Int)] 3)) (.slice a6 gs.length c6) gs) := Lib.hid (owL HR2.out BX)
      have HNW : Hid (∀ (j : Nat) u, ([.int .i64 (q : Int)] : List Value)[j]? = some u → (u2.alloc (.cells #[.int .i64 (q : Int)] 3)).cell? ((⟨u2.heap.size, 0, none⟩ : Addr).add j) = some u) := Lib.hid (fun j u hu => newsL u2 u2.heap.size #[.int .i64 (q : Int)] 3 rfl j u hu)
      have HS3 : Hid (w.heap.size + 2 ≤ (u2.alloc (.cells #[.int .i64 (q : Int)] 3)).heap.size) := Lib.hid (by simp; omega)
      have HC5 := Lib.hid (HC3.out.below BX)
      have HC6 := Lib.hid (HC4.out.below BX)
      have HB3 : Hid (Only (fun k => k = c) w (u2.alloc (.cells #[.int .i64 (q : Int)] 3))) := Lib.hid (HB2.out.trans (Only.of_below BX))
      have d0 := kept BX d0
      have d1 := kept BX d1
      have d2 := kept BX d2
      clear BX HC3 HC4 HR2 HB2
      go_wp2_with (at_builtin; refine wpList_append_lies _ rfl _ _ 28 rfl (w.heap.size + 2) 3 i0 (.int .i64 0) 1 8 Try.underlying28 hi0 hz0 hz1 hz2 rfl (by decide) _ _ _ rfl HO3.out ⟨u2.heap.size, 0, none⟩ 1 1 [.int .i64 (q : Int)] rfl rfl HNW.out (by simp [Value.oneCell']) (by omega) (by unfold maxLen; omega) (by omega) HS3.out (u2.heap.size + 1) (by simp) ?_; intro gg cc w5 hown5 hgrow hat hlt5)
      have hog := Only.of_grown hgrow
      have hob := ogL HO3.out
      have HN5 : Hid (OwnD (w.heap.size + 2) w5 (.slice (some ⟨gg, 0, none⟩) (gs.length + 1) cc) (goL js N U (ls.take (k + 1)))) := Lib.hid (by rw [HGS.out.1]; exact OwnD.more hown5)
      have HC7 : Hid (ChanC w5 c js.length (ls.drop (k + 1)) true) := Lib.hid (HC5.out.only hog (fun h => own_chan HO3.out HC5.out c h rfl))
      have HC8 : Hid (ChanC w5 (w.heap.size + 1) js.length (stayL js N U (ls.take (k + 1))) false) := Lib.hid (by rw [HGS.out.2]; exact HC6.out.only hog (fun h => own_chan HO3.out HC6.out _ h rfl))
      have HB5 : Hid (Only (fun k => k = c) w w5) := Lib.hid (HB3.out.next hog (fun j hj h => by have := hob j h; omega))
      have d0 := hog.cell d0 (fun h => by have := hob w.heap.size h; omega)
      have d1 := hog.cell d1 (fun h => by have := hob w.heap.size h; omega)
      have d2 := hog.cell d2 (fun h => by have := hob w.heap.size h; omega)
      have hsz5 := Nat.le_trans HS3.out hog.size
      clear hown5 hgrow hat hlt5 hog hob HO3 HNW HS3 HC5 HC6 HB3
      go_wp2_with fail
      exact ⟨n - 1, by omega, k + 1, _, _, _, _, _, _, _, _, _, _, _, _, _, _, by omega, rfl, HC7, HC8, HN5, HB5, ⟨d0, d1, d2⟩, hsz5⟩
    | false =>
      have HGS := Lib.hid (stayL_step (js := js) (N := N) (U := U) hlt (by rw [← HOO.out]; exact hcan))
      rw [← HOO.out] at HGS
      go_wp2_with fail
      refine WpN.cond (t := false) rfl ?_
      simp only [if_false, Bool.false_eq_true]
      obtain ⟨s2, r2, hc2⟩ := HC4.out
      have hroom : (ivals (stayL js N U (ls.take k))).toArray.size < js.length := by
        have := (stayL_le (js := js) (N := N) (U := U) (ls := ls) k).1
        simp [ivals]; omega
      refine WpN.region (show RegN _ _ _ [0, 1, 2] _ _ from ?_)
      refine RegN.value (v := .chan (some (w.heap.size + 1))) rfl rfl rfl ?_
      refine RegN.value (v := .int .i64 q) rfl rfl rfl ?_
      refine RegN.send (v := .int .i64 q) (z := .tuple #[]) rfl rfl rfl hc2 hroom ?_
      rw [ivals_push, ← HGS.out.2]
      refine RegN.nil ?_
      obtain ⟨u3, hu3⟩ : ∃ u3, u3 = u2.setChan (w.heap.size + 1) js.length (ivals (stayL js N U (ls.take (k + 1)))).toArray false (s2 + 1) r2 false := ⟨_, rfl⟩
      have HO1 : Hid (Only (fun k => k = w.heap.size + 1) u2 u3) := Lib.hid (by rw [hu3]; exact (Only.refl (fun k => k = w.heap.size + 1) u2).setChan (fun _ => rfl) _ _ _ _ _)
      have HC8 : Hid (ChanC u3 (w.heap.size + 1) js.length (stayL js N U (ls.take (k + 1))) false) := Lib.hid ⟨s2 + 1, r2, by rw [hu3]; exact heap_setChan _ _ _ _ _ _ _ _ HC4.out.lt⟩
      rw [← hu3]
      have HC7 : Hid (ChanC u3 c js.length (ls.drop (k + 1)) true) := Lib.hid (HC3.out.only HO1.out (by omega))
      have HN5 : Hid (OwnD (w.heap.size + 2) u3 v6 (goL js N U (ls.take (k + 1)))) := Lib.hid (by rw [HGS.out.1]; exact owO HR2.out HO1.out (fun j hj h => own_chan HR2.out HC4.out j hj h))
      have HB5 : Hid (Only (fun k => k = c) w u3) := Lib.hid (HB2.out.next HO1.out (fun j hj h => by omega))
      have d0 := HO1.out.cell d0 (by simp only; omega)
      have d1 := HO1.out.cell d1 (by simp only; omega)
      have d2 := HO1.out.cell d2 (by simp only; omega)
      have hsz5 : w.heap.size + 2 ≤ u3.heap.size := Nat.le_trans hsz2 HO1.out.size
      exact ⟨n - 1, by omega, k + 1, _, _, _, _, _, _, _, _, _, _, _, _, _, _, by omega, rfl, HC7, HC8, HN5, HB5, ⟨d0, d1, d2⟩, hsz5⟩
  · obtain rfl : k = ls.length := by omega
    have hl1 := (stayL_le (js := js) (N := N) (U := U) (ls := ls) ls.length).2.2
    have HTK := Lib.hid (List.take_length (l := ls))
    rw [HTK.out] at hch2 hrow hl1
    rw [List.drop_length] at hch
    obtain ⟨s, r, hc⟩ := hch.out
    have hc' : u.heap[c]? = some (.chan js.length #[] true s r false) := hc
    refine WpN.seq (fun K3 hK3 => WpN.region (show RegN _ _ _ [0, 1] _ _ from ?_))
    refine RegN.shut (ok := true) (c := c) (z := .int .i64 0) rfl rfl (by simp [go_sem, rcase, execOp]) hc' ?_
    rw [show got true (.int .i64 0) false = .tuple #[.int .i64 0, .bool false] from rfl]
    refine RegN.value (v := .bool false) rfl rfl rfl ?_
    refine RegN.nil ?_
    refine hK3 _ _ ?_
    clear hK3 hc hc'
    refine WpN.seq' (fun K3 hK3 => ?_)
    go_wp2_with fail
    obtain ⟨s2, r2, hc2⟩ := hch2.out
    have hcl0 := fun ats ty => run_close_open (P := Try.prog) (w := u) ats ty hc2
    obtain ⟨u3, hu3⟩ : ∃ u3, u3 = u.setChan (w.heap.size + 1) js.length (ivals (stayL js N U ls)).toArray true s2 r2 false := ⟨_, rfl⟩
    have hcl : ∀ ats ty, Sem.run Try.prog (Builtin.close_ ats ty #[.chan (some (w.heap.size + 1))]) u = .ok (.tuple #[]) u3 := fun ats ty => by rw [hu3]; exact hcl0 ats ty
    clear hcl0
    have HO1 : Hid (Only (fun k => k = w.heap.size + 1) u u3) := Lib.hid (by rw [hu3]; exact (Only.refl (fun k => k = w.heap.size + 1) u).setChan (fun _ => rfl) _ _ _ _ _)
    have HC8 : Hid (ChanC u3 (w.heap.size + 1) js.length (stayL js N U ls) true) := Lib.hid ⟨s2, r2, by rw [hu3]; exact heap_setChan _ _ _ _ _ _ _ _ hch2.out.lt⟩
    have HR3 : Hid (OwnD (w.heap.size + 2) u3 v6 (goL js N U ls)) := Lib.hid (owO hrow.out HO1.out (fun j hj h => own_chan hrow.out hch2.out j hj h))
    have HB5 : Hid (Only (fun k => k = c) w u3) := Lib.hid (hbel.out.next HO1.out (fun j hj h => by omega))
    have d0 := HO1.out.cell d0 (by simp only; omega)
    have d1 := HO1.out.cell d1 (by simp only; omega)
    have d2 := HO1.out.cell d2 (by simp only; omega)
    have hsz5 : w.heap.size + 2 ≤ u3.heap.size := Nat.le_trans hsz HO1.out.size
    have hcw2 : g ≠ w.heap.size + 1 := by omega
    clear hu3 HO1 hch hch2 hrow hbel hc2 hsz
    refine WpN.seq' (fun K3 hK3 => ?_)
    go_wp2_with fail
    refine WpN.seq' (fun K3 hK3 => ?_)
    go_wp2_with fail
    have hI := HR3.out.row (by omega)
    have RB3 := RB.out.only HB5.out (fun j h1 h2 => by omega) (by omega)
    have HIG := Lib.hid (fun o (h : o ∈ goL js N U ls) => HLS.out o (List.mem_filter.1 h).1)
    refine (args_eqL (ImplSew_any _ js N (.slice ab (N + js.length) cb) g U _ _ v6 (goL js N U ls) u3 hN hlM RB3 (by omega) hI (Nat.le_refl _) (.inl (by omega)) HIG.out) (by with_reducible rfl)).mono ?_
    rintro e u4 ⟨rfl, hin4, ho4⟩
    have HR4 : Hid (OwnD w.heap.size u4 v6 (goL js N U ls)) := Lib.hid (OwnD.base (owO HR3.out ho4 (fun j hj h => by have := ogL HR3.out j hj; omega)) (by omega))
    have HC9 : Hid (ChanC u4 (w.heap.size + 1) js.length (stayL js N U ls) true) := Lib.hid (HC8.out.only ho4 (by omega))
    have HIN := Lib.hid hin4
    have HB6 : Hid (Only (fun k => k = c ∨ k = g) w u4) := Lib.hid ((HB5.out.mono (fun j _ h => .inl h)).trans (ho4.mono (fun j _ h => .inr h)))
    clear hin4 ho4 HR3 HC8 HB5 RB3 hI
    go_wp2_with fail
    refine WpN.of_wp ?_
    clear hK3
    go_wp2_with fail
    refine bodyPost_ret (v := .tuple #[v6, .chan (some (w.heap.size + 1))]) (by simp [results, Try.results40, go_sem]) rfl ⟨_, _, rfl, HR4.out, by omega, HC9.out, HIN.out, HB6.out⟩
end Go.Proofs.Ytlkiacgpiodkiaa

set_option linter.unusedSimpArgs false
set_option linter.unusedVariables false
namespace Go.Proofs.Ytlkiacgpiodkiaa
open Go.ChangeShapes Go.WideShapes Go.ChangeAt Go.RowKit

abbrev vat (vs : List Value) (i : Nat) : Value := vs.getD i undef
abbrev lat (L : List (List Int)) (i : Nat) : List Int := L.getD i []
/-- A row of rows: each in a block of its own. -/
def RowII (lo hi : Nat) (w : World) (v : Value) (L : List (List Int)) : Prop :=
  L.length ≤ 1048576 ∧ ((L = [] ∧ ∃ a c, v = .slice a 0 c) ∨
    ∃ (G cap : Nat) (vs : List Value) (gs : Nat → Nat), v = .slice (some ⟨G, 0, none⟩) L.length cap ∧ lo ≤ G ∧ G < hi ∧ vs.length = L.length ∧
      (∀ i, i < L.length → w.cell? ⟨G, i, none⟩ = some (vat vs i)) ∧
      (∀ i, i < L.length → IntIn (gs i) (gs i + 1) w (vat vs i) (lat L i) ∧ (lat L i ≠ [] → lo ≤ gs i ∧ gs i < hi ∧ gs i ≠ G)) ∧
      ∀ i k, i < k → k < L.length → lat L i ≠ [] → lat L k ≠ [] → gs i ≠ gs k)
theorem IntIn.none {lo hi lo' hi' : Nat} {w w' : World} {v : Value} {zs : List Int} (h : IntIn lo hi w v zs) (he : zs = []) : IntIn lo' hi' w' v zs := by
  obtain ⟨hl, h | ⟨g, cap, hv, _⟩⟩ := h
  · exact ⟨hl, .inl h⟩
  · subst he; exact ⟨hl, .inl ⟨rfl, _, _, hv⟩⟩
theorem RowII.only {S : Nat → Prop} {lo hi : Nat} {u w : World} {v : Value} {L : List (List Int)} (h : RowII lo hi u v L) (k : Only S u w) (hn : ∀ i, lo ≤ i → i < hi → ¬ S i) (hh : hi ≤ u.heap.size) : RowII lo hi w v L := by
  obtain ⟨hl, h | ⟨G, cap, vs, gs, hv, h1, h2, h3, h4, h5, h6⟩⟩ := h
  · exact ⟨hl, .inl h⟩
  · refine ⟨hl, .inr ⟨G, cap, vs, gs, hv, h1, h2, h3, fun i hi => k.cell (h4 i hi) (hn G h1 h2), fun i hi => ?_, h6⟩⟩
    obtain ⟨h7, h8⟩ := h5 i hi
    refine ⟨?_, h8⟩
    by_cases e : lat L i = []
    · exact h7.none e
    · obtain ⟨h9, h10, _⟩ := h8 e
      exact h7.only k (fun j j0 j1 => hn j (by omega) (by omega)) (by omega)
theorem RowII.below {lo hi : Nat} {u w : World} {v : Value} {L : List (List Int)} (h : RowII lo hi u v L) (hb : Below hi u w) (hh : hi ≤ u.heap.size) : RowII lo hi w v L :=
  h.only (S := fun k => hi ≤ k) ⟨hb.os, hb.tape, hb.output, hb.size, fun k hk hn => hb.block k (by omega)⟩ (fun i _ h1 h2 => by omega) hh
theorem RowII.wide {lo hi lo' hi' : Nat} {w : World} {v : Value} {L : List (List Int)} (h : RowII lo hi w v L) (h1 : lo' ≤ lo) (h2 : hi ≤ hi') : RowII lo' hi' w v L := by
  obtain ⟨hl, h | ⟨G, cap, vs, gs, hv, g1, g2, g3, g4, g5, g6⟩⟩ := h
  · exact ⟨hl, .inl h⟩
  · exact ⟨hl, .inr ⟨G, cap, vs, gs, hv, by omega, by omega, g3, g4, fun i hi => ⟨(g5 i hi).1, fun e => by have := (g5 i hi).2 e; omega⟩, g6⟩⟩
theorem RowII.form {lo hi : Nat} {w : World} {v : Value} {L : List (List Int)} (h : RowII lo hi w v L) : ∃ a cap, v = .slice a L.length cap := by
  obtain ⟨_, ⟨rfl, a, c, hv⟩ | ⟨G, cap, vs, gs, hv, _⟩⟩ := h
  · exact ⟨a, c, hv⟩
  · exact ⟨_, _, hv⟩
/-- A row of it is read. -/
theorem RowII.at {lo hi : Nat} {w : World} {a : Option Addr} {n cap : Nat} {L : List (List Int)} (h : RowII lo hi w (.slice a n cap) L) {i : Nat} (hi' : i < L.length) :
    ∃ G b c, a = some ⟨G, 0, none⟩ ∧ lo ≤ G ∧ G < hi ∧ w.cell? ⟨G, i, none⟩ = some (.slice b (lat L i).length c) ∧ IntIn lo hi w (.slice b (lat L i).length c) (lat L i) := by
  obtain ⟨_, ⟨rfl, _⟩ | ⟨G, cap', vs, gs, hv, g1, g2, g3, g4, g5, g6⟩⟩ := h
  · simp at hi'
  · obtain ⟨h5, h6⟩ := g5 i hi'
    obtain ⟨b, c, hb⟩ := h5.form
    have h4 := g4 i hi'
    rw [hb] at h4 h5
    simp only [Value.slice.injEq] at hv
    refine ⟨G, b, c, hv.1, g1, g2, h4, ?_⟩
    by_cases e : lat L i = []
    · exact h5.none e
    · obtain ⟨e1, e2, _⟩ := h6 e
      exact h5.wide (by omega) (by omega)
/-- A row of it is written. -/
theorem RowII.put {lo hi : Nat} {w : World} {a : Option Addr} {n cap : Nat} {L : List (List Int)} (h : RowII lo hi w (.slice a n cap) L) (hh : hi ≤ w.heap.size) {i : Nat} (hi' : i < L.length) :
    ∃ G b c g, a = some ⟨G, 0, none⟩ ∧ w.cell? ⟨G, i, none⟩ = some (.slice b (lat L i).length c) ∧ IntIn g (g + 1) w (.slice b (lat L i).length c) (lat L i) ∧
      ∀ w' ys, ys.length = (lat L i).length → IntIn g (g + 1) w' (.slice b (lat L i).length c) ys → Within g (g + 1) w w' → RowII lo hi w' (.slice a n cap) (L.set i ys) ∧ Within lo hi w w' := by
  obtain ⟨hl, ⟨rfl, _⟩ | ⟨G, cap', vs, gs, hv, g1, g2, g3, g4, g5, g6⟩⟩ := h
  · simp at hi'
  · obtain ⟨h5, h6⟩ := g5 i hi'
    obtain ⟨b, c, hb⟩ := h5.form
    have h4 := g4 i hi'
    rw [hb] at h4 h5
    have hv' := hv
    simp only [Value.slice.injEq] at hv
    have hset : ∀ (ys : List Int) k, k < L.length → lat (L.set i ys) k = if k = i then ys else lat L k := by
      intro ys k hk
      unfold lat
      rw [List.getD_eq_getElem?_getD, List.getElem?_set]
      by_cases e : i = k
      · subst e; simp [hk]
      · simp [e, Ne.symm e]
    by_cases e : lat L i = []
    · refine ⟨G, b, c, w.heap.size, hv.1, h4, h5.none e, fun w' ys hy hin hw => ?_⟩
      have hy0 : ys = [] := by rw [e] at hy; simpa using hy
      have hB : Below w.heap.size w w' := hw.below (Nat.le_refl _)
      have hs : L.set i ys = L := by
        rw [hy0, ← e]
        apply List.ext_getElem?
        intro k
        rw [List.getElem?_set]
        split
        · rename_i ek; subst ek; simp [lat, List.getD_eq_getElem?_getD, hi']
        · rfl
      rw [hs]
      exact ⟨RowII.below (h := ⟨hl, .inr ⟨G, cap', vs, gs, hv', g1, g2, g3, g4, g5, g6⟩⟩) (hb := hB.mono hh) (hh := hh), Within.of_below hB⟩
    · obtain ⟨e1, e2, e3⟩ := h6 e
      refine ⟨G, b, c, gs i, hv.1, h4, h5, fun w' ys hy hin hw => ⟨⟨by simpa using hl, .inr ⟨G, cap', vs, gs, by rw [List.length_set]; exact hv', g1, g2, by rw [List.length_set]; exact g3, ?_, ?_, ?_⟩⟩, ?_⟩⟩
      · intro k hk
        rw [List.length_set] at hk
        exact hw.cell (g4 k hk) (by simp only; omega)
      · intro k hk
        rw [List.length_set] at hk
        rw [hset ys k hk]
        by_cases ek : k = i
        · subst ek
          rw [if_pos rfl]
          exact ⟨by rw [hb]; exact hin, fun _ => ⟨e1, e2, e3⟩⟩
        · rw [if_neg ek]
          obtain ⟨h7, h8⟩ := g5 k hk
          refine ⟨?_, h8⟩
          by_cases e4 : lat L k = []
          · exact h7.none e4
          · have h9 : gs k ≠ gs i := by
              rcases Nat.lt_or_gt_of_ne ek with h | h
              · exact g6 k i h hi' e4 e
              · exact fun e => g6 i k h hk (by assumption) e4 e.symm
            have := h8 e4
            exact h7.within hw (by omega) (by omega)
      · intro k m hkm hm
        rw [List.length_set] at hm
        rw [hset ys k (by omega), hset ys m hm]
        have hy0 : ys ≠ [] := fun h => by rw [h] at hy; exact e (List.length_eq_zero_iff.1 hy.symm)
        by_cases ek : k = i
        · subst ek
          rw [if_pos rfl, if_neg (by omega)]
          exact fun _ h => g6 k m hkm hm e h
        · rw [if_neg ek]
          by_cases em : m = i
          · subst em
            rw [if_pos rfl]
            exact fun h _ => g6 k m hkm hm h e
          · rw [if_neg em]; exact g6 k m hkm hm
      · exact ⟨hw.os, hw.tape, hw.output, hw.size, fun k hk ho => hw.block k hk (by omega)⟩

/-- A row of rows that are all owned. -/
def DisV (u v : Value) : Prop := ∀ g, u.ownBlock = some g → v.ownBlock ≠ some g
theorem DisV.symm {u v : Value} (h : DisV u v) : DisV v u := fun g h1 h2 => h g h2 h1
def OwnII (b : Nat) (w : World) (v : Value) (L : List (List Int)) : Prop :=
  ∃ vs : List Value, vs.length = L.length ∧ w.ownsRow b 28 1 v L.length vs ∧ (∀ i, i < L.length → OwnD b w (vat vs i) (lat L i)) ∧ (∀ i, i < L.length → DisV (vat vs i) v) ∧
    ∀ i k, i < k → k < L.length → DisV (vat vs i) (vat vs k)
theorem OwnII.row {b : Nat} {w : World} {v : Value} {L : List (List Int)} (h : OwnII b w v L) (hl : L.length ≤ 1048576) (hs : ∀ i, i < L.length → (lat L i).length ≤ 1048576) : RowII b w.heap.size w v L := by
  obtain ⟨vs, h1, h2, h3, h4, h5⟩ := h
  refine ⟨hl, ?_⟩
  have h20 := h2
  obtain ⟨_, ⟨hv, he⟩ | ⟨G, cap, cur, hv, hg, hh, _⟩⟩ := h2
  · exact .inl ⟨List.length_eq_zero_iff.1 he, none, 0, hv⟩
  · subst hv
    refine .inr ⟨G, cap, vs, fun i => ((vat vs i).ownBlock).getD 0, rfl, hg, lt_of_heapB hh, h1, fun i hi => ?_, fun i hi => ?_, fun i k hik hk ei ek => ?_⟩
    · rw [h20.cellAt i (by omega)]; simp [vat, List.getD_eq_getElem?_getD, h1, hi]
    · have h6 := (h3 i hi).row (hs i hi)
      obtain ⟨hl6, h6 | ⟨g, c, hv, hg6, hlt, hc⟩⟩ := h6
      · exact ⟨⟨hl6, .inl h6⟩, fun e => absurd h6.1 e⟩
      · have hob : (vat vs i).ownBlock = some g := by rw [hv]; rfl
        have hob' : ((vat vs i).ownBlock).getD 0 = g := by rw [hob]; rfl
        simp only [hob']
        refine ⟨⟨hl6, .inr ⟨g, c, hv, Nat.le_refl _, Nat.lt_succ_self _, hc⟩⟩, fun _ => ⟨hg6, hlt, fun e => ?_⟩⟩
        exact h4 i hi g hob (by rw [e]; rfl)
    · have hi6 := (h3 i (by omega)).row (hs i (by omega))
      have hk6 := (h3 k hk).row (hs k hk)
      obtain ⟨_, h6 | ⟨g, c, hv, _⟩⟩ := hi6
      · exact absurd h6.1 ei
      · obtain ⟨_, h7 | ⟨g', c', hv', _⟩⟩ := hk6
        · exact absurd h7.1 ek
        · have hob : (vat vs i).ownBlock = some g := by rw [hv]; rfl
          have hob' : (vat vs k).ownBlock = some g' := by rw [hv']; rfl
          simp only [hob, hob', Option.getD_some]
          intro e
          exact h5 i k hik hk g hob (by rw [hob', e])
theorem OwnII.nil (b : Nat) (w : World) : OwnII b w (.slice none 0 0) [] := ⟨[], rfl, ⟨by simp, .inl ⟨rfl, rfl⟩⟩, fun i hi => by simp at hi, fun i hi => by simp at hi, fun i k h hk => by simp at hk⟩
/-- The blocks of the row are kept. -/
theorem OwnII.only {S : Nat → Prop} {b : Nat} {u w : World} {v : Value} {L : List (List Int)} (h : OwnII b u v L) (k : Only S u w) (hn : ∀ i, b ≤ i → i < u.heap.size → ¬ S i) : OwnII b w v L := by
  obtain ⟨vs, h1, h2, h3, h4, h5⟩ := h
  have hob : ∀ {e size n : Nat} {v : Value} {xs : List Value}, u.ownsRow b e size v n xs → ∀ g, v.ownBlock = some g → b ≤ g ∧ g < u.heap.size := by
    intro e size n v xs h g hg
    obtain ⟨_, ⟨hv, _⟩ | ⟨g', cap, cur, hv, hb, hh, _⟩⟩ := h
    · rw [hv] at hg; cases hg
    · rw [hv] at hg
      simp only [Value.ownBlock, Option.some.injEq] at hg
      subst hg
      exact ⟨hb, lt_of_heapB hh⟩
  exact ⟨vs, h1, owO h2 k fun g hg => hn g (hob h2 g hg).1 (hob h2 g hg).2, fun i hi => owO (h3 i hi) k fun g hg => hn g (hob (h3 i hi) g hg).1 (hob (h3 i hi) g hg).2, h4, h5⟩
theorem OwnII.below {b : Nat} {u w : World} {v : Value} {L : List (List Int)} (h : OwnII b u v L) (k : Below u.heap.size u w) : OwnII b w v L :=
  h.only (S := fun k => u.heap.size ≤ k) ⟨k.os, k.tape, k.output, k.size, fun i hi _ => k.block i hi⟩ fun i _ h1 h2 => by omega
end Go.Proofs.Ytlkiacgpiodkiaa
