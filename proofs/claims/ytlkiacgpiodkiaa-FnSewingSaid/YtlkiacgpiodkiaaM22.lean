/- Joins: a row appended to a row that is owned, whether it is empty or not; rows of joins that are owned. Cuts: what the exported functions answer. -/
import Derived.Test.YtlkiacgpiodkiaaM01
import Derived.Test.YtlkiacgpiodkiaaM02
import Derived.Test.YtlkiacgpiodkiaaM10
import Derived.Deep.AppendLies
import Derived.ArgAppend
import Derived.Test.YtlkiacgpiodkiaaM09
import Derived.Test.YtlkiacgpiodkiaaM13
import Derived.Test.YtlkiacgpiodkiaaM05

set_option linter.unusedSimpArgs false
set_option linter.unusedVariables false
namespace Go.Proofs.Ytlkiacgpiodkiaa
open Go.ChangeShapes Go.WideShapes Go.ChangeAt Go.RowKit

section
variable {P : Program}
theorem run_append_zero (w : World) (t ty e : TypeId) (i : TypeInfo) (ht : P.underlying t = some (.slice e)) (hi : P.info? e = some i) (b : Option Addr) (n cap : Nat) (h : n ≤ cap) (a : Option Addr) (c : Nat) :
    (Builtin.append_ #[t, t] ty #[.slice b n cap, .slice a 0 c]).run P w = .ok (.slice b n cap) w := by
  have hst : ∀ x : Addr, (storeCells x ([] : List Value)).run P w = .ok () w := fun x => rfl
  cases a with
  | none => cases b <;> simp [Builtin.append_, run_underlying ht, sizeOf, typeInfo, hi, Builtin.lenOf, h, Builtin.firstCells, hst]
  | some x =>
    have hfc := run_firstCells_some (P := P) w i.size 0 x 0 c [] (by simp) (by simp)
    cases b <;> simp [Builtin.append_, run_underlying ht, sizeOf, typeInfo, hi, Builtin.lenOf, h, hfc, hst]
/-- What is to be appended: nothing, or cells that are read. -/
def RowOf (w : World) (vx : Value) (m : Nat) (news : List Value) : Prop := (m = 0 ∧ ∃ a c, vx = .slice a 0 c) ∨ ∃ ad c, vx = .slice (some ad) m c ∧ ∀ j u, news[j]? = some u → w.cell? (ad.add j) = some u
theorem wp_append_row {w : World} {o : Oper} {a : Act} {K : Act → World → Prop} {Q : Exit → Act → World → Prop} (s x : Operand) (t : TypeId)
    (ho : o.op = .call { callee := .builtin .append, args := #[s, x], argTypes := #[t, t] })
    (base : Nat) (e : TypeId) (i : TypeInfo) (z : Value) (size bytes : Nat) (ht : P.underlying t = some (.slice e)) (hi : P.info? e = some i) (hz : i.zero = some z)
    (hsize : i.size = size) (hby : i.bytes = bytes) (hzs : z.cells.size = size) (hsz : 0 < size)
    (v : Value) (n : Nat) (xs : List Value) (hs : a.eval s = v) (hown : w.ownsRow base e size v n xs)
    (vx : Value) (m : Nat) (news : List Value) (hx : a.eval x = vx) (hl : news.length = m * size) (hrow : RowOf w vx m news) (h1 : ∀ u ∈ news, u.oneCell' = true)
    (h63 : n + m ≤ maxLen) (hbytes : (n + m) * bytes ≤ 140737488355328) (hbase : base ≤ w.heap.size) (H : Nat) (hH : w.heap.size = H)
    (h : ∀ v' w', w'.ownsRow base e size v' (n + m) (xs ++ news) → w.grownBy w' v.ownBlock → (∀ g, v'.ownBlock = some g → v.ownBlock = some g ∨ g = H) → K (a.put o.dst v') w') : o.wp P a w K Q := by
  rcases Nat.eq_zero_or_pos m with hm | hm
  · subst hm
    have hn : news = [] := List.length_eq_zero_iff.1 (by simpa using hl)
    subst hn
    obtain ⟨a', c', rfl⟩ : ∃ a c, vx = .slice a 0 c := by
      rcases hrow with ⟨_, h⟩ | ⟨ad, c, h, _⟩
      · exact h
      · exact ⟨_, _, h⟩
    obtain ⟨b, cap, hv, hc⟩ : ∃ b cap, v = .slice b n cap ∧ n ≤ cap := by
      obtain ⟨_, ⟨h1, h2⟩ | ⟨g, cap, cur, hv, _, _, hcp, _⟩⟩ := hown
      · subst h2; exact ⟨_, _, h1, Nat.le_refl _⟩
      · exact ⟨_, _, hv, hcp⟩
    have hr := run_append_zero (P := P) w t o.type e i ht hi b n cap hc a' c'
    unfold Oper.wp execOp
    simp only [ho, resolve, invoke, builtin, Sem.run_bind, Sem.run_pure, Result.andThen_ok, List.map_toArray, List.map_cons, List.map_nil, hs, hx, hv, hr]
    rw [← hv]
    exact h v w (by simpa using hown) ⟨rfl, rfl, rfl, Nat.le_refl _, fun _ _ _ => rfl⟩ (fun g hg => .inl hg)
  · obtain ⟨ad, c, rfl, hnews⟩ : ∃ ad c, vx = .slice (some ad) m c ∧ ∀ j u, news[j]? = some u → w.cell? (ad.add j) = some u := by
      rcases hrow with ⟨h, _⟩ | h
      · omega
      · exact h
    refine wp_append_lies w s x t ho base e i z size bytes ht hi hz hsize hby hzs hsz v n xs hs hown ad m c news hx hl hnews h1 hm h63 hbytes hbase H hH ?_
    intro g cap w' h2 h3 h4 h5
    exact h _ w' h2 h3 (fun g' hg => by simp only [Value.ownBlock, Option.some.injEq] at hg; subst hg; exact h4)
theorem wpList_append_row {w : World} {ops : Array Oper} {rest : List Oper} {o : Oper} {a : Act} {Q : Exit → Act → World → Prop} (hgd : o.guard = none) (s x : Operand) (t : TypeId)
    (ho : o.op = .call { callee := .builtin .append, args := #[s, x], argTypes := #[t, t] })
    (base : Nat) (e : TypeId) (i : TypeInfo) (z : Value) (size bytes : Nat) (ht : P.underlying t = some (.slice e)) (hi : P.info? e = some i) (hz : i.zero = some z)
    (hsize : i.size = size) (hby : i.bytes = bytes) (hzs : z.cells.size = size) (hsz : 0 < size)
    (v : Value) (n : Nat) (xs : List Value) (hs : a.eval s = v) (hown : w.ownsRow base e size v n xs)
    (vx : Value) (m : Nat) (news : List Value) (hx : a.eval x = vx) (hl : news.length = m * size) (hrow : RowOf w vx m news) (h1 : ∀ u ∈ news, u.oneCell' = true)
    (h63 : n + m ≤ maxLen) (hbytes : (n + m) * bytes ≤ 140737488355328) (hbase : base ≤ w.heap.size) (H : Nat) (hH : w.heap.size = H)
    (h : ∀ v' w', w'.ownsRow base e size v' (n + m) (xs ++ news) → w.grownBy w' v.ownBlock → (∀ g, v'.ownBlock = some g → v.ownBlock = some g ∨ g = H) → wpList P ops Q rest (a.put o.dst v') w') : wpList P ops Q (o :: rest) a w :=
  wpList_plain hgd fun _ hK => wp_append_row s x t ho base e i z size bytes ht hi hz hsize hby hzs hsz v n xs hs hown vx m news hx hl hrow h1 h63 hbytes hbase H hH fun v' w' h2 h3 h4 => hK _ _ (h v' w' h2 h3 h4)
end

theorem oneJn (js : List J3) : ∀ u ∈ placesJn js, u.oneCell' = true := by
  intro u hu
  simp only [placesJn, List.mem_flatMap] at hu
  obtain ⟨c, _, hc⟩ := hu
  simp only [List.mem_cons, List.not_mem_nil, or_false] at hc
  rcases hc with rfl | rfl | rfl <;> rfl
theorem JnIn.rowOf {lo hi : Nat} {w w' : World} {v : Value} {js : List J3} (h : JnIn lo hi w v js) (hb : Below hi w w') : RowOf w' v js.length (placesJn js) := by
  obtain ⟨_, ⟨rfl, a, c, hv⟩ | ⟨g, cap, hv, hcp, hg, hlt, hc⟩⟩ := h
  · exact .inl ⟨rfl, a, c, hv⟩
  · refine .inr ⟨_, _, hv, fun j u hu => ?_⟩
    have hj : j < js.length * 3 := by
      rcases Nat.lt_or_ge j (js.length * 3) with h | h
      · exact h
      · rw [List.getElem?_eq_none (by rw [placesJn_length]; exact h)] at hu; cases hu
    have ad : (⟨g, 0, none⟩ : Addr).add j = ⟨g, j, none⟩ := by cases j <;> simp [Addr.add]
    rw [ad]
    obtain ⟨k, hk⟩ : ∃ k, j = k * 3 ∨ j = k * 3 + 1 ∨ j = k * 3 + 2 := ⟨j / 3, by omega⟩
    have hkn : k < js.length := by omega
    obtain ⟨p0, p1, p2⟩ := placesJn_at js k hkn
    obtain ⟨e0, e1, e2⟩ := (hc k hkn).1.below hb hlt
    rcases hk with rfl | rfl | rfl
    · rw [e0, ← hu, p0]
    · rw [e1, ← hu, p1]
    · rw [e2, ← hu, p2]
/-- A row of joins that is owned. -/
def OwnJ (b : Nat) (w : World) (v : Value) (js : List J3) : Prop := w.ownsRow b 34 3 v js.length (placesJn js)
theorem OwnJ.nil (b : Nat) (w : World) : OwnJ b w (.slice none 0 0) [] := World.ownsRow_nil _ _ _ _
theorem OwnJ.row {b : Nat} {w : World} {v : Value} {js : List J3} (h : OwnJ b w v js) (hl : js.length ≤ 1048576) : JnIn b w.heap.size w v js := JnIn.of_owns h hl
theorem OwnJ.below {b : Nat} {w w' : World} {v : Value} {js : List J3} (h : OwnJ b w v js) (hb : Below w.heap.size w w') : OwnJ b w' v js := owL h hb
theorem OwnJ.both {b n : Nat} {w : World} {v : Value} {js ks : List J3} (h : w.ownsRow b 34 3 v n (placesJn js ++ placesJn ks)) : OwnJ b w v (js ++ ks) := by
  have h1 := h.1
  simp [placesJn_length] at h1
  unfold OwnJ
  rw [placesJn_append, show (js ++ ks).length = n by simp; omega]
  exact h
theorem OwnJ.one (up : Bool) (a b : Int) : ([.bool up, .int .i64 a, .int .i64 b] : List Value) = placesJn [⟨up, a, b⟩] := rfl
theorem OwnJ.wide {b b' : Nat} {w : World} {v : Value} {js : List J3} (h : OwnJ b w v js) (hb : b' ≤ b) : OwnJ b' w v js := by
  obtain ⟨h1, h2 | ⟨g, cap, cur, hv, hg, r⟩⟩ := h
  · exact ⟨h1, .inl h2⟩
  · exact ⟨h1, .inr ⟨g, cap, cur, hv, Nat.le_trans hb hg, r⟩⟩

end Go.Proofs.Ytlkiacgpiodkiaa

set_option linter.unusedSimpArgs false
set_option linter.unusedVariables false
namespace Go.Proofs.Ytlkiacgpiodkiaa
open Go.ChangeShapes Go.WideShapes Go.ChangeAt Go.RowKit

noncomputable def sM1 (m n : Int) (xs : List P5) (c : C2) : Int := if cutB m n xs c then pM1 m c else 0
noncomputable def sN1 (m n : Int) (xs : List P5) (c : C2) : Int := if cutB m n xs c then pN1 n c else 0
noncomputable def sL1 (m n : Int) (xs : List P5) (c : C2) : List P5 := if cutB m n xs c then pL1 m n c xs else []
noncomputable def sM2 (m n : Int) (xs : List P5) (c : C2) : Int := if cutB m n xs c then pM2 m c else 0
noncomputable def sN2 (m n : Int) (xs : List P5) (c : C2) : Int := if cutB m n xs c then pN2 n c else 0
noncomputable def sL2 (m n : Int) (xs : List P5) (c : C2) : List P5 := if cutB m n xs c then pL2 m n c xs else []
variable {m n : Int} {xs : List P5} {c : C2}
theorem s_no (h : cutB m n xs c = false) : sM1 m n xs c = 0 ∧ sN1 m n xs c = 0 ∧ sL1 m n xs c = [] ∧ sM2 m n xs c = 0 ∧ sN2 m n xs c = 0 ∧ sL2 m n xs c = [] := by simp [sM1, sN1, sL1, sM2, sN2, sL2, h]
theorem s_yes (h : cutB m n xs c = true) : sM1 m n xs c = pM1 m c ∧ sN1 m n xs c = pN1 n c ∧ sL1 m n xs c = pL1 m n c xs ∧ sM2 m n xs c = pM2 m c ∧ sN2 m n xs c = pN2 n c ∧ sL2 m n xs c = pL2 m n c xs := by simp [sM1, sN1, sL1, sM2, sN2, sL2, h]
theorem cut_of (h : cutB m n xs c = true) : LayOk m n xs ∧ hasC m n xs c = true := by
  simp only [cutB, Bool.and_eq_true] at h
  exact ⟨lay_of h.1, h.2⟩
/-- Two layouts are handed back. -/
def SplitLV (A1 B1 : Int) (L1 : List P5) (A2 B2 : Int) (L2 : List P5) (ok : Bool) (w : World) (e : Ending) (w' : World) : Prop :=
  ∃ v1 v2 k, e = .returned (.tuple #[.agg #[.int .i64 A1, .int .i64 B1, v1], .agg #[.int .i64 A2, .int .i64 B2, v2], .bool ok]) ∧
    PatIn w.heap.size k w' v1 L1 ∧ PatIn k w'.heap.size w' v2 L2 ∧ w.heap.size ≤ k ∧ k ≤ w'.heap.size ∧ Below w.heap.size w w'
/-- A layout is handed back, or none. -/
def KnotW (M N : Int) (X : List P5) (ok : Bool) (w : World) (e : Ending) (w' : World) : Prop :=
  ∃ v, e = .returned (.tuple #[.agg #[.int .i64 M, .int .i64 N, v], .bool ok]) ∧ PatIn w.heap.size w'.heap.size w' v X ∧ Below w.heap.size w w'
theorem restr_all (h : LayOk m n xs) : restr 0 0 m n xs = xs := by
  rw [restr_eq, List.filter_eq_self.2 (fun p hp => by rw [mv_zero]; simp [fitB, h.mem hp])]
  rw [show mv 0 0 = id from funext mv_zero, List.map_id]
theorem seams_no (h : sewB m n xs = false) : -1 = seamsB m n xs := by simp [seamsB, h]
theorem seams_yes (h : sewB m n xs = true) : (xs.length : Int) - 1 = seamsB m n xs := by simp [seamsB, h]
theorem sew_layB (h : sewB m n xs = true) : layB m n xs = true := by
  simp only [sewB, Bool.and_eq_true] at h; exact h.1

end Go.Proofs.Ytlkiacgpiodkiaa
