/- Cuts: two layouts that are handed back, in boxes of their own. -/
import Derived.Test.YtakjgnkkeefgbaaCutLw
import Derived.Test.YtakjgnkkeefgbaaCutIk
import Derived.Test.YtakjgnkkeefgbaaCutSd
import Derived.Test.YtakjgnkkeefgbaaCutSc
import Derived.Test.YtakjgnkkeefgbaaRegM
namespace Go.Proofs.Ytakjgnkkeefgbaa
open Go.ChangeShapes Go.WideShapes Go.ChangeAt Go.RowKit

def WWS (G : World) (M1 N1 M2 N2 : Int) (L1 L2 : List P5) (ok : Bool) (q t r : Value) (u : World) : Prop :=
  ∃ pA pB aA cA aB cB lo hi, q = .pointer (some ⟨pA, 0, none⟩) ∧ t = .pointer (some ⟨pB, 0, none⟩) ∧ r = .bool ok ∧ Hid (BoxL pA (.int .i64 M1) (.int .i64 N1) (.slice aA L1.length cA) u) ∧ Hid (BoxL pB (.int .i64 M2) (.int .i64 N2) (.slice aB L2.length cB) u) ∧
    Hid (PatIn lo hi u (.slice aA L1.length cA) L1) ∧ Hid (PatIn lo hi u (.slice aB L2.length cB) L2) ∧ G.heap.size ≤ lo ∧ hi ≤ u.heap.size ∧ G.heap.size ≤ pA ∧ G.heap.size ≤ pB ∧ Hid (Below G.heap.size G u)
def WWI (G : World) (M1 N1 M2 N2 : Int) (L1 L2 : List P5) (ok : Bool) (q t r : Value) (u : World) : Prop :=
  ∃ pA pB aA cA aB cB lo k hi, q = .pointer (some ⟨pA, 0, none⟩) ∧ t = .pointer (some ⟨pB, 0, none⟩) ∧ r = .bool ok ∧ Hid (BoxL pA (.int .i64 M1) (.int .i64 N1) (.slice aA L1.length cA) u) ∧ Hid (BoxL pB (.int .i64 M2) (.int .i64 N2) (.slice aB L2.length cB) u) ∧
    Hid (PatIn lo k u (.slice aA L1.length cA) L1) ∧ Hid (PatIn k hi u (.slice aB L2.length cB) L2) ∧ (G.heap.size ≤ lo ∧ lo ≤ k ∧ k ≤ hi ∧ hi ≤ u.heap.size) ∧ (pA < lo ∨ hi ≤ pA) ∧ (pB < lo ∨ hi ≤ pB) ∧ G.heap.size ≤ pA ∧ G.heap.size ≤ pB ∧ Hid (Below G.heap.size G u)
theorem MarkLayoutE (lo hi : Nat) (m n : Int) (v : Value) (xs : List P5) (k : Nat) (kk kz : Int) (w : World) (r : PatIn lo hi w v xs) (hhi : hi ≤ w.heap.size) (hk : k ≤ 100000000) (e : kk = k) (e2 : kz = ((k + 5 * xs.length : Nat) : Int)) :
    Calls Try.prog 29 #[.agg #[.int .i64 m, .int .i64 n, v], .int .i64 kk] w fun e w' => e = .returned (.int .i64 kz) ∧ PatIn lo hi w' v (markPat k xs.length) ∧ Within lo hi w w' := by
  rw [e2]; exact MarkLayoutK lo hi m n v xs k kk w r hhi hk e
theorem HeldLayoutE (lo hi : Nat) (m n : Int) (v : Value) (len k : Nat) (kk kz : Int) (w : World) (r : PatIn lo hi w v (markPat k len)) (hhi : hi ≤ w.heap.size) (hk : k ≤ 100000000) (e : kk = k) (e2 : kz = ((k + 5 * len : Nat) : Int)) :
    Calls Try.prog 33 #[.agg #[.int .i64 m, .int .i64 n, v], .int .i64 kk] w fun e w' => e = .returned (.int .i64 kz) ∧ Below w.heap.size w w' := by
  rw [e2]; exact HeldLayoutK lo hi m n v len k kk w r hhi hk e
section
variable {P : Program} {md : Region.Mode} {l : List Oper} {Q : Exit → Act → World → Prop} {S : World → Prop}
/-- reg_take, what is always proved alike left out. -/
theorem rt (i : Nat) {oi : Oper} {v : Value} {fuel : Nat} {listed : Array Bool} {a : Act} {w : World} (hi : l[i]? = some oi)
    (hy : ∀ w, S w → (execOp a.eval oi).run P w = .ok (.value v) w) (hS : S w)
    (h : wpAnyH P md l.toArray Q S fuel (listed.setIfInBounds i true) (a.put oi.dst v) w)
    (hs : Region.noSelect l.toArray = true := by kernel_rfl) (hf : Region.free md l.toArray listed i = true := by kernel_rfl) (hr : (Region.ready md l.toArray listed).contains i = true := by kernel_rfl)
    (hQ : ∀ c a w, Q (.panic c) (a.put oi.dst v) w → Q (.panic c) a w := by exact fun _ _ _ h => h) (hw : Region.wanted oi (yielded l.toArray a.tmps) = true := by rfl) : wpAnyH P md l.toArray Q S (fuel + 1) listed a w :=
  reg_take i hi hs hf hr hQ hw hy hS h
end
/-- A new box of noughts. -/
theorem zstep (U : World) : ∃ V, V = U.alloc (.cells #[.int .i64 0, .int .i64 0, .slice none 0 0] 26) ∧ Below U.heap.size U V ∧ BoxL U.heap.size (.int .i64 0) (.int .i64 0) (.slice none 0 0) V ∧ V.heap.size ≤ U.heap.size + 1 ∧ U.heap.size + 1 ≤ V.heap.size :=
  ⟨_, rfl, bel0 _ _, BoxL.new _ _ _ _ _, by simp, by simp⟩
theorem BoxL.far3e {p q : Nat} {x y z : Value} {u : World} (h : BoxL p x y z u) (hq : q ≠ p) (x0 x1 x2 : Value) : BoxL p x y z (set3 u q x0 x1 x2) := h.far3 hq
variable {G U : World} {pA pB lo hi lo' hi' k : Nat} {M1 N1 M2 N2 : Int} {L1 L2 : List P5} {aA aB : Option Addr} {cA cB : Nat} {ok : Bool} {z0 z1 z2 y0 y1 y2 : Value}
theorem wws_end (hA : BoxL pA z0 z1 z2 U) (hB : BoxL pB y0 y1 y2 U) (hAB : pA ≠ pB) (ra : PatIn lo hi U (.slice aA L1.length cA) L1) (rb : PatIn lo hi U (.slice aB L2.length cB) L2) (h1 : pA < lo ∨ hi ≤ pA) (h2 : pB < lo ∨ hi ≤ pB)
    (g1 : G.heap.size ≤ lo) (g2 : hi ≤ U.heap.size) (g3 : G.heap.size ≤ pA) (g4 : G.heap.size ≤ pB) (hb : Below G.heap.size G (set3 (set3 U pA (.int .i64 M1) (.int .i64 N1) (.slice aA L1.length cA)) pB (.int .i64 M2) (.int .i64 N2) (.slice aB L2.length cB))) :
    WWS G M1 N1 M2 N2 L1 L2 ok (.pointer (some ⟨pA, 0, none⟩)) (.pointer (some ⟨pB, 0, none⟩)) (.bool ok) (set3 (set3 U pA (.int .i64 M1) (.int .i64 N1) (.slice aA L1.length cA)) pB (.int .i64 M2) (.int .i64 N2) (.slice aB L2.length cB)) :=
  ⟨pA, pB, aA, cA, aB, cB, lo, hi, rfl, rfl, rfl, Lib.hid (hA.put3.far3 (Ne.symm hAB)), Lib.hid ((hB.far3 hAB).put3), Lib.hid (row3 (row3 ra (by omega) g2) (by omega) (by simpa [World.setCell] using g2)), Lib.hid (row3 (row3 rb (by omega) g2) (by omega) (by simpa [World.setCell] using g2)), g1, by simpa [World.setCell] using g2, g3, g4, Lib.hid hb⟩
theorem wwi_end (hA : BoxL pA z0 z1 z2 U) (hB : BoxL pB y0 y1 y2 U) (hAB : pA ≠ pB) (ra : PatIn lo k U (.slice aA L1.length cA) L1) (rb : PatIn k hi U (.slice aB L2.length cB) L2) (h1 : pA < lo ∨ hi ≤ pA) (h2 : pB < lo ∨ hi ≤ pB)
    (g1 : G.heap.size ≤ lo) (k1 : lo ≤ k) (k2 : k ≤ hi) (g2 : hi ≤ U.heap.size) (g3 : G.heap.size ≤ pA) (g4 : G.heap.size ≤ pB) (hb : Below G.heap.size G (set3 (set3 U pA (.int .i64 M1) (.int .i64 N1) (.slice aA L1.length cA)) pB (.int .i64 M2) (.int .i64 N2) (.slice aB L2.length cB))) :
    WWI G M1 N1 M2 N2 L1 L2 ok (.pointer (some ⟨pA, 0, none⟩)) (.pointer (some ⟨pB, 0, none⟩)) (.bool ok) (set3 (set3 U pA (.int .i64 M1) (.int .i64 N1) (.slice aA L1.length cA)) pB (.int .i64 M2) (.int .i64 N2) (.slice aB L2.length cB)) :=
  ⟨pA, pB, aA, cA, aB, cB, lo, k, hi, rfl, rfl, rfl, Lib.hid (hA.put3.far3 (Ne.symm hAB)), Lib.hid ((hB.far3 hAB).put3), Lib.hid (row3 (row3 ra (by omega) (by omega)) (by omega) (by simp [World.setCell]; omega)), Lib.hid (row3 (row3 rb (by omega) g2) (by omega) (by simpa [World.setCell] using g2)), ⟨g1, k1, k2, by simpa [World.setCell] using g2⟩, by omega, by omega, g3, g4, Lib.hid hb⟩

end Go.Proofs.Ytakjgnkkeefgbaa
