/- Blocks: the model's ColorsOf. -/
import Derived.Test.YtfidnhhlcdbaeaaBlkC
import Derived.Test.YtfidnhhlcdbaeaaIntF
import Derived.Deep.AppendLies
import Derived.OwnWalk
namespace Go.Proofs.Ytfidnhhlcdbaeaa
open Go.ChangeShapes Go.WideShapes Go.ChangeAt Go.RowKit

/-- The color c is used in the first k cells. -/
def usd (xs : List C3) (c : Int) (k : Nat) : Bool := (xs.take k).any fun x => (x.a == c) || (x.b == c)
theorem usd_succ (xs : List C3) (c : Int) (k : Nat) (h : k < xs.length) : usd xs c (k + 1) = (usd xs c k || ((xs.getD k C3.zero).a == c) || ((xs.getD k C3.zero).b == c)) := by
  unfold usd
  rw [List.take_succ_eq_append_getElem h, List.any_append]
  simp [List.getD, h, Bool.or_assoc]
/-- The used ones of the first colors. -/
def cols (xs : List C3) (c : Nat) : List Int := ((List.range c).filter (fun d : Nat => usd xs (d : Int) xs.length)).map (fun d : Nat => (d : Int))
theorem cols_succ (xs : List C3) (c : Nat) : cols xs (c + 1) = cols xs c ++ (if usd xs (c : Int) xs.length then [(c : Int)] else []) := by
  unfold cols
  rw [List.range_succ, List.filter_append, List.map_append]
  congr 1
  by_cases h : usd xs (c : Int) xs.length <;> simp [h]
theorem cols_le (xs : List C3) (c : Nat) : (cols xs c).length ≤ c := by
  unfold cols
  rw [List.length_map]
  have := List.length_filter_le (fun d : Nat => usd xs (d : Int) xs.length) (List.range c)
  simpa using this
noncomputable def colorsOf (n : Int) (xs : List C3) : List Int := @ite _ (BlkOk n xs) (Classical.propDecidable _) (cols xs 6) []
theorem colors_yes {n : Int} {xs : List C3} (h : BlkOk n xs) : colorsOf n xs = cols xs 6 := if_pos h
theorem colors_no {n : Int} {xs : List C3} (h : ¬ BlkOk n xs) : colorsOf n xs = [] := if_neg h

theorem info_int : (Try.prog.info? 3).map (fun i => (i.zero, i.size, i.bytes)) = some (some (.int .i64 0), 1, 8) := by kernel_rfl
theorem own_new1 (W : World) (q e : Nat) (h : W.heap.size = q) : (W.alloc (.cells #[] e)).ownsRow q e 1 (.slice (some ⟨q, 0, none⟩) 0 0) 0 [] := by
  subst h
  exact ⟨by simp, .inr ⟨_, 0, #[], rfl, Nat.le_refl _, heap_alloc_new _ _, by simp, by simp, rfl, rfl⟩⟩
theorem news_one (W : World) (q : Nat) (c : Value) (t : TypeId) (h : W.heap.size = q) : ∀ (j : Nat) u, ([c] : List Value)[j]? = some u → (W.alloc (.cells #[c] t)).cell? ((⟨q, 0, none⟩ : Addr).add j) = some u := by
  subst h
  exact World.news_of_block (cs := #[c]) (fr := (0, 0)) (heap_alloc_new W _)
theorem own_ge1 {w : World} {base e size n : Nat} {v : Value} {xs : List Value} (h : w.ownsRow base e size v n xs) : ∀ k, v.ownBlock = some k → base ≤ k := by
  intro k hk
  obtain ⟨_, h | ⟨g, cap, cur, hv, hg, _⟩⟩ := h
  · rw [h.1] at hk; cases hk
  · rw [hv] at hk; simp [Value.ownBlock] at hk; omega
theorem owns_below1 {w w' : World} {b e size n : Nat} {v : Value} {xs : List Value} (h : w.ownsRow b e size v n xs) (hb : Below w.heap.size w w') : w'.ownsRow b e size v n xs := by
  obtain ⟨h1, h2 | ⟨g, cap, cur, hv, hg, hh, r⟩⟩ := h
  · exact ⟨h1, .inl h2⟩
  · exact ⟨h1, .inr ⟨g, cap, cur, hv, hg, by rw [hb.block g (lt_of_heapI hh)]; exact hh, r⟩⟩

end Go.Proofs.Ytfidnhhlcdbaeaa
