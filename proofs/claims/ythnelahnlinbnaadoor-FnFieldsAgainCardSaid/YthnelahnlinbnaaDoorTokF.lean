/- Plain facts: the fields of a line, joined by single spaces, have the same fields. -/
import Derived.Test.YthnelahnlinbnaaDoorFieldF
namespace Go.Proofs.YthnelahnlinbnaaDoor
open Go.RowKit

/-- The fields of a list of bytes behind a word that has begun. -/
def tok (cur : List UInt8) : List UInt8 → List (List UInt8)
  | [] => if cur = [] then [] else [cur]
  | c :: r => if c = 32 then (if cur = [] then tok [] r else cur :: tok [] r) else tok (cur ++ [c]) r
def texts (fs : List ByteArray) : List (List UInt8) := fs.map fun f => f.data.toList
theorem extract_list (s : ByteArray) (b k : Nat) (hbk : b ≤ k) (hk : k ≤ s.size) : (s.extract b k).data.toList = (s.data.toList.take k).drop b := by
  simp [List.drop_take]
theorem texts_addF (s : ByteArray) (fs : List ByteArray) (b k : Nat) (hbk : b ≤ k) (hk : k ≤ s.size) : texts (addF s fs b k) = texts fs ++ (if (s.data.toList.take k).drop b = [] then [] else [(s.data.toList.take k).drop b]) := by
  have hl : ((s.data.toList.take k).drop b).length = k - b := by simp; omega
  by_cases h : b < k
  · rw [addF_yes h, if_neg (by intro e; rw [e] at hl; simp at hl; omega)]
    simp only [texts, List.map_append, List.map_cons, List.map_nil]
    rw [extract_list s b k hbk hk]
  · rw [addF_no h, if_pos (by apply List.eq_nil_of_length_eq_zero; omega)]
    simp
theorem sp_le (s : ByteArray) : ∀ k, (sp s k).2 ≤ k
  | 0 => Nat.le_refl _
  | k + 1 => by
    rw [sp]
    split
    · exact Nat.le_refl _
    · exact Nat.le_succ_of_le (sp_le s k)
theorem tok_sp (s : ByteArray) : ∀ k, k ≤ s.size → texts (sp s k).1 ++ tok ((s.data.toList.take k).drop (sp s k).2) (s.data.toList.drop k) = tok [] s.data.toList
  | 0, _ => by simp [sp, texts]
  | k + 1, h => by
    have ih := tok_sp s k (by omega)
    have hb := sp_le s k
    have hd : s.data.toList.drop k = s[k] :: s.data.toList.drop (k + 1) := by
      rw [List.drop_eq_getElem_cons (by simp; omega)]; rfl
    rw [hd, tok] at ih
    rw [sp]
    by_cases hc : s[k] = 32
    · rw [if_pos (by rw [getD_byte s k h]; exact hc)]
      rw [if_pos hc] at ih
      show texts (addF s (sp s k).1 (sp s k).2 k) ++ tok ((s.data.toList.take (k + 1)).drop (k + 1)) _ = _
      rw [texts_addF s _ _ k hb (by omega)]
      have e0 : (s.data.toList.take (k + 1)).drop (k + 1) = [] := by
        apply List.drop_eq_nil_of_le
        simp
        omega
      rw [e0]
      split at ih
      · rename_i h1
        rw [if_pos h1]
        simpa using ih
      · rename_i h1
        rw [if_neg h1]
        simpa using ih
    · rw [if_neg (by rw [getD_byte s k h]; exact hc)]
      rw [if_neg hc] at ih
      have e1 : (s.data.toList.take (k + 1)).drop (sp s k).2 = (s.data.toList.take k).drop (sp s k).2 ++ [s[k]] := by
        rw [take_snoc s k h, List.drop_append_of_le_length (by simp; omega)]
      rw [e1]
      exact ih
theorem texts_allF (s : ByteArray) : texts (allF s) = tok [] s.data.toList := by
  have h := tok_sp s s.size (Nat.le_refl _)
  have hb := sp_le s s.size
  unfold allF
  rw [texts_addF s _ _ _ hb (Nat.le_refl _), ← h]
  have e0 : s.data.toList.drop s.size = [] := List.drop_eq_nil_of_le (by simp)
  rw [e0, tok]
theorem tok_mem : ∀ (l cur : List UInt8) (f : List UInt8), (∀ c ∈ cur, c ≠ 32) → f ∈ tok cur l → f ≠ [] ∧ (∀ c ∈ f, c ≠ 32) ∧ ∀ c ∈ f, c ∈ cur ∨ c ∈ l
  | [], cur, f, hcur, h => by
    rw [tok] at h
    split at h
    · simp at h
    · rename_i h1
      simp only [List.mem_singleton] at h
      subst h
      exact ⟨h1, hcur, fun c hc => .inl hc⟩
  | a :: r, cur, f, hcur, h => by
    rw [tok] at h
    split at h
    · split at h
      · obtain ⟨h1, h2, h3⟩ := tok_mem r [] f (by simp) h
        exact ⟨h1, h2, fun c hc => .inr ((h3 c hc).elim (fun h4 => by simp at h4) (fun h4 => List.mem_cons_of_mem _ h4))⟩
      · rename_i h0
        rcases List.mem_cons.1 h with h | h
        · subst h
          exact ⟨h0, hcur, fun c hc => .inl hc⟩
        · obtain ⟨h1, h2, h3⟩ := tok_mem r [] f (by simp) h
          exact ⟨h1, h2, fun c hc => .inr ((h3 c hc).elim (fun h4 => by simp at h4) (fun h4 => List.mem_cons_of_mem _ h4))⟩
    · rename_i ha
      obtain ⟨h1, h2, h3⟩ := tok_mem r (cur ++ [a]) f (fun c hc => (List.mem_append.1 hc).elim (hcur c) (fun h4 => by simp only [List.mem_singleton] at h4; rw [h4]; exact ha)) h
      refine ⟨h1, h2, fun c hc => ?_⟩
      rcases h3 c hc with h4 | h4
      · rcases List.mem_append.1 h4 with h5 | h5
        · exact .inl h5
        · simp only [List.mem_singleton] at h5
          subst h5
          exact .inr (List.mem_cons_self ..)
      · exact .inr (List.mem_cons_of_mem _ h4)
theorem tok_word : ∀ (f cur r : List UInt8), (∀ c ∈ f, c ≠ 32) → cur ++ f ≠ [] → tok cur (f ++ 32 :: r) = (cur ++ f) :: tok [] r
  | [], cur, r, _, h => by
    simp only [List.append_nil] at h
    rw [List.nil_append, tok, if_pos rfl, if_neg h, List.append_nil]
  | a :: f, cur, r, hf, h => by
    have ha : a ≠ 32 := hf a (List.mem_cons_self ..)
    rw [List.cons_append, tok, if_neg ha, tok_word f (cur ++ [a]) r (fun c hc => hf c (List.mem_cons_of_mem _ hc)) (by simp)]
    simp
/-- The texts, a space behind each. -/
def joinT : List (List UInt8) → List UInt8
  | [] => []
  | f :: r => f ++ 32 :: joinT r
theorem tok_joinT : ∀ fs : List (List UInt8), (∀ f ∈ fs, f ≠ [] ∧ ∀ c ∈ f, c ≠ 32) → tok [] (joinT fs) = fs
  | [], _ => rfl
  | f :: r, h => by
    obtain ⟨h1, h2⟩ := h f (List.mem_cons_self ..)
    rw [joinT, tok_word f [] _ h2 (by simpa using h1), tok_joinT r (fun g hg => h g (List.mem_cons_of_mem _ hg))]
    rfl
theorem joinT_mem : ∀ (fs : List (List UInt8)) (c : UInt8), c ∈ joinT fs → c = 32 ∨ ∃ f ∈ fs, c ∈ f
  | [], c, h => by simp [joinT] at h
  | f :: r, c, h => by
    rw [joinT] at h
    rcases List.mem_append.1 h with h | h
    · exact .inr ⟨f, List.mem_cons_self .., h⟩
    · rcases List.mem_cons.1 h with h | h
      · exact .inl h
      · rcases joinT_mem r c h with h | ⟨g, hg, hc⟩
        · exact .inl h
        · exact .inr ⟨g, List.mem_cons_of_mem _ hg, hc⟩
theorem texts_inj {a b : List ByteArray} (h : texts a = texts b) : a = b := by
  induction a generalizing b with
  | nil => cases b with
    | nil => rfl
    | cons x y => simp [texts] at h
  | cons x r ih => cases b with
    | nil => simp [texts] at h
    | cons y q =>
      simp only [texts, List.map_cons, List.cons.injEq] at h
      have e : x = y := ByteArray.ext (Array.toList_inj.1 h.1)
      rw [e, ih h.2]
/-- The fields of a line, joined, are the fields of the joined line. -/
theorem again {s t : ByteArray} (ho : OkS s) (ht : t.data.toList = joinT (texts (allF s))) (hz : t.size ≤ 600) : OkS t ∧ allF t = allF s := by
  have h0 := texts_allF s
  have hm : ∀ f ∈ texts (allF s), (f ≠ [] ∧ ∀ c ∈ f, c ≠ 32) ∧ ∀ c ∈ f, c ∈ s.data.toList := by
    intro f hf
    rw [h0] at hf
    obtain ⟨h1, h2, h3⟩ := tok_mem _ [] f (by simp) hf
    exact ⟨⟨h1, h2⟩, fun c hc => (h3 c hc).elim (fun h4 => by simp at h4) id⟩
  have e : allF t = allF s := by
    apply texts_inj
    rw [texts_allF t, ht, tok_joinT _ (fun f hf => (hm f hf).1)]
  refine ⟨⟨hz, fun j hj => ?_, by rw [e]; exact ho.2.2⟩, e⟩
  have hjm : t.data.toList.getD j 0 ∈ t.data.toList := by
    rw [getD_byte t j hj]
    have h1 : t.data.toList[j]? = some t[j] := by rw [List.getElem?_eq_getElem (by simpa using hj)]; rfl
    exact List.mem_of_getElem? h1
  rw [ht] at hjm ⊢
  rcases joinT_mem _ _ hjm with h | ⟨f, hf, hc⟩
  · rw [h]; unfold okB; decide
  · have h1 := (hm f hf).2 _ hc
    obtain ⟨i, hi, he⟩ := List.getElem_of_mem h1
    have h2 := ho.2.1 i (by simpa using hi)
    simp only [List.getD, List.getElem?_eq_getElem hi, Option.getD_some, he] at h2
    exact h2
end Go.Proofs.YthnelahnlinbnaaDoor
