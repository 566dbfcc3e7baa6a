/- Plain functions on lists of bytes: the hexadecimal text. -/
import Derived.WalkKit
import Derived.OneCell
import Derived.Laws.IdiomStrings
import Derived.OwnWalk
namespace Go.Proofs.Ythnelahnlinbnaa
open Go.RowKit

/-- The cells of bytes. -/
def bs (l : List UInt8) : List Value := l.map fun b => Value.int .u8 (b.toNat : Int)
theorem bs_append (a b : List UInt8) : bs (a ++ b) = bs a ++ bs b := by simp [bs]
theorem bs_length (a : List UInt8) : (bs a).length = a.length := by simp [bs]
theorem bs_one (l : List UInt8) : ∀ u ∈ bs l, u.oneCell' = true := by
  intro u hu
  simp [bs] at hu
  obtain ⟨b, _, rfl⟩ := hu
  rfl

/-- 'string(out)' of a row that the call owns. -/
theorem string_own {P : Program} {w : World} {base e src dst : Nat} {v : Value} {l : List UInt8} (hown : w.ownsRow base e 1 v l.length (bs l)) (hs : P.underlying src = some (.slice e)) (he : P.underlying e = some (.int .u8)) (hd : P.underlying dst = some .string) :
    (convert src dst v).run P w = .ok (.string ⟨l.toArray⟩) w := by
  obtain ⟨_, h⟩ := hown
  rcases h with ⟨rfl, h0⟩ | ⟨g, cap, cur, rfl, hb, hg, hle, hcap, hsz, ht⟩
  · have : l = [] := List.length_eq_zero_iff.1 h0
    subst this
    rw [run_convert_bytes_string w src dst e _ 0 0 hs he hd]
    rfl
  · refine run_convert_bytes_back w src dst e _ cap l hs he hd fun j hj => ?_
    have h1 : (bs l)[j]? = some (Value.int .u8 (l[j].toNat : Int)) := by simp [bs, hj]
    rw [← ht] at h1
    rw [List.getElem?_take_of_lt (by omega)] at h1
    have e1 : (⟨g, 0, none⟩ : Addr).add j = ⟨g, j, none⟩ := by cases j <;> simp [Addr.add]
    rw [e1]
    simp [World.cell?, hg]
    simpa using h1

/-- A hexadecimal digit's byte. -/
def hexDig (k : Nat) : UInt8 := if k < 10 then UInt8.ofNat (48 + k) else UInt8.ofNat (87 + k)
def encB (b : UInt8) : List UInt8 := [hexDig (b.toNat / 16), hexDig (b.toNat % 16)]
def enc (l : List UInt8) : List UInt8 := l.flatMap encB
theorem enc_length (l : List UInt8) : (enc l).length = 2 * l.length := by
  induction l with
  | nil => rfl
  | cons b l ih => simp [enc, encB] at *; omega
theorem take_snoc (s : ByteArray) (k : Nat) (h : k < s.size) : s.data.toList.take (k + 1) = s.data.toList.take k ++ [s[k]] := by
  rw [List.take_succ_eq_append_getElem (by simpa using h)]; rfl
theorem enc_snoc (s : ByteArray) (k : Nat) (h : k < s.size) : enc (s.data.toList.take (k + 1)) = enc (s.data.toList.take k) ++ encB s[k] := by
  rw [take_snoc s k h]; simp [enc]
end Go.Proofs.Ythnelahnlinbnaa
