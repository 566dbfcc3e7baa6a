/- The library's two sentinels, out of the listed variables. -/
import Derived.Test.YthnelahnlinbnaaDoorTab
import Derived.Stop.LaidErr
namespace Go.Proofs.YthnelahnlinbnaaDoor
open Go.RowKit

theorem gSyn : Tryd.prog.globalNamed "strconv.ErrSyntax" = some 1 := by kernel_rfl
theorem gRan : Tryd.prog.globalNamed "strconv.ErrRange" = some 2 := by kernel_rfl
theorem starErr : "*" ++ "errors.errorString" = "*errors.errorString" := by decide
theorem rowErr (u : TypeId) (h : Tryd.prog.typeName? 3 u = some "*errors.errorString") : u = 85 :=
  typeName_ptr_named (nm := "errors.errorString") (by rw [starErr]; kernel_rfl) (by kernel_rfl) (by decide) u (by rw [starErr]; exact h)
/-- The variable holds an interface value. -/
def ErrVar (n : String) (W : World) : Prop := ∃ (tp : TypeId) (p : Value), W.var? Tryd.prog n = some #[.iface tp p]
theorem syn_of {l : List (String × DataW Unit)} {W : World} (h : laidMet Tryd.prog l W) (text : List UInt8) (hf : l.filter (fun x => x.1 == "strconv.ErrSyntax") = [("strconv.ErrSyntax", .iface "*errors.errorString" (.ptr (.agg [.lit (.string text)])))]) : ErrVar "strconv.ErrSyntax" W := by
  have h2 := h.filter (fun x => x.1 == "strconv.ErrSyntax")
  rw [hf] at h2
  obtain ⟨a, s, hv, _⟩ := laid_sentinel (g := 1) h2 gSyn (by kernel_rfl) Tryd.underlying47 rowErr Tryd.underlying85 Tryd.underlying87 rfl rfl Tryd.underlying9 (by kernel_rfl) (by kernel_rfl)
  exact ⟨_, _, hv⟩
theorem ran_of {l : List (String × DataW Unit)} {W : World} (h : laidMet Tryd.prog l W) (text : List UInt8) (hf : l.filter (fun x => x.1 == "strconv.ErrRange") = [("strconv.ErrRange", .iface "*errors.errorString" (.ptr (.agg [.lit (.string text)])))]) : ErrVar "strconv.ErrRange" W := by
  have h2 := h.filter (fun x => x.1 == "strconv.ErrRange")
  rw [hf] at h2
  obtain ⟨a, s, hv, _⟩ := laid_sentinel (g := 2) h2 gRan (by kernel_rfl) Tryd.underlying47 rowErr Tryd.underlying85 Tryd.underlying87 rfl rfl Tryd.underlying9 (by kernel_rfl) (by kernel_rfl)
  exact ⟨_, _, hv⟩
theorem err_kept {n : String} {g : Nat} {W W' : World} (hg : Tryd.prog.globalNamed n = some g) (h : ErrVar n W) (hb : Below W.heap.size W W') : ErrVar n W' := by
  obtain ⟨tp, p, hv⟩ := h
  have hlt : g < W.heap.size := by
    rcases Nat.lt_or_ge g W.heap.size with h' | h'
    · exact h'
    · simp [World.var?, hg, Array.getElem?_eq_none h'] at hv
  exact ⟨tp, p, var?_below hb hg hlt hv⟩
end Go.Proofs.YthnelahnlinbnaaDoor
