/- 'wakes' is known; the functions of the program with it. -/
import Derived.Test.YtpilnebbghiemaaH04
import Derived.Test.YtpilnebbghiemaaH07
import Derived.Test.YtpilnebbghiemaaH02
import Derived.Test.YtpilnebbghiemaaH05
set_option linter.all false
/- 'wakes' is known; the functions of the program with it. -/
namespace Go.Hx
theorem spWakes_ok : ∀ args σ v σ', spWakes args σ = some (v, σ') → σ' = σ ∧ args.all flat = true ∧ flatV v = true ∧ C LP 0 22 args ⟨.e, 0⟩ (fun v' _ => v' = v) := by
  intro args σ v σ' h
  cases args with
  | nil => cases h; exact ⟨rfl, rfl, rfl, closed22⟩
  | cons a l => cases h
theorem lw_ok : LpOk Go.Proofs.Try.prog LW := withS_ok lowP_ok (spec_plain mixed lowP_ok spWakes_ok)
end Go.Hx

/- Arguments of the laws of layer 3: pairs of numbers, lists of them. -/
namespace Go.Hx
/-- A pair as an argument. -/
theorem pair_arg {C : List Value} (h : F2 [Leaf.i .i64, .i .i64] C) : ∃ r : Int × Int, ∀ ρ, VR ρ (.agg (renc r)) (.agg C.toArray) := by
  obtain ⟨_, _, rfl, h0, h⟩ := f2_cons h
  obtain ⟨_, _, rfl, h1, h⟩ := f2_cons h
  have := f2_nil h; subst this
  obtain ⟨a, rfl⟩ := leaf_int h0
  obtain ⟨b, rfl⟩ := leaf_int h1
  exact ⟨(a, b), fun ρ => VR.aggL (LR.cons (.int _ _) (LR.cons (.int _ _) (LR.nil _)))⟩
theorem wfk {k : IntKind} {n : Int} (h : (Lit.int k n).wf = true) : k.min ≤ n ∧ n ≤ k.max := by
  simp only [Lit.wf, Bool.and_eq_true, decide_eq_true_eq] at h
  exact h
end Go.Hx

