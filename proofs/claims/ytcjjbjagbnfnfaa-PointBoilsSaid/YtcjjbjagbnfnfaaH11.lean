/- 'wakes' is known; the functions of the program with it. -/
import Derived.Test.YtcjjbjagbnfnfaaH04
import Derived.Test.YtcjjbjagbnfnfaaH10
import Derived.Test.YtcjjbjagbnfnfaaH02
import Derived.Test.YtcjjbjagbnfnfaaH05
set_option linter.all false
/- 'wakes' is known; the functions of the program with it. -/
namespace Go.Hx
theorem spWakes_ok : ∀ args σ v σ', spWakes args σ = some (v, σ') → σ' = σ ∧ args.all flat = true ∧ flatV v = true ∧ C LP 0 22 args ⟨.e, 0⟩ (fun v' _ => v' = v) := by
  intro args σ v σ' h
  cases args with
  | nil => cases h; exact ⟨rfl, rfl, rfl, closed22⟩
  | cons a l => cases h
theorem lw_ok : LpOk Go.Proofs.Try.prog LW := withS_ok lowP_ok (spec_plain mixed lowP_ok spWakes_ok)
end Go.Hx

/- Arguments of the laws of layer 3: pairs of numbers, lists of them. -/
namespace Go.Hx
/-- A pair as an argument. -/
theorem pair_arg {C : List Value} (h : F2 [Leaf.i .i64, .i .i64] C) : ∃ r : Int × Int, ∀ ρ, VR ρ (.agg (renc r)) (.agg C.toArray) := by
  obtain ⟨_, _, rfl, h0, h⟩ := f2_cons h
  obtain ⟨_, _, rfl, h1, h⟩ := f2_cons h
  have := f2_nil h; subst this
  obtain ⟨a, rfl⟩ := leaf_int h0
  obtain ⟨b, rfl⟩ := leaf_int h1
  exact ⟨(a, b), fun ρ => VR.aggL (LR.cons (.int _ _) (LR.cons (.int _ _) (LR.nil _)))⟩
theorem dec_pair : ∀ us : Nat → Value, (∀ j k, [Leaf.i .i64, .i .i64][j]? = some k → LeafV k (us j)) → ∃ x : Int × Int, ∀ j u, (renc x)[j]? = some u → ∀ ρ, VR ρ u (us j) := by
  intro us h
  obtain ⟨a, e0⟩ := leaf_int (h 0 _ rfl)
  obtain ⟨b, e1⟩ := leaf_int (h 1 _ rfl)
  refine ⟨(a, b), fun j u hj ρ => ?_⟩
  match j, hj with
  | 0, hj => cases hj; rw [e0]; exact .int _ _
  | 1, hj => cases hj; rw [e1]; exact .int _ _
  | j + 2, hj => simp [renc] at hj
end Go.Hx

/- A slice's length is within its room. -/
namespace Go.Hx
open Go.RowKit
variable {P : Program}
variable {H : Type} {enc : TypeId × Value → H} {w : World} {base : Nat} {spare : Nat → Bool} {held : Bool}
end Go.Hx

