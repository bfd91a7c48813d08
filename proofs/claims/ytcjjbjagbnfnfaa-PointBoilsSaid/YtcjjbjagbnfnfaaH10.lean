/- The closed run of 'wakes': the chapter's first examples, which each law of the layer asks for at its end. -/
import Derived.Test.YtcjjbjagbnfnfaaH03
import Derived.Test.YtcjjbjagbnfnfaaH02
import Derived.Test.YtcjjbjagbnfnfaaH09
set_option linter.all false
/- The closed run of 'wakes': the chapter's first examples, which each law of the layer asks for at its end. -/
namespace Go.Hx
theorem mixed : (Go.Proofs.Try.prog).follows .mixedOrders = true := by kernel_rfl
noncomputable def endK0 : Kv := fun v _ _ => some (v, ⟨.e, 0⟩)
theorem closed_of {lp : Nat → Option LFunc} {n f : Nat} (hr : (fnK lp n f).run 0 [] .e 0 endK0 = some (.bool true, ⟨.e, 0⟩)) : C lp 0 f [] ⟨.e, 0⟩ (fun v _ => v = .bool true) :=
  c_of_k hr fun v h nx hk => by unfold endK0 at hk; cases hk; rfl
theorem closed22 : C LP 0 22 [] ⟨.e, 0⟩ (fun v _ => v = .bool true) := closed_of (n := 40) (by kernel_rfl)
end Go.Hx

