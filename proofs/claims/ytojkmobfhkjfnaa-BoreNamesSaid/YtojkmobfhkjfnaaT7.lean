/- The closed runs of layer 1, on the plain machine: its functions, 'with' and 'unread' taken by what is proved of them. -/
import Derived.Test.YtojkmobfhkjfnaaHyF
import Derived.Test.YtojkmobfhkjfnaaHzB
import Derived.Test.YtojkmobfhkjfnaaT6
set_option linter.all false
namespace Go.Hx
noncomputable abbrev LQ : Nat → Option LFunc := withS (withS LP 96 spWith) 97 spUnread
theorem mixed : (Go.Proofs.Try.prog).follows .mixedOrders = true := by kernel_rfl
theorem lq_ok : LpOk Go.Proofs.Try.prog LQ := withS_ok (withS_ok lowP_ok (spec_plain mixed lowP_ok spWith_ok)) (spec_plain mixed lowP_ok spUnread_ok)
noncomputable def endK0 : Kv := fun v _ _ => some (v, ⟨.e, 0⟩)
theorem closed_of {lp : Nat → Option LFunc} {n f : Nat} (hr : (fnK lp n f).run 0 [] .e 0 endK0 = some (.bool true, ⟨.e, 0⟩)) : C lp 0 f [] ⟨.e, 0⟩ (fun v _ => v = .bool true) :=
  c_of_k hr fun v h nx hk => by unfold endK0 at hk; cases hk; rfl
end Go.Hx
