/- The closed run of BoreNames: the document's examples and errors. -/
import Derived.Test.YtojkmobfhkjfnaaT7
set_option linter.all false
namespace Go.Hx
theorem closed9 : C LQ 0 9 [] ⟨.e, 0⟩ (fun v _ => v = .bool true) := closed_of (n := 30) (by kernel_rfl)
end Go.Hx
