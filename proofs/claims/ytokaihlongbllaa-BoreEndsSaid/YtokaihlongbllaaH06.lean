/- The closed run of 'wakes': the chapter's first examples, which each law of the layer asks for at its end. -/
import Derived.Test.YtokaihlongbllaaH05
set_option linter.all false
/- The closed run of 'wakes': the chapter's first examples, which each law of the layer asks for at its end. -/
namespace Go.Hx
theorem closed19 : C LQ 0 19 [] ⟨.e, 0⟩ (fun v _ => v = .bool true) := closed_of (n := 30) (by kernel_rfl)
end Go.Hx

