/- The closed run of PointNames. -/
import Derived.Test.YtlkpahcadnbpaaaH05
set_option linter.all false
/- The closed run of PointNames. -/
namespace Go.Hx
theorem closed7 : C LP 0 7 [] ⟨.e, 0⟩ (fun v _ => v = .bool true) := closed_of (n := 40) (by kernel_rfl)
end Go.Hx

