/- The functions of the program, as the plain machine runs them. -/
import Derived.Test.YtpilnebbghiemaaH00
import Derived.Test.YtpilnebbghiemaaProg
import Derived.ProofKit
set_option linter.all false
/- The functions of the program, as the plain machine runs them. -/
namespace Go.Hx
set_option maxRecDepth 100000
noncomputable abbrev LP : Nat → Option LFunc := lowP Go.Proofs.Try.prog [95, 96, 102]
end Go.Hx

