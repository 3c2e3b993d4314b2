/- Append of attributes to a slice of the call's own. Helper facts, no claim of its own. -/
import Derived.Test.YtpkicliimhflgaaTk
import Derived.Test.YtpkicliimhflgaaSplP
namespace Go.Proofs.Ytpkicliimhflgaa
open Go.ChangeShapes Go.WideShapes Go.ChangeAt Go.RowKit

end Go.Proofs.Ytpkicliimhflgaa
