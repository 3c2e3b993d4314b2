/- Append of attributes to a slice of the call's own. Helper facts, no claim of its own. -/
import Derived.Test.YtgcdfkpidcdicaaDoorTk
import Derived.Test.YtgcdfkpidcdicaaDoorSplP
namespace Go.Proofs.YtgcdfkpidcdicaaDoor
open Go.ChangeShapes Go.WideShapes Go.ChangeAt Go.RowKit

end Go.Proofs.YtgcdfkpidcdicaaDoor
