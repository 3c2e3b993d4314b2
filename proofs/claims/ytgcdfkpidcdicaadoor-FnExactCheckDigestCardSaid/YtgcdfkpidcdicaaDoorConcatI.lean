/- Helper contracts over the library's slices.Grow and slices.Concat at integers: a new slice that holds the given ones behind each other. Asked: the slices read as the lists named, and together they are no longer than 2^44. -/
import Derived.Test.YtgcdfkpidcdicaaDoorOwn
import Derived.Test.YtgcdfkpidcdicaaDoorConcat
import Derived.Test.YtgcdfkpidcdicaaDoorHelpI
namespace Go.Proofs.YtgcdfkpidcdicaaDoor
open Go.ChangeShapes Go.WideShapes Go.ChangeAt Go.RowKit

end Go.Proofs.YtgcdfkpidcdicaaDoor
