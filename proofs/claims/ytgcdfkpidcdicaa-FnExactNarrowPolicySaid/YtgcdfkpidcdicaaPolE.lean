/- Helper contracts: EqualPolicies of the program and of the model. Asked: the policies' slices read as named. -/
import Derived.Test.YtgcdfkpidcdicaaHasS
namespace Go.Proofs.Ytgcdfkpidcdicaa
open Go.ChangeShapes Go.WideShapes Go.ChangeAt Go.RowKit

end Go.Proofs.Ytgcdfkpidcdicaa
