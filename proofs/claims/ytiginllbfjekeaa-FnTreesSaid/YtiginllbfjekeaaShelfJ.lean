/- No contract of Go's library is needed at this seat: an empty text in the place of one, so that texts that import it build. -/
import Derived.Test.YtiginllbfjekeaaRows
namespace Go.Proofs.Ytiginllbfjekeaa
end Go.Proofs.Ytiginllbfjekeaa
