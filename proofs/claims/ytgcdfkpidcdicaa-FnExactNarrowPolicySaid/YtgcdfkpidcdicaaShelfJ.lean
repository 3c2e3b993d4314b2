/- No contract of the library is needed at this seat: an empty text in the place of one, so that texts that import it build. -/
import Derived.Test.YtgcdfkpidcdicaaRows
namespace Go.Proofs.Ytgcdfkpidcdicaa
end Go.Proofs.Ytgcdfkpidcdicaa
