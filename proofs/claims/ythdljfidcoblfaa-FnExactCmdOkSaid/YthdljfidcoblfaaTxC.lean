/- The text of a document, of the other side; the law's walk. -/
import Derived.Test.YthdljfidcoblfaaTxB
import Derived.Test.YthdljfidcoblfaaLaw
namespace Go.Proofs.Ythdljfidcoblfaa
open Go.RowKit Go.Deep

end Go.Proofs.Ythdljfidcoblfaa
