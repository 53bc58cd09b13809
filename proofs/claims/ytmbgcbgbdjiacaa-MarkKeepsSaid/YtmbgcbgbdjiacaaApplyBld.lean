/- The contract of (*strings.Builder).WriteString in this program, whose copyCheck holds one refused place (the shelf's laying asks another body). -/
import Derived.Test.YtmbgcbgbdjiacaaPackARef
import Derived.Shelf.Strings.BuilderK
namespace Go.Proofs.Ytmbgcbgbdjiacaa
open Go.RowKit

end Go.Proofs.Ytmbgcbgbdjiacaa
