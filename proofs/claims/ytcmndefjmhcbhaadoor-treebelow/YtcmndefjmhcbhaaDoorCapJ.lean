/- Capabilities: the document's Word and Read; the law's anchor. -/
import Derived.Test.YtcmndefjmhcbhaaDoorCapI
set_option linter.unusedVariables false
namespace Go.Proofs.YtcmndefjmhcbhaaDoor
open Go.RowKit

end Go.Proofs.YtcmndefjmhcbhaaDoor
