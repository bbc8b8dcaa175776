/- What every tied row of this seat's needs: its imports. -/
import Derived.Test.YtbpahdgkedfmdaaDoorCards
import Derived.Test.YtbpahdgkedfmdaaDoorTie
import Derived.Test.YtbpahdgkedfmdaaDoorLexWalksB
import Derived.ProofKit
import Derived.OpenShut
import Derived.SizedLaws
import Derived.Lay
import Derived.SevenTiedAt
import Derived.PinnedBridge
import Derived.Deep.DeepHandedRow
import Derived.Deep.DeepWitnessRowRef
import Derived.Lib.LaidIn
import Derived.Lib.LaidTab
import Derived.Lib.LaidU8T
namespace Go.Proofs.YtbpahdgkedfmdaaDoor
end Go.Proofs.YtbpahdgkedfmdaaDoor
