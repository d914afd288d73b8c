/- The document's answer: Name, Pieces, Dotted, Parts, each as the same plain function of the text's bytes. -/
import Derived.Test.YtmgddocninihoabDoorUnder
namespace Go.Proofs.YtmgddocninihoabDoor
open Go.RowKit
namespace Nm

end Nm
end Go.Proofs.YtmgddocninihoabDoor
