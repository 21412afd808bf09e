/-
  UTF-8: the contract of the document's own function that tells how long a character is.
-/
import Derived.Test.YtcalgpkcefccmaaDoorUniUtf
namespace Go.Proofs.YtcalgpkcefccmaaDoor
namespace Uni
open Go.RowKit

end Uni
end Go.Proofs.YtcalgpkcefccmaaDoor
