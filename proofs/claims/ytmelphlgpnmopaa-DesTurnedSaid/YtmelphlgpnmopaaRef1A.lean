/- What the contracts of the document's own bits stand on. -/
import Derived.Test.YtmelphlgpnmopaaBase
import Derived.Test.YtmelphlgpnmopaaPure
namespace Go.Proofs.Ytmelphlgpnmopaa
open Go.RowKit

end Go.Proofs.Ytmelphlgpnmopaa
