
/- Copies: impl.newList, strings.Clone, spec.l03Copy, spec.l04Copy by their contracts. -/
import Derived.Test.YtgjbenbodegnjaaGa
import Derived.Test.YtgjbenbodegnjaaRg
import Derived.Test.YtgjbenbodegnjaaTs
namespace Go.Proofs.Ytgjbenbodegnjaa
open Go.RowKit Kit
end Go.Proofs.Ytgjbenbodegnjaa
