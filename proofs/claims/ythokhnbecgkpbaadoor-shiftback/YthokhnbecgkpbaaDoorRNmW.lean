/- Quote of the document; RefsNames: the law's walk. -/
import Derived.Test.YthokhnbecgkpbaaDoorRRfN
namespace Go.Proofs.YthokhnbecgkpbaaDoor
open Go.RowKit Go.Shelf

end Go.Proofs.YthokhnbecgkpbaaDoor
