/- Nothing is laid here: this program has no maps.Equal. -/
import Derived.Test.YtjhagklpnpabeaaDoorRows
namespace Go.Proofs
end Go.Proofs
