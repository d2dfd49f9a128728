/- The walks of szPairS, toPairS, eqPairS, and of the law on PairsOk. -/
import Derived.Test.YtjookicpmjmdhaaW4
namespace Go.Proofs.Ytjookicpmjmdhaa
open Go.RowKit

theorem pair_info : (Try.prog.info? 86).map (fun i => (i.zero, i.size, i.bytes)) = some (some (.agg #[.int .i64 0, .int .i64 0]), 2, 16) := by kernel_rfl

end Go.Proofs.Ytjookicpmjmdhaa
