/- Contract of hourglassref.FramesMay. -/
import Derived.Test.YtlcdefpdahjjeafWalkC
namespace Go.Proofs.Ytlcdefpdahjjeaf
open Go.RowKit


end Go.Proofs.Ytlcdefpdahjjeaf
