/- What the program reads of bytes: the number, how many bytes it has, or why there is none; for every text. -/
import Derived.Test.YtngmcefbljkgaaaVaDig
import Derived.Deep.LoopGhost
namespace Go.Proofs.Ytngmcefbljkgaaa.Va
open Go.RowKit

end Go.Proofs.Ytngmcefbljkgaaa.Va
