/- What Put tells of a record: its bytes, or an error. -/
import Derived.Test.YtafcgknpehphlaaCdWrite
import Derived.Test.YtafcgknpehphlaaPkBytes
namespace Go.Proofs.Ytafcgknpehphlaa.Cd
open Go.RowKit
open Pk (But Wr cat)

/-- the bytes of a record that may be -/
def putB (x : Rec) : List UInt8 := if may x = 0 then recB x else []
theorem putB_ok {x : Rec} (h : may x = 0) : putB x = recB x := if_pos h
theorem putB_bad {x : Rec} (h : may x = 1) : putB x = [] := if_neg (by omega)

end Go.Proofs.Ytafcgknpehphlaa.Cd
