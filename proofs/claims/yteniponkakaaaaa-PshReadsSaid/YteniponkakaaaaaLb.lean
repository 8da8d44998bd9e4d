/- The next name: both programs' Next. -/
import Derived.Test.YteniponkakaaaaaLa
import Derived.Test.YteniponkakaaaaaBlk
namespace Go.Proofs.Yteniponkakaaaaa
open Go.RowKit
set_option linter.unusedVariables false
set_option linter.unusedSimpArgs false

def nextL (u : Int) (a q : Nat) : (Int × Nat × Nat) × Int := if okL u q = true then (if q = 4294967295 then ((0, 0, 0), 5) else ((u, a, q + 1), 0)) else ((0, 0, 0), 50)
def lvE (r : (Int × Nat × Nat) × Int) : Ending := .returned (.tuple #[lv r.1.1 r.1.2.1 r.1.2.2, .int .i64 r.2])
theorem ba2 (w : World) (o o' : Obj) : Below w.heap.size w ((w.alloc o).alloc o') := bt (ba _ _) (ba _ _)

end Go.Proofs.Yteniponkakaaaaa
