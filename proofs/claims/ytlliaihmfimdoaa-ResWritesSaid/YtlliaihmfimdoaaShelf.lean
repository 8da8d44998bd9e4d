/-
  Nothing of Go's library is wanted here by contract.
-/
import Derived.Test.YtlliaihmfimdoaaProg
namespace Go.Proofs
end Go.Proofs
