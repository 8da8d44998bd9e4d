/- Parts T3 of one proof. -/
import Derived.Test.YtlliaihmfimdoaaGreatMg41
namespace Go.Proofs.YtlliaihmfimdoaaGreat.Re
open Go.RowKit Go.Maps Go.Joins Go.Deep Go.Proofs.YtlliaihmfimdoaaGreat
theorem resRedo_walk (A0 : Option Addr) (ops : List OpV) (c0 : Nat) (n : Int) (w : World) (h : OpsAt w A0 ops ∧ ∀ o ∈ ops, CapV o) (n1 : -9223372036854775808 ≤ n) (n2 : n ≤ 9223372036854775807) :
    Calls Tryz.prog 7 #[.slice A0 ops.length c0, .int .i64 n] w fun e w' => e = .returned (.bool true) ∧ Below w.heap.size w w' :=
  resRedo_main A0 ops c0 n w h.1 h.2 ⟨n1, n2⟩
end Go.Proofs.YtlliaihmfimdoaaGreat.Re
