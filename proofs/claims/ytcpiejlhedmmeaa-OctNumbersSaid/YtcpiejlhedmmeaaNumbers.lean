/- The walks of the laws on numbers and sums. -/
import Derived.Test.YtcpiejlhedmmeaaAlive
import Derived.Test.YtcpiejlhedmmeaaGet
namespace Go.Proofs.Ytcpiejlhedmmeaa
open Go.RowKit

set_option maxHeartbeats 1000000 in
theorem octNumbers_walk (v : Nat) (n : Int) (A : Option Addr) (l : List UInt8) (c : Nat) (w : World) (hv : v < 18446744073709551616) (h1 : -9223372036854775808 ≤ n) (h2 : n ≤ 9223372036854775807)
    (hb : Bs w w.heap.size A l) (hl : l.length ≤ maxLen) :
    Calls Try.prog 3 #[.int .u64 v, .int .i64 n, .slice A l.length c] w fun e w' => e = .returned (.bool true) ∧ Below w.heap.size w w' := by
  unfold maxLen at hl
  go_enter Try.func3, Try.ntmps3
  go_wp2_with fail
  refine (put_any v n _ hv).mono ?_
  rintro e w1 ⟨A1, c1, rfl, ho1, hb1⟩
  go_wp2_with fail
  refine (refput_any v n _ hv).mono ?_
  rintro e w2 ⟨A2, c2, rfl, ho2, hb2⟩
  go_wp2_with fail
  refine (get_any A l c _ hl ((hb.below (bt hb1 hb2)).more (bt hb1 hb2).size)).mono ?_
  rintro e w3 ⟨rfl, rfl⟩
  go_wp2_with fail
  refine (refget_any A l c _ hl ((hb.below (bt hb1 hb2)).more (bt hb1 hb2).size)).mono ?_
  rintro e w3 ⟨rfl, rfl⟩
  go_wp2_with fail
  refine (alive_any _).mono ?_
  rintro e w4 ⟨rfl, hb4⟩
  have cv1 : (convert 23 9 (.slice A1 (putR v n).1.length c1)).run Try.prog w4 = .ok (.string ⟨(putR v n).1.toArray⟩) w4 :=
    conv_bytes Try.underlying23 Try.underlying5 Try.underlying9 (ho1.below (bt hb2 hb4) (Nat.le_refl _)).bs _
  have cv2 : (convert 23 9 (.slice A2 (putR v n).1.length c2)).run Try.prog w4 = .ok (.string ⟨(putR v n).1.toArray⟩) w4 :=
    conv_bytes Try.underlying23 Try.underlying5 Try.underlying9 (ho2.below hb4 (Nat.le_refl _)).bs _
  go_wp2
  go_ret
  exact ⟨rfl, bt hb1 (bt hb2 hb4)⟩

set_option maxHeartbeats 1000000 in
theorem octSums_walk (A : Option Addr) (l : List UInt8) (c : Nat) (x y : Nat) (n : Int) (w : World) (hb : Bs w w.heap.size A l) (hl : l.length ≤ maxLen)
    (hx : x < 4294967296) (hy : y < 4294967296) (h1 : -9223372036854775808 ≤ n) (h2 : n ≤ 9223372036854775807) :
    Calls Try.prog 6 #[.slice A l.length c, .int .u32 x, .int .u32 y, .int .i64 n] w fun e w' => e = .returned (.bool true) ∧ Below w.heap.size w w' := by
  unfold maxLen at hl
  by_cases hle : l.length ≤ 5000
  · go_enter Try.func6, Try.ntmps6
    go_wp2_with fail
    refine (alive_any _).mono ?_
    rintro e w1 ⟨rfl, hb1⟩
    go_wp2_with fail
    refine (sum_any A l c _ (by omega) ((hb.below hb1).more hb1.size)).mono ?_
    rintro e w2 ⟨rfl, rfl⟩
    go_wp2_with fail
    refine (refsum_any A l c _ (by omega) ((hb.below hb1).more hb1.size)).mono ?_
    rintro e w2 ⟨rfl, rfl⟩
    go_wp2_with fail
    refine (both_any x y n _ hx hy h1 h2).mono ?_
    rintro e w2 ⟨rfl, rfl⟩
    go_wp2_with fail
    refine (refboth_any x y n _ hx hy h1 h2).mono ?_
    rintro e w2 ⟨rfl, rfl⟩
    go_wp2
    go_ret
    exact ⟨rfl, hb1⟩
  · go_enter Try.func6, Try.ntmps6
    go_wp2_with fail
    refine (alive_any _).mono ?_
    rintro e w1 ⟨rfl, hb1⟩
    go_wp2
    go_ret
    exact ⟨rfl, hb1⟩
end Go.Proofs.Ytcpiejlhedmmeaa
