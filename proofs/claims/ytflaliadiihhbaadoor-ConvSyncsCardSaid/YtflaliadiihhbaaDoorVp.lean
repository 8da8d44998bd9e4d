/- Layer 10: sync points and backouts (P10.5). -/
import Derived.Test.YtflaliadiihhbaaDoorVo
namespace Go.Proofs.YtflaliadiihhbaaDoor
open Go.RowKit
set_option linter.unusedVariables false
set_option linter.unusedSimpArgs false

def QS (c : Int × Int × Bool × Int × Bool × Int) (s : Int) : Bool := !rightM c ||
  (((doM c s 10).2 != 0 || (wtM (doM c s 10).1 (s == 1) == false || ((doM (doM c s 10).1 (1 - s) 10).2 == 0 && (stM (doM (doM c s 10).1 (1 - s) 10).1 false == 12 || (((doM (doM c s 10).1 (1 - s) 10).1.2.2.2.2.2 == 0 && stM (doM (doM c s 10).1 (1 - s) 10).1 false == 1) || ((doM (doM c s 10).1 (1 - s) 10).1.2.2.2.2.2 == 1 && stM (doM (doM c s 10).1 (1 - s) 10).1 true == 1))))))
  && ((doM c s 13).2 != 0 || (stM c (s == 1) == 9 || ((doM (doM c s 13).1 (1 - s) 13).2 == 0 && (doM (doM c s 13).1 (1 - s) 13).1.2 == (if c.2.2.2.2.2 = 0 then (1, false, 2, false, 0) else (2, false, 1, false, 1))))))
theorem QS_all : (allC.all fun c => [0, 1].all fun s => QS c s) = true := by decide +kernel

end Go.Proofs.YtflaliadiihhbaaDoor
