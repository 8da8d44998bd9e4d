/- Parts OpenQ of one proof. -/
import Derived.Test.YtlliaihmfimdoaaGreatMg01
import Derived.Test.YtlliaihmfimdoaaGreatMg35
import Derived.Lib.SmallJoins
import Derived.Deep.Slices
set_option linter.unusedVariables false
namespace Go.Proofs.YtlliaihmfimdoaaGreat.Qu
open Go.RowKit Go.ChangeShapes Go.WideShapes Go.Joins Go.Deep Go.Maps
theorem add_spotB {w:World} {a:Addr} {v:Value} (h:w.cell? a=some v):∃ b o,a=⟨b,o,none⟩∧b < w.heap.size:=by
 have hs:=World.cell?_spot h
 have hl:=World.block_lt_of_cell? _ _ h
 obtain ⟨b,o,s⟩:=a
 simp only at hs hl
 subst hs
 exact ⟨b,o,rfl,hl⟩
section
variable {H:Type} {enc:TypeId × Value→H} {P:Program} {W:World} {base:Nat} {spare:Nat→Bool} {held:Bool}
end
section
variable {H:Type} {enc:TypeId × Value→H} {W:World}
end
def UAts (w:World) (A:Option Addr) (zs:List Nat):Prop:=zs.length≤maxLen∧UAt w A zs
section
variable {H:Type} {enc:TypeId × Value→H} {W:World}
set_option maxRecDepth 1000000 in
theorem u64s_trod {fuel:Nat} {v:Value} {y:DataW H × List MemPlace} (hf:DataW.trod enc Tryz.prog W 0 (fun _ => true) true fuel 52 [v]=some y) :
  ∃ A zs c,v=.slice A (List.length zs) c∧UAts W A zs:=by
 rcases open_ints Tryz.underlying52 Tryz.underlying39 (by kernel_rfl) hf with ⟨hcs,_⟩ | ⟨x,l,c,zs,hcs,_,hl,hm,hz,_,hcell,hwz⟩
 ·simp at hcs
  subst hcs
  exact ⟨none,[],0,rfl,by simp [maxLen],fun h => absurd h (by simp)⟩
 ·simp at hcs
  subst hcs
  simp at hz
  refine ⟨some x,(zs.take l).map Int.toNat,c,by simp; omega,by simp; omega,fun hn => ?_⟩
  have hn':0 < l:=by simp at hn; omega
  have h0:=hcell 0 (by omega)
  obtain ⟨b,o,e0,hlt⟩:=add_spotB h0
  obtain ⟨xb,xo,xs⟩:=x
  simp [Addr.add] at e0
  obtain ⟨rfl,e1,e2⟩:=e0
  subst e2
  refine ⟨xb,xo,rfl,hlt,fun i hi => ?_⟩
  have hi':i < l:=by simp at hi; omega
  have hil:i < zs.length:=by omega
  have hci:=hcell i (by omega)
  rw [Addr.add_lit] at hci
  rw [hci]
  have hw:=hwz (zs[i]'hil) (List.getElem_mem hil)
  obtain ⟨nn,hnn,_⟩:=u64_nat hw
  simp [List.getD,List.getElem?_eq_getElem hil]
  rw [hnn]; simp
end
section
variable {H:Type} {enc:TypeId × Value→H} {W:World}
end
section
variable {H:Type} {enc:TypeId × Value→H} {W:World}
end
section
variable {H:Type} {enc:TypeId × Value→H} {W:World}
end
end Go.Proofs.YtlliaihmfimdoaaGreat.Qu

