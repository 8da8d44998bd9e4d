/- Parts R14 Q23 of one proof. -/
import Derived.Test.YtlliaihmfimdoaaGreatMg32
import Derived.Test.YtlliaihmfimdoaaGreatMg25
set_option linter.unusedSimpArgs false
set_option linter.unusedVariables false
namespace Go.Proofs.YtlliaihmfimdoaaGreat.Qu
open Go.RowKit Go.Maps Go.Joins Go.Deep
structure RH (B0:Nat) (u u':World) (x:Nat) (S:Nat→Prop):Prop where
 os:u'.os=u.os
 tape:u'.tape=u.tape
 output:u'.output=u.output
 size:u.heap.size≤u'.heap.size
 low:∀ k,k < B0→k < u.heap.size→k≠x→u'.heap[k]?=u.heap[k]?
 block:∀ k,k < u.heap.size→k≠x→u'.heap[k]?=u.heap[k]?∨(∃ cs fz,u.heap[k]?=some (.cells cs 111 fz))∨(∃ cs fz,u.heap[k]?=some (.cells cs 149 fz))∨(∃ cs fz,u.heap[k]?=some (.cells cs 154 fz))∨((∃ cs fz,u.heap[k]?=some (.cells cs 74 fz))∧S k)
theorem RG.rh {B0:Nat} {u u':World} {x:Nat} {S:Nat→Prop} (h:RG B0 u u' x S):RH B0 u u' x S:=⟨h.os,h.tape,h.output,h.size,h.low,fun k hk hx => by
 rcases h.block k hk hx with e | e | e | e
 ·exact .inl e
 ·exact .inr (.inl e)
 ·exact .inr (.inr (.inl e))
 ·exact .inr (.inr (.inr (.inr e)))⟩
theorem RH.of {B0:Nat} {u u':World} {x:Nat} {S:Nat→Prop} (h:u.grownBy u' (some x)):RH B0 u u' x S:=(RG.of h).rh
theorem RH.trans {B0:Nat} {a b c:World} {x:Nat} {S S':Nat→Prop} (h:RH B0 a b x S) (k:RH B0 b c x S') (hS:∀ r,r < a.heap.size→S' r→S r):RH B0 a c x S:=by
 refine ⟨k.os.trans h.os,k.tape.trans h.tape,k.output.trans h.output,Nat.le_trans h.size k.size,fun r hb hr hx => (k.low r hb (Nat.lt_of_lt_of_le hr h.size) hx).trans (h.low r hb hr hx),fun r hr hx => ?_⟩
 rcases h.block r hr hx with e | e | e | e | e
 ·have:=k.block r (Nat.lt_of_lt_of_le hr h.size) hx
  rw [e] at this
  rcases this with e | e | e | e | ⟨e,e2⟩
  ·exact .inl e
  ·exact .inr (.inl e)
  ·exact .inr (.inr (.inl e))
  ·exact .inr (.inr (.inr (.inl e)))
  ·exact .inr (.inr (.inr (.inr ⟨e,hS r hr e2⟩)))
 ·exact .inr (.inl e)
 ·exact .inr (.inr (.inl e))
 ·exact .inr (.inr (.inr (.inl e)))
 ·exact .inr (.inr (.inr (.inr e)))
def loadR (P:List (Int × Nat)) (ws:List WI) (gv:Int) (vals:List Nat) (next:Int):Int × List (Int × Nat) × Int :=
 if P≠[]∨ws≠[] then (7,P,gv) else if 16 < vals.length∨next≤vals.length∨4611686018427387904 < next then (1,P,gv)
 else (0,prI (loadF (next - vals.length) vals),next - 1)
theorem prL_snoc (k:Int) (zs:List Nat) (j:Nat) (h:j < zs.length):prI (loadF k (zs.take (j + 1)))=prI (loadF k (zs.take j)) ++ [(k + (j:Nat),zs[j]'h)]:=by
 rw [take_one zs j h,loadF_snoc]
 unfold prI
 rw [List.map_append,List.length_take,Nat.min_eq_left (Nat.le_of_lt h)]
 rfl
end Go.Proofs.YtlliaihmfimdoaaGreat.Qu


namespace Go.Proofs.YtlliaihmfimdoaaGreat.Qu
open Go.RowKit Go.Maps Go.Deep
theorem QOk.rebase {S:QS} {B:Nat→Prop} (h:QOk S):QOk { S with B:=B }:=⟨h.room,h.g0,h.last⟩
end Go.Proofs.YtlliaihmfimdoaaGreat.Qu

