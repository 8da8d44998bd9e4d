/- Parts SeqL SeqM of one proof. -/
import Derived.RangeFuncNested
import Derived.RangeFuncBound
import Derived.RangeFuncCalls
import Derived.RangeFuncLeaves
import Derived.Below
set_option linter.unusedVariables false
namespace Go.Proofs.YtlliaihmfimdoaaGreat
open Go Go.RowKit
section
variable {F:Fence} {n:Nat} {P:Program}
def LeavesOn {α:Type} (Kp:World→World→Prop) (I:List α→World→Prop) (Ix:Code→List α→World→Prop) (xs:List α) (W:World) (e:Exit) (_:Act) (W':World):Prop :=
 match e with
 | .normal => KeepsOthers W W'∧Kp W W'∧I xs W'
 | .ret => KeepsOthers W W'∧Ix .ret xs W'
 | .exit id => KeepsOthers W W'∧Ix (.exit id) xs W'
 | .goto t => KeepsOthers W W'∧Ix (.goto t) xs W'
 | _ => False
end
end Go.Proofs.YtlliaihmfimdoaaGreat


namespace Go.Proofs.YtlliaihmfimdoaaGreat
open Go Go.RowKit
section
variable {F:Fence} {n:Nat} {P:Program}
theorem wpIn_rangeFunc_leaveM {α:Type} {g:Operand} {ps:Array Tmp} {assign body:Code} {Q:Exit→Act→World→Prop} {a:Act} {w:World}
  (hround:F.round=none) (hdeep:1≤n) {gf:Nat} {rb lb:Array Value} (hgv:a.eval g=.func (.func gf) rb lb) (hin:F.fn gf) (henter:∀ args w,(callFunc gf args).run P w=.ok (.enter gf args) w)
  {encs:α→Array Value} (hsize:∀ x,(encs x).size=ps.size) (Kp:World→World→Prop) (I:List α→World→Prop) (Ix:Code→List α→World→Prop) (X:List α→α→World→Prop) (S Sp:List α→Prop) (N:Nat)
  (kTrans:∀ {A B C:World},Kp A B→Kp B C→Kp A C)
  (kPut:∀ (W:World) (l:Nat) (o o':Obj),w.heap.size≤l→W.heap[l]?=some o→o.isCells=false→Kp W (W.putObj l o'))
  (iPut:∀ (s:List α) (W:World) (l:Nat) (o o':Obj),I s W→w.heap.size≤l→W.heap[l]?=some o→o.isCells=false→I s (W.putObj l o'))
  (xPut:∀ (c:Code) (s:List α) (W:World) (l:Nat) (o o':Obj),Ix c s W→w.heap.size≤l→W.heap[l]?=some o→o.isCells=false→Ix c s (W.putObj l o'))
  (iStart:∀ o o':Obj,I [] ((w.alloc o).alloc o'))
  (hiter:∀ (l:Nat) (W1:World) (Z:World→Prop) (Y:List α→World→Prop),(∀ W W',KeepsOthers W W'→Z W→Z W')→Below w.heap.size w W1→I [] W1→Z W1 →
   (∀ pre x W,I pre W→Z W→X pre x W→pre.length < N→YieldAt F (n - 1 - 1) P l (encs x) W fun e W' =>
    (e=.returned (.bool true)∧I (pre ++ [x]) W'∧Z W'∧Kp W W')∨(e=.returned (.bool false)∧Y (pre ++ [x]) W')) →
   CallsIn F (n - 1) P gf (rb ++ #[.func (.yield l) #[] #[]] ++ lb) W1 fun e W' => (∃ v,e=.returned v)∧((∃ xs,S xs∧I xs W'∧Z W')∨(∃ xs,Sp xs∧Y xs W')))
  (Ax:List α→α→Act→World→Prop) (axPut:∀ (pre:List α) (x:α) (a':Act) (W:World) (l:Nat) (o o':Obj),Ax pre x a' W→w.heap.size≤l→W.heap[l]?=some o→o.isCells=false→Ax pre x a' (W.putObj l o'))
  (hassign:∀ (l:Nat) (pre:List α) (x:α) (W:World) (K:Act→World→Prop),I pre W→X pre x W→(∀ a' W',KeepsOthers W W'→Kp W W'→I pre W'→Ax pre x a' W'→K a' W') →
   assign.wpIn (F.inRound l) (n - 1 - 1) P (Exit.then K (fun _ _ _ => False)) { tmps:=(ps.zip (encs x)).foldl (fun t (p,v) => t.setIfInBounds p v) a.tmps,defers:=[] } W)
  (hbody:∀ (l:Nat) (pre:List α) (x:α) (a':Act) (W:World),w.heap.size≤l→(∃ r,W.heap[l]?=some (.loop r))→I pre W→Ax pre x a' W→pre.length < N→body.wpIn (F.inRound l) (n - 1 - 1) P (LeavesOn Kp I Ix (pre ++ [x]) W) a' W)
  (hdone:∀ (D:Nat) (xs:List α) (W:World),w.heap.size≤D→S xs→I xs W→W.heap[D]?=some (.deferred (some []))→Q .normal { a with defers:={ target:=.collected D,args:=#[] } :: a.defers } W)
  (hstop:∀ (D:Nat) (c:Code) (xs:List α) (W:World),w.heap.size≤D→Sp xs→Ix c xs W→W.heap[D]?=some (.deferred (some []))→c.wpIn F n P Q { a with defers:={ target:=.collected D,args:=#[] } :: a.defers } W) :
  (Code.rangeFunc g ps assign body).wpIn F n P Q a w:=by
 refine wpIn_rangeFunc fun fn hfn => ?_
 rw [hround]
 -- the record,at each of its states
 obtain ⟨st,hst⟩:∃ st:LoopState→Option Code→Loop,st=fun s pe => { state:=s,pending:=pe,fn,tmps:=a.tmps,params:=ps,assign,body,defers:=w.heap.size }:=⟨_,rfl⟩
 have hready:(st .ready none).state=.ready:=by rw [hst]
 have hbusy:({ st .ready none with state:=.busy }:Loop)=st .busy none:=by rw [hst]
 have hend0:∀ j,({ st .busy none with state:=if j.isNone then .ready else .done,pending:=j }:Loop)=st (if j.isNone then .ready else .done) j:=by intro j; rw [hst]
 -- what the iterator must leave alone
 obtain ⟨Z,hZ⟩:∃ Z:LoopState→Option Code→World→Prop,Z=fun s pe W => W.heap[w.heap.size + 1]?=some (.loop (st s pe))∧W.heap[w.heap.size]?=some (.deferred (some [])):=⟨_,rfl⟩
 have zKeep:∀ s pe W W',KeepsOthers W W'→Z s pe W→Z s pe W':=fun s pe W W' hk hz => by
  rw [hZ] at hz ⊢; exact ⟨hk.same _ _ hz.1 rfl,hk.same _ _ hz.2 rfl⟩
 have zTurn:∀ s pe s' pe' W,Z s pe W→Z s' pe' (W.putObj (w.heap.size + 1) (.loop (st s' pe'))):=fun s pe s' pe' W hz => by
  rw [hZ] at hz ⊢
  exact ⟨World.putObj_heap_same (Array.getElem?_eq_some_iff.1 hz.1).1,(World.putObj_heap_other (by omega)).trans hz.2⟩
 obtain ⟨W1,hW1⟩:∃ W1,W1=(w.alloc (.deferred (some []))).alloc (.loop (st .ready none)):=⟨_,rfl⟩
 have hz1:Z .ready none W1:=by
  rw [hZ,hW1]
  refine ⟨?_,(Below.heap_alloc _ _ _ (by simp)).trans (World.alloc_heap_new w _)⟩
  have:=World.alloc_heap_new (w.alloc (.deferred (some []))) (.loop (st .ready none))
  rwa [World.size_alloc] at this
 have hb1:Below w.heap.size w W1:=by rw [hW1]; exact ((Below.refl _ w).alloc (Nat.le_refl _) _).alloc (by simp) _
 refine ⟨w.heap.size + 1,[{ target:=.collected w.heap.size,args:=#[] }],W1,{ target:=.fn (.func gf) lb,args:=rb ++ #[.func (.yield (w.heap.size + 1)) #[] #[]] },W1,gf,
  rb ++ #[.func (.yield (w.heap.size + 1)) #[] #[]] ++ lb,W1,?_,?_,?_,?_,fun _ => hdeep,?_⟩
 ·rw [hW1,hst]; exact run_enterLoop_outer _ _ _ _ _
 ·simp only [resolve,hgv]; simp [go_sem]
 ·intro f' hf'; simp [Target.leads] at hf'; subst hf'; exact hin
 ·simp [invoke,go_sem,henter]
 refine (hiter (w.heap.size + 1) W1 (Z .ready none) (fun xs W => ∃ c,Ix c xs W∧Z .done (some c) W) (fun W W' hk hz => zKeep _ _ _ _ hk hz) hb1 (by rw [hW1]; exact iStart _ _) hz1 ?_).mono ?_
 ·intro pre x W hi hz hX hlen
  have hz':=hz
  rw [hZ] at hz'
  have hy:=run_yield (P:=P) (args:=encs x) hz'.1 (by rw [hst]; exact hsize x)
  have hshape:(st .ready none).fn=fn∧(st .ready none).tmps=a.tmps∧(st .ready none).params=ps∧(st .ready none).assign=assign∧(st .ready none).body=body:=by rw [hst]; exact ⟨rfl,rfl,rfl,rfl,rfl⟩
  obtain ⟨s1,s2,s3,s4,s5⟩:=hshape
  rw [s1,s2,s3,s4,s5] at hy
  refine ⟨fn,_,assign,body,hy,roundIn_of_wpIn hfn (hassign _ pre x W _ hi hX ?_)⟩
  intro a' Wa hka hkpa hia hax
  have hza:=zKeep _ _ _ _ hka hz
  have hza':=hza
  rw [hZ] at hza'
  refine ⟨_,run_beginRound hza'.1 hready,?_⟩
  rw [hbusy]
  have hzb:=zTurn _ _ .busy none Wa hza
  have hzb':=hzb
  rw [hZ] at hzb'
  refine wpIn_mono (hbody _ pre x a' _ (by omega) ⟨_,hzb'.1⟩ (iPut _ _ _ _ _ hia (by omega) hza'.1 rfl) (axPut _ _ _ _ _ _ _ hax (by omega) hza'.1 rfl) hlen) ?_
  intro e a3 W3 hp
  have fin:∀ (jump:Option Code),KeepsOthers (Wa.putObj (w.heap.size + 1) (.loop (st .busy none))) W3 →
    (Instr.endRound (w.heap.size + 1) jump).run P W3=.ok (.bool jump.isNone) (W3.putObj (w.heap.size + 1) (.loop (st (if jump.isNone then .ready else .done) jump))) ∧
    W3.heap[w.heap.size + 1]?=some (.loop (st .busy none))∧Z (if jump.isNone then .ready else .done) jump (W3.putObj (w.heap.size + 1) (.loop (st (if jump.isNone then .ready else .done) jump))):=fun jump hk3 => by
   have hz3:=zKeep _ _ _ _ hk3 hzb
   have hz3':=hz3
   rw [hZ] at hz3'
   have hend:=run_endRound (P:=P) jump hz3'.1
   rw [hend0] at hend
   exact ⟨hend,hz3'.1,zTurn _ _ _ _ W3 hz3⟩
  cases e with
  | normal =>
   obtain ⟨hk3,hkp3,hi3⟩:=hp
   obtain ⟨hr,hl3,hz4⟩:=fin none hk3
   refine ⟨_,_,hr,.inl ⟨rfl,?_,hz4,?_⟩⟩
   ·exact iPut _ _ _ _ _ hi3 (by omega) hl3 rfl
   ·exact kTrans hkpa (kTrans (kTrans (kPut _ _ _ _ (by omega) hza'.1 rfl) hkp3) (kPut _ _ _ _ (by omega) hl3 rfl))
  | ret =>
   obtain ⟨hk3,hi3⟩:=hp
   obtain ⟨hr,hl3,hz4⟩:=fin (some .ret) hk3
   exact ⟨_,_,hr,.inr ⟨rfl,.ret,xPut _ _ _ _ _ _ hi3 (by omega) hl3 rfl,hz4⟩⟩
  | exit id =>
   obtain ⟨hk3,hi3⟩:=hp
   obtain ⟨hr,hl3,hz4⟩:=fin (some (.exit id)) hk3
   exact ⟨_,_,hr,.inr ⟨rfl,.exit id,xPut _ _ _ _ _ _ hi3 (by omega) hl3 rfl,hz4⟩⟩
  | goto t =>
   obtain ⟨hk3,hi3⟩:=hp
   obtain ⟨hr,hl3,hz4⟩:=fin (some (.goto t)) hk3
   exact ⟨_,_,hr,.inr ⟨rfl,.goto t,xPut _ _ _ _ _ _ hi3 (by omega) hl3 rfl,hz4⟩⟩
  | panic _ => exact hp.elim
  | outgrown => exact hp.elim
 ·rintro e W2 ⟨⟨v,rfl⟩,(⟨xs,hS,hi,hz⟩ | ⟨xs,hS,c,hi,hz⟩)⟩
  ·have hz':=hz
   rw [hZ] at hz'
   have hend:=run_endLoop (P:=P) hz'.1 (by rw [hready]; simp)
   have hpend:(st .ready none).pending=none:=by rw [hst]
   rw [hpend] at hend
   exact ⟨none,_,hend,hdone _ xs _ (Nat.le_refl _) hS (iPut _ _ _ _ _ hi (by omega) hz'.1 rfl) ((World.putObj_heap_other (by omega)).trans hz'.2)⟩
  ·have hz':=hz
   rw [hZ] at hz'
   have hend:=run_endLoop (P:=P) hz'.1 (by rw [hst]; simp)
   have hpend:(st .done (some c)).pending=some c:=by rw [hst]
   rw [hpend] at hend
   exact ⟨some c,_,hend,hstop _ c xs _ (Nat.le_refl _) hS (xPut _ _ _ _ _ _ hi (by omega) hz'.1 rfl) ((World.putObj_heap_other (by omega)).trans hz'.2)⟩
end
end Go.Proofs.YtlliaihmfimdoaaGreat

