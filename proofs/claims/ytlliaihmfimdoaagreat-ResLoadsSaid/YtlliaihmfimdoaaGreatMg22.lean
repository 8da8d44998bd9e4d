/- Parts ScopeIn Marks of one proof. -/
import Derived.Test.YtlliaihmfimdoaaGreatMg21
import Derived.WalkMore
set_option linter.unusedVariables false
namespace Go.Proofs.YtlliaihmfimdoaaGreat
open Go Go.RowKit
section
variable {F:Fence} {n:Nat} {P:Program} {b:Frame} {a:Act} {k:List Item} {cs:List Frame} {w:World} {Q:Exit→Act→World→Prop}
theorem stepR_scope {c:Code}:step P (lone (b.atR a (.code (.scope c) :: k)) cs w)=.next (lone (b.atR a (.code c :: .inScope c :: k)) cs w) :=
 step_lone_go (by simp [stepG,stepG.exec,Frame.atR])
theorem stepR_inScope {c:Code}:step P (lone (b.atR a (.inScope c :: k)) cs w)=.next (lone (b.atR a k) cs w) :=
 step_lone_go (by simp [stepG,stepG.exec,Frame.atR])
theorem wpIn_scope_straight {c:Code} (h:c.wpIn F n P (Exit.noGoto Q) a w):(Code.scope c).wpIn F n P Q a w:=by
 intro b k cs hro hb hr
 have h0:(lone (b.atR a (.code (.scope c) :: k)) cs w).fenced P F:=fenced_calm hb hr rfl
 obtain ⟨e,a₁,w₁,hq,harr⟩:=h b (.inScope c :: k) cs hro hb hr
 cases e with
 | normal => exact ⟨.normal,a₁,w₁,hq,.head h0 stepR_scope (StepsIn.trans harr (.one (fenced_calm hb hr rfl) stepR_inScope))⟩
 | exit id =>
  refine ⟨.exit id,a₁,w₁,hq,fun k' hk => .head h0 stepR_scope (harr.1 k' (by simp [exitTo,hk])),fun hs hk => ?_⟩
  obtain ⟨k₁,h1,h2⟩:=harr.2 hs (by simp [exitTo,hk])
  exact ⟨k₁,h1,.head h0 stepR_scope h2⟩
 | goto l => exact hq.elim
 | ret => exact ⟨_,a₁,w₁,hq,.of_steps (.one h0 stepR_scope) harr⟩
 | panic ch => exact ⟨_,a₁,w₁,hq,.of_steps (.one h0 stepR_scope) harr⟩
 | outgrown => exact ⟨_,a₁,w₁,hq,.of_steps (.one h0 stepR_scope) harr⟩
end
end Go.Proofs.YtlliaihmfimdoaaGreat


namespace Go.Proofs.YtlliaihmfimdoaaGreat
open Go Go.RowKit
def mk (Ds:List Nat):List Deferred:=Ds.map fun D => { target:=.collected D,args:=#[] }
def MarksAt (W:World) (lo:Nat) (Ds:List Nat):Prop:=(∀ D ∈ Ds,lo≤D∧W.heap[D]?=some (.deferred (some [])))∧Ds.Nodup
def taken (W:World) (Ds:List Nat):World:=Ds.foldl (fun W D => W.putObj D (.deferred none)) W
section
variable {W W':World} {lo:Nat} {Ds:List Nat}
theorem MarksAt.nil (W:World) (lo:Nat):MarksAt W lo []:=⟨fun D h => by simp at h,List.nodup_nil⟩
theorem MarksAt.cons {D:Nat} (h:MarksAt W lo Ds) (hD:lo≤D) (hW:W.heap[D]?=some (.deferred (some []))) (hn:∀ E ∈ Ds,E≠D):MarksAt W lo (D :: Ds) :=
 ⟨fun E hE => by
  rcases List.mem_cons.1 hE with rfl | h2
  ·exact ⟨hD,hW⟩
  ·exact h.1 E h2,List.nodup_cons.2 ⟨fun hm => hn D hm rfl,h.2⟩⟩
theorem taken_heap (k:Nat):∀ (Ds:List Nat) (W:World),k ∉ Ds→(taken W Ds).heap[k]?=W.heap[k]?:=by
 intro Ds
 induction Ds with
 | nil => intro W _; rfl
 | cons D Ds ih =>
  intro W hk
  have h1:k≠D:=fun e => hk (by simp [e])
  have h2:k ∉ Ds:=fun e => hk (by simp [e])
  exact (ih _ h2).trans (World.putObj_heap_other h1)
theorem taken_same:∀ (Ds:List Nat) (W:World),(taken W Ds).os=W.os∧(taken W Ds).tape=W.tape∧(taken W Ds).output=W.output∧(taken W Ds).heap.size=W.heap.size:=by
 intro Ds
 induction Ds with
 | nil => intro W; exact ⟨rfl,rfl,rfl,rfl⟩
 | cons D Ds ih =>
  intro W
  obtain ⟨h1,h2,h3,h4⟩:=ih (W.putObj D (.deferred none))
  exact ⟨h1,h2,h3,h4.trans (by rw [World.putObj_size])⟩
theorem taken_below {B:Nat} (hB:∀ D ∈ Ds,B≤D):Below B W (taken W Ds):=by
 obtain ⟨h1,h2,h3,h4⟩:=taken_same Ds W
 exact ⟨h1,h2,h3,by omega,fun k hk => taken_heap k Ds W (fun hm => by have:=hB k hm; omega)⟩
variable {F:Fence} {n:Nat} {P:Program} {fn:Func} {tmps:Array Value} {R:Ending→World→Prop}
theorem leaves_marks:∀ (Ds:List Nat) (W:World),MarksAt W lo Ds→(∃ v,(results fn tmps).run P (taken W Ds)=.ok v (taken W Ds)∧R (.returned v) (taken W Ds))→LeavesInM F n P fn tmps R (mk Ds) .returning W:=by
 intro Ds
 induction Ds with
 | nil =>
  intro W _ h
  exact h
 | cons D Ds ih =>
  intro W h hR
  refine ⟨by simp,.inl ⟨D,_,rfl,run_takeDeferred (h.1 D (by simp)).2,?_⟩⟩
  have hnd:=List.nodup_cons.1 h.2
  refine ih _ ⟨fun E hE => ⟨(h.1 E (by simp [hE])).1,?_⟩,hnd.2⟩ hR
  exact (World.putObj_heap_other (fun e => hnd.1 (by rw [← e]; exact hE))).trans (h.1 E (by simp [hE])).2
end
end Go.Proofs.YtlliaihmfimdoaaGreat

