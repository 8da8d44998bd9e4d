/- Parts Bb of one proof. -/
import Derived.Test.YtlliaihmfimdoaaGreatMg08
import Derived.Shelf.SlMaps.Clone
set_option linter.unusedSimpArgs false
set_option linter.unusedVariables false
namespace Go.Proofs.YtlliaihmfimdoaaGreat
open Go.RowKit Go.Maps
def isWork (v:Value):Bool:=match v with
 | .agg cs => (match cs.toList with | [.slice _ _ _,.bool _] => true | _ => false)
 | _ => false
structure WkV where
 A:Option Addr
 n:Nat
 c:Nat
 p:Bool
def WkV.val (x:WkV):Value:=.agg #[.slice x.A x.n x.c,.bool x.p]
theorem isWork_val (x:WkV):isWork x.val=true:=rfl
theorem isWork_inv {v:Value} (h:isWork v=true):∃ x:WkV,v=x.val:=by
 cases v <;> simp only [isWork] at h
 all_goals try cases h
 rename_i cs
 obtain ⟨cs⟩:=cs
 rcases cs with _ | ⟨c0,_ | ⟨c1,_ | ⟨c2,r⟩⟩⟩
 ·cases h
 ·cases c0 <;> cases h
 ·cases c0 <;> cases c1 <;> first | (cases h; done) | exact ⟨⟨_,_,_,_⟩,rfl⟩
 ·cases c0 <;> cases c1 <;> cases h
theorem invI (key:Value) (kl:Lit) (h:keyOf Tryz.prog 3 key=some kl):∃ x:Int,key=.int .i64 x:=by
 obtain ⟨x,rfl,_⟩:=keyOf_i_inv h; exact ⟨x,rfl⟩
theorem invW (v:Value) (y:DataW Value × List MemPlace) (h:asIf isWork v=some y):∃ c:WkV,v=c.val:=isWork_inv (asIf_inv h).1
structure CameW (w w':World) (b r n:Nat) (D:DataW Value) (left:Lit→Bool) (cnt cnt':Nat) (k:Int) (x:WkV):Prop where
 ok:i64ok k
 lf:left (litI k)=true
 at_:∀ zd,D.atKey (litI k) zd=.held x.val
 rg:w'.ranges Tryz.prog 3 (asIf isWork) b r n D (fun z => left z && !z.sameKey (litI k)) cnt'
 lt:cnt' < cnt
 gr:w.grownBy w' (some r)
 sz:w'.heap.size=w.heap.size
set_option maxRecDepth 1000000 in
theorem wpList_next_work (w:World) {ops:Array Oper} {rest:List Oper} {o:Oper} {a:Act} {Q:Exit→Act→World→Prop} (hg:o.guard=none) (it:Operand) (hop:o.op=Op.next it false)
  (b r n:Nat) (D:DataW Value) (left:Lit→Bool) (cnt:Nat) (hit:a.eval it=.pointer (some ⟨r,0,none⟩)) (h:w.ranges Tryz.prog 3 (asIf isWork) b r n D left cnt)
  (hDone:cnt=0→(∀ kl,left kl=false)→wpList Tryz.prog ops Q rest (a.put o.dst (.tuple #[.bool false])) w)
  (hMore:∀ (k:Int) (x:WkV) (w':World) (cnt':Nat),CameW w w' b r n D left cnt cnt' k x→(Instr.entry (.pointer (some ⟨r,0,none⟩))).run Tryz.prog w'=.ok (.tuple #[.int .i64 k,.agg #[.slice x.A x.n x.c,.bool x.p]]) w' →
   wpList Tryz.prog ops Q rest (a.put o.dst (.tuple #[.bool true,.int .i64 k,.agg #[.slice x.A x.n x.c,.bool x.p]])) w') :
  wpList Tryz.prog ops Q (o :: rest) a w :=
 wpList_next_ranges w hg it hop 3 lawI (asIf isWork) (fun x:Int => .int .i64 x) WkV.val invI invW b r n D left cnt hit h hDone (fun x c kl y w' cnt' hkey hlk hv hat hrg hlt hgr hsz hen => by
  obtain ⟨k,e,hk,rfl⟩:=keyOf_i_inv hkey
  cases e
  obtain ⟨_,rfl⟩:=asIf_inv hv
  exact hMore x c w' cnt' ⟨hk,hlk,hat,hrg,hlt,hgr,hsz⟩ hen)
set_option maxRecDepth 1000000 in
theorem copyW_map (b bd n:Nat) (D0:DataW Value) (w:World) (hne:b≠bd) (hown:w.ownsMap Tryz.prog 3 (asIf isWork) b n D0) (hd:w.ownsMap Tryz.prog 3 (asIf isWork) bd 0 (.map [])) (hmax:Maps.size D0≤1000000) :
  Calls Tryz.prog 142 #[.map (some bd),.map (some b)] w fun e w' => e=.returned (.tuple #[])∧w'.ownsMap Tryz.prog 3 (asIf isWork) bd (Maps.size D0) D0∧w.grownBy w' (some bd):=by
 have hbl:=hown.lt
 have hdl:=hd.lt
 go_enter Tryz.func142,Tryz.ntmps142
 go_wp2_with (first
  | (at_range; refine wpList_range_own _ rfl _ 90 rfl 3 138 lawI Tryz.underlying90 _ b n _ rfl hown ?_; intro w0 hrg0 hg0 hs0)
  | go_in)
 go_frame
 go_loopw [] (fun wr => ∃ (left:Lit→Bool) (cnt:Nat) (Dout:DataW Value),wr.ranges Tryz.prog 3 (asIf isWork) b w.heap.size n D0 left cnt∧cnt≤Maps.size D0 ∧
   wr.ownsMap Tryz.prog 3 (asIf isWork) bd (Maps.size D0 - cnt) Dout∧Agree Dout D0 left∧w.grownBy wr (some bd))
  (fun wr => wr.rangeLeft b w.heap.size)
 case atStart =>
  exact ⟨_,_,.map [],hrg0,Nat.le_refl _,(hd.kept hg0 (by simp)).mono (Nat.zero_le _),agree_start D0,hg0.but _⟩
 case round =>
  obtain ⟨left,cnt,Dout,hrg,hcs,hout,hA,hnx⟩:=hrel
  go_wp2_with (first
   | (at_next; refine wpList_next_work _ rfl _ rfl b w.heap.size n _ _ _ rfl hrg ?_ ?_)
   | go_in)
  ·intro hc0 hl0
   go_wp2
   go_end0
   subst hc0
   have e:=agree_end hA hl0 (hout.canon lawI) (hown.canon lawI)
   subst e
   exact ⟨rfl,by simpa using hout,hnx⟩
  ·intro k x w1 cnt1 hc hen
   have hout1:=hout.kept hc.gr (by simp; omega)
   obtain ⟨w2,hw2⟩:∃ w2,w2=w1.alloc (.cells #[.slice x.A x.n x.c,.bool x.p] 138):=⟨_,rfl⟩
   have hb2:w1.grownBy w2 none:=by rw [hw2]; exact World.grownBy_alloc w1 _ none
   have hout2:=hout1.kept hb2 (by simp)
   have hrg2:=hc.rg.kept hb2 (by simp) (by simp)
   have hkey:=keyOf_i k hc.ok
   rw [hw2] at hout2
   go_wp2_with (first
    | (at_mapUpdate; refine wpList_mapUpdate_own _ rfl _ _ _ 90 rfl 3 138 lawI Tryz.underlying90 _ bd _ _ rfl hout2 (by simp only [maxLen]; omega) _ _ _ rfl rfl hkey _ [] (asIf_mk (isWork_val x)) ?_; intro w3 hout3 hg3; go_frame)
    | go_in)
   rw [← hw2] at hg3
   have hrg3:=hrg2.kept hg3 (fun e => by have:=Option.some.inj e; omega) (fun e => by have:=Option.some.inj e; omega)
   go_roundw
   case rel =>
    exact ⟨_,cnt1,_,hrg3,by have:=hc.lt; omega,hout3.mono (by have:=hc.lt; omega),agree_step hA hout.isMap (show WideAt.IsKeyLit (litI k) from trivial) hc.at_,
     ((hnx.andThen hc.gr (fun j hj => by cases hj; exact .inl (Nat.le_refl _))).andThen hb2 (fun j hj => by cases hj)).andThen hg3 (fun j hj => by cases hj; exact .inr rfl)⟩
   case measure => rw [hrg3.left_eq,hrg.left_eq]; exact hc.lt
set_option maxRecDepth 1000000 in
theorem copyW_nil (bd:Nat) (w:World):Calls Tryz.prog 142 #[.map (some bd),.map none] w fun e w' => e=.returned (.tuple #[])∧Below w.heap.size w w':=by
 have hrg:=run_range_nilMap (P:=Tryz.prog) w 90 3 138 Tryz.underlying90
 have hnx:∀ ty,(Instr.next (.pointer (some ⟨w.heap.size,0,none⟩)) false ty).run Tryz.prog (w.alloc (.mapIter none 0 #[] 0))=_:=fun ty => run_next_nilMap w ty 0 0 #[]
 go_enter Tryz.func142,Tryz.ntmps142
 go_wp2
 refine wp_loop_rounds 1 ?_
 rw [rounds_succ]
 go_wp2
 go_end0
 exact ⟨rfl,ba _ _⟩
theorem FSrc.copied {w:World} {m:Option Nat} {n:Nat} {G:Int→Option Value} (h:FSrc isWork w m n G) (hl:n≤1000000) (bd:Nat) (hd:w.ownsMap Tryz.prog 3 (asIf isWork) bd 0 (.map [])) (hne:m≠some bd) :
  ∃ D:DataW Value,ReadsF D G∧Calls Tryz.prog 142 #[.map (some bd),.map m] w fun e w' => e=.returned (.tuple #[])∧w'.ownsMap Tryz.prog 3 (asIf isWork) bd n D∧w.grownBy w' (some bd):=by
 rcases h with ⟨rfl,rfl⟩ | ⟨b,D,rfl,h2,h3⟩
 ·refine ⟨.map [],ReadsF.empty,(copyW_nil bd w).mono ?_⟩
  rintro e w' ⟨rfl,hb⟩
  exact ⟨rfl,(own_below hd hb).mono (Nat.zero_le _),lbelow_grown hb _⟩
 ·have hsz:=h2.size_le
  refine ⟨D,h3,(copyW_map b bd n D w (fun e => hne (by rw [e])) h2 hd (by omega)).mono ?_⟩
  rintro e w' ⟨rfl,ho,hg⟩
  exact ⟨rfl,ho.mono hsz,hg⟩
set_option maxRecDepth 1000000 in
theorem cloneW_nil (w:World):Calls Tryz.prog 144 #[.map none] w fun e w' => e=.returned (.map none)∧w=w':=by
 have hq:=fun w => run_eql_map_nil_sl (P:=Tryz.prog) w 90 _ _ none Tryz.underlying90
 go_enter Tryz.func144,Tryz.ntmps144
 go_wp2
 go_ret
 exact ⟨rfl,rfl⟩
set_option maxRecDepth 1000000 in
theorem cloneW_map (b:Nat) (es:Array MapEntry) (clock:Nat) (w:World) (hb:w.heap[b]?=some (.map es clock)):Calls Tryz.prog 144 #[.map (some b)] w fun e w' => e=.returned (.map (some w.heap.size))∧w'=w.alloc (.map es clock):=by
 have hq:=fun w => run_eql_map_nil_sl (P:=Tryz.prog) w 90 _ _ (some b) Tryz.underlying90
 go_enter Tryz.func144,Tryz.ntmps144
 go_wp2
 rw [run_callFunc_extern Tryz.func157 (by kernel_rfl) (by kernel_rfl) (by kernel_rfl) (e:=Extern.MapsClone.clone) (by kernel_rfl),run_maps_clone_sl w 90 hb]
 simp only [Result.andThen]
 rw [Oper.upon_value]
 go_wp2
 rw [run_typeAssert_map_sl _ 90 _ _ _ _ Tryz.underlying90]
 simp only [Result.andThen]
 rw [Oper.upon_value]
 go_wp2
 go_ret
 exact ⟨rfl,rfl⟩
theorem FSrc.cloned {w:World} {m:Option Nat} {n:Nat} {G:Int→Option Value} (h:FSrc isWork w m n G) :
  Calls Tryz.prog 144 #[.map m] w fun e w' => (∃ m',e=.returned (.map m')∧FSrc isWork w' m' n G∧(∀ b,m'=some b→w.heap.size≤b))∧Below w.heap.size w w':=by
 rcases h with ⟨rfl,rfl⟩ | ⟨b,D,rfl,⟨es,clock,hb,F,hs,hD⟩,h3⟩
 ·refine (cloneW_nil w).mono ?_
  rintro e w' ⟨rfl,rfl⟩
  exact ⟨⟨none,rfl,.inl ⟨rfl,rfl⟩,fun b e => by cases e⟩,Below.refl _ _⟩
 ·refine (cloneW_map b es clock w hb).mono ?_
  rintro e w' ⟨rfl,rfl⟩
  exact ⟨⟨_,rfl,.inr ⟨_,D,rfl,⟨es,clock,(MapKept.heap_alloc w _).1,F,hs,hD⟩,h3⟩,fun b e => by cases e; exact Nat.le_refl _⟩,ba _ _⟩
end Go.Proofs.YtlliaihmfimdoaaGreat

