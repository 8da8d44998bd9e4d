/- Parts Q1 Q2 Q3 Q4 Q5 of one proof. -/
import Derived.Test.YtlliaihmfimdoaaGreatMg11
import Derived.Shelf.SlMaps.Clone
set_option linter.unusedSimpArgs false
set_option linter.unusedVariables false
namespace Go.Proofs.YtlliaihmfimdoaaGreat.Qu
open Go.RowKit Go.Maps
def isWork (v:Value):Bool:=match v with
 | .agg cs => (match cs.toList with | [.slice _ _ _,.bool _] => true | _ => false)
 | _ => false
structure WkV where
 A:Option Addr
 n:Nat
 c:Nat
 p:Bool
def WkV.val (x:WkV):Value:=.agg #[.slice x.A x.n x.c,.bool x.p]
theorem isWork_val (x:WkV):isWork x.val=true:=rfl
theorem isWork_inv {v:Value} (h:isWork v=true):∃ x:WkV,v=x.val:=by
 cases v <;> simp only [isWork] at h
 all_goals try cases h
 rename_i cs
 obtain ⟨cs⟩:=cs
 rcases cs with _ | ⟨c0,_ | ⟨c1,_ | ⟨c2,r⟩⟩⟩
 ·cases h
 ·cases c0 <;> cases h
 ·cases c0 <;> cases c1 <;> first | (cases h; done) | exact ⟨⟨_,_,_,_⟩,rfl⟩
 ·cases c0 <;> cases c1 <;> cases h
theorem invI (key:Value) (kl:Lit) (h:keyOf Tryz.prog 3 key=some kl):∃ x:Int,key=.int .i64 x:=by
 obtain ⟨x,rfl,_⟩:=keyOf_i_inv h; exact ⟨x,rfl⟩
theorem invW (v:Value) (y:DataW Value × List MemPlace) (h:asIf isWork v=some y):∃ c:WkV,v=c.val:=isWork_inv (asIf_inv h).1
structure CameW (w w':World) (b r n:Nat) (D:DataW Value) (left:Lit→Bool) (cnt cnt':Nat) (k:Int) (x:WkV):Prop where
 ok:i64ok k
 lf:left (litI k)=true
 at_:∀ zd,D.atKey (litI k) zd=.held x.val
 rg:w'.ranges Tryz.prog 3 (asIf isWork) b r n D (fun z => left z && !z.sameKey (litI k)) cnt'
 lt:cnt' < cnt
 gr:w.grownBy w' (some r)
 sz:w'.heap.size=w.heap.size
set_option maxRecDepth 1000000 in
theorem wpList_next_work (w:World) {ops:Array Oper} {rest:List Oper} {o:Oper} {a:Act} {Q:Exit→Act→World→Prop} (hg:o.guard=none) (it:Operand) (hop:o.op=Op.next it false)
  (b r n:Nat) (D:DataW Value) (left:Lit→Bool) (cnt:Nat) (hit:a.eval it=.pointer (some ⟨r,0,none⟩)) (h:w.ranges Tryz.prog 3 (asIf isWork) b r n D left cnt)
  (hDone:cnt=0→(∀ kl,left kl=false)→wpList Tryz.prog ops Q rest (a.put o.dst (.tuple #[.bool false])) w)
  (hMore:∀ (k:Int) (x:WkV) (w':World) (cnt':Nat),CameW w w' b r n D left cnt cnt' k x→(Instr.entry (.pointer (some ⟨r,0,none⟩))).run Tryz.prog w'=.ok (.tuple #[.int .i64 k,.agg #[.slice x.A x.n x.c,.bool x.p]]) w' →
   wpList Tryz.prog ops Q rest (a.put o.dst (.tuple #[.bool true,.int .i64 k,.agg #[.slice x.A x.n x.c,.bool x.p]])) w') :
  wpList Tryz.prog ops Q (o :: rest) a w :=
 wpList_next_ranges w hg it hop 3 lawI (asIf isWork) (fun x:Int => .int .i64 x) WkV.val invI invW b r n D left cnt hit h hDone (fun x c kl y w' cnt' hkey hlk hv hat hrg hlt hgr hsz hen => by
  obtain ⟨k,e,hk,rfl⟩:=keyOf_i_inv hkey
  cases e
  obtain ⟨_,rfl⟩:=asIf_inv hv
  exact hMore x c w' cnt' ⟨hk,hlk,hat,hrg,hlt,hgr,hsz⟩ hen)
set_option maxRecDepth 1000000 in
theorem copyW_map (b bd n:Nat) (D0:DataW Value) (w:World) (hne:b≠bd) (hown:w.ownsMap Tryz.prog 3 (asIf isWork) b n D0) (hd:w.ownsMap Tryz.prog 3 (asIf isWork) bd 0 (.map [])) (hmax:Maps.size D0≤1000000) :
  Calls Tryz.prog 143 #[.map (some bd),.map (some b)] w fun e w' => e=.returned (.tuple #[])∧w'.ownsMap Tryz.prog 3 (asIf isWork) bd (Maps.size D0) D0∧w.grownBy w' (some bd):=by
 have hbl:=hown.lt
 have hdl:=hd.lt
 go_enter Tryz.func143,Tryz.ntmps143
 go_wp2_with (first
  | (at_range; refine wpList_range_own _ rfl _ 97 rfl 3 143 lawI Tryz.underlying97 _ b n _ rfl hown ?_; intro w0 hrg0 hg0 hs0)
  | go_in)
 go_frame
 go_loopw [] (fun wr => ∃ (left:Lit→Bool) (cnt:Nat) (Dout:DataW Value),wr.ranges Tryz.prog 3 (asIf isWork) b w.heap.size n D0 left cnt∧cnt≤Maps.size D0 ∧
   wr.ownsMap Tryz.prog 3 (asIf isWork) bd (Maps.size D0 - cnt) Dout∧Agree Dout D0 left∧w.grownBy wr (some bd))
  (fun wr => wr.rangeLeft b w.heap.size)
 case atStart =>
  exact ⟨_,_,.map [],hrg0,Nat.le_refl _,(hd.kept hg0 (by simp)).mono (Nat.zero_le _),agree_start D0,hg0.but _⟩
 case round =>
  obtain ⟨left,cnt,Dout,hrg,hcs,hout,hA,hnx⟩:=hrel
  go_wp2_with (first
   | (at_next; refine wpList_next_work _ rfl _ rfl b w.heap.size n _ _ _ rfl hrg ?_ ?_)
   | go_in)
  ·intro hc0 hl0
   go_wp2
   go_end0
   subst hc0
   have e:=agree_end hA hl0 (hout.canon lawI) (hown.canon lawI)
   subst e
   exact ⟨rfl,by simpa using hout,hnx⟩
  ·intro k x w1 cnt1 hc hen
   have hout1:=hout.kept hc.gr (by simp; omega)
   obtain ⟨w2,hw2⟩:∃ w2,w2=w1.alloc (.cells #[.slice x.A x.n x.c,.bool x.p] 143):=⟨_,rfl⟩
   have hb2:w1.grownBy w2 none:=by rw [hw2]; exact World.grownBy_alloc w1 _ none
   have hout2:=hout1.kept hb2 (by simp)
   have hrg2:=hc.rg.kept hb2 (by simp) (by simp)
   have hkey:=keyOf_i k hc.ok
   rw [hw2] at hout2
   go_wp2_with (first
    | (at_mapUpdate; refine wpList_mapUpdate_own _ rfl _ _ _ 97 rfl 3 143 lawI Tryz.underlying97 _ bd _ _ rfl hout2 (by simp only [maxLen]; omega) _ _ _ rfl rfl hkey _ [] (asIf_mk (isWork_val x)) ?_; intro w3 hout3 hg3; go_frame)
    | go_in)
   rw [← hw2] at hg3
   have hrg3:=hrg2.kept hg3 (fun e => by have:=Option.some.inj e; omega) (fun e => by have:=Option.some.inj e; omega)
   go_roundw
   case rel =>
    exact ⟨_,cnt1,_,hrg3,by have:=hc.lt; omega,hout3.mono (by have:=hc.lt; omega),agree_step hA hout.isMap (show WideAt.IsKeyLit (litI k) from trivial) hc.at_,
     ((hnx.andThen hc.gr (fun j hj => by cases hj; exact .inl (Nat.le_refl _))).andThen hb2 (fun j hj => by cases hj)).andThen hg3 (fun j hj => by cases hj; exact .inr rfl)⟩
   case measure => rw [hrg3.left_eq,hrg.left_eq]; exact hc.lt
set_option maxRecDepth 1000000 in
theorem copyW_nil (bd:Nat) (w:World):Calls Tryz.prog 143 #[.map (some bd),.map none] w fun e w' => e=.returned (.tuple #[])∧Below w.heap.size w w':=by
 have hrg:=run_range_nilMap (P:=Tryz.prog) w 97 3 143 Tryz.underlying97
 have hnx:∀ ty,(Instr.next (.pointer (some ⟨w.heap.size,0,none⟩)) false ty).run Tryz.prog (w.alloc (.mapIter none 0 #[] 0))=_:=fun ty => run_next_nilMap w ty 0 0 #[]
 go_enter Tryz.func143,Tryz.ntmps143
 go_wp2
 refine wp_loop_rounds 1 ?_
 rw [rounds_succ]
 go_wp2
 go_end0
 exact ⟨rfl,ba _ _⟩
theorem FSrc.copied {w:World} {m:Option Nat} {n:Nat} {G:Int→Option Value} (h:FSrc isWork w m n G) (hl:n≤1000000) (bd:Nat) (hd:w.ownsMap Tryz.prog 3 (asIf isWork) bd 0 (.map [])) (hne:m≠some bd) :
  ∃ D:DataW Value,ReadsF D G∧Calls Tryz.prog 143 #[.map (some bd),.map m] w fun e w' => e=.returned (.tuple #[])∧w'.ownsMap Tryz.prog 3 (asIf isWork) bd n D∧w.grownBy w' (some bd):=by
 rcases h with ⟨rfl,rfl⟩ | ⟨b,D,rfl,h2,h3⟩
 ·refine ⟨.map [],ReadsF.empty,(copyW_nil bd w).mono ?_⟩
  rintro e w' ⟨rfl,hb⟩
  exact ⟨rfl,(own_below hd hb).mono (Nat.zero_le _),lbelow_grown hb _⟩
 ·have hsz:=h2.size_le
  refine ⟨D,h3,(copyW_map b bd n D w (fun e => hne (by rw [e])) h2 hd (by omega)).mono ?_⟩
  rintro e w' ⟨rfl,ho,hg⟩
  exact ⟨rfl,ho.mono hsz,hg⟩
set_option maxRecDepth 1000000 in
theorem cloneW_nil (w:World):Calls Tryz.prog 145 #[.map none] w fun e w' => e=.returned (.map none)∧w=w':=by
 have hq:=fun w => run_eql_map_nil_sl (P:=Tryz.prog) w 97 _ _ none Tryz.underlying97
 go_enter Tryz.func145,Tryz.ntmps145
 go_wp2
 go_ret
 exact ⟨rfl,rfl⟩
set_option maxRecDepth 1000000 in
theorem cloneW_map (b:Nat) (es:Array MapEntry) (clock:Nat) (w:World) (hb:w.heap[b]?=some (.map es clock)):Calls Tryz.prog 145 #[.map (some b)] w fun e w' => e=.returned (.map (some w.heap.size))∧w'=w.alloc (.map es clock):=by
 have hq:=fun w => run_eql_map_nil_sl (P:=Tryz.prog) w 97 _ _ (some b) Tryz.underlying97
 go_enter Tryz.func145,Tryz.ntmps145
 go_wp2
 rw [run_callFunc_extern Tryz.func157 (by kernel_rfl) (by kernel_rfl) (by kernel_rfl) (e:=Extern.MapsClone.clone) (by kernel_rfl),run_maps_clone_sl w 97 hb]
 simp only [Result.andThen]
 rw [Oper.upon_value]
 go_wp2
 rw [run_typeAssert_map_sl _ 97 _ _ _ _ Tryz.underlying97]
 simp only [Result.andThen]
 rw [Oper.upon_value]
 go_wp2
 go_ret
 exact ⟨rfl,rfl⟩
theorem FSrc.cloned {w:World} {m:Option Nat} {n:Nat} {G:Int→Option Value} (h:FSrc isWork w m n G) :
  Calls Tryz.prog 145 #[.map m] w fun e w' => (∃ m',e=.returned (.map m')∧FSrc isWork w' m' n G∧(∀ b,m'=some b→w.heap.size≤b))∧Below w.heap.size w w':=by
 rcases h with ⟨rfl,rfl⟩ | ⟨b,D,rfl,⟨es,clock,hb,F,hs,hD⟩,h3⟩
 ·refine (cloneW_nil w).mono ?_
  rintro e w' ⟨rfl,rfl⟩
  exact ⟨⟨none,rfl,.inl ⟨rfl,rfl⟩,fun b e => by cases e⟩,Below.refl _ _⟩
 ·refine (cloneW_map b es clock w hb).mono ?_
  rintro e w' ⟨rfl,rfl⟩
  exact ⟨⟨_,rfl,.inr ⟨_,D,rfl,⟨es,clock,(MapKept.heap_alloc w _).1,F,hs,hD⟩,h3⟩,fun b e => by cases e; exact Nat.le_refl _⟩,ba _ _⟩
end Go.Proofs.YtlliaihmfimdoaaGreat.Qu


namespace Go.Proofs.YtlliaihmfimdoaaGreat.Qu
open Go.RowKit
structure IT where
 n:Int
 v:Nat
 t:Int
def IT.val (x:IT):Value:=.agg #[.int .i64 x.n,.int .u64 (x.v:Nat),.int .i64 x.t]
def itV:List IT→List Value
 | [] => []
 | x :: l => .int .i64 x.n :: .int .u64 (x.v:Nat) :: .int .i64 x.t :: itV l
theorem itV_len:∀ l:List IT,(itV l).length=l.length * 3
 | [] => rfl
 | x :: l => by simp only [itV,List.length_cons,itV_len l]; omega
theorem itV_app:∀ l m:List IT,itV (l ++ m)=itV l ++ itV m
 | [],m => rfl
 | x :: l,m => by simp only [List.cons_append,itV,itV_app l m]
theorem itV_one:∀ l:List IT,∀ u ∈ itV l,u.oneCell'=true
 | [],u,h => by simp [itV] at h
 | x :: l,u,h => by
  simp only [itV,List.mem_cons] at h
  rcases h with rfl | rfl | rfl | h
  ·rfl
  ·rfl
  ·rfl
  ·exact itV_one l u h
theorem itV_at:∀ (l:List IT) (i:Nat) (h:i < l.length),(itV l)[i * 3]?=some (.int .i64 (l[i]'h).n)∧(itV l)[i * 3 + 1]?=some (.int .u64 ((l[i]'h).v:Nat))∧(itV l)[i * 3 + 2]?=some (.int .i64 (l[i]'h).t)
 | x :: l,0,h => ⟨rfl,rfl,rfl⟩
 | x :: l,i + 1,h => by
  have:=itV_at l i (by simpa using h)
  rw [show (i + 1) * 3=i * 3 + 3 by omega]
  simpa [itV] using this
def ItAt (w:World) (B:Nat→Prop) (A:Option Addr) (l:List IT):Prop:=0 < l.length→∃ b o,A=some ⟨b,o,none⟩∧(B b∧∃ cs fz,w.heap[b]?=some (.cells cs 152 fz))∧∀ i,(h:i < l.length) →
 w.cell? ⟨b,o + i * 3,none⟩=some (.int .i64 (l[i]'h).n)∧w.cell? ⟨b,o + i * 3 + 1,none⟩=some (.int .u64 ((l[i]'h).v:Nat))∧w.cell? ⟨b,o + i * 3 + 2,none⟩=some (.int .i64 (l[i]'h).t)
theorem ItAt.same {w w':World} {B:Nat→Prop} {A:Option Addr} {l:List IT} (h:ItAt w B A l) (hs:∀ (b:Nat) (cs:Array Value) (fz:Nat × Nat),w.heap[b]?=some (Obj.cells cs 152 fz)→w'.heap[b]?=w.heap[b]?):ItAt w' B A l:=fun hl => by
 obtain ⟨b,o,rfl,⟨hB,cs,fz,hb⟩,hc⟩:=h hl
 have e:=hs b cs fz hb
 have hcell:∀ i,w'.cell? ⟨b,i,none⟩=w.cell? ⟨b,i,none⟩:=fun i => by unfold World.cell?; rw [e]
 exact ⟨b,o,rfl,⟨hB,cs,fz,by rw [e]; exact hb⟩,fun i hi => by rw [hcell,hcell,hcell]; exact hc i hi⟩
theorem ItAt.below {w w':World} {B:Nat→Prop} {A:Option Addr} {l:List IT} (h:ItAt w B A l) (hb:Below w.heap.size w w'):ItAt w' B A l :=
 h.same fun b cs fz hh => hb.block b (Array.getElem?_eq_some_iff.1 hh).1
theorem ItAt.kept {w w':World} {B:Nat→Prop} {A:Option Addr} {l:List IT} {g:Nat} {t:TypeId} {cs:Array Value} (h:ItAt w B A l) (hg:w.grownBy w' (some g)) (hk:Blk w g t cs) (ht:t≠152):ItAt w' B A l :=
 h.same fun b cs' fz hh => hg.block b (Array.getElem?_eq_some_iff.1 hh).1 (fun e => by
  cases e
  unfold Blk at hk
  rw [hk] at hh
  injection hh with hh
  injection hh with _ e2
  exact ht e2)
theorem ItAt.mono {w:World} {B B':Nat→Prop} {A:Option Addr} {l:List IT} (h:ItAt w B A l) (hB:∀ b,B b→b < w.heap.size→B' b):ItAt w B' A l:=fun hl => by
 obtain ⟨b,o,rfl,⟨hb,cs,fz,hh⟩,hc⟩:=h hl
 exact ⟨b,o,rfl,⟨hB b hb (Array.getElem?_eq_some_iff.1 hh).1,cs,fz,hh⟩,hc⟩
def OwnI (w:World) (B:Nat) (A:Option Addr) (c:Nat) (l:List IT):Prop:=w.ownsRow B 152 3 (.slice A l.length c) l.length (itV l)
section
variable {u u':World} {B:Nat} {A:Option Addr} {c:Nat} {l:List IT}
theorem OwnI.nil (w:World) (B:Nat):OwnI w B none 0 []:=World.ownsRow_nil w _ _ _
theorem OwnI.lt' (h:OwnI u B A c l):∀ r,blk A=some r→B≤r∧r < u.heap.size:=fun r e => World.ownsRow.lt h r (by rw [ownBlock_slice]; exact e)
theorem OwnI.kept {row:Option Nat} (h:OwnI u B A c l) (hg:u.grownBy u' row) (hr:∀ r,row=some r→r < B):OwnI u' B A c l:=by
 refine World.ownsRow.kept h hg ?_
 rcases hb:(Value.slice A l.length c).ownBlock with _ | k
 ·exact .inl rfl
 ·exact .inr (fun e => by have:=(h.lt k hb).1; have:=hr k e.symm; omega)
theorem OwnI.at_ (h:OwnI u B A c l):ItAt u (fun b => B≤b) A l:=fun hl => by
 rcases h.2 with ⟨h1,h2⟩ | ⟨g,cap,cur,h1,hb,hg,hn,hm,hc,ht⟩
 ·omega
 ·injection h1 with e1 e2 e3
  refine ⟨g,0,e1,⟨hb,cur,_,hg⟩,fun i hi => ?_⟩
  have hcell:∀ j v,(itV l)[j]?=some v→u.cell? ⟨g,0 + j,none⟩=some v:=fun j v hv => by
   rw [Nat.zero_add,cell_of_row u g j cur _ (0,0) hg]
   rw [← ht,List.getElem?_take] at hv
   split at hv
   ·simpa using hv
   ·cases hv
  obtain ⟨a1,a2,a3⟩:=itV_at l i hi
  exact ⟨hcell _ _ a1,hcell _ _ a2,hcell _ _ a3⟩
theorem Tryz.infoIt:(Tryz.prog.info? 152).map (fun i => (i.zero,i.size,i.bytes))=some (some (.agg #[.int .i64 0,.int .u64 0,.int .i64 0]),3,24):=by kernel_rfl
theorem it_app (h:OwnI u B A c l) (A':Option Addr) (c':Nat) (m:List IT) (n n':Nat) (hn:n=l.length) (hn':n'=m.length) (hz:∀ b o,A'=some ⟨b,o,none⟩→∀ i (hi:i < m.length),u.cell? ⟨b,o + i * 3,none⟩=some (.int .i64 (m[i]'hi).n)∧u.cell? ⟨b,o + i * 3 + 1,none⟩=some (.int .u64 ((m[i]'hi).v:Nat))∧u.cell? ⟨b,o + i * 3 + 2,none⟩=some (.int .i64 (m[i]'hi).t)) (hA:0 < m.length→∃ b o,A'=some ⟨b,o,none⟩) (hc:n≤c) (hl:l.length + m.length≤1000000) (hB:B≤u.heap.size) :
  ∃ A2 c2 u',(Builtin.append_ #[96,96] 96 #[.slice A n c,.slice A' n' c']).run Tryz.prog u=.ok (.slice A2 (n + n') c2) u'∧OwnI u' B A2 c2 (l ++ m)∧u.grownBy u' (blk A)∧(∀ r,blk A2=some r→blk A=some r∨r=u.heap.size):=by
 subst hn hn'
 obtain ⟨i0,hi,hz0,hz1,hz2⟩:=info_parts Tryz.infoIt
 rcases Nat.eq_zero_or_pos m.length with h0 | h0
 ·have hm:m=[]:=List.eq_nil_of_length_eq_zero h0
  subst hm
  refine ⟨A,c,u,?_,by rw [List.append_nil]; exact h,⟨rfl,rfl,rfl,Nat.le_refl _,fun _ _ _ => rfl⟩,fun r hr => .inl hr⟩
  exact run_append_nothing u 96 96 96 152 i0 Tryz.underlying96 hi A l.length c hc (.slice A' 0 c') ⟨.inl ⟨_,Tryz.underlying96⟩,fun _ => by cases A' <;> rfl,by rcases A' with _ | a; exact run_firstCells_none u i0.size 0 0 c'; exact run_firstCells_some u i0.size 0 a 0 c' [] (by simp) (by simp),by rcases A' with _ | a; exact run_firstCells_none u.drew i0.size 0 0 c'; exact run_firstCells_some u.drew i0.size 0 a 0 c' [] (by simp) (by simp),by simp,by simp⟩
 ·obtain ⟨b,o,rfl⟩:=hA h0
  have hcs:=hz b o rfl
  obtain ⟨v',w',hrun,hown,hgr,_,hob⟩:=run_append_own_at (P:=Tryz.prog) u B 96 96 152 i0 _ 3 24 Tryz.underlying96 hi hz0 hz1 hz2 rfl (by omega) (.slice A l.length c) l.length (itV l) h ⟨b,o,none⟩ m.length c' (itV m) (itV_len m)
   (fun j v hv => by
    rw [Addr.add_lit]
    have hj:j < (itV m).length:=(List.getElem?_eq_some_iff.1 hv).1
    rw [itV_len] at hj
    obtain ⟨q,r,hr,rfl⟩:∃ q r,r < 3∧j=q * 3 + r:=⟨j / 3,j % 3,Nat.mod_lt _ (by omega),by omega⟩
    have hq:q < m.length:=by omega
    obtain ⟨a1,a2,a3⟩:=itV_at m q hq
    obtain ⟨d1,d2,d3⟩:=hcs q hq
    match r,hr with
    | 0,_ => rw [Nat.add_zero] at hv ⊢; rw [a1] at hv; cases hv; exact d1
    | 1,_ => rw [a2] at hv; cases hv; exact d2
    | 2,_ => rw [a3] at hv; cases hv; exact d3)
   (itV_one m) (by simp only [maxLen]; omega) (by omega) hB
  obtain ⟨g2,c2,rfl⟩:=Joins.ownsRow_form hown (by omega)
  rw [ownBlock_slice] at hgr
  rw [ownBlock_slice,ownBlock_slice] at hob
  refine ⟨some ⟨g2,0,none⟩,c2,w',hrun,?_,hgr,fun r hr => by rcases hob with h | h; exact .inl (by rw [← h]; exact hr); rw [hr] at h; cases h; exact .inr rfl⟩
  unfold OwnI
  rw [List.length_append,itV_app]
  exact hown
theorem OwnI.cap (h:OwnI u B A c l):l.length≤c:=by
 obtain ⟨_,⟨h1,h2⟩ | ⟨g,cap,cur,e,_,_,hle,_⟩⟩:=h
 ·rw [h2]; exact Nat.zero_le _
 ·cases e; exact hle
end
theorem iclone_any (A:Option Addr) (l:List IT) (n c:Nat) (w:World) (hn:Hid (n=l.length)) (hm:Hid (n≤500000)) {B:Nat→Prop} (h:ItAt w B A l) :
  Calls Tryz.prog 149 #[.slice A n c] w fun e w' => ∃ A2 c2,e=.returned (.slice A2 n c2)∧OwnI w' w.heap.size A2 c2 l∧Below w.heap.size w w':=by
 cases A with
 | none =>
  have hl:l=[]:=by
   cases l with
   | nil => rfl
   | cons x t => obtain ⟨b,o,e,_⟩:=h (by simp); cases e
  subst hl
  obtain rfl:n=0:=hn.out
  have hnl:∀ w,(binOp .eql 96 (.slice none 0 c) (.slice none 0 0)).run Tryz.prog w=.ok (.bool true) w:=fun w => by simp [binOp,Go.run_equal_slice_nil w 96 152 none 0 c Tryz.underlying96]
  go_enter Tryz.func149,Tryz.ntmps149
  go_wp2
  go_ret
  exact ⟨none,0,rfl,OwnI.nil _ _,Below.refl _ _⟩
 | some a =>
  obtain ⟨w1,hw1⟩:∃ w1,w1=w.alloc (.cells #[] 152):=⟨_,rfl⟩
  have ow:OwnI w1 w.heap.size (some ⟨w.heap.size,0,none⟩) 0 []:=by
   rw [hw1]
   exact World.ownsRow_made w #[] 0 (Nat.le_refl _) (by simp [maxLen]) rfl
  have hbw:Below w.heap.size w w1:=by rw [hw1]; exact ba _ _
  have hat:=h.below hbw
  obtain ⟨A2,c2,w2,hrun,own2,hg2,_⟩:=it_app ow (some a) c l 0 n rfl hn.out (fun b o e i hi => by
   obtain ⟨b',o',e',_,hc⟩:=hat (by omega)
   cases e; cases e'; exact hc i hi) (fun hl => by obtain ⟨b',o',e',_⟩:=hat hl; exact ⟨b',o',e'⟩) (Nat.zero_le _) (by have:=hm.out; have:=hn.out; simp; omega) hbw.size
  rw [Nat.zero_add] at hrun
  rw [List.nil_append] at own2
  have hF:Below w.heap.size w w2:=hbw.grown hg2 hbw.size (fun k e => by have:=(ow.lt' k e).1; exact this)
  have HO:=Lib.hid (And.intro own2 hF)
  rw [hw1] at hrun
  have hnl:∀ w,(binOp .eql 96 (.slice (some a) n c) (.slice none 0 0)).run Tryz.prog w=.ok (.bool false) w:=fun w => by simp [binOp,Go.run_equal_slice_nil w 96 152 (some a) n c Tryz.underlying96]
  clear hw1 ow hbw hat own2 hg2 hF h
  go_enter Tryz.func149,Tryz.ntmps149
  go_wp2_with (at_builtin; refine wpList_append_run rfl (.tmp 5) (.tmp 6) 96 rfl _ _ _ w2 rfl rfl hrun ?_)
  go_ret
  exact ⟨A2,c2,rfl,HO.out.1,HO.out.2⟩
end Go.Proofs.YtlliaihmfimdoaaGreat.Qu


namespace Go.Proofs.YtlliaihmfimdoaaGreat.Qu
open Go.RowKit Go.Maps
structure WQ where
 n:Int
 l:List Ch
 p:Bool
structure QS where
 B:Nat→Prop
 I:List IT
 g:Int
 ws:List WQ
def QS.zero (B:Nat→Prop):QS:=⟨B,[],0,[]⟩
def findQ (ws:List WQ) (n:Int):Option WQ:=ws.find? fun y => decide (y.n=n)
def lookQ (ws:List WQ) (n:Int):Option (List Ch × Bool):=(findQ ws n).map fun y => (y.l,y.p)
def curQ (ws:List WQ) (n:Int):List Ch × Bool:=(lookQ ws n).getD ([],false)
def layQ (ws:List WQ) (n:Int) (l:List Ch) (p:Bool):List WQ:=if (findQ ws n).isSome then ws.map (fun y => if y.n=n then ⟨n,l,p⟩ else y) else ws ++ [⟨n,l,p⟩]
def othersQ (ws:List WQ) (n:Int):List WQ:=ws.filter fun y => decide (y.n≠n)
def putsL (l:List Ch):Nat:=(l.filter fun x => decide (x.k=3)).length
def putsW (ws:List WQ):Nat:=(ws.map fun y => putsL y.l).sum
theorem findQ_mem {ws:List WQ} {n:Int} {y:WQ} (h:findQ ws n=some y):y ∈ ws∧y.n=n:=by
 unfold findQ at h
 exact ⟨List.mem_of_find?_eq_some h,by simpa using List.find?_some h⟩
theorem findQ_cons (a:WQ) (r:List WQ) (k:Int):findQ (a :: r) k=if a.n=k then some a else findQ r k:=by
 unfold findQ
 rw [List.find?_cons]
 by_cases e:a.n=k
 ·simp [e]
 ·simp [e]
theorem findQ_none {ws:List WQ} {n:Int}:findQ ws n=none ↔ ∀ y ∈ ws,y.n≠n:=by
 unfold findQ
 rw [List.find?_eq_none]
 simp
theorem findQ_of {ws:List WQ} {y:WQ} (hd:ws.Pairwise fun a b => a.n≠b.n) (hy:y ∈ ws):findQ ws y.n=some y:=by
 induction ws with
 | nil => cases hy
 | cons a r ih =>
  rw [List.pairwise_cons] at hd
  rw [findQ_cons]
  rcases List.mem_cons.1 hy with rfl | hy
  ·rw [if_pos rfl]
  ·rw [if_neg (hd.1 y hy)]; exact ih hd.2 hy
theorem findQ_map (ws:List WQ) (n:Int) (l:List Ch) (p:Bool) (m:Int):findQ (ws.map (fun y => if y.n=n then (⟨n,l,p⟩:WQ) else y)) m=if m=n then (findQ ws n).map (fun _ => ⟨n,l,p⟩) else findQ ws m:=by
 induction ws with
 | nil => split <;> rfl
 | cons a r ih =>
  rw [List.map_cons,findQ_cons,findQ_cons,findQ_cons,ih]
  by_cases e:a.n=n
  ·rw [if_pos e]
   by_cases em:m=n
   ·rw [if_pos em,if_pos em,if_pos em.symm,if_pos e]; rfl
   ·rw [if_neg em,if_neg em,if_neg (fun h => em h.symm),if_neg (fun h => em (h.symm.trans e))]
  ·rw [if_neg e,if_neg e]
   by_cases em:m=n
   ·rw [if_pos em,if_pos em,if_neg (fun h => e (h.trans em))]
   ·rw [if_neg em,if_neg em]
theorem findQ_snoc (ws:List WQ) (z:WQ) (m:Int):findQ (ws ++ [z]) m=(findQ ws m).or (if z.n=m then some z else none):=by
 unfold findQ
 rw [List.find?_append]
 congr 1
 by_cases e:z.n=m
 ·simp [e]
 ·simp [e]
theorem findQ_lay (ws:List WQ) (n:Int) (l:List Ch) (p:Bool) (m:Int):findQ (layQ ws n l p) m=if m=n then some ⟨n,l,p⟩ else findQ ws m:=by
 unfold layQ
 rcases hf:findQ ws n with _ | y
 ·rw [if_neg (by simp),findQ_snoc]
  by_cases e:m=n
  ·subst e; rw [hf,if_pos rfl]; simp
  ·rw [if_neg e,if_neg (fun h => e h.symm)]; simp
 ·rw [if_pos (by simp),findQ_map]
  by_cases e:m=n
  ·rw [if_pos e,if_pos e,hf]; rfl
  ·rw [if_neg e,if_neg e]
theorem findQ_others (ws:List WQ) (n m:Int):findQ (othersQ ws n) m=if m=n then none else findQ ws m:=by
 unfold findQ othersQ
 rw [List.find?_filter]
 split
 ·rename_i e
  subst e
  rw [List.find?_eq_none]
  intro y hy
  simp
 ·rename_i hmn
  congr 1
  funext y
  by_cases e:y.n=m
  ·simp [e,hmn]
  ·simp [e]
theorem lookQ_lay (ws:List WQ) (n:Int) (l:List Ch) (p:Bool) (m:Int):lookQ (layQ ws n l p) m=if m=n then some (l,p) else lookQ ws m:=by
 unfold lookQ; rw [findQ_lay]; split <;> rfl
theorem lookQ_others (ws:List WQ) (n m:Int):lookQ (othersQ ws n) m=if m=n then none else lookQ ws m:=by
 unfold lookQ; rw [findQ_others]; split <;> rfl
theorem layQ_mem {ws:List WQ} {n:Int} {l:List Ch} {p:Bool} {y:WQ} (h:y ∈ layQ ws n l p):y=⟨n,l,p⟩∨(y ∈ ws∧y.n≠n):=by
 unfold layQ at h
 split at h
 ·obtain ⟨x,hx,rfl⟩:=List.mem_map.1 h
  split
  ·exact .inl rfl
  ·rename_i hne; exact .inr ⟨hx,hne⟩
 ·rename_i hf
  rcases List.mem_append.1 h with h | h
  ·exact .inr ⟨h,by
    have:findQ ws n=none:=by rcases hh:findQ ws n with _ | z; rfl; rw [hh] at hf; simp at hf
    exact findQ_none.1 this y h⟩
  ·simp at h; exact .inl h
theorem layQ_nd {ws:List WQ} (hd:ws.Pairwise fun a b => a.n≠b.n) (n:Int) (l:List Ch) (p:Bool):(layQ ws n l p).Pairwise fun a b => a.n≠b.n:=by
 unfold layQ
 split
 ·rw [List.pairwise_map]
  refine hd.imp fun {a b} hab => ?_
  by_cases e1:a.n=n
  ·by_cases e2:b.n=n
   ·exact absurd (e1.trans e2.symm) hab
   ·rw [if_pos e1,if_neg e2]; exact fun h => e2 h.symm
  ·by_cases e2:b.n=n
   ·rw [if_neg e1,if_pos e2]; exact e1
   ·rw [if_neg e1,if_neg e2]; exact hab
 ·rename_i hf
  have hn:findQ ws n=none:=by rcases hh:findQ ws n with _ | z; rfl; rw [hh] at hf; simp at hf
  rw [List.pairwise_append]
  refine ⟨hd,List.pairwise_singleton _ _,fun a ha b hb => ?_⟩
  obtain rfl:=List.mem_singleton.1 hb
  exact findQ_none.1 hn a ha
theorem othersQ_nd {ws:List WQ} (hd:ws.Pairwise fun a b => a.n≠b.n) (n:Int):(othersQ ws n).Pairwise fun a b => a.n≠b.n:=hd.sublist List.filter_sublist
theorem putsW_cons (a:WQ) (r:List WQ):putsW (a :: r)=putsL a.l + putsW r:=by unfold putsW; simp
theorem putsW_others:∀ (ws:List WQ) (n:Int),ws.Pairwise (fun a b => a.n≠b.n)→putsW (othersQ ws n) + putsL (curQ ws n).1=putsW ws
 | [],n,_ => rfl
 | a :: r,n,hd => by
  rw [List.pairwise_cons] at hd
  have ih:=putsW_others r n hd.2
  have hc:curQ (a :: r) n=if a.n=n then (a.l,a.p) else curQ r n:=by
   unfold curQ lookQ; rw [findQ_cons]; split <;> rfl
  have ho:othersQ (a :: r) n=if a.n=n then othersQ r n else a :: othersQ r n:=by
   unfold othersQ; rw [List.filter_cons]
   by_cases e:a.n=n
   ·simp [e]
   ·simp [e]
  rw [hc,ho,putsW_cons]
  by_cases e:a.n=n
  ·rw [if_pos e,if_pos e]
   have h0:curQ r n=([],false):=by
    unfold curQ lookQ
    rw [findQ_none.2 (fun y hy => fun h => hd.1 y hy (e.trans h.symm))]
    rfl
   rw [h0] at ih
   have:putsL ([]:List Ch)=0:=rfl
   dsimp only at ih ⊢
   omega
  ·rw [if_neg e,if_neg e,putsW_cons]
   omega
theorem othersQ_lay (ws:List WQ) (n:Int) (l:List Ch) (p:Bool):othersQ (layQ ws n l p) n=othersQ ws n:=by
 unfold layQ
 split
 ·unfold othersQ
  rw [List.filter_map]
  have e1:((fun y:WQ => decide (y.n≠n)) ∘ fun y => if y.n=n then (⟨n,l,p⟩:WQ) else y)=fun y:WQ => decide (y.n≠n):=by
   funext y
   simp only [Function.comp]
   by_cases e:y.n=n
   ·simp [e]
   ·simp [e]
  rw [e1]
  conv => rhs; rw [← List.map_id (List.filter _ ws)]
  refine List.map_congr_left fun y hy => ?_
  have:=(List.mem_filter.1 hy).2
  rw [if_neg (by simpa using this)]; rfl
 ·unfold othersQ
  rw [List.filter_append]
  simp
theorem putsW_lay (ws:List WQ) (n:Int) (l:List Ch) (p:Bool) (hd:ws.Pairwise fun a b => a.n≠b.n):putsW (layQ ws n l p) + putsL (curQ ws n).1=putsW ws + putsL l:=by
 have h1:=putsW_others ws n hd
 have h2:=putsW_others (layQ ws n l p) n (layQ_nd hd n l p)
 rw [othersQ_lay] at h2
 have h3:curQ (layQ ws n l p) n=(l,p):=by unfold curQ; rw [lookQ_lay,if_pos rfl]; rfl
 rw [h3] at h2
 dsimp only at h2
 omega
def WRel (w:World) (B:Nat→Prop) (G:Int→Option Value) (W:Int→Option (List Ch × Bool)):Prop:=∀ k,(W k=none→G k=none)∧(∀ l p,W k=some (l,p)→∃ A n c,G k=some (.agg #[.slice A n c,.bool p])∧n=l.length∧ChAt w B A l)
theorem WRel.same {w w':World} {B B':Nat→Prop} {G:Int→Option Value} {W:Int→Option (List Ch × Bool)} (h:WRel w B G W) (hs:∀ A l,ChAt w B A l→ChAt w' B' A l):WRel w' B' G W:=fun k => ⟨(h k).1,fun l p e => by
 obtain ⟨A,n,c,h1,h2,h3⟩:=(h k).2 l p e
 exact ⟨A,n,c,h1,h2,hs _ _ h3⟩⟩
theorem WRel.put {w:World} {B:Nat→Prop} {G:Int→Option Value} {ws:List WQ} (h:WRel w B G (lookQ ws)) (k:Int) (A:Option Addr) (n c:Nat) (l:List Ch) (p:Bool) (hn:n=l.length) (hc:ChAt w B A l):WRel w B (putG G k (.agg #[.slice A n c,.bool p])) (lookQ (layQ ws k l p)):=fun j => by
 rw [lookQ_lay]
 unfold putG
 by_cases e:j=k
 ·rw [if_pos e,if_pos e]
  exact ⟨fun h => by (cases h),fun l' p' e' => by cases e'; exact ⟨A,n,c,rfl,hn,hc⟩⟩
 ·rw [if_neg e,if_neg e]; exact h j
theorem WRel.del {w:World} {B:Nat→Prop} {G:Int→Option Value} {ws:List WQ} (h:WRel w B G (lookQ ws)) (k:Int):WRel w B (delG G k) (lookQ (othersQ ws k)):=fun j => by
 rw [lookQ_others]
 unfold delG
 by_cases e:j=k
 ·rw [if_pos e,if_pos e]
  exact ⟨fun _ => rfl,fun l' p' e' => by cases e'⟩
 ·rw [if_neg e,if_neg e]; exact h j
def anyB:Nat→Prop:=fun _ => True
def Keep3 (of:Nat) (cs cs':Array Value):Prop:=cs'.size=cs.size∧∀ i,i≠of→i≠of + 1→i≠of + 2→cs'[i]?=cs[i]?
theorem Keep3.rfl' {of:Nat} {cs:Array Value}:Keep3 of cs cs:=⟨rfl,fun _ _ _ _ => rfl⟩
theorem Keep3.trans {of:Nat} {a b c:Array Value} (h:Keep3 of a b) (k:Keep3 of b c):Keep3 of a c:=⟨k.1.trans h.1,fun i h1 h2 h3 => (k.2 i h1 h2 h3).trans (h.2 i h1 h2 h3)⟩
theorem Keep3.set {of:Nat} (cs:Array Value) (j:Nat) (hj:j=of∨j=of + 1∨j=of + 2) (v:Value):Keep3 of cs (cs.setIfInBounds j v):=⟨by simp,fun i h1 h2 h3 => Array.getElem?_setIfInBounds_ne (by omega)⟩
structure QInv (S:QS):Prop where
 room:S.I.length + putsW S.ws≤48
 g0:0≤S.g
 last:S.g + 1 + (putsW S.ws:Int)≤4611686018427387952
structure QOk (S:QS):Prop where
 room:S.I.length + putsW S.ws≤16
 g0:0≤S.g
 last:S.g + 1 + (putsW S.ws:Int)≤4611686018427387904
theorem QOk.inv {S:QS} (h:QOk S):QInv S:=⟨by have:=h.room; omega,h.g0,by have:=h.last; omega⟩
structure QAt (w:World) (g of:Nat) (tt:TypeId) (cs:Array Value) (S:QS) (N:Nat):Prop where
 bk:Blk w g tt cs
 ty:tt≠74∧tt≠152
 it:∃ A n c,cs[of]?=some (.slice A n c)∧n=S.I.length∧n≤c∧c≤9223372036854775807∧ItAt w anyB A S.I
 la:cs[of + 1]?=some (.int .i64 S.g)
 wk:∃ m G,cs[of + 2]?=some (.map m)∧FSrc isWork w m N G∧WRel w S.B G (lookQ S.ws)
 nd:S.ws.Pairwise fun a b => a.n≠b.n
 le:∀ y ∈ S.ws,y.l.length≤N∧i64ok y.n
 iv:QInv S
section
variable {w w':World} {g of N:Nat} {tt:TypeId} {cs:Array Value} {S:QS}
theorem QAt.lt (h:QAt w g of tt cs S N):g < w.heap.size:=h.bk.lt
theorem QAt.below (h:QAt w g of tt cs S N) (hb:Below w.heap.size w w'):QAt w' g of tt cs S N:=by
 obtain ⟨h1,h2,⟨A,n,c,a1,a2,a3,a4,a5⟩,h3,⟨m,G,h4,h5,h6⟩,h7,h8,h9⟩:=h
 exact ⟨h1.below hb h1.lt,h2,⟨A,n,c,a1,a2,a3,a4,a5.below hb⟩,h3,⟨m,G,h4,h5.below hb,h6.same fun A l hc => hc.below hb⟩,h7,h8,h9⟩
theorem QAt.far {g':Nat} {t':TypeId} {cs':Array Value} (h:QAt w g of tt cs S N) (hg:w.grownBy w' (some g')) (hne:g≠g') (hk:Blk w g' t' cs') (ht:t'≠74) (ht2:t'≠152):QAt w' g of tt cs S N:=by
 obtain ⟨h1,h2,⟨A,n,c,a1,a2,a3,a4,a5⟩,h3,⟨m,G,h4,h5,h6⟩,h7,h8,h9⟩:=h
 exact ⟨h1.kept hg (by simpa using hne),h2,⟨A,n,c,a1,a2,a3,a4,a5.kept hg hk ht2⟩,h3,⟨m,G,h4,h5.kept hg hk,h6.same fun A l hc => hc.kept hg hk ht⟩,h7,h8,h9⟩
theorem QAt.more {N':Nat} (h:QAt w g of tt cs S N) (hN:N≤N'):QAt w g of tt cs S N':=by
 obtain ⟨h1,h2,h0,h3,⟨m,G,h4,h5,h6⟩,h7,h8,h9⟩:=h
 exact ⟨h1,h2,h0,h3,⟨m,G,h4,h5.more hN,h6⟩,h7,fun y hy => ⟨Nat.le_trans (h8 y hy).1 hN,(h8 y hy).2⟩,h9⟩
theorem QAt.rebase {B':Nat→Prop} (h:QAt w g of tt cs S N) (hB:∀ b,S.B b→b < w.heap.size→B' b):QAt w g of tt cs { S with B:=B' } N:=by
 obtain ⟨h1,h2,h0,h3,⟨m,G,h4,h5,h6⟩,h7,h8,h9⟩:=h
 exact ⟨h1,h2,h0,h3,⟨m,G,h4,h5,h6.same fun A l hc => hc.mono hB⟩,h7,h8,⟨h9.room,h9.g0,h9.last⟩⟩
end
def QO (w:World) (g of:Nat) (tt:TypeId) (cs:Array Value) (S:QS) (N:Nat) (w':World):Prop:=(∃ cs',QAt w' g of tt cs' S N∧Keep3 of cs cs')∧w.grownBy w' (some g)
theorem QO.same {w w':World} {g of:Nat} {tt:TypeId} {cs:Array Value} {S:QS} {N:Nat} (h:QAt w g of tt cs S N) (hb:Below w.heap.size w w'):QO w g of tt cs S N w':=⟨⟨cs,h.below hb,Keep3.rfl'⟩,lbelow_grown hb _⟩
theorem QO.from {a w w':World} {g of:Nat} {tt:TypeId} {cs cs1:Array Value} {S:QS} {N:Nat} (hk:Keep3 of cs cs1) (hg:a.grownBy w (some g)) (h:QO w g of tt cs1 S N w'):QO a g of tt cs S N w':=by
 obtain ⟨⟨cs',h1,h2⟩,h3⟩:=h
 exact ⟨⟨cs',h1,hk.trans h2⟩,hg.trans h3⟩
theorem QAt.look {w:World} {g of N:Nat} {tt:TypeId} {cs:Array Value} {S:QS} (h:QAt w g of tt cs S N) {n:Int} (hn:i64ok n):∃ m A q c,cs[of + 2]?=some (.map m)∧q=(curQ S.ws n).1.length∧ChAt w S.B A (curQ S.ws n).1 ∧
  (Instr.lookup 97 (.map m) (.int .i64 n) false).run Tryz.prog w=.ok (.agg #[.slice A q c,.bool (curQ S.ws n).2]) w∧(Instr.lookup 97 (.map m) (.int .i64 n) true).run Tryz.prog w=.ok (.tuple #[.agg #[.slice A q c,.bool (curQ S.ws n).2],.bool (lookQ S.ws n).isSome]) w:=by
 obtain ⟨m,G,h4,h5,h6⟩:=h.wk
 have r1:=h5.look 97 143 Tryz.underlying97 (z:=.agg #[.slice none 0 0,.bool false]) rfl (Tryz.zeroValue143 w) hn
 have r2:=h5.look_ok 97 143 Tryz.underlying97 (z:=.agg #[.slice none 0 0,.bool false]) rfl (Tryz.zeroValue143 w) hn
 unfold curQ
 rcases hW:lookQ S.ws n with _ | ⟨l,p⟩
 ·have hG:=(h6 n).1 hW
  rw [hG] at r1 r2
  exact ⟨m,none,0,0,h4,rfl,fun hl => by simp at hl,r1,r2⟩
 ·obtain ⟨A,q,c,hG,hq,hc⟩:=(h6 n).2 l p hW
  rw [hG] at r1 r2
  exact ⟨m,A,q,c,h4,hq,hc,r1,r2⟩
end Go.Proofs.YtlliaihmfimdoaaGreat.Qu


namespace Go.Proofs.YtlliaihmfimdoaaGreat.Qu
open Go.RowKit Go.Maps
theorem names_nil (n:Int) (w:World):Calls Tryz.prog 111 #[.pointer none,.int .i64 n] w fun e w' => e=.returned (.int .i64 6)∧w=w':=by
 go_enter Tryz.func111,Tryz.ntmps111
 go_wp2
 go_ret
 exact ⟨rfl,rfl⟩
def namesE (n:Int):Int:=if n < 1 then 1 else 0
theorem names_any (g of:Nat) (n:Int) (w:World):Calls Tryz.prog 111 #[.pointer (some ⟨g,of,none⟩),.int .i64 n] w fun e w' => e=.returned (.int .i64 (namesE n))∧w=w':=by
 unfold namesE
 by_cases h:n < 1
 ·rw [if_pos h]
  go_enter Tryz.func111,Tryz.ntmps111
  go_wp2
  go_ret
  exact ⟨rfl,rfl⟩
 ·rw [if_neg h]
  go_enter Tryz.func111,Tryz.ntmps111
  go_wp2
  go_ret
  exact ⟨rfl,rfl⟩
theorem next_any (g of:Nat) (tt:TypeId) (cs:Array Value) (S:QS) (N:Nat) (w:World) (h:QAt w g of tt cs S N):Calls Tryz.prog 50 #[.pointer (some ⟨g,of,none⟩)] w fun e w' => e=.returned (.int .i64 (S.g + 1))∧w=w':=by
 have c1:=(h.bk.cell (of + 1)).trans h.la
 have hw:IntKind.i64.wrap (S.g + 1)=S.g + 1:=IntWalk.i64_in _ (by have:=h.iv.g0; have:=h.iv.last; omega)
 clear h
 go_enter Tryz.func50,Tryz.ntmps50
 go_wp2
 go_ret
 exact ⟨rfl,rfl⟩
set_option maxRecDepth 100000 in
theorem busy_any (g of:Nat) (tt:TypeId) (cs:Array Value) (S:QS) (N:Nat) (n:Int) (w:World) (h:QAt w g of tt cs S N) (hn:i64ok n) :
  Calls Tryz.prog 44 #[.pointer (some ⟨g,of,none⟩),.int .i64 n] w fun e w' => e=.returned (.bool (lookQ S.ws n).isSome)∧Below w.heap.size w w':=by
 obtain ⟨m,A,q,c,h32,hq,hc,_,r2⟩:=h.look hn
 have c32:=(h.bk.cell (of + 2)).trans h32
 generalize (curQ S.ws n).2=pr at r2
 generalize (lookQ S.ws n).isSome=bz at r2
 clear h hq hc h32
 go_enter Tryz.func44,Tryz.ntmps44
 go_wp2
 go_ret
 exact ⟨rfl,ba _ _⟩
theorem putsL_take (l:List Ch) (i:Nat) (hi:i < l.length):putsL (l.take (i + 1))=putsL (l.take i) + (if (l[i]'hi).k=3 then 1 else 0):=by
 unfold putsL
 rw [List.take_add_one,List.getElem?_eq_getElem hi,List.filter_append,List.length_append]
 congr 1
 by_cases e:(l[i]'hi).k=3
 ·simp [e]
 ·simp [e]
theorem putsL_le (l:List Ch):putsL l≤l.length:=List.length_filter_le _ _
set_option maxRecDepth 100000 in
set_option maxHeartbeats 2000000 in
theorem puts_any (A:Option Addr) (l:List Ch) (n c:Nat) (w:World) (hn:Hid (n=l.length)) (hm:n≤1000000) (hL:InL w A l) :
  Calls Tryz.prog 119 #[.slice A n c] w fun e w' => e=.returned (.int .i64 ((putsL l:Nat):Int))∧Below w.heap.size w w':=by
 have HI:Hid (Below w.heap.size w w):=Lib.hid (Below.refl _ _)
 have HL:=Lib.hid hL
 clear hL
 go_enter Tryz.func119,Tryz.ntmps119
 go_wp2_with fail
 go_loopw [8,3] (fun i k wr => ∃ (i0 k0:Nat),i0≤n∧i=.int .i64 i0∧k=.int .i64 k0∧k0≤i0∧Hid (k0=putsL (l.take i0))∧Hid (Below w.heap.size w wr)) (fun i k _ => n - (intOf i).toNat)
 case atStart => exact ⟨0,0,Nat.zero_le _,rfl,rfl,Nat.le_refl _,Lib.hid rfl,HI⟩
 case round =>
  clear HI
  obtain ⟨i0,k0,hi,rfl,rfl,hk0,HK,HB⟩:=hrel
  by_cases hin:i0 < n
  ·have hiI:(i0:Int) < (n:Int):=by omega
   have hil:i0 < l.length:=by rw [← hn.out]; exact hin
   obtain ⟨b,o,rfl,_,hcs⟩:=(HL.out.below HB.out) (by omega)
   obtain ⟨q0,q1,q2⟩:=hcs i0 hil
   have hst:=putsL_take l i0 hil
   obtain ⟨x,hx⟩:∃ x,x=l[i0]'hil:=⟨_,rfl⟩
   rw [← hx] at q0 q1 q2 hst
   obtain ⟨kd,y,v⟩:=x
   dsimp only at q0 q1 q2 hst
   obtain ⟨wA,hwA⟩:∃ wA,wA=wr.alloc (.cells #[.int .i64 kd,.int .i64 y,.int .u64 (v:Nat)] 74):=⟨_,rfl⟩
   have bA:Below wr.heap.size wr wA:=by rw [hwA]; exact ba _ _
   have kA:Blk wA wr.heap.size 74 #[.int .i64 kd,.int .i64 y,.int .u64 (v:Nat)]:=by rw [hwA]; exact Blk.new _ _ _
   have e0:=kA.cell 0
   simp only [List.getElem?_toArray,List.getElem?_cons_zero] at e0
   have HB2:Hid (Below w.heap.size w wA):=Lib.hid (bt HB.out bA)
   have HWA:=Lib.hid hwA
   rw [hwA] at e0
   by_cases hk3:kd=3
   ·subst hk3
    have HK2:Hid (k0 + 1=putsL (l.take (i0 + 1))):=Lib.hid (by rw [hst,if_pos rfl,← HK.out])
    clear hcs hx hst HK HB hwA bA kA
    go_wp2
    rw [← HWA.out]
    go_roundw
    case rel => exact ⟨i0 + 1,k0 + 1,by omega,by go_num,by go_num,by omega,HK2,HB2⟩
    case measure => simp [intOf]; omega
   ·have HK2:Hid (k0=putsL (l.take (i0 + 1))):=Lib.hid (by rw [hst,if_neg hk3,← HK.out]; rfl)
    have hkb:(kd == 3)=false:=by simp [hk3]
    clear hcs hx hst HK HB hwA bA kA
    go_wp2
    rw [← HWA.out]
    go_roundw
    case rel => exact ⟨i0 + 1,k0,by omega,by go_num,rfl,by omega,HK2,HB2⟩
    case measure => simp [intOf]; omega
  ·obtain rfl:i0=n:=by omega
   have hiI:¬ (i0:Int) < (i0:Int):=by omega
   have HK2:Hid (k0=putsL l):=Lib.hid (by rw [HK.out,List.take_of_length_le (by rw [hn.out]; exact Nat.le_refl _)])
   clear HK
   go_wp2
   go_ret
   exact ⟨by rw [← HK2.out]; rfl,HB.out⟩
end Go.Proofs.YtlliaihmfimdoaaGreat.Qu


namespace Go.Proofs.YtlliaihmfimdoaaGreat.Qu
open Go.RowKit Go.Maps
theorem fieldW1 (A:Option Addr) (q c:Nat) (p:Bool) (w:World):(Instr.field 143 (.agg #[.slice A q c,.bool p]) 1).run Tryz.prog w=.ok (.bool p) w:=by kernel_rfl
theorem fieldW0 (A:Option Addr) (q c:Nat) (p:Bool) (w:World):(Instr.field 143 (.agg #[.slice A q c,.bool p]) 0).run Tryz.prog w=.ok (.slice A q c) w:=by kernel_rfl
def openE (S:QS) (n:Int):Int:=if n < 1 then 1 else if (curQ S.ws n).2=true then 7 else 0
theorem open_nil (n:Int) (w:World):Calls Tryz.prog 106 #[.pointer none,.int .i64 n] w fun e w' => e=.returned (.int .i64 6)∧w=w':=by
 go_enter Tryz.func106,Tryz.ntmps106
 go_wp2_with fail
 refine (names_nil n w).mono ?_
 rintro e w1 ⟨rfl,rfl⟩
 go_wp2
 go_ret
 exact ⟨rfl,rfl⟩
set_option maxRecDepth 100000 in
theorem open_any (g of:Nat) (tt:TypeId) (cs:Array Value) (S:QS) (N:Nat) (n:Int) (w:World) (h:QAt w g of tt cs S N) (hn:i64ok n) :
  Calls Tryz.prog 106 #[.pointer (some ⟨g,of,none⟩),.int .i64 n] w fun e w' => e=.returned (.int .i64 (openE S n))∧w=w':=by
 have HN:=Lib.hid (names_any g of n w)
 unfold openE
 by_cases h1:n < 1
 ·have hE:namesE n=1:=if_pos h1
  rw [hE] at HN
  rw [if_pos h1]
  clear h hE
  go_enter Tryz.func106,Tryz.ntmps106
  go_wp2_with fail
  refine HN.out.mono ?_
  rintro e w1 ⟨rfl,rfl⟩
  go_wp2
  go_ret
  exact ⟨rfl,rfl⟩
 ·have hE:namesE n=0:=if_neg h1
  rw [hE] at HN
  rw [if_neg h1]
  obtain ⟨m,A,q,c,h32,hq,hc,r1,_⟩:=h.look hn
  have c32:=(h.bk.cell (of + 2)).trans h32
  rcases hp:(curQ S.ws n).2 with _ | _
  all_goals
   rw [hp] at r1
   have hf1:=fieldW1 A q c
   clear h hE hq hc h32 hp
   go_enter Tryz.func106,Tryz.ntmps106
   go_wp2_with fail
   refine HN.out.mono ?_
   rintro e w1 ⟨rfl,rfl⟩
   go_wp2
   go_ret
   exact ⟨rfl,rfl⟩
theorem QAt.worked {w w':World} {g of N:Nat} {tt:TypeId} {cs:Array Value} {S:QS} {ws':List WQ} (h:QAt w g of tt cs S N) (hg:w.grownBy w' (some g)) {m':Option Nat} {G':Int→Option Value} (hb:Blk w' g tt (cs.setIfInBounds (of + 2) (.map m'))) (hs:FSrc isWork w' m' N G') (hr:WRel w' S.B G' (lookQ ws')) (hnd:ws'.Pairwise fun a b => a.n≠b.n) (hle:∀ y ∈ ws',y.l.length≤N∧i64ok y.n) (hiv:QInv { S with ws:=ws' }):QAt w' g of tt (cs.setIfInBounds (of + 2) (.map m')) { S with ws:=ws' } N:=by
 obtain ⟨h1,h2,⟨A,n,c,a1,a2,a3,a4,a5⟩,h3,⟨m,G,h4,h5,h6⟩,h7,h8,h9⟩:=h
 refine ⟨hb,h2,⟨A,n,c,?_,a2,a3,a4,a5.kept hg h1 h2.2⟩,?_,⟨m',G',set_at h4,hs,hr⟩,hnd,hle,hiv⟩
 ·rw [Array.getElem?_setIfInBounds_ne (by omega)]; exact a1
 ·rw [Array.getElem?_setIfInBounds_ne (by omega)]; exact h3
set_option maxRecDepth 100000 in
set_option maxHeartbeats 1000000 in
theorem lay_any (g of:Nat) (tt:TypeId) (cs:Array Value) (S:QS) (N:Nat) (n:Int) (A:Option Addr) (l:List Ch) (m c:Nat) (p:Bool) (w:World) (h:QAt w g of tt cs S N) (hN:N < 900000) (hn:i64ok n) (hm:m=l.length) (hl:l.length≤N + 1) (hc:ChAt w S.B A l) (hiv:QInv { S with ws:=layQ S.ws n l p }) :
  Calls Tryz.prog 107 #[.pointer (some ⟨g,of,none⟩),.int .i64 n,.agg #[.slice A m c,.bool p]] w fun e w' => e=.returned (.tuple #[])∧QO w g of tt cs { S with ws:=layQ S.ws n l p } (N + 1) w':=by
 have hkey:=keyOf_i n hn
 have hmk:∀ (q:Int) (u:World),(Instr.makeMap 97 (some (.int .i64 q))).run Tryz.prog u=.ok (.map (some u.heap.size)) (u.alloc (.map #[] 0)):=fun q u => by
  simp [Instr.makeMap,run_underlying Tryz.underlying97,asInt,go_sem,Result.andThen]
 obtain ⟨w1,hw1⟩:∃ w1,w1=w.alloc (.cells #[.slice A m c,.bool p] 143):=⟨_,rfl⟩
 have hb1:Below w.heap.size w w1:=by rw [hw1]; exact ba _ _
 have hs1:w1.heap.size=w.heap.size + 1:=by rw [hw1]; simp
 have k1:Blk w1 w.heap.size 143 #[.slice A m c,.bool p]:=by rw [hw1]; exact Blk.new _ _ _
 have h1:=h.below hb1
 obtain ⟨mw,G,h4,h5,h6⟩:=h1.wk
 obtain ⟨q,hq,hln⟩:=h5.len_run 97 143 Tryz.underlying97 3
 have c0:=(h1.bk.cell (of + 2)).trans h4
 have hb2:=ba w1 (.map #[] 0)
 have hmade:(w1.alloc (.map #[] 0)).ownsMap Tryz.prog 3 (asIf isWork) w1.heap.size 0 (.map []):=World.ownsMap_made (H:=Value) w1 Tryz.prog 3 (asIf isWork)
 have hmlt:mw≠some w1.heap.size:=fun e => by
  rcases h5 with ⟨e1,_⟩ | ⟨b,D,e1,e2,_⟩
  ·rw [e1] at e; cases e
  ·rw [e1] at e; have:=e2.lt; have:=Option.some.inj e; omega
 obtain ⟨D,hR,hcp⟩:=Qu.FSrc.copied (h5.below hb2) (by omega) _ hmade hmlt
 have hg2:=h1.bk.below hb2 h1.bk.lt
 have c2:=(hg2.cell (of + 2)).trans h4
 have k12:=k1.below hb2 k1.lt
 generalize hbm:w1.heap.size=bm at *
 have hb12:=bt hb1 (hbm ▸ hb2)
 have hglt:=h.lt
 rw [hw1] at c0 hln hcp c2
 have HW1:=Lib.hid hw1
 have Hst:=Lib.hid (And.intro hR (And.intro h (And.intro hc (And.intro hm (And.intro hl (And.intro hn (And.intro h6 (And.intro h4 hiv))))))))
 have Hb2:Hid (Below w1.heap.size w1 (w1.alloc (.map #[] 0))):=Lib.hid (ba _ _)
 have hqb:IntKind.i64.wrap ((q:Int) + 1)=(q:Int) + 1:=by rw [IntWalk.i64_in _ (by omega)]
 clear hw1 h5 hmade hmlt hb1 k1 hb2 hR hc hm hl hn h6 h1 h4 h hq hiv
 go_enter Tryz.func107,Tryz.ntmps107
 go_wp2_with fail
 have hbm1:w.heap.size + 1=bm:=hs1.symm
 rw [hbm1]
 refine hcp.mono ?_
 rintro e w3 ⟨rfl,hown3,hg3⟩
 rw [← HW1.out] at hg3
 have hgm:g≠bm:=by omega
 have g3:=hg2.kept hg3 (fun e => hgm (Option.some.inj e))
 have k13:=k12.kept hg3 (fun e => by have:=Option.some.inj e; omega)
 have e0:=k13.cell 0
 have e1:=k13.cell 1
 simp only [List.getElem?_toArray,List.getElem?_cons_zero,List.getElem?_cons_succ] at e0 e1
 have Hbs:=Lib.hid hs1
 clear hcp c0 c2 hln hg2 k12 hs1 hbm1
 have hnl:N < maxLen:=by unfold maxLen; omega
 go_wp2_with (first
  | (at_mapUpdate; refine wpList_mapUpdate_own _ rfl _ _ _ 97 rfl 3 143 lawI Tryz.underlying97 _ bm _ _ rfl hown3 hnl _ _ _ rfl rfl hkey _ [] (asIf_mk (isWork_val ⟨A,m,c,p⟩)) ?_; intro w4 hown4 hg4; go_frame; have g4:=g3.kept hg4 (fun e => hgm (Option.some.inj e)); have d0:=(g4.cell (of + 2)).trans Hst.out.2.2.2.2.2.2.2.1; have f0:=g4.frozen (of + 2))
  | go_in)
 go_wp2
 go_end0
 obtain ⟨hR,h,hc,hm,hl,hn,h6,h4,hiv⟩:=Hst.out
 have hbs:=Hbs.out
 have hR4:=hR.put hown3.isMap n (.agg #[.slice A m c,.bool p])
 have q1:w.grownBy w4 none:=by
  refine ⟨hg4.os.trans (hg3.os.trans hb12.os),hg4.tape.trans (hg3.tape.trans hb12.tape),hg4.output.trans (hg3.output.trans hb12.output),Nat.le_trans hb12.size (Nat.le_trans hg3.size hg4.size),fun i hi _ => ?_⟩
  have hi2:=Nat.lt_of_lt_of_le hi hb12.size
  have hni:some i≠some bm:=fun e => by have:=Option.some.inj e; omega
  exact (hg4.block i (Nat.lt_of_lt_of_le hi2 hg3.size) hni).trans ((hg3.block i hi2 hni).trans (hb12.block i hi))
 have hh:=h.below (lgrown_below q1)
 have hgs:=lgrown_set w4 ⟨g,of + 2,none⟩ (.map (some bm))
 have q2:Below w1.heap.size w1 w4:=by
  refine ⟨hg4.os.trans (hg3.os.trans Hb2.out.os),hg4.tape.trans (hg3.tape.trans Hb2.out.tape),hg4.output.trans (hg3.output.trans Hb2.out.output),Nat.le_trans Hb2.out.size (Nat.le_trans hg3.size hg4.size),fun i hi => ?_⟩
  have hi2:=Nat.lt_of_lt_of_le hi Hb2.out.size
  have hni:some i≠some bm:=fun e => by have:=Option.some.inj e; have:=HW1.out; rw [this] at hi; simp at hi; omega
  exact (hg4.block i (Nat.lt_of_lt_of_le hi2 hg3.size) hni).trans ((hg3.block i hi2 hni).trans (Hb2.out.block i hi))
 refine ⟨rfl,⟨cs.setIfInBounds (of + 2) (.map (some bm)),(hh.more (Nat.le_succ N)).worked hgs (g4.set_ (of + 2) _) (.inr ⟨bm,_,rfl,hown4.setCell (a:=⟨g,of + 2,none⟩) (fun e => hgm e.symm) _,hR4⟩) ?_ (layQ_nd h.nd n l p) (fun y hy => ?_) hiv,Keep3.set _ _ (by omega) _⟩,?_⟩
 ·exact ((h6.same fun A l hc => hc.below q2).put n A m c l p hm (hc.below (lgrown_below q1))).same fun A l hc => hc.kept hgs g4 h.ty.1
 ·rcases layQ_mem hy with rfl | ⟨hy,_⟩
  ·exact ⟨hl,hn⟩
  ·have:=h.le y hy; exact ⟨by omega,this.2⟩
 ·exact (q1.but (some g)).andThen hgs (fun j h => by cases h; exact .inr rfl)
theorem QInv.others {S:QS} (h:QInv S) (hd:S.ws.Pairwise fun a b => a.n≠b.n) (n:Int):QInv { S with ws:=othersQ S.ws n }:=by
 have:=putsW_others S.ws n hd
 have h1:=h.room
 have h2:=h.last
 exact ⟨by dsimp only; omega,h.g0,by dsimp only; omega⟩
set_option maxRecDepth 100000 in
set_option maxHeartbeats 2000000 in
theorem drop_any (g of:Nat) (tt:TypeId) (cs:Array Value) (S:QS) (N:Nat) (n:Int) (w:World) (h:QAt w g of tt cs S N) (hn:i64ok n) :
  Calls Tryz.prog 112 #[.pointer (some ⟨g,of,none⟩),.int .i64 n] w fun e w' => e=.returned (.tuple #[])∧QO w g of tt cs { S with ws:=othersQ S.ws n } N w':=by
 have hkey:=keyOf_i n hn
 obtain ⟨mw,G,h4,h5,h6⟩:=h.wk
 have c32:=(h.bk.cell (of + 2)).trans h4
 have HC:=Lib.hid (Qu.FSrc.cloned h5)
 have H:=Lib.hid (And.intro h (And.intro h6 (And.intro hn h4)))
 have hle:Hid ((othersQ S.ws n).Pairwise (fun a b => a.n≠b.n)∧(∀ y ∈ othersQ S.ws n,y.l.length≤N∧i64ok y.n)∧QInv { S with ws:=othersQ S.ws n }):=Lib.hid ⟨othersQ_nd h.nd n,fun y hy => h.le y (List.mem_filter.1 hy).1,h.iv.others h.nd n⟩
 clear h h4 h5 h6 hn
 go_enter Tryz.func112,Tryz.ntmps112
 go_wp2_with fail
 refine HC.out.mono ?_
 rintro e w1 ⟨⟨m',rfl,hs1,hlt⟩,b1⟩
 obtain ⟨h,h6,hn,h4⟩:=H.out
 have h1:=h.below b1
 have hg1:=h1.bk
 have h61:=h6.same (w':=w1) fun A l hc => hc.below b1
 have hgl:=h.lt
 have d0:=(hg1.cell (of + 2)).trans h4
 have f0:=hg1.frozen (of + 2)
 rcases hs1 with ⟨rfl,rfl⟩ | ⟨b,D,rfl,hown,hR⟩
 ·have hdn:=fun (u:World) ty => Maps.drop_nil (P:=Tryz.prog) (w:=u) lawI Tryz.underlying97 hkey ty
  obtain ⟨w2,hw2⟩:∃ w2,w2=w1.setCell ⟨g,of + 2,none⟩ (.map none):=⟨_,rfl⟩
  have g2:w1.grownBy w2 (some g):=by rw [hw2]; exact lgrown_set _ _ _
  have kk2:=h1.worked (ws':=othersQ S.ws n) (m':=none) (G':=fun _ => none) g2 (by rw [hw2]; exact hg1.set_ (of + 2) _) (.inl ⟨rfl,rfl⟩) (by
   have:=(h61.del n).same (w':=w2) fun A l hc => hc.kept g2 hg1 h1.ty.1
   have e:delG (fun _ => none) n=fun _ => none:=by funext j; unfold delG; split <;> rfl
   rwa [e] at this) hle.out.1 hle.out.2.1 hle.out.2.2
  have HF:Hid (QO w g of tt cs { S with ws:=othersQ S.ws n } N w2):=Lib.hid ⟨⟨_,kk2,Keep3.set cs (of + 2) (by omega) _⟩,(lbelow_grown b1 (some g)).trans g2⟩
  have HW:=Lib.hid hw2
  clear h h6 h4 h1 hg1 h61 g2 kk2 hw2 c32
  go_wp2
  rw [← HW.out]
  go_end0
  exact ⟨rfl,HF.out⟩
 ·have hbl:=hlt b rfl
  have hgb:g≠b:=by omega
  have Hlt:=Lib.hid (And.intro hbl hgb)
  clear c32 d0 f0 hlt
  go_wp2_with (at_delete; refine wpList_delete_own _ rfl _ _ 97 3 rfl 143 lawI Tryz.underlying97 _ b _ _ rfl hown _ _ rfl hkey ?_; intro w2 hown2 hturn; go_frame; have hg2:=hturn.grown; have k2:=hg1.kept hg2 (fun e => hgb (Option.some.inj e)); have d0:=(k2.cell (of + 2)).trans h4; have f0:=k2.frozen (of + 2))
  obtain ⟨w3,hw3⟩:∃ w3,w3=w2.setCell ⟨g,of + 2,none⟩ (.map (some b)):=⟨_,rfl⟩
  have gg2:w.grownBy w2 none:=by
   refine ⟨hg2.os.trans b1.os,hg2.tape.trans b1.tape,hg2.output.trans b1.output,Nat.le_trans b1.size hg2.size,fun i hi _ => ?_⟩
   exact (hg2.block i (Nat.lt_of_lt_of_le hi b1.size) (fun e => by have:=Option.some.inj e; omega)).trans (b1.block i hi)
  have hh2:=h.below (lgrown_below gg2)
  have g3:w2.grownBy w3 (some g):=by rw [hw3]; exact lgrown_set _ _ _
  have kk3:=hh2.worked (ws':=othersQ S.ws n) (m':=some b) g3 (by rw [hw3]; exact k2.set_ (of + 2) _) (.inr ⟨b,_,rfl,hown2.kept g3 (fun e => hgb (Option.some.inj e).symm),hR.del n⟩) (by
   have:=((h6.same (w':=w2) fun A l hc => hc.below (lgrown_below gg2)).del n).same (w':=w3) fun A l hc => hc.kept g3 k2 h.ty.1
   exact this) hle.out.1 hle.out.2.1 hle.out.2.2
  have HF:Hid (QO w g of tt cs { S with ws:=othersQ S.ws n } N w3):=Lib.hid ⟨⟨_,kk3,Keep3.set cs (of + 2) (by omega) _⟩,(gg2.but (some g)).trans g3⟩
  have HW:=Lib.hid hw3
  clear h h6 h4 h1 hg1 h61 g3 kk3 hw3 hown2 hturn hg2 k2 gg2 hh2 hown hbl hR
  go_wp2
  rw [← HW.out]
  go_end0
  exact ⟨rfl,HF.out⟩
end Go.Proofs.YtlliaihmfimdoaaGreat.Qu

