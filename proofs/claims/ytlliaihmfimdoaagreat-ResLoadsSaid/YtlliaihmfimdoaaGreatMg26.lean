/- Parts R2 R3 R4 R5 R6 R9 R10 R11 F1 F2 F3 F4 F5 F6 of one proof. -/
import Derived.Test.YtlliaihmfimdoaaGreatMg25
import Derived.StillTailTactics
set_option linter.unusedSimpArgs false
set_option linter.unusedVariables false
namespace Go.Proofs.YtlliaihmfimdoaaGreat.Qu
open Go.RowKit Go.Maps Go.Joins Go.Deep
theorem own_below' {u u':World} {B k n c:Nat} {t:TypeId} {A:Option Addr} {vs:List Value} (h:u.ownsRow B t k (.slice A n c) n vs) (hb:Below u.heap.size u u'):u'.ownsRow B t k (.slice A n c) n vs:=by
 refine World.ownsRow.kept h (lbelow_grown hb none) ?_
 rcases hv:(Value.slice A n c).ownBlock with _ | r
 ·exact .inl rfl
 ·exact .inr (fun e => by cases e)
def putsR (ws:List WI):Nat:=(ws.map fun y => putsL y.l).sum
def roomR (P:List (Int × Nat)) (ws:List WI) (gv:Int):Int:=min (16 - (P.length:Int) - (putsR ws:Int)) (4611686018427387904 - (gv + 1) - (putsR ws:Int))
theorem putsR_step (ws:List WI) (i:Nat) (h:i < ws.length):putsR (ws.take (i + 1))=putsR (ws.take i) + putsL (ws[i]'h).l:=by
 have e2:ws.take (i + 1)=ws.take i ++ [ws[i]'h]:=by rw [List.take_add_one,List.getElem?_eq_getElem h]; rfl
 rw [e2]; unfold putsR; rw [List.map_append,List.sum_append]; rfl
end Go.Proofs.YtlliaihmfimdoaaGreat.Qu


namespace Go.Proofs.YtlliaihmfimdoaaGreat.Qu
open Go.RowKit Go.Maps Go.Joins Go.Deep
def hasT (l:List Ch) (k:Int):Bool:=l.any fun c => decide (c.k=4) && decide (c.y=k)
def takR (ws:List WI) (k:Int):Int:=match ws.find? (fun y => hasT y.l k) with
 | some y => y.n
 | none => 0
theorem hasT_at {l:List Ch} {k:Int} {j:Nat} (hj:j < l.length) (h4:(l[j]'hj).k=4) (hk:(l[j]'hj).y=k):hasT l k=true:=by
 unfold hasT
 rw [List.any_eq_true]
 exact ⟨_,List.getElem_mem hj,by simp [h4,hk]⟩
theorem hasT_no {l:List Ch} {k:Int} (h:∀ j (hj:j < l.length),¬ ((l[j]'hj).k=4∧(l[j]'hj).y=k)):hasT l k=false:=by
 unfold hasT
 rw [List.any_eq_false]
 intro x hx
 obtain ⟨j,hj,rfl⟩:=List.mem_iff_getElem.1 hx
 have:=h j hj
 simpa using this
theorem takR_at {ws:List WI} {k:Int} {i:Nat} (hi:i < ws.length) (hno:∀ j (hj:j < ws.length),j < i→hasT (ws[j]'hj).l k=false) (h:hasT (ws[i]'hi).l k=true):takR ws k=(ws[i]'hi).n:=by
 unfold takR
 have:ws.find? (fun y => hasT y.l k)=some (ws[i]'hi):=by
  rw [List.find?_eq_some_iff_getElem]
  exact ⟨h,i,hi,rfl,fun j hj => by rw [hno j (by omega) hj]; rfl⟩
 rw [this]
theorem takR_no {ws:List WI} {k:Int} (hno:∀ j (hj:j < ws.length),hasT (ws[j]'hj).l k=false):takR ws k=0:=by
 unfold takR
 have:ws.find? (fun y => hasT y.l k)=none:=by
  rw [List.find?_eq_none]
  intro y hy
  obtain ⟨j,hj,rfl⟩:=List.mem_iff_getElem.1 hy
  rw [hno j hj]; simp
 rw [this]
end Go.Proofs.YtlliaihmfimdoaaGreat.Qu


namespace Go.Proofs.YtlliaihmfimdoaaGreat.Qu
open Go.RowKit Go.Maps Go.Joins Go.Deep
theorem Tryz.infoPt:(Tryz.prog.info? 111).map (fun i => (i.zero,i.size,i.bytes))=some (some (.pointer none),1,8):=by kernel_rfl
theorem own_ne {u:World} {B k n c m x:Nat} {t tt:TypeId} {A:Option Addr} {vs:List Value} {cs:Array Value} (h:u.ownsRow B t k (.slice A n c) m vs) (hx:Blk u x tt cs) (ht:t≠tt):blk A≠some x:=by
 rcases h.2 with ⟨h1,h2⟩ | ⟨g,cap,cur,h1,hb,hg,hn,hm,hc,ht'⟩
 ·cases h1
  simp [blk]
 ·injection h1 with e1 e2 e3
  intro e
  rw [e1] at e
  injection e with e
  have e:g=x:=e
  subst e
  unfold Blk at hx
  rw [hx] at hg
  injection hg with hg
  injection hg with _ hg _
  exact ht hg.symm
theorem own_kept {u u':World} {B k n c m x:Nat} {t tt:TypeId} {A:Option Addr} {vs:List Value} {cs:Array Value} (h:u.ownsRow B t k (.slice A n c) m vs) (hx:Blk u x tt cs) (ht:t≠tt) (hg:u.grownBy u' (some x)):u'.ownsRow B t k (.slice A n c) m vs:=by
 refine World.ownsRow.kept h hg ?_
 rcases hb:(Value.slice A n c).ownBlock with _ | k
 ·exact .inl rfl
 ·refine .inr (fun e => ?_)
  rw [ownBlock_slice] at hb
  exact own_ne h hx ht (hb.trans e)
structure RG (B0:Nat) (u u':World) (x:Nat) (S:Nat→Prop):Prop where
 os:u'.os=u.os
 tape:u'.tape=u.tape
 output:u'.output=u.output
 size:u.heap.size≤u'.heap.size
 low:∀ k,k < B0→k < u.heap.size→k≠x→u'.heap[k]?=u.heap[k]?
 block:∀ k,k < u.heap.size→k≠x→u'.heap[k]?=u.heap[k]?∨(∃ cs fz,u.heap[k]?=some (.cells cs 111 fz))∨(∃ cs fz,u.heap[k]?=some (.cells cs 149 fz))∨((∃ cs fz,u.heap[k]?=some (.cells cs 74 fz))∧S k)
theorem RG.of {B0:Nat} {u u':World} {x:Nat} {S:Nat→Prop} (h:u.grownBy u' (some x)):RG B0 u u' x S :=
 ⟨h.os,h.tape,h.output,h.size,fun k _ hk hx => h.block k hk (fun e => hx (by injection e)),fun k hk hx => .inl (h.block k hk (fun e => hx (by injection e)))⟩
theorem RG.trans {B0:Nat} {a b c:World} {x:Nat} {S S':Nat→Prop} (h:RG B0 a b x S) (k:RG B0 b c x S') (hS:∀ r,r < a.heap.size→S' r→S r):RG B0 a c x S:=by
 refine ⟨k.os.trans h.os,k.tape.trans h.tape,k.output.trans h.output,Nat.le_trans h.size k.size,fun r hb hr hx => (k.low r hb (Nat.lt_of_lt_of_le hr h.size) hx).trans (h.low r hb hr hx),fun r hr hx => ?_⟩
 rcases h.block r hr hx with e | e | e | e
 ·have:=k.block r (Nat.lt_of_lt_of_le hr h.size) hx
  rw [e] at this
  rcases this with e | e | e | ⟨e,e2⟩
  ·exact .inl e
  ·exact .inr (.inl e)
  ·exact .inr (.inr (.inl e))
  ·exact .inr (.inr (.inr ⟨e,hS r hr e2⟩))
 ·exact .inr (.inl e)
 ·exact .inr (.inr (.inl e))
 ·exact .inr (.inr (.inr e))
theorem pt_more {u:World} {B c:Nat} {A:Option Addr} {qs:List Nat} (h:OwnPt u B A c qs) (n:Nat) (hn:n=qs.length) (hl:n≤1000000) (q b:Nat) (hBu:B≤u.heap.size) (hq0:u.cell? ⟨b,0,none⟩=some (.pointer (some ⟨q,0,none⟩))) :
  ∃ A2 c2 u',(Builtin.append_ #[34,34] 34 #[.slice A n c,.slice (some ⟨b,0,none⟩) 1 1]).run Tryz.prog u=.ok (.slice A2 (n + 1) c2) u' ∧
   OwnPt u' B A2 c2 (qs ++ [q])∧u.grownBy u' (blk A):=by
 subst hn
 obtain ⟨i0,hi,hz0,hz1,hz2⟩:=info_parts Tryz.infoPt
 obtain ⟨v',w',hrun,hown,hgr,_,_⟩:=run_append_own_at (P:=Tryz.prog) u B 34 34 111 i0 _ 1 8 Tryz.underlying34 hi hz0 hz1 hz2 rfl (by omega) (.slice A qs.length c) qs.length (ptV qs) h ⟨b,0,none⟩ 1 1 [.pointer (some ⟨q,0,none⟩)] rfl
  (fun j u hu => by
   match j,hu with
   | 0,hu => cases hu; exact hq0)
  (fun u hu => by simp at hu; subst hu; rfl) (by simp only [maxLen]; omega) (by omega) hBu
 obtain ⟨g2,c2,rfl⟩:=Joins.ownsRow_form hown (by omega)
 rw [ownBlock_slice] at hgr
 refine ⟨some ⟨g2,0,none⟩,c2,w',hrun,?_,hgr⟩
 unfold OwnPt ptV
 rw [List.length_append,List.map_append]
 exact hown
end Go.Proofs.YtlliaihmfimdoaaGreat.Qu


namespace Go.Proofs.YtlliaihmfimdoaaGreat.Qu
open Go.RowKit Go.Maps Go.Joins Go.Deep
theorem own_same {u u':World} {B k n c m:Nat} {t:TypeId} {A:Option Addr} {vs:List Value} (h:u.ownsRow B t k (.slice A n c) m vs) (hs:∀ r,r < u.heap.size→(∃ cs fz,u.heap[r]?=some (.cells cs t fz))→blk A=some r→u'.heap[r]?=u.heap[r]?):u'.ownsRow B t k (.slice A n c) m vs:=by
 obtain ⟨h1,h2⟩:=h
 refine ⟨h1,?_⟩
 rcases h2 with h2 | ⟨g,cap,cur,hv,hb,hg,hrest⟩
 ·exact .inl h2
 ·refine .inr ⟨g,cap,cur,hv,hb,?_,hrest⟩
  injection hv with e1 _ _
  rw [hs g (Array.getElem?_eq_some_iff.1 hg).1 ⟨_,_,hg⟩ (by rw [e1]; rfl)]
  exact hg
theorem q_same {ws:List WI} (hd:ws.Pairwise fun a b => a.q≠b.q∧∀ r,blk a.A=some r→blk b.A≠some r) {a b:WI} (ha:a ∈ ws) (hb:b ∈ ws) (e:a.q=b.q):a=b:=by
 obtain ⟨i,hi,rfl⟩:=List.mem_iff_getElem.1 ha
 obtain ⟨j,hj,rfl⟩:=List.mem_iff_getElem.1 hb
 rcases Nat.lt_trichotomy i j with h | h | h
 ·exact absurd e (List.pairwise_iff_getElem.1 hd i j hi hj h).1
 ·subst h; rfl
 ·exact absurd e.symm (List.pairwise_iff_getElem.1 hd j i hj hi h).1
theorem A_apart {ws:List WI} (hd:ws.Pairwise fun a b => a.q≠b.q∧∀ r,blk a.A=some r→blk b.A≠some r) {a b:WI} (ha:a ∈ ws) (hb:b ∈ ws) (e:a.q≠b.q) (r:Nat) (h1:blk a.A=some r):blk b.A≠some r:=by
 obtain ⟨i,hi,rfl⟩:=List.mem_iff_getElem.1 ha
 obtain ⟨j,hj,rfl⟩:=List.mem_iff_getElem.1 hb
 rcases Nat.lt_trichotomy i j with h | h | h
 ·exact (List.pairwise_iff_getElem.1 hd i j hi hj h).2 r h1
 ·subst h; exact absurd rfl e
 ·intro h2
  exact (List.pairwise_iff_getElem.1 hd j i hj hi h).2 r h2 h1
def turnW (ws:List WI) (z:WI):List WI:=ws.map fun y => if y.q=z.q then z else y
theorem own_less {u:World} {B B' k n c m:Nat} {t:TypeId} {A:Option Addr} {vs:List Value} (h:u.ownsRow B' t k (.slice A n c) m vs) (hB:B≤B'):u.ownsRow B t k (.slice A n c) m vs:=by
 obtain ⟨h1,h2⟩:=h
 refine ⟨h1,?_⟩
 rcases h2 with h2 | ⟨g',cap',cur,hv,hb,hrest⟩
 ·exact .inl h2
 ·exact .inr ⟨g',cap',cur,hv,Nat.le_trans hB hb,hrest⟩
def othersW (ws:List WI) (n:Int):List WI:=ws.filter fun y => decide (y.n≠n)
theorem othersW_snoc {ws:List WI} {n:Int} {j:Nat} (hj:j < ws.length):othersW (ws.take (j + 1)) n=if (ws[j]'hj).n=n then othersW (ws.take j) n else othersW (ws.take j) n ++ [ws[j]'hj]:=by
 unfold othersW
 rw [List.take_add_one,List.getElem?_eq_getElem hj,List.filter_append]
 split
 ·rename_i h; simp [h]
 ·rename_i h; simp [h]
def backR (ws:List WI) (n:Int):Int × List WI:=if n < 1 then (1,ws) else (0,othersW ws n)
end Go.Proofs.YtlliaihmfimdoaaGreat.Qu


namespace Go.Proofs.YtlliaihmfimdoaaGreat.Qu
open Go.RowKit Go.Maps Go.Joins Go.Deep
theorem RG.change {B0:Nat} {w w':World} {x k:Nat} {cs:Array Value} (h:RG B0 w w' x (fun _ => False)) (hk:Blk w k 74 cs) (hx:k≠x):Blk w' k 74 cs:=by
 unfold Blk at hk ⊢
 rcases h.block k (Array.getElem?_eq_some_iff.1 hk).1 hx with e | ⟨cs2,fz,e⟩ | ⟨cs2,fz,e⟩ | ⟨_,e⟩
 ·rw [e]; exact hk
 ·rw [e] at hk; injection hk with hk; injection hk with _ hk _; exact absurd hk (by decide)
 ·rw [e] at hk; injection hk with hk; injection hk with _ hk _; exact absurd hk (by decide)
 ·exact e.elim
end Go.Proofs.YtlliaihmfimdoaaGreat.Qu


namespace Go.Proofs.YtlliaihmfimdoaaGreat.Qu
open Go.RowKit Go.Maps Go.Joins Go.Deep
def prepR (ws:List WI) (n:Int):(List Ch × Int) × List WI :=
 if mayR ws n≠0 then (([],mayR ws n),ws) else match findW ws n with
  | some z => ((z.l,0),turnW ws ⟨z.q,z.n,z.A,z.c,z.l,true⟩)
  | none => (([],0),ws)
end Go.Proofs.YtlliaihmfimdoaaGreat.Qu


namespace Go.Proofs.YtlliaihmfimdoaaGreat.Qu
open Go.RowKit Go.Maps Go.Joins Go.Deep
theorem RG.item {B0:Nat} {w w':World} {x k:Nat} {T:Nat→Prop} {cs:Array Value} (h:RG B0 w w' x T) (hk:Blk w k 154 cs) (hx:k≠x):Blk w' k 154 cs:=by
 unfold Blk at hk ⊢
 rcases h.block k (Array.getElem?_eq_some_iff.1 hk).1 hx with e | ⟨cs2,fz,e⟩ | ⟨cs2,fz,e⟩ | ⟨⟨cs2,fz,e⟩,_⟩
 ·rw [e]; exact hk
 all_goals
  rw [e] at hk; injection hk with hk; injection hk with _ hk _; exact absurd hk (by decide)
def nextR (ws:List WI) (n:Int):List (Int × Nat)→Option (Int × Nat)
 | [] => none
 | y :: r => if takR ws y.1=n then nextR ws n r else some y
theorem nextR_drop (ws:List WI) (n:Int) (P:List (Int × Nat)) (i:Nat) (h:i < P.length):nextR ws n (P.drop i)=if takR ws (P[i]'h).1=n then nextR ws n (P.drop (i + 1)) else some (P[i]'h):=by
 rw [List.drop_eq_getElem_cons h]; rfl
end Go.Proofs.YtlliaihmfimdoaaGreat.Qu


namespace Go.Proofs.YtlliaihmfimdoaaGreat.Qu
open Go.RowKit Go.Maps Go.Joins Go.Deep
theorem Tryz.infoPr:(Tryz.prog.info? 154).map (fun i => (i.zero,i.size,i.bytes))=some (some (.agg #[.int .i64 0,.int .u64 0]),2,16):=by kernel_rfl
theorem pr_more {u:World} {B c:Nat} {A:Option Addr} {P:List (Int × Nat)} (h:OwnPr u B A c P) (n:Nat) (hn:n=P.length) (hl:n≤1000) (k:Int) (v:Nat) (q:Nat) (hBu:B≤u.heap.size)
  (hq:Blk u q 154 #[.int .i64 k,.int .u64 (v:Nat)]) :
  ∃ A2 c2 u',(Builtin.append_ #[33,33] 33 #[.slice A n c,.slice (some ⟨q,0,none⟩) 1 1]).run Tryz.prog u=.ok (.slice A2 (n + 1) c2) u' ∧
   OwnPr u' B A2 c2 (P ++ [(k,v)])∧u.grownBy u' (blk A):=by
 subst hn
 obtain ⟨i0,hi,hz0,hz1,hz2⟩:=info_parts Tryz.infoPr
 have hlen:∀ P:List (Int × Nat),(prV P).length=P.length * 2:=fun P => by
  induction P with
  | nil => rfl
  | cons o P ih => unfold prV at ih ⊢; rw [List.flatMap_cons,List.length_append,ih]; simp; omega
 obtain ⟨v',w',hrun,hown,hgr,_,_⟩:=run_append_own_at (P:=Tryz.prog) u B 33 33 154 i0 _ 2 16 Tryz.underlying33 hi hz0 hz1 hz2 rfl (by omega) (.slice A P.length c) P.length (prV P) h ⟨q,0,none⟩ 1 1 [.int .i64 k,.int .u64 (v:Nat)] rfl
  (fun j v hv => by
   have:=hq.cell j
   have e:(⟨q,0,none⟩:Addr).add j=⟨q,j,none⟩:=by
    simp [Addr.add]
    try omega
   rw [e,this]
   rw [List.getElem?_toArray]; exact hv)
  (fun v hv => by simp at hv; rcases hv with rfl | rfl <;> rfl) (by simp only [maxLen]; omega) (by omega) hBu
 obtain ⟨g2,c2,rfl⟩:=Joins.ownsRow_form hown (by omega)
 rw [ownBlock_slice] at hgr
 refine ⟨some ⟨g2,0,none⟩,c2,w',hrun,?_,hgr⟩
 unfold OwnPr
 rw [List.length_append,show prV (P ++ [(k,v)])=prV P ++ [.int .i64 k,.int .u64 (v:Nat)] by unfold prV; simp]
 exact hown
theorem grown_new {w u u':World} {g row:Option Nat} (h:w.grownBy u g) (k:u.grownBy u' row) (hr:∀ r,row=some r→w.heap.size≤r):w.grownBy u' g :=
 ⟨k.os.trans h.os,k.tape.trans h.tape,k.output.trans h.output,Nat.le_trans h.size k.size,fun r hl hx => (k.block r (Nat.lt_of_lt_of_le hl h.size) (fun e => by have:=hr r e.symm; omega)).trans (h.block r hl hx)⟩
def keptR (ws:List WI) (n:Int) (P:List (Int × Nat)):List (Int × Nat):=P.filter fun y => decide (takR ws y.1≠n)
theorem keptR_snoc {ws:List WI} {n:Int} {P:List (Int × Nat)} {j:Nat} (hj:j < P.length):keptR ws n (P.take (j + 1))=if takR ws (P[j]'hj).1=n then keptR ws n (P.take j) else keptR ws n (P.take j) ++ [P[j]'hj]:=by
 unfold keptR
 rw [List.take_add_one,List.getElem?_eq_getElem hj,List.filter_append]
 split
 ·rename_i h; simp [h]
 ·rename_i h; simp [h]
theorem keptR_le (ws:List WI) (n:Int) (P:List (Int × Nat)):(keptR ws n P).length≤P.length:=List.length_filter_le _ _
def prI (l:List IT):List (Int × Nat):=l.map fun x => (x.n,x.v)
def newsR (g:Int) (l:List Ch):List (Int × Nat):=prI (newsQ g l)
theorem newsR_len (g:Int) (l:List Ch):(newsR g l).length=putsL l:=by unfold newsR prI; rw [List.length_map,newsQ_len]
theorem newsR_step (g:Int) (l:List Ch) (j:Nat) (h:j < l.length):newsR g (l.take (j + 1))=if (l[j]'h).k=3 then newsR g (l.take j) ++ [(g + (putsL (l.take j):Nat) + 1,(l[j]'h).v)] else newsR g (l.take j):=by
 have e2:l.take (j + 1)=l.take j ++ [l[j]'h]:=by rw [List.take_add_one,List.getElem?_eq_getElem h]; rfl
 unfold newsR
 rw [e2,newsQ_snoc]
 split
 ·unfold prI; rw [List.map_append]; rfl
 ·rfl
theorem putsL_take_le (l:List Ch) (j:Nat):putsL (l.take j)≤putsL l:=by
 unfold putsL
 exact ((List.take_sublist j l).filter _).length_le
def commitR (P:List (Int × Nat)) (ws:List WI) (gv n:Int):Int × List (Int × Nat) × List WI × Int :=
 if n < 1 then (1,P,ws,gv) else match findW ws n with
  | none => (0,P,ws,gv)
  | some z => (0,keptR ws n P ++ newsR gv z.l,othersW ws n,gv + (putsL z.l:Nat))
theorem OwnPr.grown {u u':World} {B:Nat} {A:Option Addr} {c:Nat} {P:List (Int × Nat)} {row:Option Nat} (h:OwnPr u B A c P) (hg:u.grownBy u' row) (hr:∀ r,row=some r→blk A≠some r):OwnPr u' B A c P:=by
 refine World.ownsRow.kept h hg ?_
 rcases hb:(Value.slice A P.length c).ownBlock with _ | r
 ·exact .inl rfl
 ·refine .inr (fun e => ?_)
  rw [ownBlock_slice] at hb
  exact hr r e.symm hb
theorem OwnPr.lt' {u:World} {B:Nat} {A:Option Addr} {c:Nat} {P:List (Int × Nat)} (h:OwnPr u B A c P):∀ r,blk A=some r→B≤r∧r < u.heap.size:=fun r e => World.ownsRow.lt h r (by rw [ownBlock_slice]; exact e)
end Go.Proofs.YtlliaihmfimdoaaGreat.Qu


namespace Go.Proofs.YtlliaihmfimdoaaGreat.Qu.Dq
variable {E:Value × Value × Value}
open Go.RowKit Go.Maps Go.Joins Go.Deep
structure RQ (E:Value × Value × Value) (u:World) (B x:Nat) (P:List (Int × Nat)) (ws:List WI) (gv:Int):Prop where
 ex:∃ AP nP cP AW nW cW,Blk u x 38 #[E.1,E.2.1,E.2.2,.slice AP nP cP,.slice AW nW cW,.int .i64 gv]∧nP=P.length∧nW=ws.length∧OwnPr u B AP cP P∧OwnPt u B AW cW (ws.map WI.q)
 wk:∀ y ∈ ws,B≤y.q∧Blk u y.q 149 #[.int .i64 y.n,.slice y.A y.l.length y.c,.bool y.p]∧OwnC u B y.A y.c y.l
 ds:ws.Pairwise fun a b => a.q≠b.q∧∀ r,blk a.A=some r→blk b.A≠some r
 sm:P.length≤48∧ws.length≤100∧∀ y ∈ ws,y.l.length≤300
set_option maxRecDepth 100000 in
set_option maxHeartbeats 2000000 in
theorem rfind_any (B x:Nat) (P:List (Int × Nat)) (ws:List WI) (gv:Int) (n:Int) (w:World) (h:RQ E w B x P ws gv) :
  Calls Tryz.prog 46 #[.pointer (some ⟨x,3,none⟩),.int .i64 n] w fun e w' => e=.returned (.pointer ((findW ws n).map fun y => ⟨y.q,0,none⟩))∧w=w':=by
 obtain ⟨AP,nP,cP,AW,nW,cW,hk,_,hnW,_,hpt⟩:=h.ex
 have c1:=hk.cell 4
 simp only [List.getElem?_toArray,List.getElem?_cons_zero,List.getElem?_cons_succ] at c1
 have hn1:nW≤100:=by rw [hnW]; exact h.sm.2.1
 have HN:=Lib.hid hnW
 have H:=Lib.hid (And.intro hpt h.wk)
 clear hk hpt h hnW
 go_enter Tryz.func46,Tryz.ntmps46
 go_wp2_with fail
 go_loopw [5] (fun i wr => ∃ j:Nat,j≤nW∧i=.int .i64 j∧Hid (∀ i,(h:i < ws.length)→i < j→(ws[i]'h).n≠n)∧w=wr) (fun i _ => nW - (intOf i).toNat)
 case atStart => exact ⟨0,Nat.zero_le _,rfl,Lib.hid (fun i h h2 => by omega),rfl⟩
 case round =>
  obtain ⟨j,hj,rfl,hno,rfl⟩:=hrel
  by_cases hjn:j < nW
  ·have hjI:(j:Int) < (nW:Int):=by omega
   have hjL:j < ws.length:=by rw [← HN.out]; exact hjn
   have hpt:=H.out.1
   unfold OwnPt at hpt
   rw [List.length_map] at hpt
   obtain ⟨b,rfl,_,_,_,hc⟩:=row_cells hpt (by omega)
   have q0:=hc j (.pointer (some ⟨(ws[j]'hjL).q,0,none⟩)) (by unfold ptV; simp [hjL])
   have q1:=(H.out.2 _ (List.getElem_mem hjL)).2.1.cell 0
   simp only [List.getElem?_toArray,List.getElem?_cons_zero,List.getElem?_cons_succ] at q1
   have hyes:Hid ((ws[j]'hjL).n=n→findW ws n=some (ws[j]'hjL)):=Lib.hid (fun e => findW_at hjL hno.out e)
   have hstep:Hid (¬ (ws[j]'hjL).n=n→∀ i,(h:i < ws.length)→i < j + 1→(ws[i]'h).n≠n):=Lib.hid (fun h1 i hi hij => by
    by_cases e:i=j
    ·subst e; exact h1
    ·exact hno.out i hi (by omega))
   generalize ws[j]'hjL=y at q0 q1 hyes hstep
   obtain ⟨yq,yn,yA,yc,yl,yp⟩:=y
   dsimp only at q0 q1 hyes hstep
   clear hpt hc hno hjL
   by_cases h1:yn=n
   ·have HP:Hid (findW ws n=some ⟨yq,yn,yA,yc,yl,yp⟩):=Lib.hid (hyes.out h1)
    subst h1
    clear hyes hstep
    go_wp2
    go_ret
    exact ⟨by rw [HP.out]; rfl,rfl⟩
   ·have hno2:Hid (∀ i,(h:i < ws.length)→i < j + 1→(ws[i]'h).n≠n):=Lib.hid (hstep.out h1)
    have e1:(yn == n)=false:=by simp [h1]
    clear hyes hstep
    go_wp2
    go_roundw
    case rel => exact ⟨j + 1,by omega,by go_num,hno2,by first | rfl | trivial⟩
    case measure => simp [intOf]; omega
  ·have hjI:¬ (j:Int) < (nW:Int):=by omega
   have HP:Hid (findW ws n=none):=Lib.hid (findW_none fun i hi => hno.out i hi (by have:=HN.out; omega))
   clear hno
   go_wp2
   go_ret
   exact ⟨by rw [HP.out]; rfl,rfl⟩
set_option maxRecDepth 100000 in
set_option maxHeartbeats 1000000 in
theorem rmay_any (B x:Nat) (P:List (Int × Nat)) (ws:List WI) (gv:Int) (n:Int) (w:World) (h:RQ E w B x P ws gv) :
  Calls Tryz.prog 128 #[.pointer (some ⟨x,3,none⟩),.int .i64 n] w fun e w' => e=.returned (.int .i64 (mayR ws n))∧w=w':=by
 have HF:=Lib.hid (rfind_any B x P ws gv n w h)
 by_cases h1:n < 1
 ·have hM:mayR ws n=1:=if_pos h1
  rw [hM]
  clear h hM
  go_enter Tryz.func128,Tryz.ntmps128
  go_wp2
  go_ret
  exact ⟨rfl,rfl⟩
 ·rcases hf:findW ws n with _ | y
  ·have hM:mayR ws n=0:=by unfold mayR; rw [if_neg h1,hf]
   rw [hM]
   rw [hf] at HF
   clear h hM hf
   go_enter Tryz.func128,Tryz.ntmps128
   go_wp2_with fail
   refine HF.out.mono ?_
   rintro e w1 ⟨rfl,rfl⟩
   go_wp2
   go_ret
   exact ⟨rfl,rfl⟩
  ·have hM:mayR ws n=if y.p=true then 7 else 0:=by unfold mayR; rw [if_neg h1,hf]
   rw [hM]
   rw [hf] at HF
   have hk:=(h.wk y (findW_mem hf).1).2.1
   have c2:=hk.cell 2
   simp only [List.getElem?_toArray,List.getElem?_cons_zero,List.getElem?_cons_succ] at c2
   obtain ⟨yq,yn,yA,yc,yl,yp⟩:=y
   dsimp only at c2 HF
   clear h hM hf hk
   cases yp with
   | true =>
    go_enter Tryz.func128,Tryz.ntmps128
    go_wp2_with fail
    refine HF.out.mono ?_
    rintro e w1 ⟨rfl,rfl⟩
    go_wp2
    go_ret
    exact ⟨rfl,rfl⟩
   | false =>
    go_enter Tryz.func128,Tryz.ntmps128
    go_wp2_with fail
    refine HF.out.mono ?_
    rintro e w1 ⟨rfl,rfl⟩
    go_wp2
    go_ret
    exact ⟨rfl,rfl⟩
end Go.Proofs.YtlliaihmfimdoaaGreat.Qu.Dq


namespace Go.Proofs.YtlliaihmfimdoaaGreat.Qu.Dq
variable {E:Value × Value × Value}
open Go.RowKit Go.Maps Go.Joins Go.Deep
theorem RQ.below {u u':World} {B x:Nat} {P:List (Int × Nat)} {ws:List WI} {gv:Int} (h:RQ E u B x P ws gv) (hb:Below u.heap.size u u'):RQ E u' B x P ws gv:=by
 obtain ⟨AP,nP,cP,AW,nW,cW,hk,h1,h2,h3,h4⟩:=h.ex
 exact ⟨⟨AP,nP,cP,AW,nW,cW,hk.below hb hk.lt,h1,h2,own_below' h3 hb,own_below' h4 hb⟩,fun y hy => by
  obtain ⟨a1,a2,a3⟩:=h.wk y hy
  exact ⟨a1,a2.below hb a2.lt,a3.kept (lbelow_grown hb none) (fun r e => by cases e)⟩,h.ds,h.sm⟩
theorem RQ.at_ {u:World} {B x:Nat} {P:List (Int × Nat)} {ws:List WI} {gv:Int} (h:RQ E u B x P ws gv) (i:Nat) (hi:i < ws.length):∃ b cW,u.cell? ⟨x,4,none⟩=some (.slice (some ⟨b,0,none⟩) ws.length cW)∧u.cell? ⟨b,i,none⟩=some (.pointer (some ⟨(ws[i]'hi).q,0,none⟩)) ∧
  u.cell? ⟨(ws[i]'hi).q,0,none⟩=some (.int .i64 (ws[i]'hi).n)∧u.cell? ⟨(ws[i]'hi).q,1,none⟩=some (.slice (ws[i]'hi).A (ws[i]'hi).l.length (ws[i]'hi).c)∧InL u (ws[i]'hi).A (ws[i]'hi).l:=by
 obtain ⟨AP,nP,cP,AW,nW,cW,hk,h1,h2,h3,h4⟩:=h.ex
 have c1:=hk.cell 4
 simp only [List.getElem?_toArray,List.getElem?_cons_zero,List.getElem?_cons_succ] at c1
 obtain ⟨_,a2,a3⟩:=h.wk _ (List.getElem_mem hi)
 unfold OwnPt at h4
 rw [List.length_map] at h4
 obtain ⟨b,rfl,_,_,_,hc⟩:=row_cells h4 (by omega)
 have q0:=a2.cell 0
 have q1:=a2.cell 1
 simp only [List.getElem?_toArray,List.getElem?_cons_zero,List.getElem?_cons_succ] at q0 q1
 rw [h2] at c1
 exact ⟨b,cW,c1,hc i _ (by unfold ptV; simp [hi]),q0,q1,a3.at_.inl⟩
theorem RQ.len_ {u:World} {B x:Nat} {P:List (Int × Nat)} {ws:List WI} {gv:Int} (h:RQ E u B x P ws gv):∃ AW cW,u.cell? ⟨x,4,none⟩=some (.slice AW ws.length cW):=by
 obtain ⟨AP,nP,cP,AW,nW,cW,hk,h1,h2,h3,h4⟩:=h.ex
 have c1:=hk.cell 4
 simp only [List.getElem?_toArray,List.getElem?_cons_zero,List.getElem?_cons_succ] at c1
 rw [h2] at c1
 exact ⟨AW,cW,c1⟩
set_option maxRecDepth 100000 in
set_option maxHeartbeats 1000000 in
theorem rroom_any (B x:Nat) (P:List (Int × Nat)) (ws:List WI) (gv:Int) (w:World) (h:RQ E w B x P ws gv) (hg:0≤gv∧gv≤4611686018427387904) :
  Calls Tryz.prog 129 #[.pointer (some ⟨x,3,none⟩)] w fun e w' => e=.returned (.int .i64 (roomR P ws gv))∧Below w.heap.size w w':=by
 obtain ⟨nW,hnW⟩:∃ nW,nW=ws.length:=⟨_,rfl⟩
 obtain ⟨nP,hnP⟩:∃ nP,nP=P.length:=⟨_,rfl⟩
 have hW1:nW≤100:=by rw [hnW]; exact h.sm.2.1
 have hP1:nP≤48:=by rw [hnP]; exact h.sm.1
 have HN:=Lib.hid (And.intro hnW hnP)
 have H:=Lib.hid h
 have HG:=Lib.hid hg
 obtain ⟨AW,cW,c1⟩:=h.len_
 rw [← hnW] at c1
 have HI:Hid (0=putsR (ws.take 0)∧Below w.heap.size w w):=Lib.hid ⟨rfl,Below.refl _ _⟩
 clear h hnW hnP c1
 go_enter Tryz.func129,Tryz.ntmps129
 go_wp2_with fail
 go_loopw [3,4] (fun sv iv wr => ∃ (s i:Nat),i≤nW∧s≤300 * i∧sv=.int .i64 s∧iv=.int .i64 i∧Hid (s=putsR (ws.take i)∧Below w.heap.size w wr)) (fun _ iv _ => nW - (intOf iv).toNat)
 case atStart => exact ⟨0,0,Nat.zero_le _,by omega,rfl,rfl,HI⟩
 case round =>
  clear HI
  obtain ⟨s,i,hi,hs,rfl,rfl,HR⟩:=hrel
  have hr:=H.out.below HR.out.2
  by_cases hin:i < nW
  ·have hiI:(i:Int) < (nW:Int):=by omega
   have hil:i < ws.length:=by rw [← HN.out.1]; exact hin
   obtain ⟨b,cw,r1,r2,r3,r4,r5⟩:=hr.at_ i hil
   clear r3
   have hst:=putsR_step ws i hil
   have hsm:=hr.sm.2.2 _ (List.getElem_mem hil)
   generalize ws[i]'hil=y at r2 r4 r5 hst hsm
   obtain ⟨yq,yn,yA,yc,yl,yp⟩:=y
   dsimp only at r2 r4 r5 hst hsm
   rw [← HN.out.1] at r1
   obtain ⟨lq,hlq⟩:∃ lq,lq=yl.length:=⟨_,rfl⟩
   have hpl:=putsL_le yl
   have HPu:=Lib.hid (refputs_any yA yl lq yc wr (Lib.hid hlq) (by omega) r5)
   rw [← hlq] at r4
   obtain ⟨pz,hpz⟩:∃ pz,pz=putsL yl:=⟨_,rfl⟩
   rw [← hpz] at HPu hst hpl
   have hpz3:pz≤300:=by omega
   have HN2:Hid (s + pz=putsR (ws.take (i + 1))∧Below w.heap.size w wr):=Lib.hid ⟨by rw [hst,HR.out.1],HR.out.2⟩
   clear hr hil r5 hst hsm hlq hpl hpz HR
   go_wp2_with fail
   refine HPu.out.mono ?_
   rintro e w2 ⟨rfl,b2⟩
   have HN3:Hid (s + pz=putsR (ws.take (i + 1))∧Below w.heap.size w w2):=Lib.hid ⟨HN2.out.1,bt HN2.out.2 b2⟩
   clear b2 r1 r2 r4
   go_wp2
   go_roundw
   case rel => exact ⟨s + pz,i + 1,by omega,by omega,by go_num,by go_num,HN3⟩
   case measure => simp [intOf]; omega
  ·have hiI:¬ (i:Int) < (nW:Int):=by omega
   obtain ⟨AP,nP',cP,AW',nW',cW',hk,k1,k2,_,_⟩:=hr.ex
   have c0:=hk.cell 3
   have c1:=hk.cell 4
   have c2:=hk.cell 5
   simp only [List.getElem?_toArray,List.getElem?_cons_zero,List.getElem?_cons_succ] at c0 c1 c2
   rw [k1,← HN.out.2] at c0
   rw [k2,← HN.out.1] at c1
   have hsp:s=putsR ws:=by rw [HR.out.1,List.take_of_length_le (by rw [← HN.out.1]; omega)]
   have hg0:=HG.out
   have s1:IntKind.i64.wrap ((16:Int) - (nP:Int))=16 - (nP:Int):=IntWalk.i64_in _ (by omega)
   have s3:IntKind.i64.wrap (gv + 1)=gv + 1:=IntWalk.i64_in _ (by omega)
   have s4:IntKind.i64.wrap ((4611686018427387904:Int) - (gv + 1))=4611686018427387904 - (gv + 1):=IntWalk.i64_in _ (by omega)
   obtain ⟨va,hva⟩:∃ va,va=16 - (nP:Int) - (s:Int):=⟨_,rfl⟩
   obtain ⟨vb,hvb⟩:∃ vb,vb=4611686018427387904 - (gv + 1) - (s:Int):=⟨_,rfl⟩
   have s2:IntKind.i64.wrap (16 - (nP:Int) - (s:Int))=va:=by rw [hva]; exact IntWalk.i64_in _ (by omega)
   have s5:IntKind.i64.wrap (4611686018427387904 - (gv + 1) - (s:Int))=vb:=by rw [hvb]; exact IntWalk.i64_in _ (by omega)
   have hR:roomR P ws gv=min va vb:=by unfold roomR; rw [← HN.out.2,← hsp,← hva,← hvb]
   have d0:=fun m:Nat => cell_drew' c0 m
   have d2:=fun m:Nat => cell_drew' c2 m
   have HX:Hid (∀ m:Nat,Below w.heap.size w (wr.drewN m)):=Lib.hid fun m => bt HR.out.2 ⟨rfl,rfl,rfl,Nat.le_refl _,fun _ _ => rfl⟩
   have HRm:=Lib.hid hR
   clear hr hk k1 k2 hsp hg0 hR hva hvb HR hs hi hin
   go_wp2_with fail
   go_quiet (fail)
   have HX2:=Lib.hid (HX.out nq)
   clear d0 d2 c0 c2 HX s1 s2 s3 s4 s5 c1
   by_cases hab:vb < va
   ·have hm:Hid (min va vb=vb):=Lib.hid (Int.min_eq_right (by omega))
    go_wp2
    go_ret
    exact ⟨by rw [HRm.out,hm.out]; rfl,HX2.out⟩
   ·have hm:Hid (min va vb=va):=Lib.hid (Int.min_eq_left (by omega))
    go_wp2
    go_ret
    exact ⟨by rw [HRm.out,hm.out]; rfl,HX2.out⟩
end Go.Proofs.YtlliaihmfimdoaaGreat.Qu.Dq


namespace Go.Proofs.YtlliaihmfimdoaaGreat.Qu.Dq
variable {E:Value × Value × Value}
open Go.RowKit Go.Maps Go.Joins Go.Deep
set_option maxRecDepth 100000 in
set_option maxHeartbeats 1000000 in
theorem rtaker_any (B x:Nat) (P:List (Int × Nat)) (ws:List WI) (gv:Int) (k:Int) (w:World) (h:RQ E w B x P ws gv) :
  Calls Tryz.prog 131 #[.pointer (some ⟨x,3,none⟩),.int .i64 k] w fun e w' => e=.returned (.int .i64 (takR ws k))∧Below w.heap.size w w':=by
 obtain ⟨nW,hnW⟩:∃ nW,nW=ws.length:=⟨_,rfl⟩
 have hW1:nW≤100:=by rw [hnW]; exact h.sm.2.1
 have HN:=Lib.hid hnW
 have H:=Lib.hid h
 have HI:Hid ((∀ j (hj:j < ws.length),j < 0→hasT (ws[j]'hj).l k=false)∧Below w.heap.size w w):=Lib.hid ⟨fun j _ hj => by omega,Below.refl _ _⟩
 obtain ⟨T,hT⟩:∃ T,T=takR ws k:=⟨_,rfl⟩
 rw [← hT]
 have HT:=Lib.hid hT
 clear h hnW hT
 go_enter Tryz.func131,Tryz.ntmps131
 go_wp2_with fail
 go_loopw [5] (fun iv wr => ∃ (i:Nat),i≤nW∧iv=.int .i64 i∧Hid ((∀ j (hj:j < ws.length),j < i→hasT (ws[j]'hj).l k=false)∧Below w.heap.size w wr)) (fun iv _ => nW - (intOf iv).toNat)
 case atStart => exact ⟨0,Nat.zero_le _,rfl,HI⟩
 case round =>
  clear HI
  obtain ⟨i,hi,rfl,HR⟩:=hrel
  by_cases hin:i < nW
  ·have hiI:(i:Int) < (nW:Int):=by omega
   have hil:i < ws.length:=by rw [← HN.out]; exact hin
   obtain ⟨q,hq⟩:∃ q,q=(ws[i]'hil).l.length:=⟨_,rfl⟩
   have hq300:q≤300:=by rw [hq]; exact H.out.sm.2.2 _ (List.getElem_mem hil)
   have Hq:=Lib.hid (show ∃ hil:i < ws.length,q=(ws[i]'hil).l.length from ⟨hil,hq⟩)
   obtain ⟨b,cw,r1,r2,r3,r4,r5⟩:=(H.out.below HR.out.2).at_ i hil
   rw [← HN.out] at r1
   have HJ:Hid ((∀ m,m < 0→∀ (hil:i < ws.length) (hm:m < (ws[i]'hil).l.length),¬ (((ws[i]'hil).l[m]'hm).k=4∧((ws[i]'hil).l[m]'hm).y=k))∧Below w.heap.size w wr):=Lib.hid ⟨fun m hm => by omega,HR.out.2⟩
   have HRn:=Lib.hid HR.out.1
   clear hq hil r2 r3 r4 r5 HR
   go_wp2_with fail
   go_loopw [6] (fun jv wv => ∃ (j:Nat),j≤q∧jv=.int .i64 j∧Hid ((∀ m,m < j→∀ (hil:i < ws.length) (hm:m < (ws[i]'hil).l.length),¬ (((ws[i]'hil).l[m]'hm).k=4∧((ws[i]'hil).l[m]'hm).y=k))∧Below w.heap.size w wv)) (fun jv _ => q - (intOf jv).toNat)
   case atStart => exact ⟨0,Nat.zero_le _,rfl,HJ⟩
   case round =>
    clear HJ r1
    obtain ⟨j,hj,rfl,HV⟩:=hrel
    obtain ⟨hil,hq⟩:=Hq.out
    obtain ⟨b2,cw2,r1,r2,r3,r4,r5⟩:=(H.out.below HV.out.2).at_ i hil
    rw [← HN.out] at r1
    rw [← hq] at r4
    by_cases hjq:j < q
    ·have hjI:(j:Int) < (q:Int):=by omega
     have hjl:j < (ws[i]'hil).l.length:=by rw [← hq]; exact hjq
     obtain ⟨bl,ol,hA,_,hcs⟩:=r5 (by omega)
     obtain ⟨q0,q1,q2⟩:=hcs j hjl
     rw [hA] at r4
     have HYes:Hid (((ws[i]'hil).l[j]'hjl).k=4→((ws[i]'hil).l[j]'hjl).y=k→(ws[i]'hil).n=T):=Lib.hid fun e1 e2 => by
      rw [HT.out]; exact (takR_at hil HRn.out (hasT_at hjl e1 e2)).symm
     have HNo:Hid (¬ (((ws[i]'hil).l[j]'hjl).k=4∧((ws[i]'hil).l[j]'hjl).y=k)→∀ m,m < j + 1→∀ (hil:i < ws.length) (hm:m < (ws[i]'hil).l.length),¬ (((ws[i]'hil).l[m]'hm).k=4∧((ws[i]'hil).l[m]'hm).y=k)):=Lib.hid fun e m hm hil' hm' => by
      by_cases e2:m=j
      ·subst e2; exact e
      ·exact HV.out.1 m (by omega) hil' hm'
     generalize (ws[i]'hil).l[j]'hjl=xc at q0 q1 q2 HYes HNo
     generalize (ws[i]'hil).n=yn at r3 HYes
     generalize (ws[i]'hil).q=yq at r2 r3 r4
     generalize (ws[i]'hil).c=yc at r4
     obtain ⟨xk,xy,xv⟩:=xc
     dsimp only at q0 q1 q2 HYes HNo
     have hb3:=ba wr (.cells #[.int .i64 xk,.int .i64 xy,.int .u64 (xv:Nat)] 74)
     have HB3:=Lib.hid (bt HV.out.2 hb3)
     have hbl:=fun (p:Addr) (hp:p.block < wr.heap.size) => hb3.cell (p:=p) hp
     have l1:x < wr.heap.size:=World.block_lt_of_cell? _ _ r1
     have l2:b2 < wr.heap.size:=World.block_lt_of_cell? _ _ r2
     have l3:yq < wr.heap.size:=World.block_lt_of_cell? _ _ r3
     have t1:=(hbl ⟨x,4,none⟩ l1).trans r1
     have t2:=(hbl ⟨b2,i,none⟩ l2).trans r2
     have t3:=(hbl ⟨yq,0,none⟩ l3).trans r3
     clear hA hcs r5 hb3 hbl l1 l2 l3 HV hq hjl hil
     by_cases h4:xk=4
     ·by_cases hk:xy=k
      ·have hyn:=Lib.hid (HYes.out h4 hk)
       subst h4 hk
       clear HYes HNo
       go_wp2
       go_ret
       exact ⟨by rw [← hyn.out]; rfl,HB3.out⟩
      ·have HN2:=Lib.hid (HNo.out (fun e => hk e.2))
       have hkb:(xy == k)=false:=by simpa using hk
       subst h4
       clear HYes HNo t1 t2 t3
       go_wp2
       go_roundw
       case rel => exact ⟨j + 1,by omega,by go_num,Lib.hid ⟨HN2.out,HB3.out⟩⟩
       case measure => simp [intOf]; omega
     ·have HN2:=Lib.hid (HNo.out (fun e => h4 e.1))
      have h4b:(xk == 4)=false:=by simpa using h4
      clear HYes HNo t1 t2 t3
      go_wp2
      go_roundw
      case rel => exact ⟨j + 1,by omega,by go_num,Lib.hid ⟨HN2.out,HB3.out⟩⟩
      case measure => simp [intOf]; omega
    ·obtain rfl:j=q:=by omega
     have hjI:¬ (j:Int) < (j:Int):=by omega
     have HN2:Hid ((∀ m (hm:m < ws.length),m < i + 1→hasT (ws[m]'hm).l k=false)∧Below w.heap.size w wr):=Lib.hid ⟨fun m hm hmi => by
      by_cases e:m=i
      ·subst e
       exact hasT_no fun a ha => HV.out.1 a (by omega) hm ha
      ·exact HRn.out m hm (by omega),HV.out.2⟩
     generalize (ws[i]'hil).n=yn at r3
     generalize (ws[i]'hil).q=yq at r2 r3 r4
     generalize (ws[i]'hil).c=yc at r4
     generalize (ws[i]'hil).A=yA at r4 r5
     clear HV hq r5 hil
     go_wp2
     go_roundw
     case rel => exact ⟨i + 1,by omega,by go_num,HN2⟩
     case measure => simp [intOf]; omega
  ·have hiI:¬ (i:Int) < (nW:Int):=by omega
   obtain ⟨AW,cW,c1⟩:=(H.out.below HR.out.2).len_
   rw [← HN.out] at c1
   have hF:Hid (T=0∧Below w.heap.size w wr):=Lib.hid ⟨by rw [HT.out]; exact takR_no fun j hj => HR.out.1 j hj (by have:=HN.out; omega),HR.out.2⟩
   clear HR
   go_wp2
   go_ret
   exact ⟨by rw [hF.out.1]; rfl,hF.out.2⟩
end Go.Proofs.YtlliaihmfimdoaaGreat.Qu.Dq


namespace Go.Proofs.YtlliaihmfimdoaaGreat.Qu.Dq
variable {E:Value × Value × Value}
open Go.RowKit Go.Maps Go.Joins Go.Deep
theorem wk_kept {u u':World} {B x:Nat} {ws:List WI} {cs:Array Value} (hw:∀ y ∈ ws,B≤y.q∧Blk u y.q 149 #[.int .i64 y.n,.slice y.A y.l.length y.c,.bool y.p]∧OwnC u B y.A y.c y.l) (hx:Blk u x 38 cs) (hg:u.grownBy u' (some x)) :
  ∀ y ∈ ws,B≤y.q∧Blk u' y.q 149 #[.int .i64 y.n,.slice y.A y.l.length y.c,.bool y.p]∧OwnC u' B y.A y.c y.l:=fun y hy => by
 obtain ⟨h1,h2,h3⟩:=hw y hy
 exact ⟨h1,h2.kept hg (fun e => h2.ne hx (by decide) (by injection e)),own_kept h3 hx (by decide) hg⟩
theorem RQ.add {w:World} {B x:Nat} {P:List (Int × Nat)} {ws:List WI} {gv:Int} (h:RQ E w B x P ws gv) (hB:B≤w.heap.size) (n:Int) (hl:ws.length < 100) :
  ∃ AW nW cW A3 c3 w3,(Blk w x 38 #[E.1,E.2.1,E.2.2,(w.cell? ⟨x,3,none⟩).getD undef,.slice AW nW cW,.int .i64 gv])∧nW≤100 ∧
   (Builtin.append_ #[34,34] 34 #[.slice AW nW cW,.slice (some ⟨w.heap.size + 1,0,none⟩) 1 1]).run Tryz.prog ((w.alloc (.cells #[.int .i64 n,.slice none 0 0,.bool false] 149)).alloc (.cells #[.pointer (some ⟨w.heap.size,0,none⟩)] 111))=.ok (.slice A3 (nW + 1) c3) w3 ∧
   Blk w3 x 38 #[E.1,E.2.1,E.2.2,(w.cell? ⟨x,3,none⟩).getD undef,.slice AW nW cW,.int .i64 gv] ∧
   RQ E (w3.setCell ⟨x,4,none⟩ (.slice A3 (nW + 1) c3)) B x P (ws ++ [⟨w.heap.size,n,none,0,[],false⟩]) gv∧RG B w (w3.setCell ⟨x,4,none⟩ (.slice A3 (nW + 1) c3)) x (fun _ => False):=by
 obtain ⟨AP,nP,cP,AW,nW,cW,hk,hnP,hnW,hpr,hpt⟩:=h.ex
 obtain ⟨w1,hw1⟩:∃ w1,w1=w.alloc (.cells #[.int .i64 n,.slice none 0 0,.bool false] 149):=⟨_,rfl⟩
 have b1:Below w.heap.size w w1:=by rw [hw1]; exact ba _ _
 have kn:Blk w1 w.heap.size 149 #[.int .i64 n,.slice none 0 0,.bool false]:=by rw [hw1]; exact Blk.new _ _ _
 rw [← hw1]
 obtain ⟨w2,hw2⟩:∃ w2,w2=w1.alloc (.cells #[.pointer (some ⟨w.heap.size,0,none⟩)] 111):=⟨_,rfl⟩
 have b2:Below w1.heap.size w1 w2:=by rw [hw2]; exact ba _ _
 have kp:Blk w2 w1.heap.size 111 #[.pointer (some ⟨w.heap.size,0,none⟩)]:=by rw [hw2]; exact Blk.new _ _ _
 rw [← hw2]
 have b12:=bt b1 b2
 have h2:=h.below b12
 obtain ⟨hwk,hds,hsm⟩:=And.intro h2.wk (And.intro h2.ds h2.sm)
 have hk2:=hk.below b12 hk.lt
 have hg12:=lbelow_grown b12 (some x)
 have hpt2:OwnPt w2 B AW cW (ws.map WI.q):=own_kept hpt hk (by decide) hg12
 have hpr2:OwnPr w2 B AP cP P:=own_kept hpr hk (by decide) hg12
 have kn2:=kn.below b2 kn.lt
 have hs1:=b1.size
 have hs2:=b2.size
 have hkn:=kn.lt
 obtain ⟨A3,c3,w3,hrun,own3,hg3⟩:=pt_more hpt2 nW (by rw [List.length_map]; exact hnW) (by omega) w.heap.size w1.heap.size (by omega) (by have:=kp.cell 0; simpa using this)
 have hsz:w1.heap.size=w.heap.size + 1:=by rw [hw1]; first | rfl | exact Array.size_push _ | simp
 rw [hsz] at hrun
 have hxne:blk AW≠some x:=own_ne hpt2 hk2 (by decide)
 have hk3:Blk w3 x 38 #[E.1,E.2.1,E.2.2,.slice AP nP cP,.slice AW nW cW,.int .i64 gv]:=hk2.kept hg3 (fun e => hxne e.symm)
 have hgs:=lgrown_set w3 ⟨x,4,none⟩ (.slice A3 (nW + 1) c3)
 have e0:(w.cell? ⟨x,3,none⟩).getD undef=.slice AP nP cP:=by rw [hk.cell 3]; rfl
 rw [e0]
 have hnb:∀ {t:TypeId} {g:Nat} {cs:Array Value},Blk w2 g t cs→111≠t→some g≠blk AW:=fun hb ht e => own_ne hpt2 hb ht e.symm
 have hok:∀ {k n c m:Nat} {t:TypeId} {A:Option Addr} {vs:List Value},w2.ownsRow B t k (.slice A n c) m vs→t≠111→w3.ownsRow B t k (.slice A n c) m vs:=fun {k n c m t A vs} ho ht => by
  refine World.ownsRow.kept ho hg3 ?_
  rcases hb:(Value.slice A n c).ownBlock with _ | r
  ·exact .inl rfl
  ·refine .inr (fun e => ?_)
   rw [ownBlock_slice] at hb
   rcases ho.2 with ⟨h1,h2⟩ | ⟨g,cap,cur,h1,hbb,hg,hn,hm,hc,ht'⟩
   ·cases h1; cases hb
   ·injection h1 with e1 e2 e3
    rw [e1] at hb
    injection hb with hb
    have hb:g=r:=hb
    subst hb
    rcases hpt2.2 with ⟨h1,h2⟩ | ⟨g',cap',cur',h1,hbb',hg',_⟩
    ·injection h1 with e1 _ _
     rw [e1] at e
     cases e
    ·injection h1 with e1 _ _
     rw [e1] at e
     injection e with e
     have e:g=g':=e
     subst e
     rw [hg] at hg'
     injection hg' with hg'
     injection hg' with _ hg' _
     exact ht hg'
 refine ⟨AW,nW,cW,A3,c3,w3,hk,by omega,hrun,hk3,?_,?_⟩
 ·have hq:w.heap.size≠x:=by have:=hk.lt; omega
  have kn3:Blk w3 w.heap.size 149 #[.int .i64 n,.slice none 0 0,.bool false]:=kn2.kept hg3 (hnb kn2 (by decide))
  have hwk3:∀ y ∈ ws ++ [⟨w.heap.size,n,none,0,[],false⟩],B≤y.q∧Blk w3 y.q 149 #[.int .i64 y.n,.slice y.A y.l.length y.c,.bool y.p]∧OwnC w3 B y.A y.c y.l:=fun y hy => by
   rcases List.mem_append.1 hy with hy | hy
   ·obtain ⟨g1,g2,g3⟩:=hwk y hy
    exact ⟨g1,g2.kept hg3 (hnb g2 (by decide)),hok g3 (by decide)⟩
   ·obtain rfl:=List.mem_singleton.1 hy
    exact ⟨hB,kn3,OwnC.nil _ _⟩
  have own3':OwnPt w3 B A3 c3 ((ws ++ [(⟨w.heap.size,n,none,0,[],false⟩:WI)]).map WI.q):=by rw [List.map_append]; exact own3
  have ks:=hk3.set_ 4 (.slice A3 (nW + 1) c3)
  refine ⟨⟨AP,nP,cP,A3,nW + 1,c3,ks,hnP,by rw [List.length_append,hnW]; rfl,own_kept (hok hpr2 (by decide)) hk3 (by decide) hgs,?_⟩,wk_kept hwk3 hk3 hgs,?_,hsm.1,?_,?_⟩
  ·have:=own3'
   unfold OwnPt at this ⊢
   exact own_kept this hk3 (by decide) hgs
  ·rw [List.pairwise_append]
   refine ⟨hds,List.pairwise_singleton _ _,fun a ha b hb => ?_⟩
   obtain rfl:=List.mem_singleton.1 hb
   have:=(h.wk a ha).2.1.lt
   exact ⟨by show a.q≠w.heap.size; omega,fun r _ => by simp [blk]⟩
  ·rw [List.length_append]; simp; omega
  ·intro y hy
   rcases List.mem_append.1 hy with hy | hy
   ·exact hsm.2.2 y hy
   ·obtain rfl:=List.mem_singleton.1 hy
    simp
 ·have r12:RG B w w2 x (fun _ => False):=RG.of hg12
  refine (r12.trans (⟨hg3.os,hg3.tape,hg3.output,hg3.size,fun k hb hk' hx => hg3.block k hk' (fun e => by have:=(World.ownsRow.lt hpt2 k (by rw [ownBlock_slice]; exact e.symm)).1; omega),fun k hk' hx => ?_⟩:RG B w2 w3 x (fun _ => False)) (fun _ _ h => h)).trans (RG.of hgs) (fun _ _ h => h)
  by_cases e:blk AW=some k
  ·refine .inr (.inl ?_)
   rcases hpt2.2 with ⟨h1,h2⟩ | ⟨g',cap',cur',h1,hbb',hg',_⟩
   ·injection h1 with e1 _ _
    rw [e1] at e
    cases e
   ·injection h1 with e1 _ _
    rw [e1] at e
    injection e with e
    have e:g'=k:=e
    subst e
    exact ⟨_,_,hg'⟩
  ·exact .inl (hg3.block k hk' (fun e' => e e'.symm))
end Go.Proofs.YtlliaihmfimdoaaGreat.Qu.Dq


namespace Go.Proofs.YtlliaihmfimdoaaGreat.Qu.Dq
variable {E:Value × Value × Value}
open Go.RowKit Go.Maps Go.Joins Go.Deep
theorem RQ.upd {w w':World} {B x:Nat} {P:List (Int × Nat)} {ws:List WI} {gv:Int} (h:RQ E w B x P ws gv) {z z':WI} (hz:z ∈ ws) (hq:z'.q=z.q)
  (hs:w.heap.size≤w'.heap.size) (hg:∀ k,k < w.heap.size→k≠z.q→blk z.A≠some k→w'.heap[k]?=w.heap[k]?)
  (hb:Blk w' z.q 149 #[.int .i64 z'.n,.slice z'.A z'.l.length z'.c,.bool z'.p]) (ho:OwnC w' B z'.A z'.c z'.l) (hA:∀ r,blk z'.A=some r→blk z.A=some r∨w.heap.size≤r) (hl:z'.l.length≤300):RQ E w' B x P (turnW ws z') gv:=by
 obtain ⟨AP,nP,cP,AW,nW,cW,hk,hnP,hnW,hpr,hpt⟩:=h.ex
 obtain ⟨z1,z2,z3⟩:=h.wk z hz
 have zA:∀ r,blk z.A=some r→∃ cs fz,w.heap[r]?=some (.cells cs 74 fz):=fun r e => by
  rcases z3.2 with ⟨h1,h2⟩ | ⟨g,cap,cur,hv,hb,hg,hrest⟩
  ·injection h1 with e1 _ _; rw [e1] at e; cases e
  ·injection hv with e1 _ _
   rw [e1] at e
   injection e with e
   have e:g=r:=e
   subst e
   exact ⟨_,_,hg⟩
 have keep:∀ {k:Nat} {cs:Array Value} {t:TypeId} {fz:Nat × Nat},w.heap[k]?=some (.cells cs t fz)→t≠149→t≠74→w'.heap[k]?=w.heap[k]?:=fun {k cs t fz} e h1 h2 => by
  refine hg k (Array.getElem?_eq_some_iff.1 e).1 (fun e2 => ?_) (fun e2 => ?_)
  ·subst e2
   unfold Blk at z2
   rw [z2] at e
   injection e with e
   injection e with _ e _
   exact h1 e.symm
  ·obtain ⟨cs2,fz2,e3⟩:=zA k e2
   rw [e3] at e
   injection e with e
   injection e with _ e _
   exact h2 e.symm
 refine ⟨⟨AP,nP,cP,AW,nW,cW,?_,hnP,by unfold turnW; rw [List.length_map]; exact hnW,?_,?_⟩,?_,?_,h.sm.1,by unfold turnW; rw [List.length_map]; exact h.sm.2.1,?_⟩
 ·unfold Blk at hk ⊢
  rw [keep hk (by decide) (by decide)]
  exact hk
 ·exact own_same hpr fun r _ ⟨cs,fz,e⟩ _ => keep e (by decide) (by decide)
 ·have e:(turnW ws z').map WI.q=ws.map WI.q:=by
   unfold turnW
   rw [List.map_map]
   refine List.map_congr_left fun y _ => ?_
   show (if y.q=z'.q then z' else y).q=y.q
   split
   ·rename_i e; exact e.symm
   ·rfl
  rw [e]
  exact own_same hpt fun r _ ⟨cs,fz,e⟩ _ => keep e (by decide) (by decide)
 ·intro y hy
  obtain ⟨y0,hy0,rfl⟩:=List.mem_map.1 hy
  by_cases e:y0.q=z'.q
  ·rw [if_pos e]
   rw [hq]
   exact ⟨z1,hb,ho⟩
  ·rw [if_neg e]
   obtain ⟨y1,y2,y3⟩:=h.wk y0 hy0
   have hne:y0.q≠z.q:=fun e2 => e (e2.trans hq.symm)
   refine ⟨y1,?_,own_same y3 fun r hr ⟨cs,fz,e2⟩ e3 => hg r hr (fun e4 => ?_) (fun e4 => A_apart h.ds hz hy0 (fun e => hne e.symm) r e4 e3)⟩
   ·unfold Blk at y2 ⊢
    rw [hg y0.q (Array.getElem?_eq_some_iff.1 y2).1 hne (fun e4 => by
     obtain ⟨cs2,fz2,e5⟩:=zA _ e4
     rw [e5] at y2
     injection y2 with y2
     injection y2 with _ y2 _
     exact absurd y2 (by decide))]
    exact y2
   ·subst e4
    unfold Blk at z2
    rw [z2] at e2
    injection e2 with e2
    injection e2 with _ e2 _
    exact absurd e2 (by decide)
 ·unfold turnW
  rw [List.pairwise_map]
  refine List.Pairwise.imp_of_mem ?_ h.ds
  intro a b ha hb' hab
  have hlt:∀ y ∈ ws,∀ r,blk y.A=some r→r < w.heap.size:=fun y hy r e => ((h.wk y hy).2.2.lt' r e).2
  by_cases ea:a.q=z'.q
  ·have haz:a=z:=q_same h.ds ha hz (ea.trans hq)
   have eb:b.q≠z'.q:=fun e => hab.1 (ea.trans e.symm)
   rw [if_pos ea,if_neg eb]
   refine ⟨fun e => eb e.symm,fun r hr hr2 => ?_⟩
   rcases hA r hr with h1 | h1
   ·exact hab.2 r (by rw [haz]; exact h1) hr2
   ·have:=hlt b hb' r hr2; omega
  ·by_cases eb:b.q=z'.q
   ·have hbz:b=z:=q_same h.ds hb' hz (eb.trans hq)
    rw [if_neg ea,if_pos eb]
    refine ⟨ea,fun r hr hr2 => ?_⟩
    rcases hA r hr2 with h1 | h1
    ·exact hab.2 r hr (by rw [hbz]; exact h1)
    ·have:=hlt a ha r hr; omega
   ·rw [if_neg ea,if_neg eb]
    exact hab
 ·intro y hy
  obtain ⟨y0,hy0,rfl⟩:=List.mem_map.1 hy
  split
  ·exact hl
  ·exact h.sm.2.2 y0 hy0
theorem RQ.rws {w:World} {B B' x:Nat} {P:List (Int × Nat)} {ws ws':List WI} {gv:Int} (h:RQ E w B x P ws gv) {A:Option Addr} {c n:Nat} (hn:n=ws'.length) (ho:OwnPt w B' A c (ws'.map WI.q)) (hB:B≤B') (hs:ws'.Sublist ws):RQ E (w.setCell ⟨x,4,none⟩ (.slice A n c)) B x P ws' gv:=by
 obtain ⟨AP,nP,cP,AW,nW,cW,hk,hnP,hnW,hpr,hpt⟩:=h.ex
 have hgs:=lgrown_set w ⟨x,4,none⟩ (.slice A n c)
 have ks:=hk.set_ 4 (.slice A n c)
 have hwk:=wk_kept h.wk hk hgs
 refine ⟨⟨AP,nP,cP,A,n,c,ks,hnP,hn,own_kept hpr hk (by decide) hgs,own_kept (own_less ho hB) hk (by decide) hgs⟩,fun y hy => hwk y (hs.subset hy),h.ds.sublist hs,h.sm.1,Nat.le_trans hs.length_le h.sm.2.1,fun y hy => h.sm.2.2 y (hs.subset hy)⟩
set_option maxRecDepth 100000 in
set_option maxHeartbeats 4000000 in
theorem rqdrop_any (B x:Nat) (P:List (Int × Nat)) (ws:List WI) (gv:Int) (n:Int) (w1:World) (h:RQ E w1 B x P ws gv) (hB:B≤w1.heap.size) :
  Calls Tryz.prog 134 #[.pointer (some ⟨x,3,none⟩),.int .i64 n] w1 fun e w' => e=.returned (.tuple #[])∧RQ E w' B x P (othersW ws n) gv∧w1.grownBy w' (some x):=by
 have H1:=Lib.hid (And.intro h (And.intro (lbelow_grown (Below.refl w1.heap.size w1) (some x)) hB))
 obtain ⟨AP,nP,cP,AW,nW,cW,hk,_,hnW,_,hpt⟩:=h.ex
 have HK:=Lib.hid (And.intro hk hpt)
 have HN:=Lib.hid hnW
 have hn1:nW≤100:=by rw [hnW]; exact h.sm.2.1
 clear h hk hnW hpt
 go_enter Tryz.func134,Tryz.ntmps134
 go_wp2_with fail
 go_loopw [4,5] (fun v i wr => ∃ (j n2 c2:Nat) (A2:Option Addr),v=.slice A2 n2 c2∧j≤nW∧n2≤j∧i=.int .i64 j∧Hid (n2=(othersW (ws.take j) n).length∧OwnPt wr w1.heap.size A2 c2 ((othersW (ws.take j) n).map WI.q)∧Below w1.heap.size w1 wr)) (fun _ i _ => nW - (intOf i).toNat)
 case atStart => exact ⟨0,0,0,none,rfl,Nat.zero_le _,Nat.le_refl _,rfl,Lib.hid ⟨rfl,World.ownsRow_nil _ _ _ _,Below.refl _ _⟩⟩
 case round =>
  obtain ⟨j,n2,c2,A2,rfl,hj,hn2j,rfl,HR⟩:=hrel
  by_cases hjn:j < nW
  ·have hjI:(j:Int) < (nW:Int):=by omega
   have hjL:j < ws.length:=by rw [← HN.out]; exact hjn
   obtain ⟨hn2,hown,hb⟩:=HR.out
   have hkr:=HK.out.1.below hb HK.out.1.lt
   have c1:=hkr.cell 4
   simp only [List.getElem?_toArray,List.getElem?_cons_zero,List.getElem?_cons_succ] at c1
   have hpt:=HK.out.2
   unfold OwnPt at hpt
   rw [List.length_map] at hpt
   obtain ⟨b,rfl,_,hbl,_,hc⟩:=row_cells hpt (by omega)
   have q0:=(hb.cell (p:=⟨b,j,none⟩) hbl).trans (hc j (.pointer (some ⟨(ws[j]'hjL).q,0,none⟩)) (by unfold ptV; simp [hjL]))
   have hwj:=(H1.out.1.wk _ (List.getElem_mem hjL)).2.1
   have q1:=(hwj.below hb hwj.lt).cell 0
   simp only [List.getElem?_toArray,List.getElem?_cons_zero,List.getElem?_cons_succ] at q1
   have hsn:=othersW_snoc (n:=n) hjL
   generalize ws[j]'hjL=y at q0 q1 hsn
   obtain ⟨yq,yn,yA,yc,yl,yp⟩:=y
   dsimp only at q0 q1 hsn
   by_cases h1:yn=n
   ·rw [if_pos h1] at hsn
    have HX:Hid (n2=(othersW (ws.take (j + 1)) n).length∧OwnPt wr w1.heap.size A2 c2 ((othersW (ws.take (j + 1)) n).map WI.q)∧Below w1.heap.size w1 wr):=Lib.hid (by rw [hsn]; exact HR.out)
    subst h1
    clear hpt hc hwj hkr hown hb hbl hsn HR hjL hn2
    go_wp2
    go_roundw
    case rel => exact ⟨j + 1,n2,c2,A2,rfl,by omega,by omega,by go_num,HX⟩
    case measure => simp [intOf]; omega
   ·rw [if_neg h1] at hsn
    have e1:(yn != n)=true:=by simp [h1]
    have hb3:=ba wr (.cells #[.pointer (some ⟨yq,0,none⟩)] 111)
    have own3:OwnPt (wr.alloc (.cells #[.pointer (some ⟨yq,0,none⟩)] 111)) w1.heap.size A2 c2 ((othersW (ws.take j) n).map WI.q):=World.ownsRow.kept hown (lbelow_grown hb3 none) (by rcases (Value.slice A2 ((othersW (ws.take j) n).map WI.q).length c2).ownBlock with _ | k; exact .inl rfl; exact .inr (fun e => by cases e))
    obtain ⟨A5,c5,w5,hrun,hE5,hg5⟩:=pt_more own3 n2 (by rw [List.length_map]; exact hn2) (by omega) yq wr.heap.size (by have:=hb.size; have:=hb3.size; omega) ((Blk.new wr 111 #[.pointer (some ⟨yq,0,none⟩)]).cell 0)
    have hB5:=(bt hb hb3).grown hg5 (by have:=hb.size; have:=hb3.size; omega) (fun r e => (World.ownsRow.lt own3 r (by rw [ownBlock_slice]; exact e)).1)
    have HX:Hid (n2 + 1=(othersW (ws.take (j + 1)) n).length∧OwnPt w5 w1.heap.size A5 c5 ((othersW (ws.take (j + 1)) n).map WI.q)∧Below w1.heap.size w1 w5):=Lib.hid (by rw [hsn,List.length_append,List.map_append,← hn2]; exact ⟨rfl,hE5,hB5⟩)
    clear hpt hc hwj hkr hown hb hbl hsn HR hjL hn2 hb3 own3 hE5 hg5 hB5
    go_wp2_with (at_builtin; refine wpList_append_run rfl (.tmp 27) (.tmp 35) 34 rfl _ _ _ w5 rfl rfl hrun ?_)
    go_roundw
    case rel => exact ⟨j + 1,n2 + 1,c5,A5,rfl,by omega,by omega,by go_num,HX⟩
    case measure => simp [intOf]; omega
  ·have hjI:¬ (j:Int) < (nW:Int):=by omega
   have hjj:ws.take j=ws:=List.take_of_length_le (by have:=HN.out; omega)
   obtain ⟨hn2,hown,hb⟩:=HR.out
   rw [hjj] at hn2 hown
   have hkr:=HK.out.1.below hb HK.out.1.lt
   have c1:=hkr.cell 4
   have f1:=hkr.frozen 4
   simp only [List.getElem?_toArray,List.getElem?_cons_zero,List.getElem?_cons_succ] at c1
   have HX:Hid (RQ E (wr.setCell ⟨x,4,none⟩ (.slice A2 n2 c2)) B x P (othersW ws n) gv∧w1.grownBy (wr.setCell ⟨x,4,none⟩ (.slice A2 n2 c2)) (some x)):=Lib.hid ⟨(H1.out.1.below hb).rws hn2 hown H1.out.2.2 List.filter_sublist,(H1.out.2.1.trans (lbelow_grown hb (some x))).trans (lgrown_set wr ⟨x,4,none⟩ (.slice A2 n2 c2))⟩
   clear hn2 hown hb hkr HR hjj
   go_wp2
   go_end0
   exact ⟨rfl,HX.out⟩
set_option maxRecDepth 100000 in
set_option maxHeartbeats 1000000 in
theorem rback_any (B x:Nat) (P:List (Int × Nat)) (ws:List WI) (gv:Int) (n:Int) (w:World) (h:RQ E w B x P ws gv) (hB:B≤w.heap.size) :
  Calls Tryz.prog 91 #[.pointer (some ⟨x,3,none⟩),.int .i64 n] w fun e w' => e=.returned (.int .i64 (backR ws n).1)∧RQ E w' B x P (backR ws n).2 gv∧w.grownBy w' (some x):=by
 have HD:=Lib.hid (rqdrop_any B x P ws gv n w h hB)
 have H:=Lib.hid h
 unfold backR
 rcases a1:decide (n < 1) with _ | _
 ·have p1:¬ n < 1:=of_decide_eq_false a1
  rw [if_neg p1]
  clear h
  go_enter Tryz.func91,Tryz.ntmps91
  go_wp2_with fail
  refine HD.out.mono ?_
  rintro e w1 ⟨rfl,hr⟩
  have HX:=Lib.hid hr
  clear hr
  go_wp2
  go_ret
  exact ⟨rfl,HX.out⟩
 ·have p1:n < 1:=of_decide_eq_true a1
  rw [if_pos p1]
  clear h
  go_enter Tryz.func91,Tryz.ntmps91
  go_wp2
  go_ret
  exact ⟨rfl,H.out,lbelow_grown (Below.refl _ _) _⟩
end Go.Proofs.YtlliaihmfimdoaaGreat.Qu.Dq


namespace Go.Proofs.YtlliaihmfimdoaaGreat.Qu.Dq
variable {E:Value × Value × Value}
open Go.RowKit Go.Maps Go.Joins Go.Deep
def NoteO (E:Value × Value × Value) (w:World) (B x:Nat) (P:List (Int × Nat)) (ws:List WI) (gv n:Int) (c:Ch) (w':World):Prop :=
 ∃ ws2 z A5 c5,((findW ws n=some z∧ws2=ws)∨(findW ws n=none∧∃ q,z=⟨q,n,none,0,[],false⟩∧ws2=ws ++ [z]))∧RQ E w' B x P (turnW ws2 ⟨z.q,z.n,A5,c5,z.l ++ [c],z.p⟩) gv∧RG B w w' x (fun r => ∃ y ∈ ws,blk y.A=some r)∧∀ r,blk A5=some r→(∃ y ∈ ws,blk y.A=some r)∨w.heap.size≤r
set_option maxRecDepth 100000 in
set_option maxHeartbeats 1000000 in
theorem rnote_any (B x:Nat) (P:List (Int × Nat)) (ws:List WI) (gv n ck cy:Int) (cv:Nat) (w:World) (h:RQ E w B x P ws gv) (hB:B≤w.heap.size) (hl:ws.length < 100) (hls:∀ y ∈ ws,y.l.length < 300) :
  Calls Tryz.prog 130 #[.pointer (some ⟨x,3,none⟩),.int .i64 n,.agg #[.int .i64 ck,.int .i64 cy,.int .u64 (cv:Nat)]] w fun e w' => e=.returned (.tuple #[])∧NoteO E w B x P ws gv n ⟨ck,cy,cv⟩ w':=by
 obtain ⟨w1,hw1⟩:∃ w1,w1=w.alloc (.cells #[.int .i64 ck,.int .i64 cy,.int .u64 (cv:Nat)] 74):=⟨_,rfl⟩
 have b1:Below w.heap.size w w1:=by rw [hw1]; exact ba _ _
 obtain ⟨gc,hgc⟩:∃ gc,gc=w.heap.size:=⟨_,rfl⟩
 have k1:Blk w1 gc 74 #[.int .i64 ck,.int .i64 cy,.int .u64 (cv:Nat)]:=by rw [hw1,hgc]; exact Blk.new _ _ _
 have h1:=h.below b1
 have hxl:x < w.heap.size:=by obtain ⟨_,_,_,_,_,_,hk,_⟩:=h.ex; exact hk.lt
 have HF:=Lib.hid (rfind_any B x P ws gv n w1 h1)
 have H1:=Lib.hid (And.intro h1 (And.intro k1 (And.intro b1 (And.intro hB (And.intro hl (And.intro hls (show gc≠x by omega)))))))
 have HW1:=Lib.hid hw1
 have Hgc:=Lib.hid hgc
 rcases hf:findW ws n with _ | z
 ·rw [hf] at HF
  obtain ⟨AW,nW,cW,A3,c3,w3,hx2,hnW,hrun0,hx3,hR3,hrg⟩:=h1.add (Nat.le_trans hB b1.size) n hl
  have c1:=hx2.cell 4
  have f1:=hx3.frozen 4
  have d1:=hx3.cell 4
  simp only [List.getElem?_toArray,List.getElem?_cons_zero,List.getElem?_cons_succ] at c1 d1
  have c2:=((ba w1 (.cells #[.int .i64 n,.slice none 0 0,.bool false] 149)).cell (p:=⟨x,4,none⟩) hx2.lt).trans c1
  obtain ⟨w2,hw2⟩:∃ w2,w2=w3.setCell ⟨x,4,none⟩ (.slice A3 (nW + 1) c3):=⟨_,rfl⟩
  rw [← hw2] at hR3 hrg
  obtain ⟨zq,hzq⟩:∃ zq,zq=w1.heap.size:=⟨_,rfl⟩
  rw [← hzq] at hR3
  have HW2:=Lib.hid hw2
  have Hzq:=Lib.hid hzq
  obtain ⟨zn,hzn⟩:∃ zn,zn=n:=⟨_,rfl⟩
  obtain ⟨zA,hzA⟩:∃ zA:Option Addr,zA=none:=⟨_,rfl⟩
  obtain ⟨zc,hzc⟩:∃ zc:Nat,zc=0:=⟨_,rfl⟩
  obtain ⟨zl,hzl⟩:∃ zl:List Ch,zl=[]:=⟨_,rfl⟩
  obtain ⟨zp,hzp⟩:∃ zp:Bool,zp=false:=⟨_,rfl⟩
  have hzz:(⟨zq,n,none,0,[],false⟩:WI)=⟨zq,zn,zA,zc,zl,zp⟩:=by rw [hzn,hzA,hzc,hzl,hzp]
  rw [hzz] at hR3
  have HU:=Lib.hid (And.intro hR3 (And.intro (List.mem_append_right ws (List.mem_singleton_self (⟨zq,zn,zA,zc,zl,zp⟩:WI))) (And.intro (hrg.change k1 (by omega)) (show zl.length < 300 by rw [hzl]; simp))))
  have HFin:Hid (∀ w' A5 c5,RQ E w' B x P (turnW (ws ++ [⟨zq,zn,zA,zc,zl,zp⟩]) ⟨zq,zn,A5,c5,zl ++ [⟨ck,cy,cv⟩],zp⟩) gv→RG B w2 w' x (fun r => blk zA=some r)→(∀ r,blk A5=some r→blk zA=some r∨w2.heap.size≤r)→NoteO E w B x P ws gv n ⟨ck,cy,cv⟩ w'):=Lib.hid fun w' A5 c5 a b cc => ⟨_,⟨zq,zn,zA,zc,zl,zp⟩,A5,c5,.inr ⟨hf,zq,hzz.symm,rfl⟩,a,((RG.of (lbelow_grown b1 (some x)):RG B w w1 x (fun r => ∃ y ∈ ws,blk y.A=some r)).trans hrg (fun _ _ e => e.elim)).trans b (fun r _ e => by rw [hzA] at e; cases e),fun r e => by
   rcases cc r e with e | e
   ·rw [hzA] at e; cases e
   ·exact .inr (Nat.le_trans (Nat.le_trans b1.size hrg.size) e)⟩
  clear h h1 hB hl hls hxl hf hw1 b1 k1 hgc hx2 hx3 hR3 hrg hw2 hzq hzn hzA hzc hzl hzp hzz
  go_enter Tryz.func130,Tryz.ntmps130
  go_wp2_with fail
  rw [← HW1.out,← Hgc.out]
  refine HF.out.mono ?_
  rintro e w1' ⟨rfl,rfl⟩
  dsimp only [Option.map_none]
  go_wp2_with (at_builtin; refine wpList_append_run rfl (.tmp 19) (.tmp 21) 34 rfl _ _ _ w3 rfl rfl hrun0 ?_)
  rw [← HW2.out,← Hzq.out]
  clear c1 c2 f1 d1 hrun0
  have hZ:=HU.out.1.wk _ HU.out.2.1
  have own0:=hZ.2.2
  obtain ⟨nl,hnl⟩:∃ nl,nl=zl.length:=⟨_,rfl⟩
  have hl300:=HU.out.1.sm.2.2 _ HU.out.2.1
  have z1:=hZ.2.1.cell 1
  simp only [List.getElem?_toArray,List.getElem?_cons_zero,List.getElem?_cons_succ] at z1
  try dsimp only at hl300 own0 hZ z1
  rw [← hnl] at z1
  obtain ⟨W,hW⟩:∃ W,W=w2.drew:=⟨_,rfl⟩
  have hbW:Below w2.heap.size w2 W:=by rw [hW]; exact ⟨rfl,rfl,rfl,Nat.le_refl _,fun _ _ => rfl⟩
  obtain ⟨W1,hW1⟩:∃ W1,W1=W.alloc (.cells #[.int .i64 ck,.int .i64 cy,.int .u64 (cv:Nat)] 74):=⟨_,rfl⟩
  have bW1:Below W.heap.size W W1:=by rw [hW1]; exact ba _ _
  have kW1:Blk W1 W.heap.size 74 #[.int .i64 ck,.int .i64 cy,.int .u64 (cv:Nat)]:=by rw [hW1]; exact Blk.new _ _ _
  have hb1:=bt hbW bW1
  have own1:OwnC W1 B zA zc zl:=own_same own0 (fun r hr _ _ => hb1.block r hr)
  obtain ⟨A5,c5,w5,hrun,own5,g5,hat5⟩:=ch_app own1 (some ⟨W.heap.size,0,none⟩) 1 [⟨ck,cy,cv⟩] nl 1 hnl rfl (fun b o e i hi => by
   cases e
   obtain rfl:i=0:=by simpa using hi
   exact ⟨kW1.cell 0,kW1.cell 1,kW1.cell 2⟩) (fun _ => ⟨_,_,rfl⟩) (by have:=own1.cap; rw [← hnl] at this; exact this) (by rw [← hnl]; simp; omega) (by exact Nat.le_trans (Nat.le_of_lt (Nat.lt_of_le_of_lt hZ.1 hZ.2.1.lt)) hb1.size)
  have kz1:=hZ.2.1.below hb1 hZ.2.1.lt
  have hzne:blk zA≠some zq:=own_ne own1 kz1 (by decide)
  have kz5:=kz1.kept g5 (fun e => hzne e.symm)
  have e5:w5.cell? ⟨zq,1,none⟩=some (.slice zA nl zc):=by rw [hnl]; exact kz5.cell 1
  have f5:=kz5.frozen 1
  have ks:=kz5.set_ 1 (.slice A5 (nl + 1) c5)
  have gs:=lgrown_set w5 ⟨zq,1,none⟩ (.slice A5 (nl + 1) c5)
  have own6:=own_kept own5 kz5 (by decide) gs
  have hs1:=hb1.size
  have hsame:∀ k,k < w2.heap.size→k≠zq→blk zA≠some k→(w5.setCell ⟨zq,1,none⟩ (.slice A5 (nl + 1) c5)).heap[k]?=w2.heap[k]?:=fun k hk h1 h2 => by
   rw [gs.block k (Nat.lt_of_lt_of_le hk (Nat.le_trans hs1 g5.size)) (fun e => h1 (by injection e)),g5.block k (Nat.lt_of_lt_of_le hk hs1) (fun e => h2 e.symm)]
   exact hb1.block k hk
  have hsz:w2.heap.size≤(w5.setCell ⟨zq,1,none⟩ (.slice A5 (nl + 1) c5)).heap.size:=Nat.le_trans hs1 (Nat.le_trans g5.size gs.size)
  have hln:(zl ++ [(⟨ck,cy,cv⟩:Ch)]).length=nl + 1:=by rw [List.length_append,← hnl]; rfl
  have hl2:=HU.out.2.2.2
  have hR6:=HU.out.1.upd (w':=w5.setCell ⟨zq,1,none⟩ (.slice A5 (nl + 1) c5)) HU.out.2.1 (z':=⟨zq,zn,A5,c5,zl ++ [(⟨ck,cy,cv⟩:Ch)],zp⟩) rfl hsz hsame (by dsimp only; rw [hln]; exact ks) (by dsimp only; unfold OwnC; exact own6) (fun r e => by
   rcases hat5 r e with h | h
   ·exact .inl h
   ·exact .inr (by rw [h]; exact hs1)) (by dsimp only; rw [hln,hnl]; omega)
  have hrg6:RG B w2 (w5.setCell ⟨zq,1,none⟩ (.slice A5 (nl + 1) c5)) x (fun r => blk zA=some r):=⟨gs.os.trans (g5.os.trans hb1.os),gs.tape.trans (g5.tape.trans hb1.tape),gs.output.trans (g5.output.trans hb1.output),hsz,fun k hb hk _ => hsame k hk (fun e => by have:=hZ.1; omega) (fun e => by have:=(own0.lt' k e).1; omega),fun k hk _ => by
   by_cases h1:k=zq
   ·subst h1; exact .inr (.inr (.inl ⟨_,_,hZ.2.1⟩))
   ·by_cases h2:blk zA=some k
    ·refine .inr (.inr (.inr ⟨?_,h2⟩))
     rcases own0.2 with ⟨h3,h4⟩ | ⟨g,cap,cur,hv,hb,hg,hrest⟩
     ·injection h3 with e1 _ _; rw [e1] at h2; cases h2
     ·injection hv with e1 _ _
      rw [e1] at h2
      injection h2 with h2
      have h2:g=k:=h2
      subst h2
      exact ⟨_,_,hg⟩
    ·exact .inl (hsame k hk h1 h2)⟩
  have HX:=Lib.hid (And.intro hR6 (And.intro hrg6 (show ∀ r,blk A5=some r→blk zA=some r∨w2.heap.size≤r from fun r e => by
   rcases hat5 r e with h | h
   ·exact .inl h
   ·exact .inr (by rw [h]; exact hs1))))
  have kc:=HU.out.2.2.1
  have kcW:=kc.below hbW kc.lt
  have y1:W.cell? ⟨zq,1,none⟩=some (.slice zA nl zc):=by rw [hW]; exact z1
  have y2:W.cell? ⟨gc,0,none⟩=some (.int .i64 ck):=kcW.cell 0
  have y3:W.cell? ⟨gc,1,none⟩=some (.int .i64 cy):=kcW.cell 1
  have y4:W.cell? ⟨gc,2,none⟩=some (.int .u64 (cv:Nat)):=kcW.cell 2
  rw [hW1,hW] at hrun
  rw [hW] at y1 y2 y3 y4
  have y5:(w2.alloc (.cells #[.int .i64 ck,.int .i64 cy,.int .u64 (cv:Nat)] 74)).cell? ⟨zq,1,none⟩=some (.slice zA nl zc):=((ba w2 (.cells #[.int .i64 ck,.int .i64 cy,.int .u64 (cv:Nat)] 74)).cell (p:=⟨zq,1,none⟩) hZ.2.1.lt).trans z1
  have x2:w2.cell? ⟨gc,0,none⟩=some (.int .i64 ck):=kc.cell 0
  have x3:w2.cell? ⟨gc,1,none⟩=some (.int .i64 cy):=kc.cell 1
  have x4:w2.cell? ⟨gc,2,none⟩=some (.int .u64 (cv:Nat)):=kc.cell 2
  clear hZ own0 hnl hl300 hW hbW hW1 bW1 kW1 hb1 own1 own5 g5 hat5 kz1 hzne kz5 ks gs own6 hs1 hsame hsz hln hl2 hR6 hrg6 kc kcW
  go_region_law (refine step_append_run rfl (.tmp 29) (.tmp 31) 40 rfl _ _ _ w5 rfl rfl hrun ?_)
  all_goals
   go_wp2
   go_end0
   exact ⟨rfl,HFin.out _ _ _ HX.out.1 HX.out.2.1 HX.out.2.2⟩
 ·obtain ⟨zq,zn,zA,zc,zl,zp⟩:=z
  rw [hf] at HF
  obtain ⟨hzm,hzn⟩:=findW_mem hf
  obtain ⟨w2,hw2⟩:∃ w2,w2=w1:=⟨_,rfl⟩
  have HW2:=Lib.hid hw2
  have HU:=Lib.hid (show RQ E w2 B x P ws gv∧(⟨zq,zn,zA,zc,zl,zp⟩:WI) ∈ ws∧Blk w2 gc 74 #[.int .i64 ck,.int .i64 cy,.int .u64 (cv:Nat)]∧zl.length < 300 by rw [hw2]; exact ⟨h1,hzm,k1,hls _ hzm⟩)
  have HFin:Hid (∀ w' A5 c5,RQ E w' B x P (turnW ws ⟨zq,zn,A5,c5,zl ++ [⟨ck,cy,cv⟩],zp⟩) gv→RG B w2 w' x (fun r => blk zA=some r)→(∀ r,blk A5=some r→blk zA=some r∨w2.heap.size≤r)→NoteO E w B x P ws gv n ⟨ck,cy,cv⟩ w'):=Lib.hid fun w' A5 c5 a b cc => ⟨ws,⟨zq,zn,zA,zc,zl,zp⟩,A5,c5,.inl ⟨hf,rfl⟩,a,by
   rw [hw2] at b
   exact (RG.of (lbelow_grown b1 (some x)):RG B w w1 x (fun r => ∃ y ∈ ws,blk y.A=some r)).trans b (fun r _ e => ⟨_,hzm,e⟩),fun r e => by
   rcases cc r e with e | e
   ·exact .inl ⟨_,hzm,e⟩
   ·rw [hw2] at e
    exact .inr (Nat.le_trans b1.size e)⟩
  clear h h1 hB hl hls hxl hf hw1 b1 k1 hgc hzm hzn hw2
  go_enter Tryz.func130,Tryz.ntmps130
  go_wp2_with fail
  rw [← HW1.out,← Hgc.out]
  refine HF.out.mono ?_
  rintro e w1' ⟨rfl,rfl⟩
  dsimp only [Option.map_some]
  go_wp2_with fail
  rw [← HW2.out]
  have hZ:=HU.out.1.wk _ HU.out.2.1
  have own0:=hZ.2.2
  obtain ⟨nl,hnl⟩:∃ nl,nl=zl.length:=⟨_,rfl⟩
  have hl300:=HU.out.1.sm.2.2 _ HU.out.2.1
  have z1:=hZ.2.1.cell 1
  simp only [List.getElem?_toArray,List.getElem?_cons_zero,List.getElem?_cons_succ] at z1
  try dsimp only at hl300 own0 hZ z1
  rw [← hnl] at z1
  obtain ⟨W,hW⟩:∃ W,W=w2.drew:=⟨_,rfl⟩
  have hbW:Below w2.heap.size w2 W:=by rw [hW]; exact ⟨rfl,rfl,rfl,Nat.le_refl _,fun _ _ => rfl⟩
  obtain ⟨W1,hW1⟩:∃ W1,W1=W.alloc (.cells #[.int .i64 ck,.int .i64 cy,.int .u64 (cv:Nat)] 74):=⟨_,rfl⟩
  have bW1:Below W.heap.size W W1:=by rw [hW1]; exact ba _ _
  have kW1:Blk W1 W.heap.size 74 #[.int .i64 ck,.int .i64 cy,.int .u64 (cv:Nat)]:=by rw [hW1]; exact Blk.new _ _ _
  have hb1:=bt hbW bW1
  have own1:OwnC W1 B zA zc zl:=own_same own0 (fun r hr _ _ => hb1.block r hr)
  obtain ⟨A5,c5,w5,hrun,own5,g5,hat5⟩:=ch_app own1 (some ⟨W.heap.size,0,none⟩) 1 [⟨ck,cy,cv⟩] nl 1 hnl rfl (fun b o e i hi => by
   cases e
   obtain rfl:i=0:=by simpa using hi
   exact ⟨kW1.cell 0,kW1.cell 1,kW1.cell 2⟩) (fun _ => ⟨_,_,rfl⟩) (by have:=own1.cap; rw [← hnl] at this; exact this) (by rw [← hnl]; simp; omega) (by exact Nat.le_trans (Nat.le_of_lt (Nat.lt_of_le_of_lt hZ.1 hZ.2.1.lt)) hb1.size)
  have kz1:=hZ.2.1.below hb1 hZ.2.1.lt
  have hzne:blk zA≠some zq:=own_ne own1 kz1 (by decide)
  have kz5:=kz1.kept g5 (fun e => hzne e.symm)
  have e5:w5.cell? ⟨zq,1,none⟩=some (.slice zA nl zc):=by rw [hnl]; exact kz5.cell 1
  have f5:=kz5.frozen 1
  have ks:=kz5.set_ 1 (.slice A5 (nl + 1) c5)
  have gs:=lgrown_set w5 ⟨zq,1,none⟩ (.slice A5 (nl + 1) c5)
  have own6:=own_kept own5 kz5 (by decide) gs
  have hs1:=hb1.size
  have hsame:∀ k,k < w2.heap.size→k≠zq→blk zA≠some k→(w5.setCell ⟨zq,1,none⟩ (.slice A5 (nl + 1) c5)).heap[k]?=w2.heap[k]?:=fun k hk h1 h2 => by
   rw [gs.block k (Nat.lt_of_lt_of_le hk (Nat.le_trans hs1 g5.size)) (fun e => h1 (by injection e)),g5.block k (Nat.lt_of_lt_of_le hk hs1) (fun e => h2 e.symm)]
   exact hb1.block k hk
  have hsz:w2.heap.size≤(w5.setCell ⟨zq,1,none⟩ (.slice A5 (nl + 1) c5)).heap.size:=Nat.le_trans hs1 (Nat.le_trans g5.size gs.size)
  have hln:(zl ++ [(⟨ck,cy,cv⟩:Ch)]).length=nl + 1:=by rw [List.length_append,← hnl]; rfl
  have hl2:=HU.out.2.2.2
  have hR6:=HU.out.1.upd (w':=w5.setCell ⟨zq,1,none⟩ (.slice A5 (nl + 1) c5)) HU.out.2.1 (z':=⟨zq,zn,A5,c5,zl ++ [(⟨ck,cy,cv⟩:Ch)],zp⟩) rfl hsz hsame (by dsimp only; rw [hln]; exact ks) (by dsimp only; unfold OwnC; exact own6) (fun r e => by
   rcases hat5 r e with h | h
   ·exact .inl h
   ·exact .inr (by rw [h]; exact hs1)) (by dsimp only; rw [hln,hnl]; omega)
  have hrg6:RG B w2 (w5.setCell ⟨zq,1,none⟩ (.slice A5 (nl + 1) c5)) x (fun r => blk zA=some r):=⟨gs.os.trans (g5.os.trans hb1.os),gs.tape.trans (g5.tape.trans hb1.tape),gs.output.trans (g5.output.trans hb1.output),hsz,fun k hb hk _ => hsame k hk (fun e => by have:=hZ.1; omega) (fun e => by have:=(own0.lt' k e).1; omega),fun k hk _ => by
   by_cases h1:k=zq
   ·subst h1; exact .inr (.inr (.inl ⟨_,_,hZ.2.1⟩))
   ·by_cases h2:blk zA=some k
    ·refine .inr (.inr (.inr ⟨?_,h2⟩))
     rcases own0.2 with ⟨h3,h4⟩ | ⟨g,cap,cur,hv,hb,hg,hrest⟩
     ·injection h3 with e1 _ _; rw [e1] at h2; cases h2
     ·injection hv with e1 _ _
      rw [e1] at h2
      injection h2 with h2
      have h2:g=k:=h2
      subst h2
      exact ⟨_,_,hg⟩
    ·exact .inl (hsame k hk h1 h2)⟩
  have HX:=Lib.hid (And.intro hR6 (And.intro hrg6 (show ∀ r,blk A5=some r→blk zA=some r∨w2.heap.size≤r from fun r e => by
   rcases hat5 r e with h | h
   ·exact .inl h
   ·exact .inr (by rw [h]; exact hs1))))
  have kc:=HU.out.2.2.1
  have kcW:=kc.below hbW kc.lt
  have y1:W.cell? ⟨zq,1,none⟩=some (.slice zA nl zc):=by rw [hW]; exact z1
  have y2:W.cell? ⟨gc,0,none⟩=some (.int .i64 ck):=kcW.cell 0
  have y3:W.cell? ⟨gc,1,none⟩=some (.int .i64 cy):=kcW.cell 1
  have y4:W.cell? ⟨gc,2,none⟩=some (.int .u64 (cv:Nat)):=kcW.cell 2
  rw [hW1,hW] at hrun
  rw [hW] at y1 y2 y3 y4
  have y5:(w2.alloc (.cells #[.int .i64 ck,.int .i64 cy,.int .u64 (cv:Nat)] 74)).cell? ⟨zq,1,none⟩=some (.slice zA nl zc):=((ba w2 (.cells #[.int .i64 ck,.int .i64 cy,.int .u64 (cv:Nat)] 74)).cell (p:=⟨zq,1,none⟩) hZ.2.1.lt).trans z1
  have x2:w2.cell? ⟨gc,0,none⟩=some (.int .i64 ck):=kc.cell 0
  have x3:w2.cell? ⟨gc,1,none⟩=some (.int .i64 cy):=kc.cell 1
  have x4:w2.cell? ⟨gc,2,none⟩=some (.int .u64 (cv:Nat)):=kc.cell 2
  clear hZ own0 hnl hl300 hW hbW hW1 bW1 kW1 hb1 own1 own5 g5 hat5 kz1 hzne kz5 ks gs own6 hs1 hsame hsz hln hl2 hR6 hrg6 kc kcW
  go_region_law (refine step_append_run rfl (.tmp 29) (.tmp 31) 40 rfl _ _ _ w5 rfl rfl hrun ?_)
  all_goals
   go_wp2
   go_end0
   exact ⟨rfl,HFin.out _ _ _ HX.out.1 HX.out.2.1 HX.out.2.2⟩
end Go.Proofs.YtlliaihmfimdoaaGreat.Qu.Dq

