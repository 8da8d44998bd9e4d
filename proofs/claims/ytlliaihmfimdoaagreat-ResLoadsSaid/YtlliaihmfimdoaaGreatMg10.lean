/- Parts Bc of one proof. -/
import Derived.Test.YtlliaihmfimdoaaGreatMg08
import Derived.Deep.Upon
import Derived.Lib.SmallJoins
import Derived.Lib.OwnKind
set_option linter.unusedSimpArgs false
set_option linter.unusedVariables false
namespace Go.Proofs.YtlliaihmfimdoaaGreat
open Go.RowKit
structure Ch where
 k:Int
 y:Int
 v:Nat
def chV:List Ch→List Value
 | [] => []
 | x :: l => .int .i64 x.k :: .int .i64 x.y :: .int .u64 (x.v:Nat) :: chV l
theorem chV_len:∀ l:List Ch,(chV l).length=l.length * 3
 | [] => rfl
 | x :: l => by simp only [chV,List.length_cons,chV_len l]; omega
theorem chV_app:∀ l m:List Ch,chV (l ++ m)=chV l ++ chV m
 | [],m => rfl
 | x :: l,m => by simp only [List.cons_append,chV,chV_app l m]
theorem chV_one:∀ l:List Ch,∀ u ∈ chV l,u.oneCell'=true
 | [],u,h => by simp [chV] at h
 | x :: l,u,h => by
  simp only [chV,List.mem_cons] at h
  rcases h with rfl | rfl | rfl | h
  ·rfl
  ·rfl
  ·rfl
  ·exact chV_one l u h
theorem chV_at:∀ (l:List Ch) (i:Nat) (h:i < l.length),(chV l)[i * 3]?=some (.int .i64 (l[i]'h).k)∧(chV l)[i * 3 + 1]?=some (.int .i64 (l[i]'h).y)∧(chV l)[i * 3 + 2]?=some (.int .u64 ((l[i]'h).v:Nat))
 | x :: l,0,h => ⟨rfl,rfl,rfl⟩
 | x :: l,i + 1,h => by
  have:=chV_at l i (by simpa using h)
  rw [show (i + 1) * 3=i * 3 + 3 by omega]
  simpa [chV] using this
theorem chV_set:∀ (l:List Ch) (i:Nat) (x:Ch),(((chV l).set (i * 3) (.int .i64 x.k)).set (i * 3 + 1) (.int .i64 x.y)).set (i * 3 + 2) (.int .u64 (x.v:Nat))=chV (l.set i x)
 | [],i,x => by simp [chV]
 | y :: l,0,x => rfl
 | y :: l,i + 1,x => by
  have:=chV_set l i x
  rw [show (i + 1) * 3=i * 3 + 3 by omega]
  simp only [chV,List.set_cons_succ,this]
def ChAt (w:World) (B:Nat→Prop) (A:Option Addr) (l:List Ch):Prop:=0 < l.length→∃ b o,A=some ⟨b,o,none⟩∧(B b∧∃ cs fz,w.heap[b]?=some (.cells cs 74 fz))∧∀ i,(h:i < l.length) →
 w.cell? ⟨b,o + i * 3,none⟩=some (.int .i64 (l[i]'h).k)∧w.cell? ⟨b,o + i * 3 + 1,none⟩=some (.int .i64 (l[i]'h).y)∧w.cell? ⟨b,o + i * 3 + 2,none⟩=some (.int .u64 ((l[i]'h).v:Nat))
theorem ChAt.same {w w':World} {B:Nat→Prop} {A:Option Addr} {l:List Ch} (h:ChAt w B A l) (hs:∀ (b:Nat) (cs:Array Value) (fz:Nat × Nat),w.heap[b]?=some (Obj.cells cs 74 fz)→w'.heap[b]?=w.heap[b]?):ChAt w' B A l:=fun hl => by
 obtain ⟨b,o,rfl,⟨hB,cs,fz,hb⟩,hc⟩:=h hl
 have e:=hs b cs fz hb
 have hcell:∀ i,w'.cell? ⟨b,i,none⟩=w.cell? ⟨b,i,none⟩:=fun i => by unfold World.cell?; rw [e]
 exact ⟨b,o,rfl,⟨hB,cs,fz,by rw [e]; exact hb⟩,fun i hi => by rw [hcell,hcell,hcell]; exact hc i hi⟩
theorem ChAt.below {w w':World} {B:Nat→Prop} {A:Option Addr} {l:List Ch} (h:ChAt w B A l) (hb:Below w.heap.size w w'):ChAt w' B A l :=
 h.same fun b cs fz hh => hb.block b (Array.getElem?_eq_some_iff.1 hh).1
theorem ChAt.kept {w w':World} {B:Nat→Prop} {A:Option Addr} {l:List Ch} {g:Nat} {t:TypeId} {cs:Array Value} (h:ChAt w B A l) (hg:w.grownBy w' (some g)) (hk:Blk w g t cs) (ht:t≠74):ChAt w' B A l :=
 h.same fun b cs' fz hh => hg.block b (Array.getElem?_eq_some_iff.1 hh).1 (fun e => by
  cases e
  unfold Blk at hk
  rw [hk] at hh
  injection hh with hh
  injection hh with _ e2
  exact ht e2)
theorem ChAt.mono {w:World} {B B':Nat→Prop} {A:Option Addr} {l:List Ch} (h:ChAt w B A l) (hB:∀ b,B b→b < w.heap.size→B' b):ChAt w B' A l:=fun hl => by
 obtain ⟨b,o,rfl,⟨hb,cs,fz,hh⟩,hc⟩:=h hl
 exact ⟨b,o,rfl,⟨hB b hb (Array.getElem?_eq_some_iff.1 hh).1,cs,fz,hh⟩,hc⟩
def OwnC (w:World) (B:Nat) (A:Option Addr) (c:Nat) (l:List Ch):Prop:=w.ownsRow B 74 3 (.slice A l.length c) l.length (chV l)
section
variable {u u':World} {B:Nat} {A:Option Addr} {c:Nat} {l:List Ch}
theorem OwnC.nil (w:World) (B:Nat):OwnC w B none 0 []:=World.ownsRow_nil w _ _ _
theorem OwnC.lt' (h:OwnC u B A c l):∀ r,blk A=some r→B≤r∧r < u.heap.size:=fun r e => World.ownsRow.lt h r (by rw [ownBlock_slice]; exact e)
theorem OwnC.kept {row:Option Nat} (h:OwnC u B A c l) (hg:u.grownBy u' row) (hr:∀ r,row=some r→r < B):OwnC u' B A c l:=by
 refine World.ownsRow.kept h hg ?_
 rcases hb:(Value.slice A l.length c).ownBlock with _ | k
 ·exact .inl rfl
 ·exact .inr (fun e => by have:=(h.lt k hb).1; have:=hr k e.symm; omega)
theorem OwnC.at_ (h:OwnC u B A c l):ChAt u (fun b => B≤b) A l:=fun hl => by
 rcases h.2 with ⟨h1,h2⟩ | ⟨g,cap,cur,h1,hb,hg,hn,hm,hc,ht⟩
 ·omega
 ·injection h1 with e1 e2 e3
  refine ⟨g,0,e1,⟨hb,cur,_,hg⟩,fun i hi => ?_⟩
  have hcell:∀ j v,(chV l)[j]?=some v→u.cell? ⟨g,0 + j,none⟩=some v:=fun j v hv => by
   rw [Nat.zero_add,cell_of_row u g j cur _ (0,0) hg]
   rw [← ht,List.getElem?_take] at hv
   split at hv
   ·simpa using hv
   ·cases hv
  obtain ⟨a1,a2,a3⟩:=chV_at l i hi
  exact ⟨hcell _ _ a1,hcell _ _ a2,hcell _ _ a3⟩
theorem Tryz.infoCh:(Tryz.prog.info? 74).map (fun i => (i.zero,i.size,i.bytes))=some (some (.agg #[.int .i64 0,.int .i64 0,.int .u64 0]),3,24):=by kernel_rfl
theorem ch_app (h:OwnC u B A c l) (A':Option Addr) (c':Nat) (m:List Ch) (n n':Nat) (hn:n=l.length) (hn':n'=m.length) (hz:∀ b o,A'=some ⟨b,o,none⟩→∀ i (hi:i < m.length),u.cell? ⟨b,o + i * 3,none⟩=some (.int .i64 (m[i]'hi).k)∧u.cell? ⟨b,o + i * 3 + 1,none⟩=some (.int .i64 (m[i]'hi).y)∧u.cell? ⟨b,o + i * 3 + 2,none⟩=some (.int .u64 ((m[i]'hi).v:Nat))) (hA:0 < m.length→∃ b o,A'=some ⟨b,o,none⟩) (hc:n≤c) (hl:l.length + m.length≤1000000) (hB:B≤u.heap.size) :
  ∃ A2 c2 u',(Builtin.append_ #[40,40] 40 #[.slice A n c,.slice A' n' c']).run Tryz.prog u=.ok (.slice A2 (n + n') c2) u'∧OwnC u' B A2 c2 (l ++ m)∧u.grownBy u' (blk A)∧(∀ r,blk A2=some r→blk A=some r∨r=u.heap.size):=by
 subst hn hn'
 obtain ⟨i0,hi,hz0,hz1,hz2⟩:=info_parts Tryz.infoCh
 rcases Nat.eq_zero_or_pos m.length with h0 | h0
 ·have hm:m=[]:=List.eq_nil_of_length_eq_zero h0
  subst hm
  refine ⟨A,c,u,?_,by rw [List.append_nil]; exact h,⟨rfl,rfl,rfl,Nat.le_refl _,fun _ _ _ => rfl⟩,fun r hr => .inl hr⟩
  exact run_append_nothing u 40 40 40 74 i0 Tryz.underlying40 hi A l.length c hc (.slice A' 0 c') ⟨.inl ⟨_,Tryz.underlying40⟩,fun _ => by cases A' <;> rfl,by rcases A' with _ | a; exact run_firstCells_none u i0.size 0 0 c'; exact run_firstCells_some u i0.size 0 a 0 c' [] (by simp) (by simp),by rcases A' with _ | a; exact run_firstCells_none u.drew i0.size 0 0 c'; exact run_firstCells_some u.drew i0.size 0 a 0 c' [] (by simp) (by simp),by simp,by simp⟩
 ·obtain ⟨b,o,rfl⟩:=hA h0
  have hcs:=hz b o rfl
  obtain ⟨v',w',hrun,hown,hgr,_,hob⟩:=run_append_own_at (P:=Tryz.prog) u B 40 40 74 i0 _ 3 24 Tryz.underlying40 hi hz0 hz1 hz2 rfl (by omega) (.slice A l.length c) l.length (chV l) h ⟨b,o,none⟩ m.length c' (chV m) (chV_len m)
   (fun j v hv => by
    rw [Addr.add_lit]
    have hj:j < (chV m).length:=(List.getElem?_eq_some_iff.1 hv).1
    rw [chV_len] at hj
    obtain ⟨q,r,hr,rfl⟩:∃ q r,r < 3∧j=q * 3 + r:=⟨j / 3,j % 3,Nat.mod_lt _ (by omega),by omega⟩
    have hq:q < m.length:=by omega
    obtain ⟨a1,a2,a3⟩:=chV_at m q hq
    obtain ⟨d1,d2,d3⟩:=hcs q hq
    match r,hr with
    | 0,_ => rw [Nat.add_zero] at hv ⊢; rw [a1] at hv; cases hv; exact d1
    | 1,_ => rw [a2] at hv; cases hv; exact d2
    | 2,_ => rw [a3] at hv; cases hv; exact d3)
   (chV_one m) (by simp only [maxLen]; omega) (by omega) hB
  obtain ⟨g2,c2,rfl⟩:=Joins.ownsRow_form hown (by omega)
  rw [ownBlock_slice] at hgr
  rw [ownBlock_slice,ownBlock_slice] at hob
  refine ⟨some ⟨g2,0,none⟩,c2,w',hrun,?_,hgr,fun r hr => by rcases hob with h | h; exact .inl (by rw [← h]; exact hr); rw [hr] at h; cases h; exact .inr rfl⟩
  unfold OwnC
  rw [List.length_append,chV_app]
  exact hown
theorem OwnC.cap (h:OwnC u B A c l):l.length≤c:=by
 obtain ⟨_,⟨h1,h2⟩ | ⟨g,cap,cur,e,_,_,hle,_⟩⟩:=h
 ·rw [h2]; exact Nat.zero_le _
 ·cases e; exact hle
theorem OwnC.less {B':Nat} (h:OwnC u B A c l) (hB:B'≤B):OwnC u B' A c l:=by
 obtain ⟨h1,h2⟩:=h
 refine ⟨h1,?_⟩
 rcases h2 with h2 | ⟨g',cap',cur,hv,hb,hrest⟩
 ·exact .inl h2
 ·exact .inr ⟨g',cap',cur,hv,Nat.le_trans hB hb,hrest⟩
end
def posN (l:List Ch) (y:Int):Nat:=l.findIdx (fun x => decide (x.y=y))
def posI (l:List Ch) (y:Int):Int:=if posN l y < l.length then (posN l y:Int) else -1
end Go.Proofs.YtlliaihmfimdoaaGreat

