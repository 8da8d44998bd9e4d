/- Parts Q0 of one proof. -/
import Derived.Test.YtlliaihmfimdoaaGreatMg10
set_option linter.unusedSimpArgs false
set_option linter.unusedVariables false
namespace Go.Proofs.YtlliaihmfimdoaaGreat
open Go.RowKit
def InL (w:World) (A:Option Addr) (l:List Ch):Prop:=0 < l.length→∃ b o,A=some ⟨b,o,none⟩∧b < w.heap.size∧∀ i,(h:i < l.length) →
 w.cell? ⟨b,o + i * 3,none⟩=some (.int .i64 (l[i]'h).k)∧w.cell? ⟨b,o + i * 3 + 1,none⟩=some (.int .i64 (l[i]'h).y)∧w.cell? ⟨b,o + i * 3 + 2,none⟩=some (.int .u64 ((l[i]'h).v:Nat))
theorem InL.below {w w':World} {A:Option Addr} {l:List Ch} (h:InL w A l) (hb:Below w.heap.size w w'):InL w' A l:=fun hl => by
 obtain ⟨b,o,rfl,hlt,hc⟩:=h hl
 refine ⟨b,o,rfl,Nat.lt_of_lt_of_le hlt hb.size,fun i hi => ?_⟩
 obtain ⟨h1,h2,h3⟩:=hc i hi
 exact ⟨(hb.cell (p:=⟨b,_,none⟩) hlt).trans h1,(hb.cell (p:=⟨b,_,none⟩) hlt).trans h2,(hb.cell (p:=⟨b,_,none⟩) hlt).trans h3⟩
theorem ChAt.inl {w:World} {B:Nat→Prop} {A:Option Addr} {l:List Ch} (h:ChAt w B A l):InL w A l:=fun hl => by
 obtain ⟨b,o,e,⟨_,cs,fz,hb⟩,hc⟩:=h hl
 exact ⟨b,o,e,(Array.getElem?_eq_some_iff.1 hb).1,hc⟩
theorem cclone_in (A:Option Addr) (l:List Ch) (n c:Nat) (w:World) (hn:Hid (n=l.length)) (hm:Hid (n≤500000)) (h:InL w A l) :
  Calls Tryz.prog 105 #[.slice A n c] w fun e w' => ∃ A2 c2,e=.returned (.slice A2 n c2)∧OwnC w' w.heap.size A2 c2 l∧Below w.heap.size w w':=by
 cases A with
 | none =>
  have hl:l=[]:=by
   cases l with
   | nil => rfl
   | cons x t => obtain ⟨b,o,e,_⟩:=h (by simp); cases e
  subst hl
  obtain rfl:n=0:=hn.out
  have hnl:∀ w,(binOp .eql 40 (.slice none 0 c) (.slice none 0 0)).run Tryz.prog w=.ok (.bool true) w:=fun w => by simp [binOp,Go.run_equal_slice_nil w 40 74 none 0 c Tryz.underlying40]
  go_enter Tryz.func105,Tryz.ntmps105
  go_wp2
  go_ret
  exact ⟨none,0,rfl,OwnC.nil _ _,Below.refl _ _⟩
 | some a =>
  obtain ⟨w1,hw1⟩:∃ w1,w1=w.alloc (.cells #[] 74):=⟨_,rfl⟩
  have ow:OwnC w1 w.heap.size (some ⟨w.heap.size,0,none⟩) 0 []:=by
   rw [hw1]
   exact World.ownsRow_made w #[] 0 (Nat.le_refl _) (by simp [maxLen]) rfl
  have hbw:Below w.heap.size w w1:=by rw [hw1]; exact ba _ _
  have hat:=h.below hbw
  obtain ⟨A2,c2,w2,hrun,own2,hg2,_⟩:=ch_app ow (some a) c l 0 n rfl hn.out (fun b o e i hi => by
   obtain ⟨b',o',e',_,hc⟩:=hat (by omega)
   cases e; cases e'; exact hc i hi) (fun hl => by obtain ⟨b',o',e',_⟩:=hat hl; exact ⟨b',o',e'⟩) (Nat.zero_le _) (by have:=hm.out; have:=hn.out; simp; omega) hbw.size
  rw [Nat.zero_add] at hrun
  rw [List.nil_append] at own2
  have hF:Below w.heap.size w w2:=hbw.grown hg2 hbw.size (fun k e => by have:=(ow.lt' k e).1; exact this)
  have HO:=Lib.hid (And.intro own2 hF)
  rw [hw1] at hrun
  have hnl:∀ w,(binOp .eql 40 (.slice (some a) n c) (.slice none 0 0)).run Tryz.prog w=.ok (.bool false) w:=fun w => by simp [binOp,Go.run_equal_slice_nil w 40 74 (some a) n c Tryz.underlying40]
  clear hw1 ow hbw hat own2 hg2 hF h
  go_enter Tryz.func105,Tryz.ntmps105
  go_wp2_with (at_builtin; refine wpList_append_run rfl (.tmp 5) (.tmp 6) 40 rfl _ _ _ w2 rfl rfl hrun ?_)
  go_ret
  exact ⟨A2,c2,rfl,HO.out.1,HO.out.2⟩
theorem cclone_any (A:Option Addr) (l:List Ch) (n c:Nat) (w:World) (hn:Hid (n=l.length)) (hm:Hid (n≤500000)) {B:Nat→Prop} (h:ChAt w B A l) :
  Calls Tryz.prog 105 #[.slice A n c] w fun e w' => ∃ A2 c2,e=.returned (.slice A2 n c2)∧OwnC w' w.heap.size A2 c2 l∧Below w.heap.size w w':=cclone_in A l n c w hn hm h.inl
end Go.Proofs.YtlliaihmfimdoaaGreat

