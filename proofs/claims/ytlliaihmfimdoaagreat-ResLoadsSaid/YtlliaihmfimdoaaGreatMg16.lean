/- Parts Bz Cb of one proof. -/
import Derived.Test.YtlliaihmfimdoaaGreatMg15
import Derived.StillTailTactics
import Derived.Deep.RegionWith
set_option linter.unusedSimpArgs false
set_option linter.unusedVariables false
namespace Go.Proofs.YtlliaihmfimdoaaGreat
open Go.RowKit Go.Maps Go.Joins Go.Deep
theorem touch_mem {ws:List WI} {L:List LRow} {n y:Int} {al:Bool} {q:Nat} {z:WI} (h:z ∈ (touchM ws L n y al q).2.1):z ∈ ws∨(z.l=[]∧z.A=none):=by
 unfold touchM at h
 split at h
 ·exact .inl h
 ·split at h
  ·split at h
   ·exact .inl h
   ·exact .inl h
  ·dsimp only at h
   split at h
   ·rcases List.mem_append.1 h with h | h
    ·exact .inl h
    ·obtain rfl:=List.mem_singleton.1 h
     exact .inr ⟨rfl,rfl⟩
   ·exact .inl h
theorem RG.blk {B0:Nat} {u u':World} {x k:Nat} {S:Nat→Prop} {t:TypeId} {cs:Array Value} (h:RG B0 u u' x S) (hk:Blk u k t cs) (hx:k≠x) (h1:t≠109) (h2:t≠147) (h3:t=74→¬ S k):Blk u' k t cs:=by
 have hk':=hk
 unfold Blk at hk' ⊢
 rcases h.block k hk.lt hx with e | ⟨c,f,e⟩ | ⟨c,f,e⟩ | ⟨⟨c,f,e⟩,e2⟩
 ·rw [e]; exact hk'
 ·rw [hk'] at e; injection e with e; injection e with _ e _; exact absurd e h1
 ·rw [hk'] at e; injection e with e; injection e with _ e _; exact absurd e h2
 ·rw [hk'] at e; injection e with e; injection e with _ e _; exact absurd e2 (h3 e)
theorem posN_at {l:List Ch} {y:Int} {j:Nat} (hj:j < l.length) (hno:∀ i,(h:i < l.length)→i < j→(l[i]'h).y≠y) (h:(l[j]'hj).y=y):posN l y=j:=by
 unfold posN
 rw [List.findIdx_eq hj]
 exact ⟨by simpa using h,fun i hi => by simpa using hno i (by omega) hi⟩
end Go.Proofs.YtlliaihmfimdoaaGreat


namespace Go.Proofs.YtlliaihmfimdoaaGreat
open Go.RowKit Go.Maps Go.Joins Go.Deep
def restE (ws:List WI) (L:List LRow) (n:Int) (l:List Ch):Int:=if n < 1 then 1 else if areB (fun _ => false) l=false then 1 else if (findW ws n).isSome then 7 else (takeAll L n l).1
end Go.Proofs.YtlliaihmfimdoaaGreat

