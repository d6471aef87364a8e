import Derived.Test.YtfhimmnoipfiaaaDoorQ11
namespace Go.Proofs.YtfhimmnoipfiaaaDoor.eng
open rex
set_option linter.unusedVariables false
theorem allM_at (a:B2) (L:Nat):∀ (f:Nat) (last:Int) (p t i j:Nat),(allM a L f last p)[t]?=some (i,j)→i≤j∧j≤L∧p≤i∧(t=0→¬ (i=j∧(i:Int)=last))∧∀ t' i' j',t=t'+1→(allM a L f last p)[t']?=some (i',j')→j'≤i∧¬ (i=j∧i=j')
 | 0,last,p,t,i,j,h=>by simp [allM] at h
 | f+1,last,p,t,i,j,h=>by
  rw [allM] at h ⊢
  cases hf:firstB a L p with
  | none=>rw [hf] at h;simp at h
  | some x =>
   obtain ⟨i0,j0⟩:=x
   obtain ⟨g1,g2,g3,_⟩:=firstB_some hf
   rw [hf] at h
   have h:((if i0=j0∧(i0:Int)=last then [] else [(i0,j0)])++allM a L f (j0:Int) (if i0=j0 then j0+1 else j0))[t]?=some (i,j):=h
   show i≤j∧j≤L∧p≤i∧(t=0→¬ (i=j∧(i:Int)=last))∧∀ t' i' j',t=t'+1→((if i0=j0∧(i0:Int)=last then [] else [(i0,j0)])++allM a L f (j0:Int) (if i0=j0 then j0+1 else j0))[t']?=some (i',j')→j'≤i∧¬ (i=j∧i=j')
   have hs:j0≤(if i0=j0 then j0+1 else j0):=by split <;> omega
   by_cases c:i0=j0∧(i0:Int)=last
   ·rw [if_pos c,List.nil_append] at h
    obtain ⟨k1,k2,k3,k4,k5⟩:=allM_at a L f (j0:Int) _ t i j h
    rw [if_pos c,List.nil_append]
    refine ⟨k1,k2,by omega,fun h0 h1=>k4 h0 ⟨h1.1,by omega⟩,k5⟩
   ·rw [if_neg c] at h
    rw [if_neg c]
    cases t with
    | zero =>
     simp only [List.cons_append,List.nil_append,List.getElem?_cons_zero,Option.some.injEq,Prod.mk.injEq] at h
     obtain ⟨rfl,rfl⟩:=h
     exact ⟨g2,g3,g1,fun _=>c,fun t' i' j' h0=>by omega⟩
    | succ t =>
     simp only [List.cons_append,List.nil_append,List.getElem?_cons_succ] at h
     obtain ⟨k1,k2,k3,k4,k5⟩:=allM_at a L f (j0:Int) _ t i j h
     refine ⟨k1,k2,by omega,fun h0=>by omega,fun t' i' j' h0 h1 => ?_⟩
     obtain rfl:t=t':=by omega
     cases t with
     | zero =>
      simp only [List.cons_append,List.nil_append,List.getElem?_cons_zero,Option.some.injEq,Prod.mk.injEq] at h1
      obtain ⟨rfl,rfl⟩:=h1
      exact ⟨by omega,fun h2=>k4 rfl ⟨h2.1,by omega⟩⟩
     | succ t =>
      simp only [List.cons_append,List.nil_append,List.getElem?_cons_succ] at h1
      exact k5 t i' j' rfl h1
end Go.Proofs.YtfhimmnoipfiaaaDoor.eng
