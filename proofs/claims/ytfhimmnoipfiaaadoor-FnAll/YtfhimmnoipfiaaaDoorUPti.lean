import Derived.Test.YtfhimmnoipfiaaaDoorQ08
import Derived.Test.YtfhimmnoipfiaaaDoorULetters
namespace Go.Proofs.YtfhimmnoipfiaaaDoor.eng
open Go.ChangeShapes Go.WideShapes Go.ChangeAt Go.RowKit
open bytes places sets tz rex
set_option linter.unusedVariables false
mutual
theorem OkT.tight {N':Nat}:∀ (T:Tr) (g:Nat),NumT g T→OkT 20 T→2*(g+ngT T)+2≤N'→OkT N' T
 | .char b,g,h,k,l=>by rw [OkT] at k ⊢;exact k
 | .any,g,h,k,l=>by rw [OkT];trivial
 | .set s,g,h,k,l=>by rw [OkT] at k ⊢;exact k
 | .beg,g,h,k,l=>by rw [OkT];trivial
 | .fin,g,h,k,l=>by rw [OkT];trivial
 | .group n t,g,h,k,l=>by
  rw [NumT] at h
  rw [OkT] at k ⊢
  rw [ngT] at l
  exact ⟨k.1,by omega,k.2.2.1,OkT.tight t (g+1) h.2 k.2.2.2 (by omega)⟩
 | .cat ks,g,h,k,l=>by
  rw [NumT] at h
  rw [OkT] at k ⊢
  rw [ngT] at l
  exact ⟨k.1,OkK.tight ks g h k.2 l⟩
 | .alt ks,g,h,k,l=>by
  rw [NumT] at h
  rw [OkT] at k ⊢
  rw [ngT] at l
  exact ⟨k.1,k.2.1,OkK.tight ks g h k.2.2 l⟩
 | .rep n m t,g,h,k,l=>by
  rw [NumT] at h
  rw [OkT] at k ⊢
  rw [ngT] at l
  exact ⟨k.1,k.2.1,OkT.tight t g h k.2.2 l⟩
theorem OkK.tight {N':Nat}:∀ (ks:List Tr) (g:Nat),NumK g ks→OkK 20 ks→2*(g+ngK ks)+2≤N'→OkK N' ks
 | [],g,h,k,l=>by rw [OkK];trivial
 | t::ks,g,h,k,l=>by
  rw [NumK] at h
  rw [OkK] at k ⊢
  rw [ngK] at l
  exact ⟨OkT.tight t g h.1 k.1 (by omega),OkK.tight ks (g+ngT t) h.2 k.2 (by omega)⟩
end
theorem str_bytes (S:ByteArray):∃ ts:List Int,strOfNums ts=S∧ts.length=S.size∧∀ t∈ts,0≤t∧t≤255:=by
 have h:strOfNums (S.data.toList.map fun b=>(b.toNat:Int))=S:=by
  apply ByteArray.ext
  have e:((fun n:Int=>UInt8.ofNat n.toNat) ∘ fun b:UInt8=>(b.toNat:Int))=id:=by
   funext b
   simp
  simp [strOfNums,e]
 refine ⟨_,h,by simp [←ByteArray.size_data],fun t ht => ?_⟩
 obtain ⟨b,_,rfl⟩:=List.mem_map.1 ht
 have:=b.toNat_lt
 omega
end Go.Proofs.YtfhimmnoipfiaaaDoor.eng
