import Derived.Test.YtfhimmnoipfiaaaDoorQ01
import Derived.Laws.AppendOwnNone
namespace Go.Proofs.YtfhimmnoipfiaaaDoor.pile
open Go.ChangeShapes Go.WideShapes Go.ChangeAt Go.RowKit
open bytes
set_option linter.unusedVariables false
def RdA (w:World) (v:Value) (ys:List Int):Prop:=Rd w v ys∧∀ n c,v=.slice none n c→v=.slice none 0 0
theorem Own.rdA {w:World} {base:Nat} {v:Value} {xs:List Int} (h:Own w base v xs):RdA w v xs:=by
 refine ⟨h.rd,fun n c e => ?_⟩
 obtain ⟨_,h1,⟨rfl,h2⟩|⟨g,cap,cur,rfl,_⟩⟩:=h
 ·rfl
 ·simp at e
theorem RdA.below {w w':World} {B:Nat} {v:Value} {xs:List Int} (h:RdA w v xs) (hb:Below B w w') (hB:w.heap.size≤B):RdA w' v xs:=⟨h.1.below hb hB,h.2⟩
theorem add_at (b off i:Nat):(⟨b,off,none⟩:Addr).add i=⟨b,off+i,none⟩:=by
 unfold Addr.add
 split
 ·rename_i h;subst h;rfl
 ·rfl
theorem wpList_append_rd {P:Program} (w:World) {ops:Array Oper} {rest:List Oper} {o:Oper} {a:Act} {Q:Exit→Act→World→Prop} (hgd:o.guard=none) (s x:Operand) (t:TypeId)
  (ho:o.op=.call { callee:=.builtin .append,args:=#[s,x],argTypes:=#[t,t] }) (ht:P.underlying t=some (.slice 5))
  (hi:(P.info? 5).map (fun i=>(i.zero,i.size,i.bytes))=some (some (.int .u8 0),1,1))
  (base:Nat) (v:Value) (xs:List Int) (hs:a.eval s=v) (hown:Own w base v xs) (u:Value) (ys:List Int) (hx:a.eval x=u) (hr:RdA w u ys)
  (hlen:xs.length+ys.length≤140737488355328) (hbase:base≤w.heap.size)
  (h:∀ v' w',Own w' base v' (xs++ys)→w.grownBy w' v.ownBlock→wpList P ops Q rest (a.put o.dst v') w'):wpList P ops Q (o::rest) a w:=by
 obtain ⟨i0,hi1,hz0,hz1,hz2⟩:=info_parts hi
 obtain ⟨⟨ao,cap,rfl,h1,h2,h3,h4⟩,hnil⟩:=hr
 have hall:∀ y∈xs++ys,0≤y∧y≤255:=by
  intro y hy
  rcases List.mem_append.1 hy with hy | hy
  ·exact hown.1 y hy
  ·exact h3 y hy
 cases ao with
 | none =>
  have e:=hnil _ _ rfl
  simp only [Value.slice.injEq,true_and] at e
  have hys:ys=[]:=List.length_eq_zero_iff.1 e.1
  subst hys
  obtain rfl:cap=0:=e.2
  refine wpList_append_own_none hgd s x t ho base 5 i0 1 ht hi1 v xs.length _ hs hown.2 hx ?_
  have:=h v w (by simpa using hown) (World.grownBy.refl _ _)
  exact this
 | some ad =>
  refine wpList_append_own w hgd s x t ho base 5 i0 (.int .u8 0) 1 1 ht hi1 hz0 hz1 hz2 rfl (by decide) v xs.length _ hs hown.2 ad ys.length cap (ys.map (Value.int .u8)) hx (by simp) ?_ ?_ (by unfold maxLen;omega) (by omega) hbase ?_
  ·intro j y hy
   simp only [List.getElem?_map,Option.map_eq_some_iff] at hy
   obtain ⟨z,hz,rfl⟩:=hy
   have hj:j<ys.length:=(List.getElem?_eq_some_iff.1 hz).1
   obtain ⟨b,off,e,hc⟩:=h4 (by omega)
   simp only [Option.some.injEq] at e
   subst e
   rw [add_at,hc j hj]
   simp [List.getD_eq_getElem?_getD,hz]
  ·intro y hy
   obtain ⟨z,_,rfl⟩:=List.mem_map.1 hy
   rfl
  ·intro v' w' hown' hgrow _
   refine h v' w' ⟨hall,?_⟩ hgrow
   rw [List.length_append,List.map_append]
   exact hown'
def RdS (w:World) (p:Value) (us:List Value):Prop :=
 ∃ ao cap,p=.slice ao us.length cap∧us.length≤cap∧cap≤maxLen ∧
  (0<us.length→∃ b off,ao=some ⟨b,off,none⟩∧∀ i,i<us.length→w.cell? ⟨b,off+i,none⟩=some (us.getD i (.slice none 0 0)))
theorem RdS.below {w w':World} {B:Nat} {v:Value} {us:List Value} (h:RdS w v us) (hb:Below B w w') (hB:w.heap.size≤B):RdS w' v us:=by
 obtain ⟨ao,cap,rfl,h1,h2,h4⟩:=h
 refine ⟨ao,cap,rfl,h1,h2,fun hp => ?_⟩
 obtain ⟨b,off,rfl,hc⟩:=h4 hp
 exact ⟨b,off,rfl,fun i hi=>(hb.cell (by have:=cell_lt (hc i hi);simp at this ⊢;omega)).trans (hc i hi)⟩
def Texts (w:World) (us:List Value) (xss:List (List Int)):Prop:=us.length=xss.length∧∀ i,i<us.length→RdA w (us.getD i (.slice none 0 0)) (xss.getD i [])
theorem Texts.below {w w':World} {B:Nat} {us:List Value} {xss:List (List Int)} (h:Texts w us xss) (hb:Below B w w') (hB:w.heap.size≤B):Texts w' us xss:=⟨h.1,fun i hi=>(h.2 i hi).below hb hB⟩
def sizeTo (xss:List (List Int)) (k:Nat):Nat:=(xss.take k).flatten.length
theorem flat_succ {xss:List (List Int)} {k:Nat} (h:k<xss.length):(xss.take (k+1)).flatten=(xss.take k).flatten++xss.getD k []:=by
 have e:xss.getD k []=xss[k]:=by simp [List.getD_eq_getElem?_getD,h]
 rw [List.take_succ_eq_append_getElem h,List.flatten_append,e]
 simp only [List.flatten_cons,List.flatten_nil,List.append_nil]
theorem sizeTo_succ {xss:List (List Int)} {k:Nat} (h:k<xss.length):sizeTo xss (k+1)=sizeTo xss k+(xss.getD k []).length:=by
 unfold sizeTo
 rw [flat_succ h,List.length_append]
theorem sizeTo_le (xss:List (List Int)) (k:Nat):sizeTo xss k≤xss.flatten.length:=by
 unfold sizeTo
 have:xss.flatten=(xss.take k).flatten++(xss.drop k).flatten:=by rw [←List.flatten_append,List.take_append_drop]
 rw [this];simp
end Go.Proofs.YtfhimmnoipfiaaaDoor.pile
