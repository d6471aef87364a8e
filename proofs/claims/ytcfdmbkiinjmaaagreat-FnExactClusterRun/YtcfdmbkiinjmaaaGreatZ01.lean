import Derived.Test.YtcfdmbkiinjmaaaGreatRows
import Derived.WalkKit
import Derived.ProofKit
import Derived.WalkSpells
import Derived.Below
import Derived.WalkSmall
import Derived.Laws.OwnMore
import Derived.Deep.QuietTactic
import Derived.BigQuiet
import Derived.Outline
import Derived.Laws.AppendOwnNone
import Derived.Deep.RegionHeldLaw
import Derived.Deep.RegionLaw
import Derived.Laws.Rows
import Derived.Deep.RegionHeld
import Derived.Test.YtcfdmbkiinjmaaaGreatProg
import Derived.KernelRfl
import Derived.Deep.AppendLies
set_option linter.unusedVariables false
namespace Go.Proofs.YtcfdmbkiinjmaaaGreat.bytes
open Go.ChangeShapes Go.WideShapes Go.ChangeAt Go.RowKit
theorem hide {p:Prop} (h:p):Hid p:=h
def Rd (w:World) (v:Value) (xs:List Int):Prop :=
 ∃ ao cap,v=.slice ao xs.length cap∧xs.length≤cap∧cap≤maxLen∧(∀ x∈xs,0≤x∧x≤255) ∧
  (0<xs.length→∃ b off,ao=some ⟨b,off,none⟩∧∀ i,i<xs.length→w.cell? ⟨b,off+i,none⟩=some (.int .u8 (xs.getD i 0)))
def Own (w:World) (base:Nat) (v:Value) (xs:List Int):Prop :=
 (∀ x∈xs,0≤x∧x≤255)∧w.ownsRow base 5 1 v xs.length (xs.map (Value.int .u8))
theorem Own.rd {w:World} {base:Nat} {v:Value} {xs:List Int} (h:Own w base v xs):Rd w v xs:=by
 obtain ⟨hx,h⟩:=h
 have h':=h
 obtain ⟨h1,⟨rfl,h2⟩|⟨g,cap,cur,rfl,hb,hg,hnc,hcm,hcs,htake⟩⟩:=h
 ·exact ⟨none,0,by rw [h2],by omega,by simp [maxLen],hx,fun hp=>by omega⟩
 ·refine ⟨_,cap,rfl,hnc,hcm,hx,fun hp=>⟨g,0,rfl,fun i hi => ?_⟩⟩
  have:=World.ownsRow.cellAt h' i (by omega)
  rw [Nat.zero_add,this]
  simp [hi]
theorem Own.lt {w:World} {base:Nat} {v:Value} {xs:List Int} (h:Own w base v xs):∀ k,v.ownBlock=some k→base≤k∧k<w.heap.size:=World.ownsRow.lt h.2
theorem Own.below {w w':World} {base B:Nat} {v:Value} {xs:List Int} (h:Own w base v xs) (hb:Below B w w') (hB:w.heap.size≤B):Own w' base v xs:=by
 refine ⟨h.1,?_⟩
 obtain ⟨h1,h2 | ⟨g,cap,cur,rfl,hbg,hg,hnc,hcm,hcs,htake⟩⟩:=h.2
 ·exact ⟨h1,.inl h2⟩
 ·have hlt:=(h.lt g rfl).2
  exact ⟨h1,.inr ⟨g,cap,cur,rfl,hbg,(hb.block g (by omega)).trans hg,hnc,hcm,hcs,htake⟩⟩
theorem Own.mono {w:World} {base base':Nat} {v:Value} {xs:List Int} (h:Own w base v xs) (hb:base'≤base):Own w base' v xs:=by
 refine ⟨h.1,?_⟩
 obtain ⟨h1,h2 | ⟨g,cap,cur,rfl,hbg,r⟩⟩:=h.2
 ·exact ⟨h1,.inl h2⟩
 ·exact ⟨h1,.inr ⟨g,cap,cur,rfl,by omega,r⟩⟩
theorem cell_lt {w:World} {a:Addr} {v:Value} (h:w.cell? a=some v):a.block<w.heap.size:=by
 simp only [World.cell?] at h
 cases e:w.heap[a.block]? with
 | none=>simp [e] at h
 | some o=>exact (Array.getElem?_eq_some_iff.1 e).1
theorem Rd.below {w w':World} {B:Nat} {v:Value} {xs:List Int} (h:Rd w v xs) (hb:Below B w w') (hB:w.heap.size≤B):Rd w' v xs:=by
 obtain ⟨ao,cap,rfl,h1,h2,h3,h4⟩:=h
 refine ⟨ao,cap,rfl,h1,h2,h3,fun hp => ?_⟩
 obtain ⟨b,off,rfl,hc⟩:=h4 hp
 exact ⟨b,off,rfl,fun i hi=>(hb.cell (by have:=cell_lt (hc i hi);simp at this ⊢;omega)).trans (hc i hi)⟩
theorem info5:(Tryz.prog.info? 5).map (fun i=>(i.zero,i.size,i.bytes))=some (some (.int .u8 0),1,1):=by kernel_rfl
end Go.Proofs.YtcfdmbkiinjmaaaGreat.bytes
namespace Go.Proofs.YtcfdmbkiinjmaaaGreat.pile
open Go.ChangeShapes Go.WideShapes Go.ChangeAt Go.RowKit
open bytes
def RdA (w:World) (v:Value) (ys:List Int):Prop:=Rd w v ys∧∀ n c,v=.slice none n c→v=.slice none 0 0
theorem Own.rdA {w:World} {base:Nat} {v:Value} {xs:List Int} (h:Own w base v xs):RdA w v xs:=by
 refine ⟨h.rd,fun n c e => ?_⟩
 obtain ⟨_,h1,⟨rfl,h2⟩|⟨g,cap,cur,rfl,_⟩⟩:=h
 ·rfl
 ·simp at e
theorem RdA.below {w w':World} {B:Nat} {v:Value} {xs:List Int} (h:RdA w v xs) (hb:Below B w w') (hB:w.heap.size≤B):RdA w' v xs:=⟨h.1.below hb hB,h.2⟩
theorem add_at (b off i:Nat):(⟨b,off,none⟩:Addr).add i=⟨b,off+i,none⟩:=by
 unfold Addr.add
 split
 ·rename_i h;subst h;rfl
 ·rfl
theorem wpList_append_rd {P:Program} (w:World) {ops:Array Oper} {rest:List Oper} {o:Oper} {a:Act} {Q:Exit→Act→World→Prop} (hgd:o.guard=none) (s x:Operand) (t:TypeId)
  (ho:o.op=.call { callee:=.builtin .append,args:=#[s,x],argTypes:=#[t,t] }) (ht:P.underlying t=some (.slice 5))
  (hi:(P.info? 5).map (fun i=>(i.zero,i.size,i.bytes))=some (some (.int .u8 0),1,1))
  (base:Nat) (v:Value) (xs:List Int) (hs:a.eval s=v) (hown:Own w base v xs) (u:Value) (ys:List Int) (hx:a.eval x=u) (hr:RdA w u ys)
  (hlen:xs.length+ys.length≤140737488355328) (hbase:base≤w.heap.size)
  (h:∀ v' w',Own w' base v' (xs++ys)→w.grownBy w' v.ownBlock→wpList P ops Q rest (a.put o.dst v') w'):wpList P ops Q (o::rest) a w:=by
 obtain ⟨i0,hi1,hz0,hz1,hz2⟩:=info_parts hi
 obtain ⟨⟨ao,cap,rfl,h1,h2,h3,h4⟩,hnil⟩:=hr
 have hall:∀ y∈xs++ys,0≤y∧y≤255:=by
  intro y hy
  rcases List.mem_append.1 hy with hy | hy
  ·exact hown.1 y hy
  ·exact h3 y hy
 cases ao with
 | none =>
  have e:=hnil _ _ rfl
  simp only [Value.slice.injEq,true_and] at e
  have hys:ys=[]:=List.length_eq_zero_iff.1 e.1
  subst hys
  obtain rfl:cap=0:=e.2
  refine wpList_append_own_none hgd s x t ho base 5 i0 1 ht hi1 v xs.length _ hs hown.2 hx ?_
  have:=h v w (by simpa using hown) (World.grownBy.refl _ _)
  exact this
 | some ad =>
  refine wpList_append_own w hgd s x t ho base 5 i0 (.int .u8 0) 1 1 ht hi1 hz0 hz1 hz2 rfl (by decide) v xs.length _ hs hown.2 ad ys.length cap (ys.map (Value.int .u8)) hx (by simp) ?_ ?_ (by unfold maxLen;omega) (by omega) hbase ?_
  ·intro j y hy
   simp only [List.getElem?_map,Option.map_eq_some_iff] at hy
   obtain ⟨z,hz,rfl⟩:=hy
   have hj:j<ys.length:=(List.getElem?_eq_some_iff.1 hz).1
   obtain ⟨b,off,e,hc⟩:=h4 (by omega)
   simp only [Option.some.injEq] at e
   subst e
   rw [add_at,hc j hj]
   simp [List.getD_eq_getElem?_getD,hz]
  ·intro y hy
   obtain ⟨z,_,rfl⟩:=List.mem_map.1 hy
   rfl
  ·intro v' w' hown' hgrow _
   refine h v' w' ⟨hall,?_⟩ hgrow
   rw [List.length_append,List.map_append]
   exact hown'
def RdS (w:World) (p:Value) (us:List Value):Prop :=
 ∃ ao cap,p=.slice ao us.length cap∧us.length≤cap∧cap≤maxLen ∧
  (0<us.length→∃ b off,ao=some ⟨b,off,none⟩∧∀ i,i<us.length→w.cell? ⟨b,off+i,none⟩=some (us.getD i (.slice none 0 0)))
def Texts (w:World) (us:List Value) (xss:List (List Int)):Prop:=us.length=xss.length∧∀ i,i<us.length→RdA w (us.getD i (.slice none 0 0)) (xss.getD i [])
def sizeTo (xss:List (List Int)) (k:Nat):Nat:=(xss.take k).flatten.length
theorem flat_succ {xss:List (List Int)} {k:Nat} (h:k<xss.length):(xss.take (k+1)).flatten=(xss.take k).flatten++xss.getD k []:=by
 have e:xss.getD k []=xss[k]:=by simp [List.getD_eq_getElem?_getD,h]
 rw [List.take_succ_eq_append_getElem h,List.flatten_append,e]
 simp only [List.flatten_cons,List.flatten_nil,List.append_nil]
theorem sizeTo_succ {xss:List (List Int)} {k:Nat} (h:k<xss.length):sizeTo xss (k+1)=sizeTo xss k+(xss.getD k []).length:=by
 unfold sizeTo
 rw [flat_succ h,List.length_append]
theorem sizeTo_le (xss:List (List Int)) (k:Nat):sizeTo xss k≤xss.flatten.length:=by
 unfold sizeTo
 have:xss.flatten=(xss.take k).flatten++(xss.drop k).flatten:=by rw [←List.flatten_append,List.take_append_drop]
 rw [this];simp
end Go.Proofs.YtcfdmbkiinjmaaaGreat.pile
namespace Go.Proofs.YtcfdmbkiinjmaaaGreat.evto
open Go.ChangeShapes Go.WideShapes Go.ChangeAt Go.RowKit
open bytes pile
theorem cell_at {w w':World} {B:Nat} {a:Addr} {v:Value} (h:Below B w w') (hc:w.cell? a=some v) (hB:w.heap.size≤B):w'.cell? a=some v:=(h.cell (by have:=cell_lt hc;omega)).trans hc
theorem kept {w w':World} {B k:Nat} {o:Obj} (h:Below B w w') (hk:w.heap[k]?=some o) (hB:w.heap.size≤B):w'.heap[k]?=some o:=(h.block k (by have:=(Array.getElem?_eq_some_iff.1 hk).1;omega)).trans hk
theorem new_at {w:World} {o:Obj} {k:Nat} (h:w.heap.size=k):(w.alloc o).heap[k]?=some o:=by subst h;exact heap_alloc_new w o
theorem copy_set (xs:List Int) (k n:Nat) (hk:k<xs.length) (hn:xs.length=n) :
  (xs.take k++List.replicate (n-k) 0).set k (xs.getD k 0)=xs.take (k+1)++List.replicate (n-(k+1)) 0:=by
 have h2:n-k=(n-(k+1))+1:=by omega
 have hl:(xs.take k).length=k:=by simp;omega
 rw [List.set_append_right _ _ (by omega),hl,Nat.sub_self,h2,List.replicate_succ,List.set_cons_zero,List.take_succ_eq_append_getElem hk,List.append_assoc]
 simp [List.getD_eq_getElem?_getD,hk]
theorem made_list (n:Nat):(madeCells (Value.int .u8 0).cells (n*1)).toList=(List.replicate n (0:Int)).map (Value.int .u8):=by
 rw [Nat.mul_one]
 exact (toList_madeCells_one (.int .u8 0) n).trans (by simp)
set_option maxHeartbeats 400000 in
theorem to_own (w:World) (a:Value) (xs:List Int) (hl:xs.length≤281474976710656) (ha:Rd w a xs) :
  Calls Tryz.prog 42 #[a] w fun e w'=>∃ v,e=.returned v∧Own w' w.heap.size v xs∧Below w.heap.size w w':=by
 obtain ⟨ao,ca,rfl,ha1,ha2,hx,ha3⟩:=ha
 unfold maxLen at ha2
 obtain ⟨i0,hi,hz0,hz1,hz2⟩:=info_parts info5
 have HI:Hid (Tryz.prog.info? 5=some i0∧i0.zero=some (.int .u8 0)∧i0.size=1∧i0.bytes=1):=⟨hi,hz0,hz1,hz2⟩
 clear hi hz0 hz1 hz2
 go_enter Tryz.func42,Tryz.ntmps42
 go_wp2_with (at_make;refine wpList_make_full _ rfl _ _ 42 rfl w.heap.size 5 i0 (.int .u8 0) 1 Tryz.underlying42 HI.out.1 HI.out.2.1 HI.out.2.2.1 .i64 .i64 _ _ xs.length rfl rfl rfl rfl (by rw [HI.out.2.2.2];omega) (by unfold maxLen;omega) (Nat.le_refl _) ?_;intro w1 hown1 hgrow1)
 rw [made_list] at hown1
 have HW:Hid (w1.ownsRow w.heap.size 5 1 (.slice (some ⟨w.heap.size,0,none⟩) xs.length xs.length) xs.length ((xs.take 0++List.replicate (xs.length-0) (0:Int)).map (Value.int .u8))∧Below w.heap.size w w1):=by
  refine hide ⟨by simpa using hown1,(Below.refl _ _).grown hgrow1 (Nat.le_refl _) (by simp)⟩
 clear hown1 hgrow1 HI
 go_loopw [4] (fun i wr=>∃ k:Nat,k≤xs.length∧i=.int .i64 k∧Hid (wr.ownsRow w.heap.size 5 1 (.slice (some ⟨w.heap.size,0,none⟩) xs.length xs.length) xs.length ((xs.take k++List.replicate (xs.length-k) (0:Int)).map (Value.int .u8))∧Below w.heap.size w wr)) (fun i _=>xs.length-(intOf i).toNat)
 case atStart=>exact ⟨0,by omega,rfl,HW⟩
 case round =>
  clear HW
  obtain ⟨k,hk,rfl,HR⟩:=hrel
  by_cases hlt:k<xs.length
  ·obtain ⟨ab,aoff,rfl,hca⟩:=ha3 (by omega)
   obtain ⟨hown,hbel⟩:=HR.out
   have hck:=hca k hlt
   have hca':wr.cell? ⟨ab,aoff+k,none⟩=some (.int .u8 (xs.getD k 0)):=(hbel.cell (cell_lt hck)).trans hck
   have hcell:=World.ownsRow.cellAt hown k (by omega)
   have hfz:=World.ownsRow.frozenAt hown k
   have hst:=World.ownsRow.stored hown k (.int .u8 (xs.getD k 0))
   have HS:Hid ((wr.setCell ⟨w.heap.size,k,none⟩ (.int .u8 (xs.getD k 0))).ownsRow w.heap.size 5 1 (.slice (some ⟨w.heap.size,0,none⟩) xs.length xs.length) xs.length ((xs.take (k+1)++List.replicate (xs.length-(k+1)) (0:Int)).map (Value.int .u8))∧Below w.heap.size w (wr.setCell ⟨w.heap.size,k,none⟩ (.int .u8 (xs.getD k 0)))):=by
    refine hide ⟨?_,hbel.setCell (Nat.le_refl _) _⟩
    have:=hst.1
    rw [←List.map_set,copy_set xs k _ hlt rfl] at this
    exact this
   have hcell':∃ u,wr.cell? ⟨w.heap.size,k,none⟩=some (.int .u8 u):=⟨(xs.take k++List.replicate (xs.length-k) 0).getD k 0,by
    rw [hcell,List.getElem?_map,List.getD_eq_getElem?_getD]
    have hl:k<(xs.take k++List.replicate (xs.length-k) (0:Int)).length:=by simp;omega
    rw [List.getElem?_eq_getElem hl];rfl⟩
   obtain ⟨u,hcu⟩:=hcell'
   clear hst hown hbel HR hcell hca ha3 hck
   generalize xs.getD k 0=x at hca' HS
   go_wp2
   go_roundw
   case rel=>exact ⟨k+1,by omega,by go_num,HS⟩
   case measure=>simp [intOf];omega
  ·have hkn:k=xs.length:=by omega
   go_wp2
   go_ret
   refine ⟨_,rfl,⟨hx,?_⟩,HR.out.2⟩
   have:=HR.out.1
   rw [hkn,List.take_length,Nat.sub_self,List.replicate_zero,List.append_nil] at this
   exact this
theorem cell_of {w:World} {b i:Nat} {cur:Array Value} {t:Nat} {v:Value} (h:w.heap[b]?=some (.cells cur t (0,0))) (hv:cur[i]?=some v):w.cell? ⟨b,i,none⟩=some v:=by simp [World.cell?,h,hv]
theorem frozen_of {w:World} {b:Nat} {cur:Array Value} {t:Nat} (h:w.heap[b]?=some (.cells cur t (0,0))) (i:Nat):w.frozen? ⟨b,i,none⟩=false:=by simp [World.frozen?,h]
theorem own_typed {w:World} {base e:Nat} {v:Value} {n:Nat} {xs:List Value} (h:w.ownsRow base e 1 v n xs) {g:Nat} (hg:v.ownBlock=some g):∃ cur,w.heap[g]?=some (.cells cur e (0,0)):=by
 obtain ⟨_,⟨rfl,_⟩|⟨g',cap,cur,rfl,_,hh,_⟩⟩:=h
 ·simp [Value.ownBlock] at hg
 ·simp only [Value.ownBlock,Option.some.injEq] at hg
  subst hg
  exact ⟨cur,hh⟩
theorem own_other {w:World} {base e e':Nat} {v:Value} {n:Nat} {xs:List Value} (h:w.ownsRow base e 1 v n xs) {d:Nat} {cur:Array Value} (hd:w.heap[d]?=some (.cells cur e' (0,0))) (hne:e≠e'):v.ownBlock≠some d:=by
 intro hg
 obtain ⟨c,hc⟩:=own_typed h hg
 rw [hd] at hc
 simp only [Option.some.injEq,Obj.cells.injEq] at hc
 exact hne hc.2.1.symm
theorem own_setCell {w:World} {base:Nat} {v:Value} {xs:List Int} (h:Own w base v xs) {a:Addr} (ha:v.ownBlock≠some a.block) (u:Value):Own (w.setCell a u) base v xs :=
 ⟨h.1,ownsRow_setCell_other h.2 ha u⟩
theorem two_blocks (w:World) (o1 o2:Obj):((w.alloc o1).alloc o2).heap[w.heap.size]?=some o1∧((w.alloc o1).alloc o2).heap[w.heap.size+1]?=some o2:=by
 refine ⟨?_,new_at (by simp)⟩
 rw [Below.heap_alloc _ _ _ (by simp)]
 exact heap_alloc_new w o1
theorem three_blocks (w:World) (o1 o2 o3:Obj):(((w.alloc o1).alloc o2).alloc o3).heap[w.heap.size]?=some o1∧(((w.alloc o1).alloc o2).alloc o3).heap[w.heap.size+1]?=some o2∧(((w.alloc o1).alloc o2).alloc o3).heap[w.heap.size+2]?=some o3:=by
 refine ⟨?_,?_,new_at (by simp)⟩
 ·rw [Below.heap_alloc _ _ _ (by simp;omega)]
  exact (two_blocks w o1 o2).1
 ·rw [Below.heap_alloc _ _ _ (by simp)]
  exact (two_blocks w o1 o2).2
theorem below3 (w:World) (o1 o2 o3:Obj):Below w.heap.size w (((w.alloc o1).alloc o2).alloc o3):=(((Below.refl _ _).alloc (Nat.le_refl _) _).alloc (by simp) _).alloc (by simp;omega) _
set_option maxHeartbeats 400000 in
theorem sz_any (w:World) (a:Value) (xs:List Int) (n:Int) (h0:0≤n) (h1:n≤1048576) (ha:Rd w a xs) :
  Calls Tryz.prog 35 #[a,.int .i64 n] w fun e w'=>e=.returned (.int .i64 (if n<xs.length then -1 else n-xs.length))∧w'=w:=by
 obtain ⟨ao,ca,rfl,ha1,ha2,hx,ha3⟩:=ha
 unfold maxLen at ha2
 clear ha3 hx
 by_cases hc:n<xs.length
 ·have hc':n-(xs.length:Int)<0:=by omega
  rw [if_pos hc]
  go_enter Tryz.func35,Tryz.ntmps35
  go_wp2
  go_ret
  exact ⟨rfl,rfl⟩
 ·have hc':¬ n-(xs.length:Int)<0:=by omega
  rw [if_neg hc]
  go_enter Tryz.func35,Tryz.ntmps35
  go_wp2
  go_ret
  exact ⟨rfl,rfl⟩
set_option maxHeartbeats 800000 in
theorem szRec_any (w:World) (t i:Int) (u:Value) (ys:List Int) (n:Int) (h0:0≤n) (h1:n≤1048576) (hu:RdA w u ys) :
  Calls Tryz.prog 16 #[.agg #[.int .i64 t,.int .i64 i,u],.int .i64 n] w fun e w'=>(∃ r:Int,e=.returned (.int .i64 r)∧(r<0∨(0≤r∧r+ys.length=n)))∧Below w.heap.size w w':=by
 have HU:Hid (RdA w u ys):=hu
 obtain ⟨⟨uo,uc,rfl,_,h2,_⟩,_⟩:=hu
 unfold maxLen at h2
 have hba:Below w.heap.size w (w.alloc (.cells #[.int .i64 t,.int .i64 i,.slice uo ys.length uc] 44)):=(Below.refl _ _).alloc (Nat.le_refl _) _
 go_enter Tryz.func16,Tryz.ntmps16
 go_wp2_with fail
 refine (sz_any _ _ ys n h0 h1 (HU.out.below hba (Nat.le_refl _)).1).mono ?_
 rintro e w1 ⟨rfl,hw1⟩
 subst hw1
 by_cases hc:n<ys.length
 ·rw [if_pos hc]
  go_wp2
  go_ret
  exact ⟨⟨_,rfl,.inl (by omega)⟩,hba⟩
 ·rw [if_neg hc]
  have hc':¬ n-(ys.length:Int)<0:=by omega
  go_wp2
  go_ret
  exact ⟨⟨_,rfl,.inr ⟨by omega,by omega⟩⟩,hba⟩
def RecCopy (w:World) (t i:Int) (ys:List Int) (v:Value) (w':World):Prop :=
 ∃ o c,v=.agg #[.int .i64 t,.int .i64 i,.slice o ys.length c]∧Own w' w.heap.size (.slice o ys.length c) ys∧Below w.heap.size w w'
set_option maxHeartbeats 1600000 in
theorem toRec_own (w:World) (t i:Int) (u:Value) (ys:List Int) (hu:RdA w u ys) (hl:ys.length≤281474976710656) :
  Calls Tryz.prog 20 #[.agg #[.int .i64 t,.int .i64 i,u]] w fun e w'=>∃ v,e=.returned v∧RecCopy w t i ys v w':=by
 have HU:Hid (RdA w u ys):=hu
 obtain ⟨⟨uo,uc,rfl,_⟩,_⟩:=hu
 obtain ⟨W0,hW0⟩:∃ W0,W0=((w.alloc (.cells #[.int .i64 t,.int .i64 i,.slice uo ys.length uc] 44)).alloc (.cells #[.int .i64 0,.int .i64 0,.slice none 0 0] 48)).alloc (.cells #[.int .i64 t,.int .i64 i,.slice none 0 0] 48):=⟨_,rfl⟩
 have sz0:W0.heap.size=w.heap.size+3:=by rw [hW0];simp
 have b0:Below w.heap.size w W0:=by rw [hW0];exact below3 w _ _ _
 have k1:W0.heap[w.heap.size+1]?=some (.cells #[.int .i64 0,.int .i64 0,.slice none 0 0] 48 (0,0)):=by rw [hW0];exact (three_blocks w _ _ _).2.1
 have k2:W0.heap[w.heap.size+2]?=some (.cells #[.int .i64 t,.int .i64 i,.slice none 0 0] 48 (0,0)):=by rw [hW0];exact (three_blocks w _ _ _).2.2
 have hC:=to_own W0 _ ys hl (HU.out.below b0 (Nat.le_refl _)).1
 rw [hW0] at hC
 go_enter Tryz.func20,Tryz.ntmps20
 go_wp2_with fail
 refine hC.mono ?_
 rw [←hW0]
 rintro e w1 ⟨v1,rfl,O1,b1⟩
 obtain ⟨o1,n1,hv1,_⟩:=O1.rd
 subst hv1
 have q1:=kept b1 k1 (Nat.le_refl _)
 have q2:=kept b1 k2 (Nat.le_refl _)
 have b1':Below w.heap.size w w1:=b0.trans (b1.mono (by omega))
 have x22:=cell_of q2 (i:=2) rfl
 have y22:=frozen_of q2 2
 have q3:(w1.setCell ⟨w.heap.size+2,2,none⟩ (.slice o1 ys.length n1)).heap[w.heap.size+2]?=some (.cells #[.int .i64 t,.int .i64 i,.slice o1 ys.length n1] 48 (0,0)):=by
  have:=heap_setCell_same w1 (w.heap.size+2) 2 _ 48 (.slice o1 ys.length n1) q2
  simpa using this
 have q3':(w1.setCell ⟨w.heap.size+2,2,none⟩ (.slice o1 ys.length n1)).heap[w.heap.size+1]?=some (.cells #[.int .i64 0,.int .i64 0,.slice none 0 0] 48 (0,0)):=by
  rw [Below.heap_setCell _ _ _ _ (by simp)];exact q1
 have z0:=cell_of q3 (i:=0) rfl
 have z1:=cell_of q3 (i:=1) rfl
 have z2:=cell_of q3 (i:=2) rfl
 have r0:=cell_of q3' (i:=0) rfl
 have r1:=cell_of q3' (i:=1) rfl
 have r2:=cell_of q3' (i:=2) rfl
 have f0:=frozen_of q3' 0
 have f1:=frozen_of q3' 1
 have f2:=frozen_of q3' 2
 have hne2:(Value.slice o1 ys.length n1).ownBlock≠some (w.heap.size+2):=own_other O1.2 q2 (by decide)
 have hne1:(Value.slice o1 ys.length n1).ownBlock≠some (w.heap.size+1):=own_other O1.2 q1 (by decide)
 obtain ⟨w2,hw2⟩:∃ w2,w2=w1.setCell ⟨w.heap.size+2,2,none⟩ (.slice o1 ys.length n1):=⟨_,rfl⟩
 have O2:Own w2 W0.heap.size (.slice o1 ys.length n1) ys:=by rw [hw2];exact own_setCell O1 hne2 _
 have b2:Below w.heap.size w w2:=by rw [hw2];exact b1'.setCell (p:=⟨w.heap.size+2,2,none⟩) (by simp) _
 rw [←hw2] at z0 z1 z2 r0 r1 r2 f0 f1 f2 q3'
 have e0:(w2.setCell ⟨w.heap.size+1,0,none⟩ (.int .i64 t)).heap[w.heap.size+1]?=some (.cells #[.int .i64 t,.int .i64 0,.slice none 0 0] 48 (0,0)):=by have:=heap_setCell_same w2 (w.heap.size+1) 0 _ 48 (.int .i64 t) q3';simpa using this
 have e1:((w2.setCell ⟨w.heap.size+1,0,none⟩ (.int .i64 t)).setCell ⟨w.heap.size+1,1,none⟩ (.int .i64 i)).heap[w.heap.size+1]?=some (.cells #[.int .i64 t,.int .i64 i,.slice none 0 0] 48 (0,0)):=by have:=heap_setCell_same _ (w.heap.size+1) 1 _ 48 (.int .i64 i) e0;simpa using this
 obtain ⟨w3,hw3⟩:∃ w3,w3=((w2.setCell ⟨w.heap.size+1,0,none⟩ (.int .i64 t)).setCell ⟨w.heap.size+1,1,none⟩ (.int .i64 i)).setCell ⟨w.heap.size+1,2,none⟩ (.slice o1 ys.length n1):=⟨_,rfl⟩
 have e2:w3.heap[w.heap.size+1]?=some (.cells #[.int .i64 t,.int .i64 i,.slice o1 ys.length n1] 48 (0,0)):=by rw [hw3];have:=heap_setCell_same _ (w.heap.size+1) 2 _ 48 (.slice o1 ys.length n1) e1;simpa using this
 have g0:=cell_of e2 (i:=0) rfl
 have g1:=cell_of e2 (i:=1) rfl
 have g2:=cell_of e2 (i:=2) rfl
 have HE:Hid (RecCopy w t i ys (.agg #[.int .i64 t,.int .i64 i,.slice o1 ys.length n1]) w3):=by
  refine hide ⟨o1,n1,rfl,?_,?_⟩
  ·rw [hw3]
   exact (own_setCell (own_setCell (own_setCell O2 (a:=⟨w.heap.size+1,0,none⟩) hne1 _) (a:=⟨w.heap.size+1,1,none⟩) hne1 _) (a:=⟨w.heap.size+1,2,none⟩) hne1 _).mono (by omega)
  ·rw [hw3]
   exact ((b2.setCell (p:=⟨w.heap.size+1,0,none⟩) (by simp) _).setCell (p:=⟨w.heap.size+1,1,none⟩) (by simp) _).setCell (p:=⟨w.heap.size+1,2,none⟩) (by simp) _
 rw [hw3,hw2] at g0 g1 g2 HE
 rw [hw2] at z0 z1 z2 r0 r1 r2 f0 f1 f2
 clear hC hw3 hw2 e0 e1 e2 O2 b2 O1 b1 b1' hW0 q1 q2 q3 q3' k1 k2 b0 hne1 hne2
 go_wp2
 exact bodyPost_ret (v:=.agg #[.int .i64 t,.int .i64 i,.slice o1 ys.length n1]) (by simp [results,Tryz.results20,go_sem,g0,g1,g2]) rfl ⟨_,rfl,HE.out⟩
structure Rec3 where
 t:Int
 i:Int
 d:List Int
def zRec:Rec3:=⟨0,0,[]⟩
def sumTo (rl:List Rec3) (k:Nat):Nat:=((rl.take k).map fun r=>r.d.length).sum
theorem sumTo_succ {rl:List Rec3} {k:Nat} (h:k<rl.length):sumTo rl (k+1)=sumTo rl k+(rl.getD k zRec).d.length:=by
 have e:rl.getD k zRec=rl[k]:=by simp [List.getD_eq_getElem?_getD,h]
 unfold sumTo
 rw [List.take_succ_eq_append_getElem h,e,List.map_append,List.sum_append]
 rfl
theorem sumTo_le (rl:List Rec3) (k:Nat):sumTo rl k≤sumTo rl rl.length:=by
 unfold sumTo
 rw [List.take_length]
 have:rl=rl.take k++rl.drop k:=(List.take_append_drop k rl).symm
 conv=>rhs;rw [this,List.map_append,List.sum_append]
 omega
theorem each_le {rl:List Rec3} {k:Nat} (h:k<rl.length):(rl.getD k zRec).d.length≤sumTo rl rl.length:=by
 have h1:=sumTo_succ h
 have h2:=sumTo_le rl (k+1)
 omega
structure RdRecs (w:World) (v:Value) (rl:List Rec3) (us:List Value):Prop where
 len:us.length=rl.length
 row:∃ ao cap,v=.slice ao rl.length cap∧rl.length≤cap∧cap≤maxLen∧(0<rl.length→∃ b off,ao=some ⟨b,off,none⟩∧∀ k,k<rl.length→w.cell? ⟨b,off+k*3,none⟩=some (.int .i64 (rl.getD k zRec).t)∧w.cell? ⟨b,off+k*3+1,none⟩=some (.int .i64 (rl.getD k zRec).i)∧w.cell? ⟨b,off+k*3+2,none⟩=some (us.getD k (.slice none 0 0)))
 each:∀ k,k<rl.length→RdA w (us.getD k (.slice none 0 0)) (rl.getD k zRec).d
theorem RdRecs.below {w w':World} {B:Nat} {v:Value} {rl:List Rec3} {us:List Value} (h:RdRecs w v rl us) (hb:Below B w w') (hB:w.heap.size≤B):RdRecs w' v rl us where
 len:=h.len
 row:=by
  obtain ⟨ao,cap,rfl,h1,h2,h4⟩:=h.row
  refine ⟨ao,cap,rfl,h1,h2,fun hp => ?_⟩
  obtain ⟨b,off,rfl,hc⟩:=h4 hp
  exact ⟨b,off,rfl,fun k hk=>⟨cell_at hb (hc k hk).1 hB,cell_at hb (hc k hk).2.1 hB,cell_at hb (hc k hk).2.2 hB⟩⟩
 each:=fun k hk=>(h.each k hk).below hb hB
structure OwnRecs (w:World) (base:Nat) (v:Value) (rl:List Rec3) (us:List Value):Prop where
 len:us.length=rl.length
 row:∃ ao cap,v=.slice ao rl.length cap∧rl.length≤cap∧cap≤maxLen∧(0<rl.length→∃ g off cur,ao=some ⟨g,off,none⟩∧base≤g∧w.heap[g]?=some (.cells cur 48 (0,0))∧∀ k,k<rl.length→cur[off+k*3]?=some (.int .i64 (rl.getD k zRec).t)∧cur[off+k*3+1]?=some (.int .i64 (rl.getD k zRec).i)∧cur[off+k*3+2]?=some (us.getD k (.slice none 0 0)))
 each:∀ k,k<rl.length→Own w base (us.getD k (.slice none 0 0)) (rl.getD k zRec).d
 apart:∀ j k,j<rl.length→k<rl.length→j≠k→∀ b,(us.getD j (.slice none 0 0)).ownBlock=some b→(us.getD k (.slice none 0 0)).ownBlock≠some b
theorem OwnRecs.rd {w:World} {base:Nat} {v:Value} {rl:List Rec3} {us:List Value} (h:OwnRecs w base v rl us):RdRecs w v rl us where
 len:=h.len
 row:=by
  obtain ⟨ao,cap,rfl,h1,h2,h4⟩:=h.row
  refine ⟨ao,cap,rfl,h1,h2,fun hp => ?_⟩
  obtain ⟨g,off,cur,rfl,_,hg,hc⟩:=h4 hp
  exact ⟨g,off,rfl,fun k hk=>⟨cell_of hg (hc k hk).1,cell_of hg (hc k hk).2.1,cell_of hg (hc k hk).2.2⟩⟩
 each:=fun k hk=>Own.rdA (h.each k hk)
theorem OwnRecs.below {w w':World} {base B:Nat} {v:Value} {rl:List Rec3} {us:List Value} (h:OwnRecs w base v rl us) (hb:Below B w w') (hB:w.heap.size≤B):OwnRecs w' base v rl us where
 len:=h.len
 row:=by
  obtain ⟨ao,cap,rfl,h1,h2,h4⟩:=h.row
  refine ⟨ao,cap,rfl,h1,h2,fun hp => ?_⟩
  obtain ⟨g,off,cur,rfl,hbg,hg,hc⟩:=h4 hp
  exact ⟨g,off,cur,rfl,hbg,kept hb hg hB,hc⟩
 each:=fun k hk=>(h.each k hk).below hb hB
 apart:=h.apart
set_option maxHeartbeats 1000000 in
theorem szRecS_any (w:World) (v:Value) (rl:List Rec3) (us:List Value) (n:Int) (h0:0≤n) (h1:n≤1048576) (hv:RdRecs w v rl us) :
  Calls Tryz.prog 4 #[v,.int .i64 n] w fun e w'=>(∃ r:Int,e=.returned (.int .i64 r)∧(r<0∨(0≤r∧r+rl.length+sumTo rl rl.length=n)))∧Below w.heap.size w w':=by
 have HV:Hid (RdRecs w v rl us):=hv
 obtain ⟨T,hT⟩:∃ T,T=sumTo rl rl.length:=⟨_,rfl⟩
 have HTT:Hid (T=sumTo rl rl.length):=hT
 rw [←hT]
 clear hT
 obtain ⟨ao,ca,rfl,ha1,ha2,ha3⟩:=hv.row
 clear hv
 unfold maxLen at ha2
 by_cases hc:n-(rl.length:Int)<0
 ·go_enter Tryz.func4,Tryz.ntmps4
  go_wp2
  go_ret
  exact ⟨⟨_,rfl,.inl (by omega)⟩,Below.refl _ _⟩
 ·go_enter Tryz.func4,Tryz.ntmps4
  go_wp2
  go_loopw [1,5] (fun q' i wr=>∃ (k:Nat) (q:Int),k≤rl.length∧i=.int .i64 k∧q'=.int .i64 q∧0≤q∧q≤1048576∧Hid (q+rl.length+sumTo rl k=n∧Below w.heap.size w wr)) (fun _ i _=>rl.length-(intOf i).toNat)
  case atStart=>exact ⟨0,n-rl.length,by omega,rfl,by go_num,by omega,by omega,hide ⟨by simp [sumTo],Below.refl _ _⟩⟩
  case round =>
   obtain ⟨k,q,hk,rfl,rfl,hq0,hq1,HQ⟩:=hrel
   by_cases hlt:k<rl.length
   ·obtain ⟨ab,aoff,rfl,hca⟩:=ha3 (by omega)
    obtain ⟨g0,g1,g2⟩:=hca k hlt
    have c0:=cell_at HQ.out.2 g0 (Nat.le_refl _)
    have c1:=cell_at HQ.out.2 g1 (Nat.le_refl _)
    have c2:=cell_at HQ.out.2 g2 (Nat.le_refl _)
    have HS:Hid (sumTo rl (k+1)=sumTo rl k+(rl.getD k zRec).d.length):=sumTo_succ hlt
    have HR:Hid (RdA wr (us.getD k (.slice none 0 0)) (rl.getD k zRec).d):=(HV.out.each k hlt).below HQ.out.2 (Nat.le_refl _)
    clear hca ha3 g0 g1 g2
    generalize (us.getD k (.slice none 0 0))=u at c2 HR
    generalize rl.getD k zRec=r at c0 c1 HR HS
    obtain ⟨t,i,ys⟩:=r
    simp only at c0 c1 HR HS
    obtain ⟨⟨uo,uc,rfl,_⟩,_⟩:=HR.out
    go_wp2_with fail
    refine (szRec_any wr t i _ ys q hq0 hq1 HR.out).mono ?_
    rintro e w1 ⟨⟨r,rfl,hr⟩,b1⟩
    have HB1:Hid (Below w.heap.size w w1):=HQ.out.2.trans (b1.mono HQ.out.2.size)
    clear b1
    rcases hr with hr | ⟨hr,hsum⟩
    ·go_wp2
     go_ret
     exact ⟨⟨_,rfl,.inl (by omega)⟩,HB1.out⟩
    ·have hr':¬ r<0:=by omega
     have HE:Hid (r+rl.length+sumTo rl (k+1)=n):=by have h1:=HQ.out.1;have h2:=HS.out;show _=_;omega
     have hrm:r≤1048576:=by omega
     clear hsum
     go_wp2
     go_roundw
     case rel=>exact ⟨k+1,r,by omega,by go_num,rfl,by omega,by omega,hide ⟨HE.out,HB1.out⟩⟩
     case measure=>simp [intOf];omega
   ·have HE:Hid (q+rl.length+T=n∧Below w.heap.size w wr):=by
     have:=HQ.out
     rw [show k=rl.length by omega,←HTT.out] at this
     exact this
    go_wp2
    go_ret
    exact ⟨⟨_,rfl,.inr ⟨hq0,HE.out.1⟩⟩,HE.out.2⟩
theorem get3_other {cur:Array Value} {p m:Nat} {a b c:Value} (h:m<p∨p+2<m):(((cur.setIfInBounds p a).setIfInBounds (p+1) b).setIfInBounds (p+2) c)[m]?=cur[m]? := by
 rw [Array.getElem?_setIfInBounds_ne (by omega),Array.getElem?_setIfInBounds_ne (by omega),Array.getElem?_setIfInBounds_ne (by omega)]
theorem get3_0 {cur:Array Value} {p:Nat} {a b c:Value} (h:p+2<cur.size):(((cur.setIfInBounds p a).setIfInBounds (p+1) b).setIfInBounds (p+2) c)[p]?=some a:=by
 rw [Array.getElem?_setIfInBounds_ne (by omega),Array.getElem?_setIfInBounds_ne (by omega),Array.getElem?_setIfInBounds_self_of_lt (by omega)]
theorem get3_1 {cur:Array Value} {p:Nat} {a b c:Value} (h:p+2<cur.size):(((cur.setIfInBounds p a).setIfInBounds (p+1) b).setIfInBounds (p+2) c)[p+1]?=some b:=by
 rw [Array.getElem?_setIfInBounds_ne (by omega),Array.getElem?_setIfInBounds_self_of_lt (by simp;omega)]
theorem get3_2 {cur:Array Value} {p:Nat} {a b c:Value} (h:p+2<cur.size):(((cur.setIfInBounds p a).setIfInBounds (p+1) b).setIfInBounds (p+2) c)[p+2]?=some c:=by
 rw [Array.getElem?_setIfInBounds_self_of_lt (by simp;omega)]
structure RowK (cur:Array Value) (rl:List Rec3) (us:List Value) (n k:Nat):Prop where
 size:cur.size=n*3
 laid:∀ j,j<k→cur[j*3]?=some (.int .i64 (rl.getD j zRec).t)∧cur[j*3+1]?=some (.int .i64 (rl.getD j zRec).i)∧cur[j*3+2]?=some (us.getD j (.slice none 0 0))
 zero:∀ j,k≤j→j<n→cur[j*3]?=some (.int .i64 0)∧cur[j*3+1]?=some (.int .i64 0)∧cur[j*3+2]?=some (.slice none 0 0)
theorem RowK.step {cur:Array Value} {rl:List Rec3} {us:List Value} {n k:Nat} (h:RowK cur rl us n k) (hk:k<n) (hu:us.length=k) (u:Value) :
  RowK (((cur.setIfInBounds (k*3) (.int .i64 (rl.getD k zRec).t)).setIfInBounds (k*3+1) (.int .i64 (rl.getD k zRec).i)).setIfInBounds (k*3+2) u) rl (us++[u]) n (k+1) where
 size:=by simpa using h.size
 laid:=fun j hj=>by
  have hs:=h.size
  by_cases e:j=k
  ·subst e
   have e1:(us++[u]).getD j (.slice none 0 0)=u:=by subst hu;simp [List.getD_eq_getElem?_getD]
   rw [e1]
   exact ⟨get3_0 (by omega),get3_1 (by omega),get3_2 (by omega)⟩
  ·have e1:(us++[u]).getD j (.slice none 0 0)=us.getD j (.slice none 0 0):=by simp [List.getD_eq_getElem?_getD,List.getElem?_append_left (show j<us.length by omega)]
   rw [e1,get3_other (by omega),get3_other (by omega),get3_other (by omega)]
   exact h.laid j (by omega)
 zero:=fun j hj hn=>by
  rw [get3_other (by omega),get3_other (by omega),get3_other (by omega)]
  exact h.zero j (by omega) hn
theorem info43:(Tryz.prog.info? 48).map (fun i=>(i.zero,i.size,i.bytes))=some (some (.agg #[.int .i64 0,.int .i64 0,.slice none 0 0]),3,40):=by kernel_rfl
theorem made3 (n:Nat) {cur:Array Value} (hs:cur.size=n*3) (h:cur.toList.take (n*3)=(madeCells (Value.agg #[.int .i64 0,.int .i64 0,.slice none 0 0]).cells (n*3)).toList):RowK cur [] [] n 0:=by
 have hc:cur.toList=(madeCells (Value.agg #[.int .i64 0,.int .i64 0,.slice none 0 0]).cells (n*3)).toList:=by
  rw [←h,List.take_of_length_le (by simp [hs])]
 have hcur:cur=madeCells (Value.agg #[.int .i64 0,.int .i64 0,.slice none 0 0]).cells (n*3):=Array.toList_inj.1 hc
 refine ⟨hs,fun j hj=>by omega,fun j _ hj => ?_⟩
 rw [hcur]
 have m0:j*3 % 3=0:=by omega
 have m1:(j*3+1) % 3=1:=by omega
 have m2:(j*3+2) % 3=2:=by omega
 refine ⟨?_,?_,?_⟩
 ·simp [madeCells,Value.cells,m0,show j*3<n*3 by omega]
 ·simp [madeCells,Value.cells,m1,show j*3+1<n*3 by omega]
 ·simp [madeCells,Value.cells,m2,show j*3+2<n*3 by omega]
structure CopyK (w wr:World) (n:Nat) (rl:List Rec3) (us:List Value) (k:Nat):Prop where
 len:us.length=k
 row:∃ cur,wr.heap[w.heap.size]?=some (.cells cur 48 (0,0))∧RowK cur rl us n k
 each:∀ j,j<k→Own wr w.heap.size (us.getD j (.slice none 0 0)) (rl.getD j zRec).d
 apart:∀ i j,i<k→j<k→i≠j→∀ b,(us.getD i (.slice none 0 0)).ownBlock=some b→(us.getD j (.slice none 0 0)).ownBlock≠some b
 bel:Below w.heap.size w wr
theorem CopyK.step {w wr w1:World} {n:Nat} {rl:List Rec3} {us:List Value} {k:Nat} (h:CopyK w wr n rl us k) (hk:k<n) {u:Value} (hb:Below wr.heap.size wr w1) (hO:Own w1 wr.heap.size u (rl.getD k zRec).d) :
  CopyK w (((w1.setCell ⟨w.heap.size,k*3,none⟩ (.int .i64 (rl.getD k zRec).t)).setCell ⟨w.heap.size,k*3+1,none⟩ (.int .i64 (rl.getD k zRec).i)).setCell ⟨w.heap.size,k*3+2,none⟩ u) n rl (us++[u]) (k+1):=by
 obtain ⟨cur,hg,hr⟩:=h.row
 have hg1:w1.heap[w.heap.size]?=some (.cells cur 48 (0,0)):=kept hb hg (Nat.le_refl _)
 have hs:=h.bel.size
 have e0:=heap_setCell_same w1 w.heap.size (k*3) cur 48 (.int .i64 (rl.getD k zRec).t) hg1
 have e1:=heap_setCell_same _ w.heap.size (k*3+1) _ 48 (.int .i64 (rl.getD k zRec).i) e0
 have e2:=heap_setCell_same _ w.heap.size (k*3+2) _ 48 u e1
 have gk:∀ j,j<k→(us++[u]).getD j (.slice none 0 0)=us.getD j (.slice none 0 0):=fun j hj=>by simp [List.getD_eq_getElem?_getD,List.getElem?_append_left (show j<us.length by rw [h.len];exact hj)]
 have gl:(us++[u]).getD k (.slice none 0 0)=u:=by have:=h.len;subst this;simp [List.getD_eq_getElem?_getD]
 have set3:∀ {v:Value} {xs:List Int},Own w1 w.heap.size v xs→Own (((w1.setCell ⟨w.heap.size,k*3,none⟩ (.int .i64 (rl.getD k zRec).t)).setCell ⟨w.heap.size,k*3+1,none⟩ (.int .i64 (rl.getD k zRec).i)).setCell ⟨w.heap.size,k*3+2,none⟩ u) w.heap.size v xs:=fun {v xs} ho=>by
  have hne:v.ownBlock≠some w.heap.size:=own_other ho.2 hg1 (by decide)
  exact own_setCell (own_setCell (own_setCell ho (a:=⟨w.heap.size,k*3,none⟩) hne _) (a:=⟨w.heap.size,k*3+1,none⟩) hne _) (a:=⟨w.heap.size,k*3+2,none⟩) hne _
 refine ⟨by rw [List.length_append,h.len];rfl,⟨_,e2,hr.step hk h.len u⟩,fun j hj => ?_,fun i j hi hj hij b hbi hbj => ?_,?_⟩
 ·by_cases e:j<k
  ·rw [gk j e]
   exact set3 ((h.each j e).below hb (Nat.le_refl _))
  ·have:j=k:=by omega
   subst this
   rw [gl]
   exact set3 (hO.mono hs)
 ·by_cases ei:i<k
  ·rw [gk i ei] at hbi
   by_cases ej:j<k
   ·rw [gk j ej] at hbj
    exact h.apart i j ei ej hij b hbi hbj
   ·have:j=k:=by omega
    subst this
    rw [gl] at hbj
    have h1:=((h.each i ei).lt b hbi).2
    have h2:=(hO.lt b hbj).1
    omega
  ·have:i=k:=by omega
   subst this
   rw [gl] at hbi
   rw [gk j (by omega)] at hbj
   have h1:=((h.each j (by omega)).lt b hbj).2
   have h2:=(hO.lt b hbi).1
   omega
 ·exact (((h.bel.trans (hb.mono hs)).setCell (p:=⟨w.heap.size,k*3,none⟩) (Nat.le_refl _) _).setCell (p:=⟨w.heap.size,k*3+1,none⟩) (Nat.le_refl _) _).setCell (p:=⟨w.heap.size,k*3+2,none⟩) (Nat.le_refl _) _
set_option maxRecDepth 20000 in
set_option maxHeartbeats 2000000 in
theorem toRecS_own (w:World) (v:Value) (rl:List Rec3) (us:List Value) (hv:RdRecs w v rl us) (hn:rl.length+sumTo rl rl.length≤1048576) :
  Calls Tryz.prog 6 #[v] w fun e w'=>∃ us',e=.returned (.slice (some ⟨w.heap.size,0,none⟩) rl.length rl.length)∧OwnRecs w' w.heap.size (.slice (some ⟨w.heap.size,0,none⟩) rl.length rl.length) rl us'∧Below w.heap.size w w':=by
 have HV:Hid (RdRecs w v rl us):=hv
 have HX:Hid (∀ k,k<rl.length→(rl.getD k zRec).d.length≤281474976710656):=fun k hk=>by have:=each_le hk;omega
 obtain ⟨ao,ca,rfl,ha1,ha2,ha3⟩:=hv.row
 clear hv
 unfold maxLen at ha2
 have hn':rl.length≤1048576:=by omega
 clear hn
 obtain ⟨i0,hi,hz0,hz1,hz2⟩:=info_parts info43
 have HI:Hid (Tryz.prog.info? 48=some i0∧i0.zero=some (.agg #[.int .i64 0,.int .i64 0,.slice none 0 0])∧i0.size=3∧i0.bytes=40):=⟨hi,hz0,hz1,hz2⟩
 clear hi hz0 hz1 hz2
 go_enter Tryz.func6,Tryz.ntmps6
 go_wp2_with (at_make;refine wpList_make_full _ rfl _ _ 32 rfl w.heap.size 48 i0 (.agg #[.int .i64 0,.int .i64 0,.slice none 0 0]) 3 Tryz.underlying32 HI.out.1 HI.out.2.1 HI.out.2.2.1 .i64 .i64 _ _ rl.length rfl rfl rfl rfl (by rw [HI.out.2.2.2];omega) (by unfold maxLen;omega) (Nat.le_refl _) ?_;intro w1 hown1 hgrow1)
 have HW:Hid (CopyK w w1 rl.length rl [] 0):=by
  obtain ⟨_,⟨e,_⟩|⟨g,cap,cur,e,_,hg,_,_,hcs,htake⟩⟩:=hown1
  ·simp at e
  ·simp only [Value.slice.injEq,Option.some.injEq,Addr.mk.injEq,and_true,true_and] at e
   obtain ⟨rfl,rfl⟩:=e
   have hm:=made3 rl.length hcs htake
   exact hide ⟨rfl,⟨cur,hg,⟨hm.size,fun j hj=>by omega,hm.zero⟩⟩,fun j hj=>by omega,fun i j hi=>by omega,(Below.refl _ _).grown hgrow1 (Nat.le_refl _) (by simp)⟩
 clear hown1 hgrow1 HI
 go_loopw [4] (fun i wr=>∃ (k:Nat) (vs:List Value),k≤rl.length∧i=.int .i64 k∧Hid (CopyK w wr rl.length rl vs k)) (fun i _=>rl.length-(intOf i).toNat)
 case atStart=>exact ⟨0,[],by omega,rfl,HW⟩
 case round =>
  clear HW
  obtain ⟨k,vs,hk,rfl,HR⟩:=hrel
  by_cases hlt:k<rl.length
  ·obtain ⟨ab,aoff,rfl,hca⟩:=ha3 (by omega)
   obtain ⟨g0,g1,g2⟩:=hca k hlt
   have c0:=cell_at HR.out.bel g0 (Nat.le_refl _)
   have c1:=cell_at HR.out.bel g1 (Nat.le_refl _)
   have c2:=cell_at HR.out.bel g2 (Nat.le_refl _)
   have HA:Hid (RdA wr (us.getD k (.slice none 0 0)) (rl.getD k zRec).d):=(HV.out.each k hlt).below HR.out.bel (Nat.le_refl _)
   have hd:=HX.out k hlt
   have HSt:Hid (∀ w1 u,Below wr.heap.size wr w1→Own w1 wr.heap.size u (rl.getD k zRec).d→CopyK w (((w1.setCell ⟨w.heap.size,k*3,none⟩ (.int .i64 (rl.getD k zRec).t)).setCell ⟨w.heap.size,k*3+1,none⟩ (.int .i64 (rl.getD k zRec).i)).setCell ⟨w.heap.size,k*3+2,none⟩ u) rl.length rl (vs++[u]) (k+1)):=fun w1 u hb hO=>HR.out.step hlt hb hO
   have HZ:Hid (∀ w1,Below wr.heap.size wr w1→(w1.cell? ⟨w.heap.size,k*3,none⟩=some (.int .i64 0)∧w1.cell? ⟨w.heap.size,k*3+1,none⟩=some (.int .i64 0)∧w1.cell? ⟨w.heap.size,k*3+2,none⟩=some (.slice none 0 0))∧w1.frozen? ⟨w.heap.size,k*3,none⟩=false∧w1.frozen? ⟨w.heap.size,k*3+1,none⟩=false∧w1.frozen? ⟨w.heap.size,k*3+2,none⟩=false):=fun w1 hb=>by
    obtain ⟨cur,hg,hr⟩:=HR.out.row
    have hg1:=kept hb hg (Nat.le_refl _)
    obtain ⟨z0,z1,z2⟩:=hr.zero k (Nat.le_refl _) hlt
    exact ⟨⟨cell_of hg1 z0,cell_of hg1 z1,cell_of hg1 z2⟩,frozen_of hg1 _,frozen_of hg1 _,frozen_of hg1 _⟩
   clear hca ha3 g0 g1 g2
   generalize (us.getD k (.slice none 0 0))=u at c2 HA
   generalize rl.getD k zRec=r at c0 c1 HA hd HSt
   obtain ⟨t,i,ys⟩:=r
   simp only at c0 c1 HA hd HSt
   obtain ⟨⟨uo,uc,rfl,_⟩,_⟩:=HA.out
   go_wp2_with fail
   refine (toRec_own wr t i _ ys HA.out hd).mono ?_
   rintro e w1 ⟨v1,rfl,o1,c1',rfl,O1,b1⟩
   obtain ⟨⟨z0,z1,z2⟩,f0,f1,f2⟩:=HZ.out w1 b1
   have HN:=hide (HSt.out w1 _ b1 O1)
   clear O1 b1 HSt HZ HR HA
   go_wp2
   go_roundw
   case rel=>exact ⟨k+1,vs++[.slice o1 ys.length c1'],by omega,by go_num,HN⟩
   case measure=>simp [intOf];omega
  ·obtain rfl:k=rl.length:=by omega
   go_wp2
   go_ret
   refine ⟨vs,rfl,⟨HR.out.len,⟨_,_,rfl,Nat.le_refl _,by unfold maxLen;omega,fun _ => ?_⟩,HR.out.each,HR.out.apart⟩,HR.out.bel⟩
   obtain ⟨cur,hg,hr⟩:=HR.out.row
   exact ⟨w.heap.size,0,cur,rfl,Nat.le_refl _,hg,fun j hj=>by simpa using hr.laid j hj⟩
end Go.Proofs.YtcfdmbkiinjmaaaGreat.evto
namespace Go.Proofs.YtcfdmbkiinjmaaaGreat.Raft
structure Rc where
 term:Nat
 index:Nat
 data:List Int
 deriving DecidableEq
def quorum (n:Nat) (Q:Nat→Bool):Prop:=n / 2+1≤(List.range n).countP Q
theorem count_apart (P Q:Nat→Bool):∀ l:List Nat,(∀ x∈l,P x=true→Q x=true→False)→l.countP P+l.countP Q≤l.length
 | [],_=>by simp
 | x::l,h=>by
  have:=count_apart P Q l (fun y hy=>h y (List.mem_cons_of_mem _ hy))
  have hx:=h x List.mem_cons_self
  simp only [List.countP_cons,List.length_cons]
  cases hp:P x <;> cases hq:Q x <;> simp_all <;> omega
theorem quorum_meet {n:Nat} {P Q:Nat→Bool} (hP:quorum n P) (hQ:quorum n Q):∃ q,q<n∧P q=true∧Q q=true:=by
 refine Classical.byContradiction fun hn => ?_
 have:=count_apart P Q (List.range n) (fun x hx h1 h2=>hn ⟨x,List.mem_range.1 hx,h1,h2⟩)
 unfold quorum at hP hQ
 simp at this
 omega
structure Pr where
 term:Nat
 vote:Nat
 commit:Nat
 role:Nat
 log:List Rc
 votes:Nat→Bool
 mat:Nat→Nat
structure St where
 pr:Nat→Pr
 lead:Nat→Option Nat
 llog:Nat→List Rc
 ini:Nat→Nat
 ack:Nat→Nat→Nat
 vt:Nat→Nat→Option (Nat×List Rc)
 cl:Nat→Nat→Option (List Rc)
def lastTerm (l:List Rc):Nat:=match l.getLast? with
 | some r=>r.term
 | none=>0
def Far (c v:List Rc):Prop:=lastTerm v<lastTerm c∨(lastTerm v=lastTerm c∧v.length≤c.length)
def LM (s:St) (l:List Rc) (T:Nat):Prop:=∀ i r,l[i]?=some r→1≤r.term∧r.term≤T∧(∃ k,s.lead r.term=some k)∧l.take (i+1)=(s.llog r.term).take (i+1)∧r.index=i+1
def Chos (n:Nat) (s:St) (T i:Nat):Prop:=∃ Q,quorum n Q∧∀ q,q<n→Q q=true→i≤s.ack T q∨(s.pr q).term≤T
def Comm (n:Nat) (s:St) (l:List Rc) (T:Nat):Prop:=l=[]∨∃ T0 i,T0≤T∧s.ini T0<i∧i≤(s.llog T0).length∧(∃ Q,quorum n Q∧∀ q,q<n→Q q=true→i≤s.ack T0 q)∧l.length≤i∧l=(s.llog T0).take l.length
structure Inv (n:Nat) (s:St):Prop where
 vote_of:∀ p c,p<n→(s.pr p).vote=c+1→∃ l,s.vt (s.pr p).term p=some (c,l)
 vote_is:∀ p c l,p<n→s.vt (s.pr p).term p=some (c,l)→(s.pr p).vote=c+1
 vt_term:∀ p U x,p<n→s.vt U p=some x→U≤(s.pr p).term
 cl_term:∀ p U x,p<n→s.cl U p=some x→U≤(s.pr p).term
 cl_lm:∀ p U l,s.cl U p=some l→p<n∧1≤U∧LM s l (U-1)
 vt_cl:∀ q U c l,q<n→s.vt U q=some (c,l)→LM s l U∧∃ k,s.cl U c=some k∧Far k l
 cand:∀ p,p<n→(s.pr p).role=1→s.cl (s.pr p).term p=some (s.pr p).log∧s.lead (s.pr p).term≠some p∧∀ q,q<n→(s.pr p).votes q=true→∃ l,s.vt (s.pr p).term q=some (p,l)
 lead_q:∀ U k,s.lead U=some k→k<n∧U≤(s.pr k).term∧∃ Q,quorum n Q∧∀ q,q<n→Q q=true→∃ l,s.vt U q=some (k,l)
 lead_cl:∀ U k,s.lead U=some k→s.cl U k=some ((s.llog U).take (s.ini U))∧s.ini U≤(s.llog U).length∧(∀ i r,s.ini U≤i→(s.llog U)[i]?=some r→r.term=U)∧LM s (s.llog U) U
 llog_none:∀ U,s.lead U=none→s.llog U=[]
 leader:∀ p,p<n→(s.pr p).role=2→s.lead (s.pr p).term=some p∧(s.pr p).log=s.llog (s.pr p).term∧∀ q,q<n→(s.pr p).mat q≤s.ack (s.pr p).term q
 log_lm:∀ p,p<n→LM s (s.pr p).log (s.pr p).term
 ack_le:∀ T q,s.ack T q≤(s.llog T).length
 ack_term:∀ T q,q<n→0<s.ack T q→T≤(s.pr q).term
 acked:∀ T q i,q<n→s.ini T<i→i≤s.ack T q→Chos n s T i→(s.pr q).log.take i=(s.llog T).take i
 ackedV:∀ T U q c l i,q<n→s.vt U q=some (c,l)→T<U→s.ini T<i→i≤s.ack T q→Chos n s T i→l.take i=(s.llog T).take i
 whole:∀ T U k i,s.lead U=some k→T<U→s.ini T<i→i≤(s.llog T).length→Chos n s T i→i≤s.ini U∧(s.llog U).take i=(s.llog T).take i
 comm:∀ p,p<n→(s.pr p).commit≤(s.pr p).log.length∧Comm n s ((s.pr p).log.take (s.pr p).commit) (s.pr p).term
theorem Chos.back {n:Nat} {s s':St} {T i:Nat} (ht:∀ q,q<n→(s.pr q).term≤(s'.pr q).term) (ha:∀ q,q<n→i≤s'.ack T q→i≤s.ack T q∨(s.pr q).term≤T) (h:Chos n s' T i):Chos n s T i:=by
 obtain ⟨Q,hQ,h⟩:=h
 refine ⟨Q,hQ,fun q hq hQq => ?_⟩
 rcases h q hq hQq with h | h
 ·exact ha q hq h
 ·exact .inr (Nat.le_trans (ht q hq) h)
theorem LM.weaken {s:St} {l:List Rc} {T T':Nat} (h:LM s l T) (ht:T≤T'):LM s l T':=fun i r hr=>by
 obtain ⟨h1,h2,h3⟩:=h i r hr
 exact ⟨h1,by omega,h3⟩
theorem LM.grow {s s':St} {l:List Rc} {T:Nat} (h:LM s l T) (hl:∀ U k,s.lead U=some k→s'.lead U=some k) (hg:∀ U k,s.lead U=some k→∃ t,s'.llog U=s.llog U++t):LM s' l T:=fun i r hr=>by
 obtain ⟨h1,h2,⟨k,h3⟩,h4,h5⟩:=h i r hr
 refine ⟨h1,h2,⟨k,hl _ _ h3⟩,?_,h5⟩
 obtain ⟨t,e⟩:=hg _ _ h3
 have hi:i<l.length:=by
  rw [List.getElem?_eq_some_iff] at hr;exact hr.1
 have hlen:i+1≤(s.llog r.term).length:=by
  have:=congrArg List.length h4
  simp at this
  omega
 rw [e,List.take_append_of_le_length hlen]
 exact h4
theorem LM.take {s:St} {l:List Rc} {T:Nat} (h:LM s l T) (m:Nat):LM s (l.take m) T:=fun i r hr=>by
 rw [List.getElem?_take] at hr
 split at hr
 ·next hi =>
  obtain ⟨h1,h2,h3,h4,h5⟩:=h i r hr
  refine ⟨h1,h2,h3,?_,h5⟩
  rw [List.take_take,Nat.min_eq_left (by omega)]
  exact h4
 ·cases hr
theorem LM.same {s:St} {l m:List Rc} {T U i:Nat} {r x:Rc} (h:LM s l T) (h2:LM s m U) (hr:l[i]?=some r) (hx:m[i]?=some x) (e:r.term=x.term):l.take (i+1)=m.take (i+1):=by
 rw [(h i r hr).2.2.2.1,(h2 i x hx).2.2.2.1,e]
theorem Comm.grow {n:Nat} {s s':St} {l:List Rc} {T T':Nat} (h:Comm n s l T) (ht:T≤T') (hi:∀ U,s.llog U≠[]→s'.ini U=s.ini U) (hg:∀ U,∃ t,s'.llog U=s.llog U++t) (ha:∀ U q,q<n→s.ack U q≤s'.ack U q):Comm n s' l T':=by
 rcases h with h | ⟨T0,i,h1,h2,h3,⟨Q,hQ,h4⟩,h5,h6⟩
 ·exact .inl h
 ·obtain ⟨t,e⟩:=hg T0
  have hne:s.llog T0≠[]:=by intro c;rw [c] at h3;simp at h3;omega
  refine .inr ⟨T0,i,by omega,by rw [hi _ hne];exact h2,by rw [e,List.length_append];omega,⟨Q,hQ,fun q hq hQq=>Nat.le_trans (h4 q hq hQq) (ha _ q hq)⟩,h5,?_⟩
  rw [e,List.take_append_of_le_length (by omega)]
  exact h6
theorem Comm.prefix {n:Nat} {s:St} {l:List Rc} {T:Nat} (h:Comm n s l T) (m:Nat):Comm n s (l.take m) T:=by
 rcases h with h | ⟨T0,i,h1,h2,h3,h4,h5,h6⟩
 ·exact .inl (by rw [h];simp)
 ·refine .inr ⟨T0,i,h1,h2,h3,h4,by simp;omega,?_⟩
  conv=>lhs;rw [h6,List.take_take]
  congr 1
  simp
def St.setP (s:St) (p:Nat) (x:Pr):St:={ s with pr:=fun q=>if q=p then x else s.pr q }
theorem setP_self (s:St) (p:Nat) (x:Pr):(s.setP p x).pr p=x:=by simp [St.setP]
theorem setP_ne (s:St) {p q:Nat} (x:Pr) (h:q≠p):(s.setP p x).pr q=s.pr q:=by simp [St.setP,h]
theorem LM.setP {s:St} {l:List Rc} {T p:Nat} {x:Pr} (h:LM s l T):LM (s.setP p x) l T:=h
theorem Comm.setP {n:Nat} {s:St} {l:List Rc} {T p:Nat} {x:Pr} (h:Comm n s l T):Comm n (s.setP p x) l T:=h
theorem setP_term {n:Nat} {s:St} {p:Nat} {x:Pr} (ht:(s.pr p).term≤x.term):∀ q,q<n→(s.pr q).term≤((s.setP p x).pr q).term:=fun q _=>by
 by_cases c:q=p
 ·subst c;rw [setP_self];exact ht
 ·rw [setP_ne s x c];exact Nat.le_refl _
theorem Chos.setP {n:Nat} {s:St} {p:Nat} {x:Pr} {T i:Nat} (ht:(s.pr p).term≤x.term) (h:Chos n (s.setP p x) T i):Chos n s T i :=
 Chos.back (setP_term ht) (fun _ _ h=>.inl h) h
theorem Inv.setP {n:Nat} {s:St} (h:Inv n s) {p:Nat} {x:Pr} (ht:(s.pr p).term≤x.term) (hl:x.log=(s.pr p).log) (hc:x.commit≤(s.pr p).commit∨(x.commit≤x.log.length∧Comm n s (x.log.take x.commit) x.term))
  (hv:p<n→(x.term=(s.pr p).term∧x.vote=(s.pr p).vote)∨((s.pr p).term<x.term∧x.vote=0))
  (hr:p<n→(x.role≠1∧x.role≠2)∨(x.role=(s.pr p).role∧x.term=(s.pr p).term∧(x.role=1→∀ q,q<n→x.votes q=true→∃ l,s.vt x.term q=some (p,l))∧(x.role=2→∀ q,q<n→x.mat q≤s.ack x.term q))):Inv n (s.setP p x) where
 vote_of:=fun q c hq e=>by
  by_cases d:q=p
  ·subst d
   rw [setP_self] at e ⊢
   rcases hv hq with ⟨h1,h2⟩|⟨h1,h2⟩
   ·rw [h1];exact h.vote_of q c hq (h2 ▸ e)
   ·omega
  ·rw [setP_ne s x d] at e ⊢;exact h.vote_of q c hq e
 vote_is:=fun q c l hq e=>by
  by_cases d:q=p
  ·subst d
   rw [setP_self] at e ⊢
   rcases hv hq with ⟨h1,h2⟩|⟨h1,h2⟩
   ·rw [h2];rw [h1] at e;exact h.vote_is q c l hq e
   ·have:=h.vt_term q _ _ hq e;omega
  ·rw [setP_ne s x d] at e ⊢;exact h.vote_is q c l hq e
 vt_term:=fun q U y hq e=>Nat.le_trans (h.vt_term q U y hq e) (setP_term ht q hq)
 cl_term:=fun q U y hq e=>Nat.le_trans (h.cl_term q U y hq e) (setP_term ht q hq)
 cl_lm:=h.cl_lm
 vt_cl:=h.vt_cl
 cand:=fun q hq e=>by
  by_cases d:q=p
  ·subst d
   rw [setP_self] at e ⊢
   rcases hr hq with ⟨h1,h2⟩|⟨h1,h2,h3,_⟩
   ·exact absurd e h1
   ·have:=h.cand q hq (h1 ▸ e)
    rw [h2,hl]
    refine ⟨this.1,this.2.1,fun r hr hv => ?_⟩
    have:=h3 e r hr hv
    rw [h2] at this
    exact this
  ·rw [setP_ne s x d] at e ⊢;exact h.cand q hq e
 lead_q:=fun U k e=>by
  have:=h.lead_q U k e
  exact ⟨this.1,Nat.le_trans this.2.1 (setP_term ht k this.1),this.2.2⟩
 lead_cl:=h.lead_cl
 llog_none:=h.llog_none
 leader:=fun q hq e=>by
  by_cases d:q=p
  ·subst d
   rw [setP_self] at e ⊢
   rcases hr hq with ⟨h1,h2⟩|⟨h1,h2,_,h3⟩
   ·exact absurd e h2
   ·have:=h.leader q hq (h1 ▸ e)
    rw [hl]
    refine ⟨by rw [h2];exact this.1,by rw [h2];exact this.2.1,fun r hr => ?_⟩
    exact h3 e r hr
  ·rw [setP_ne s x d] at e ⊢;exact h.leader q hq e
 log_lm:=fun q hq=>by
  by_cases d:q=p
  ·subst d
   rw [setP_self,hl];exact ((h.log_lm q hq).weaken ht).setP
  ·rw [setP_ne s x d];exact (h.log_lm q hq).setP
 ack_le:=h.ack_le
 ack_term:=fun T q hq e=>Nat.le_trans (h.ack_term T q hq e) (setP_term ht q hq)
 acked:=fun T q i hq h1 h2 h3=>by
  have:=h.acked T q i hq h1 h2 (h3.setP ht)
  by_cases d:q=p
  ·subst d
   rw [setP_self,hl];exact this
  ·rw [setP_ne s x d];exact this
 ackedV:=fun T U q c l i hq h1 h2 h3 h4 h5=>h.ackedV T U q c l i hq h1 h2 h3 h4 (h5.setP ht)
 whole:=fun T U k i h1 h2 h3 h4 h5=>h.whole T U k i h1 h2 h3 h4 (h5.setP ht)
 comm:=fun q hq=>by
  by_cases d:q=p
  ·subst d
   rw [setP_self]
   rcases hc with hc | hc
   ·have:=h.comm q hq
    rw [hl]
    refine ⟨by omega,?_⟩
    have e:(s.pr q).log.take x.commit=((s.pr q).log.take (s.pr q).commit).take x.commit:=by rw [List.take_take,Nat.min_eq_left hc]
    rw [e]
    exact Comm.prefix ((this.2.grow ht (fun _ _=>rfl) (fun _=>⟨[],by simp⟩) (fun _ _ _=>Nat.le_refl _)).setP) _
   ·exact ⟨hc.1,hc.2.setP⟩
  ·rw [setP_ne s x d];exact ⟨(h.comm q hq).1,(h.comm q hq).2.setP⟩
theorem len_of_take {l m:List Rc} {i:Nat} (h:l.take i=m.take i) (hm:i≤m.length):i≤l.length:=by
 have:=congrArg List.length h
 simp at this
 omega
theorem take_le {l m:List Rc} {i j:Nat} (h:l.take j=m.take j) (hi:i≤j):l.take i=m.take i:=by
 have:=congrArg (List.take i) h
 simpa [List.take_take,Nat.min_eq_left hi] using this
theorem get_take {l m:List Rc} {i j:Nat} (h:l.take j=m.take j) (hi:i<j):l[i]?=m[i]? := by
 have:=congrArg (fun x=>x[i]?) h
 simpa [List.getElem?_take,hi] using this
theorem Inv.led {n:Nat} {s:St} (h:Inv n s) {T:Nat} (hl:s.llog T≠[]):∃ k,s.lead T=some k:=by
 cases e:s.lead T with
 | none=>exact absurd (h.llog_none T e) hl
 | some k=>exact ⟨k,rfl⟩
theorem ne_of_len {l:List Rc} {i:Nat} (h:i≤l.length) (h0:0<i):l≠[]:=by intro c;rw [c] at h;simp at h;omega
def St.grant (s:St) (q c:Nat):St:={ s.setP q { s.pr q with vote:=c+1 } with vt:=fun T r=>if T=(s.pr q).term∧r=q then some (c,(s.pr q).log) else s.vt T r }
theorem Inv.grant {n:Nat} {s:St} (h:Inv n s) {q c:Nat} {k:List Rc} (hq:q<n) (h0:(s.pr q).vote=0) (hc:s.cl (s.pr q).term c=some k) (hf:Far k (s.pr q).log):Inv n (s.grant q c):=by
 have hnone:s.vt (s.pr q).term q=none:=by
  cases e:s.vt (s.pr q).term q with
  | none=>rfl
  | some x=>have:=h.vote_is q x.1 x.2 hq e;omega
 have hkeep:∀ T r y,s.vt T r=some y→(s.grant q c).vt T r=some y:=by
  intro T r y e
  show (if T=(s.pr q).term∧r=q then _ else s.vt T r)=_
  rw [if_neg]
  ·exact e
  ·rintro ⟨rfl,rfl⟩;rw [hnone] at e;cases e
 have hpr:∀ r,((s.grant q c).pr r).term=(s.pr r).term∧((s.grant q c).pr r).log=(s.pr r).log∧((s.grant q c).pr r).role=(s.pr r).role∧((s.grant q c).pr r).commit=(s.pr r).commit∧((s.grant q c).pr r).votes=(s.pr r).votes∧((s.grant q c).pr r).mat=(s.pr r).mat:=by
  intro r
  show (ite _ _ _:Pr).term=_∧(ite _ _ _:Pr).log=_∧(ite _ _ _:Pr).role=_∧(ite _ _ _:Pr).commit=_∧(ite _ _ _:Pr).votes=_∧(ite _ _ _:Pr).mat=_
  by_cases d:r=q
  ·subst d;simp
  ·simp [d]
 have hch:∀ T i,Chos n (s.grant q c) T i→Chos n s T i:=fun T i=>Chos.back (fun r _=>by rw [(hpr r).1];exact Nat.le_refl _) (fun _ _ h=>.inl h)
 have hvt:∀ T r y,(s.grant q c).vt T r=some y→(T=(s.pr q).term∧r=q∧y=(c,(s.pr q).log))∨s.vt T r=some y:=by
  intro T r y e
  by_cases d:T=(s.pr q).term∧r=q
  ·have e2:(if T=(s.pr q).term∧r=q then some (c,(s.pr q).log) else s.vt T r)=some y:=e
   rw [if_pos d] at e2
   injection e2 with e2
   exact .inl ⟨d.1,d.2,e2.symm⟩
  ·have e2:(if T=(s.pr q).term∧r=q then some (c,(s.pr q).log) else s.vt T r)=some y:=e
   rw [if_neg d] at e2
   exact .inr e2
 refine { vote_of := ?_,vote_is := ?_,vt_term := ?_,cl_term := ?_,cl_lm:=h.cl_lm,vt_cl := ?_,cand := ?_,lead_q := ?_,lead_cl:=h.lead_cl,llog_none:=h.llog_none,leader := ?_,log_lm := ?_,ack_le:=h.ack_le,ack_term := ?_,acked := ?_,ackedV := ?_,whole := ?_,comm := ?_ }
 ·intro p x hp e
  rw [(hpr p).1]
  by_cases d:p=q
  ·subst d
   have e2:c+1=x+1:=by
    have:((s.grant p c).pr p).vote=c+1:=by show (ite _ _ _:Pr).vote=_;simp
    rw [←this];exact e
   have:c=x:=by omega
   subst this
   exact ⟨(s.pr p).log,by show (if _ then _ else _)=_;simp⟩
  ·have:((s.grant q c).pr p).vote=(s.pr p).vote:=by show (ite _ _ _:Pr).vote=_;simp [d]
   rw [this] at e
   obtain ⟨l,hl⟩:=h.vote_of p x hp e
   exact ⟨l,hkeep _ _ _ hl⟩
 ·intro p x l hp e
  rw [(hpr p).1] at e
  by_cases d:p=q
  ·subst d
   have:((s.grant p c).pr p).vote=c+1:=by show (ite _ _ _:Pr).vote=_;simp
   rw [this]
   rcases hvt _ _ _ e with ⟨_,_,e2⟩|e2
   ·injection e2 with e2 _;rw [e2]
   ·rw [hnone] at e2;cases e2
  ·have:((s.grant q c).pr p).vote=(s.pr p).vote:=by show (ite _ _ _:Pr).vote=_;simp [d]
   rw [this]
   rcases hvt _ _ _ e with ⟨_,e2,_⟩|e2
   ·exact absurd e2 d
   ·exact h.vote_is p x l hp e2
 ·intro p U y hp e
  rw [(hpr p).1]
  rcases hvt _ _ _ e with ⟨e1,e2,_⟩|e2
  ·rw [e1,e2];exact Nat.le_refl _
  ·exact h.vt_term p U y hp e2
 ·intro p U y hp e
  rw [(hpr p).1];exact h.cl_term p U y hp e
 ·intro r U x l hr e
  rcases hvt _ _ _ e with ⟨e1,e2,e3⟩|e2
  ·injection e3 with e3 e4
   subst e1 e3 e4
   exact ⟨h.log_lm q hq,k,hc,hf⟩
  ·exact h.vt_cl r U x l hr e2
 ·intro p hp e
  rw [(hpr p).2.2.1] at e
  rw [(hpr p).1,(hpr p).2.1,(hpr p).2.2.2.2.1]
  have:=h.cand p hp e
  refine ⟨this.1,this.2.1,fun r hr hv => ?_⟩
  obtain ⟨l,hl⟩:=this.2.2 r hr hv
  exact ⟨l,hkeep _ _ _ hl⟩
 ·intro U x e
  obtain ⟨h1,h2,Q,h3,h4⟩:=h.lead_q U x e
  refine ⟨h1,by rw [(hpr x).1];exact h2,Q,h3,fun r hr hv => ?_⟩
  obtain ⟨l,hl⟩:=h4 r hr hv
  exact ⟨l,hkeep _ _ _ hl⟩
 ·intro p hp e
  rw [(hpr p).2.2.1] at e
  rw [(hpr p).1,(hpr p).2.1,(hpr p).2.2.2.2.2]
  exact h.leader p hp e
 ·intro p hp
  rw [(hpr p).1,(hpr p).2.1];exact h.log_lm p hp
 ·intro T p hp e
  rw [(hpr p).1];exact h.ack_term T p hp e
 ·intro T p i hp h1 h2 h3
  rw [(hpr p).2.1];exact h.acked T p i hp h1 h2 (hch T i h3)
 ·intro T U p x l i hp h1 h2 h3 h4 h5
  rcases hvt _ _ _ h1 with ⟨e1,e2,e3⟩|e2
  ·injection e3 with e3 e4
   subst e2 e4
   exact h.acked T p i hp h3 h4 (hch T i h5)
  ·exact h.ackedV T U p x l i hp e2 h2 h3 h4 (hch T i h5)
 ·intro T U x i h1 h2 h3 h4 h5
  exact h.whole T U x i h1 h2 h3 h4 (hch T i h5)
 ·intro p hp
  rw [(hpr p).1,(hpr p).2.1,(hpr p).2.2.2.1]
  exact h.comm p hp
def St.stand (s:St) (p:Nat):St:={ s.setP p { s.pr p with term:=(s.pr p).term+1,vote:=p+1,role:=1,votes:=fun q=>decide (q=p) } with
 vt:=fun T r=>if T=(s.pr p).term+1∧r=p then some (p,(s.pr p).log) else s.vt T r
 cl:=fun T r=>if T=(s.pr p).term+1∧r=p then some (s.pr p).log else s.cl T r }
theorem Far.refl (l:List Rc):Far l l:=.inr ⟨rfl,Nat.le_refl _⟩
theorem Inv.stand {n:Nat} {s:St} (h:Inv n s) {p:Nat} (hp:p<n):Inv n (s.stand p):=by
 have hvn:s.vt ((s.pr p).term+1) p=none:=by
  cases e:s.vt ((s.pr p).term+1) p with
  | none=>rfl
  | some x=>have:=h.vt_term p _ x hp e;omega
 have hcn:s.cl ((s.pr p).term+1) p=none:=by
  cases e:s.cl ((s.pr p).term+1) p with
  | none=>rfl
  | some x=>have:=h.cl_term p _ x hp e;omega
 have hself:(s.stand p).pr p={ s.pr p with term:=(s.pr p).term+1,vote:=p+1,role:=1,votes:=fun q=>decide (q=p) }:=by
  show (if p=p then _ else _)=_
  rw [if_pos rfl]
 have hne:∀ r,r≠p→(s.stand p).pr r=s.pr r:=by
  intro r hr
  show (if r=p then _ else _)=_
  rw [if_neg hr]
 have hterm:∀ r,r<n→(s.pr r).term≤((s.stand p).pr r).term:=by
  intro r _
  by_cases d:r=p
  ·subst d;rw [hself];exact Nat.le_succ _
  ·rw [hne r d];exact Nat.le_refl _
 have hlog:∀ r,((s.stand p).pr r).log=(s.pr r).log:=by
  intro r
  by_cases d:r=p
  ·subst d;rw [hself]
  ·rw [hne r d]
 have hkeep:∀ T r y,s.vt T r=some y→(s.stand p).vt T r=some y:=by
  intro T r y e
  show (if T=(s.pr p).term+1∧r=p then _ else s.vt T r)=_
  rw [if_neg]
  ·exact e
  ·rintro ⟨rfl,rfl⟩;rw [hvn] at e;cases e
 have hkeepc:∀ T r y,s.cl T r=some y→(s.stand p).cl T r=some y:=by
  intro T r y e
  show (if T=(s.pr p).term+1∧r=p then _ else s.cl T r)=_
  rw [if_neg]
  ·exact e
  ·rintro ⟨rfl,rfl⟩;rw [hcn] at e;cases e
 have hvt:∀ T r y,(s.stand p).vt T r=some y→(T=(s.pr p).term+1∧r=p∧y=(p,(s.pr p).log))∨s.vt T r=some y:=by
  intro T r y e
  by_cases d:T=(s.pr p).term+1∧r=p
  ·have e2:(if T=(s.pr p).term+1∧r=p then some (p,(s.pr p).log) else s.vt T r)=some y:=e
   rw [if_pos d] at e2
   injection e2 with e2
   exact .inl ⟨d.1,d.2,e2.symm⟩
  ·have e2:(if T=(s.pr p).term+1∧r=p then some (p,(s.pr p).log) else s.vt T r)=some y:=e
   rw [if_neg d] at e2
   exact .inr e2
 have hcl:∀ T r y,(s.stand p).cl T r=some y→(T=(s.pr p).term+1∧r=p∧y=(s.pr p).log)∨s.cl T r=some y:=by
  intro T r y e
  by_cases d:T=(s.pr p).term+1∧r=p
  ·have e2:(if T=(s.pr p).term+1∧r=p then some (s.pr p).log else s.cl T r)=some y:=e
   rw [if_pos d] at e2
   injection e2 with e2
   exact .inl ⟨d.1,d.2,e2.symm⟩
  ·have e2:(if T=(s.pr p).term+1∧r=p then some (s.pr p).log else s.cl T r)=some y:=e
   rw [if_neg d] at e2
   exact .inr e2
 have hch:∀ T i,Chos n (s.stand p) T i→Chos n s T i:=fun T i=>Chos.back hterm (fun _ _ h=>.inl h)
 have hvp:(s.stand p).vt ((s.pr p).term+1) p=some (p,(s.pr p).log):=by
  show (if _ then _ else _)=_
  rw [if_pos ⟨rfl,rfl⟩]
 have hcp:(s.stand p).cl ((s.pr p).term+1) p=some (s.pr p).log:=by
  show (if _ then _ else _)=_
  rw [if_pos ⟨rfl,rfl⟩]
 refine { vote_of := ?_,vote_is := ?_,vt_term := ?_,cl_term := ?_,cl_lm := ?_,vt_cl := ?_,cand := ?_,lead_q := ?_,lead_cl := ?_,llog_none:=h.llog_none,leader := ?_,log_lm := ?_,ack_le:=h.ack_le,ack_term := ?_,acked := ?_,ackedV := ?_,whole := ?_,comm := ?_ }
 ·intro r x hr e
  by_cases d:r=p
  ·subst d
   rw [hself] at e ⊢
   have:r=x:=by have e:r+1=x+1:=e;omega
   subst this
   exact ⟨_,hvp⟩
  ·rw [hne r d] at e ⊢
   obtain ⟨l,hl⟩:=h.vote_of r x hr e
   exact ⟨l,hkeep _ _ _ hl⟩
 ·intro r x l hr e
  by_cases d:r=p
  ·subst d
   rw [hself] at e ⊢
   have e:(s.stand r).vt ((s.pr r).term+1) r=some (x,l):=e
   rw [hvp] at e
   injection e with e
   injection e with e _
   show r+1=x+1
   rw [e]
  ·rw [hne r d] at e ⊢
   rcases hvt _ _ _ e with ⟨_,e2,_⟩|e2
   ·exact absurd e2 d
   ·exact h.vote_is r x l hr e2
 ·intro r U y hr e
  rcases hvt _ _ _ e with ⟨e1,e2,_⟩|e2
  ·subst e2;rw [hself,e1];exact Nat.le_refl _
  ·exact Nat.le_trans (h.vt_term r U y hr e2) (hterm r hr)
 ·intro r U y hr e
  rcases hcl _ _ _ e with ⟨e1,e2,_⟩|e2
  ·subst e2;rw [hself,e1];exact Nat.le_refl _
  ·exact Nat.le_trans (h.cl_term r U y hr e2) (hterm r hr)
 ·intro r U l e
  rcases hcl _ _ _ e with ⟨e1,e2,e3⟩|e2
  ·subst e1 e2 e3
   exact ⟨hp,by omega,h.log_lm r hp⟩
  ·exact h.cl_lm r U l e2
 ·intro r U x l hr e
  rcases hvt _ _ _ e with ⟨e1,e2,e3⟩|e2
  ·injection e3 with e3 e4
   subst e1 e3 e4
   exact ⟨(h.log_lm x hp).weaken (Nat.le_succ _),_,hcp,Far.refl _⟩
  ·obtain ⟨h1,k,h2,h3⟩:=h.vt_cl r U x l hr e2
   exact ⟨h1,k,hkeepc _ _ _ h2,h3⟩
 ·intro r hr e
  by_cases d:r=p
  ·subst d
   rw [hself]
   refine ⟨hcp,?_,fun q hq hv => ?_⟩
   ·intro c
    have:=(h.lead_q _ _ c).2.1
    have e:(s.pr r).term+1≤(s.pr r).term:=this
    omega
   ·have:q=r:=by simpa using hv
    subst this
    exact ⟨_,hvp⟩
  ·rw [hne r d] at e ⊢
   have:=h.cand r hr e
   refine ⟨hkeepc _ _ _ this.1,this.2.1,fun q hq hv => ?_⟩
   obtain ⟨l,hl⟩:=this.2.2 q hq hv
   exact ⟨l,hkeep _ _ _ hl⟩
 ·intro U x e
  obtain ⟨h1,h2,Q,h3,h4⟩:=h.lead_q U x e
  refine ⟨h1,Nat.le_trans h2 (hterm x h1),Q,h3,fun r hr hv => ?_⟩
  obtain ⟨l,hl⟩:=h4 r hr hv
  exact ⟨l,hkeep _ _ _ hl⟩
 ·intro U x e
  obtain ⟨h1,h2⟩:=h.lead_cl U x e
  exact ⟨hkeepc _ _ _ h1,h2⟩
 ·intro r hr e
  by_cases d:r=p
  ·subst d;rw [hself] at e;cases e
  ·rw [hne r d] at e ⊢;exact h.leader r hr e
 ·intro r hr
  rw [hlog r];exact (h.log_lm r hr).weaken (hterm r hr)
 ·intro T r hr e
  exact Nat.le_trans (h.ack_term T r hr e) (hterm r hr)
 ·intro T r i hr h1 h2 h3
  rw [hlog r];exact h.acked T r i hr h1 h2 (hch T i h3)
 ·intro T U r x l i hr h1 h2 h3 h4 h5
  rcases hvt _ _ _ h1 with ⟨e1,e2,e3⟩|e2
  ·injection e3 with e3 e4
   subst e2 e4
   exact h.acked T r i hr h3 h4 (hch T i h5)
  ·exact h.ackedV T U r x l i hr e2 h2 h3 h4 (hch T i h5)
 ·intro T U x i h1 h2 h3 h4 h5
  exact h.whole T U x i h1 h2 h3 h4 (hch T i h5)
 ·intro r hr
  have hc:((s.stand p).pr r).commit=(s.pr r).commit:=by
   by_cases d:r=p
   ·subst d;rw [hself]
   ·rw [hne r d]
  rw [hlog r,hc]
  exact ⟨(h.comm r hr).1,(h.comm r hr).2.grow (hterm r hr) (fun _ _=>rfl) (fun _=>⟨[],by simp [St.stand,St.setP]⟩) (fun _ _ _=>Nat.le_refl _)⟩
theorem Inv.last {n:Nat} {s:St} (h:Inv n s) {l:List Rc} {T i:Nat} {r:Rc} (hl:LM s l T) (hr:l[i]?=some r):r.term≤lastTerm l∧(∃ k,s.lead (lastTerm l)=some k)∧l=(s.llog (lastTerm l)).take l.length∧lastTerm l≤T∧l[l.length-1]?.map (·.term)=some (lastTerm l):=by
 have hi:i<l.length:=by rw [List.getElem?_eq_some_iff] at hr;exact hr.1
 obtain ⟨x,hx⟩:∃ x,l[l.length-1]?=some x:=⟨_,List.getElem?_eq_getElem (by omega)⟩
 have hlast:lastTerm l=x.term:=by
  unfold lastTerm
  rw [List.getLast?_eq_getElem?,hx]
 have:=hl _ _ hx
 have e:l.length-1+1=l.length:=by omega
 rw [e] at this
 obtain ⟨h1,h2,⟨k,h3⟩,h4,h5⟩:=this
 rw [List.take_of_length_le (Nat.le_refl _)] at h4
 rw [hlast]
 refine ⟨?_,⟨k,h3⟩,h4,h2,by rw [hx];rfl⟩
 have h6:(s.llog x.term)[i]?=some r:=by
  rw [←hr]
  have:(s.llog x.term).take l.length=l.take l.length:=by rw [List.take_of_length_le (Nat.le_refl l.length)];exact h4.symm
  exact get_take this hi
 exact ((h.lead_cl _ _ h3).2.2.2 i r h6).2.1
theorem Inv.before {n:Nat} {s:St} (h:Inv n s) {U k i:Nat} {r:Rc} (hl:s.lead U=some k) (hr:(s.llog U)[i]?=some r) (ht:r.term=U):s.ini U≤i:=by
 refine Classical.byContradiction fun c => ?_
 obtain ⟨h1,h2,_⟩:=h.lead_cl U k hl
 obtain ⟨_,h3,h4⟩:=h.cl_lm k U _ h1
 have:((s.llog U).take (s.ini U))[i]?=some r:=by rw [List.getElem?_take,if_pos (by omega)];exact hr
 have:=(h4 i r this).2.1
 omega
theorem Inv.elects {n:Nat} {s:St} (h:Inv n s) {p:Nat} (hp:p<n) (hr:(s.pr p).role=1) (hQ:quorum n (s.pr p).votes) {T i:Nat} (hT:T<(s.pr p).term) (h1:s.ini T<i) (h2:i≤(s.llog T).length) (hC:Chos n s T i):i≤(s.pr p).log.length∧(s.pr p).log.take i=(s.llog T).take i:=by
 obtain ⟨hcl,hnl,hvs⟩:=h.cand p hp hr
 obtain ⟨Q,hQ2,hq⟩:=hC
 obtain ⟨q,hqn,hq1,hq2⟩:=quorum_meet hQ hQ2
 obtain ⟨vl,hvl⟩:=hvs q hqn hq1
 have hut:=h.vt_term q _ _ hqn hvl
 have hack:i≤s.ack T q:=by rcases hq q hqn hq2 with c | c <;> omega
 have hv:=h.ackedV T _ q p vl i hqn hvl hT h1 hack ⟨Q,hQ2,hq⟩
 obtain ⟨hvlm,k,hk,hfar⟩:=h.vt_cl q _ p vl hqn hvl
 rw [hcl] at hk
 injection hk with hk
 subst hk
 have hvlen:i≤vl.length:=len_of_take hv h2
 obtain ⟨kT,hkT⟩:=h.led (ne_of_len h2 (by omega))
 obtain ⟨r,hr0⟩:∃ r,(s.llog T)[i-1]?=some r:=⟨_,List.getElem?_eq_getElem (by omega)⟩
 have hrT:r.term=T:=(h.lead_cl T kT hkT).2.2.1 (i-1) r (by omega) hr0
 have hr1:vl[i-1]?=some r:=by rw [←hr0];exact get_take hv (by omega)
 obtain ⟨hl1,⟨kW,hkW⟩,hl3,hl4,hl5⟩:=h.last hvlm hr1
 have hplm:=(h.cl_lm p _ _ hcl).2.2
 rcases hfar with hfar | ⟨hf1,hf2⟩
 ·have hne:(s.pr p).log≠[]:=by intro c;rw [c] at hfar;simp [lastTerm] at hfar
  obtain ⟨x,hx⟩:∃ x,(s.pr p).log[(s.pr p).log.length-1]?=some x:=⟨_,List.getElem?_eq_getElem (by have:=List.length_pos_iff.2 hne;omega)⟩
  obtain ⟨_,⟨kX,hkX⟩,m3,m4,m5⟩:=h.last hplm hx
  have hpos:=List.length_pos_iff.2 hne
  have hcu:=(h.cl_lm p _ _ hcl).2.1
  have hTW:T<lastTerm (s.pr p).log:=by omega
  obtain ⟨w1,w2⟩:=h.whole T _ kX i hkX hTW h1 h2 ⟨Q,hQ2,hq⟩
  rw [hx] at m5
  have m5:x.term=lastTerm (s.pr p).log:=by simpa using m5
  have hxl:(s.llog (lastTerm (s.pr p).log))[(s.pr p).log.length-1]?=some x:=by
   rw [←hx]
   have:(s.llog (lastTerm (s.pr p).log)).take (s.pr p).log.length=(s.pr p).log.take (s.pr p).log.length:=by
    rw [List.take_of_length_le (Nat.le_refl (s.pr p).log.length)];exact m3.symm
   exact get_take this (by omega)
  have:=h.before hkX hxl m5
  refine ⟨by omega,?_⟩
  rw [m3,List.take_take,Nat.min_eq_left (by omega)]
  exact w2
 ·have hne:(s.pr p).log≠[]:=by intro c;rw [c] at hf2;simp at hf2;rw [hf2] at hvlen;simp at hvlen;omega
  obtain ⟨x,hx⟩:∃ x,(s.pr p).log[(s.pr p).log.length-1]?=some x:=⟨_,List.getElem?_eq_getElem (by have:=List.length_pos_iff.2 hne;omega)⟩
  obtain ⟨_,⟨kX,hkX⟩,m3,m4,m5⟩:=h.last hplm hx
  refine ⟨by omega,?_⟩
  rw [←hv,m3,hl3,List.take_take,List.take_take,Nat.min_eq_left (by omega),Nat.min_eq_left (by omega),hf1]
def St.elect (s:St) (p:Nat):St:={ s.setP p { s.pr p with role:=2,votes:=fun _=>false,mat:=fun q=>if q=p then (s.pr p).log.length else 0 } with
 lead:=fun T=>if T=(s.pr p).term then some p else s.lead T
 llog:=fun T=>if T=(s.pr p).term then (s.pr p).log else s.llog T
 ini:=fun T=>if T=(s.pr p).term then (s.pr p).log.length else s.ini T
 ack:=fun T q=>if T=(s.pr p).term∧q=p then (s.pr p).log.length else s.ack T q }
theorem Inv.elect {n:Nat} {s:St} (h:Inv n s) {p:Nat} (hp:p<n) (hr:(s.pr p).role=1) (hQ:quorum n (s.pr p).votes):Inv n (s.elect p):=by
 obtain ⟨hcl,hnl,hvs⟩:=h.cand p hp hr
 have hnone:s.lead (s.pr p).term=none:=by
  cases e:s.lead (s.pr p).term with
  | none=>rfl
  | some k =>
   obtain ⟨_,_,Q,h3,h4⟩:=h.lead_q _ k e
   obtain ⟨q,hq,h5,h6⟩:=quorum_meet hQ h3
   obtain ⟨l,hl⟩:=hvs q hq h5
   obtain ⟨l',hl'⟩:=h4 q hq h6
   rw [hl] at hl'
   injection hl' with hl'
   injection hl' with hl' _
   subst hl'
   exact absurd e hnl
 have hll:s.llog (s.pr p).term=[]:=h.llog_none _ hnone
 have hack0:∀ q,s.ack (s.pr p).term q=0:=fun q=>by have:=h.ack_le (s.pr p).term q;rw [hll] at this;simpa using this
 have hself:(s.elect p).pr p={ s.pr p with role:=2,votes:=fun _=>false,mat:=fun q=>if q=p then (s.pr p).log.length else 0 }:=by
  show (if p=p then _ else _)=_
  rw [if_pos rfl]
 have hne:∀ r,r≠p→(s.elect p).pr r=s.pr r:=by
  intro r hr
  show (if r=p then _ else _)=_
  rw [if_neg hr]
 have hsame:∀ r,((s.elect p).pr r).term=(s.pr r).term∧((s.elect p).pr r).log=(s.pr r).log∧((s.elect p).pr r).commit=(s.pr r).commit∧((s.elect p).pr r).vote=(s.pr r).vote:=by
  intro r
  by_cases d:r=p
  ·subst d;rw [hself];exact ⟨rfl,rfl,rfl,rfl⟩
  ·rw [hne r d];exact ⟨rfl,rfl,rfl,rfl⟩
 have hlead:∀ T,(s.elect p).lead T=if T=(s.pr p).term then some p else s.lead T:=fun _=>rfl
 have hllog:∀ T,(s.elect p).llog T=if T=(s.pr p).term then (s.pr p).log else s.llog T:=fun _=>rfl
 have hini:∀ T,(s.elect p).ini T=if T=(s.pr p).term then (s.pr p).log.length else s.ini T:=fun _=>rfl
 have hack:∀ T q,(s.elect p).ack T q=if T=(s.pr p).term∧q=p then (s.pr p).log.length else s.ack T q:=fun _ _=>rfl
 have hlm:∀ l T,LM s l T→LM (s.elect p) l T:=fun l T hl=>hl.grow (fun U k e=>by rw [hlead,if_neg];exact e;rintro rfl;rw [hnone] at e;cases e) (fun U k e=>⟨[],by rw [hllog,if_neg,List.append_nil];rintro rfl;rw [hnone] at e;cases e⟩)
 have hch:∀ T i,Chos n (s.elect p) T i→Chos n s T i:=fun T i=>Chos.back (fun r _=>by rw [(hsame r).1];exact Nat.le_refl _) (fun q _ hi=>by
  rw [hack] at hi
  by_cases d:T=(s.pr p).term∧q=p
  ·right;rw [d.1,d.2];exact Nat.le_refl _
  ·rw [if_neg d] at hi;exact .inl hi)
 refine { vote_of := ?_,vote_is := ?_,vt_term := ?_,cl_term := ?_,cl_lm := ?_,vt_cl := ?_,cand := ?_,lead_q := ?_,lead_cl := ?_,llog_none := ?_,leader := ?_,log_lm := ?_,ack_le := ?_,ack_term := ?_,acked := ?_,ackedV := ?_,whole := ?_,comm := ?_ }
 ·intro r x hr e
  rw [(hsame r).1];rw [(hsame r).2.2.2] at e;exact h.vote_of r x hr e
 ·intro r x l hr e
  rw [(hsame r).2.2.2];rw [(hsame r).1] at e;exact h.vote_is r x l hr e
 ·intro r U y hr e
  rw [(hsame r).1];exact h.vt_term r U y hr e
 ·intro r U y hr e
  rw [(hsame r).1];exact h.cl_term r U y hr e
 ·intro r U l e
  have:=h.cl_lm r U l e
  exact ⟨this.1,this.2.1,hlm _ _ this.2.2⟩
 ·intro r U x l hr e
  have:=h.vt_cl r U x l hr e
  exact ⟨hlm _ _ this.1,this.2⟩
 ·intro r hr e
  by_cases d:r=p
  ·subst d;rw [hself] at e;cases e
  ·rw [hne r d] at e ⊢
   have:=h.cand r hr e
   refine ⟨this.1,?_,this.2.2⟩
   rw [hlead]
   split
   ·intro c;injection c with c;exact d c.symm
   ·exact this.2.1
 ·intro U k e
  rw [hlead] at e
  by_cases d:U=(s.pr p).term
  ·rw [if_pos d] at e
   injection e with e
   subst e d
   exact ⟨hp,by rw [(hsame p).1];exact Nat.le_refl _,_,hQ,fun q hq hv=>hvs q hq hv⟩
  ·rw [if_neg d] at e
   have:=h.lead_q U k e
   exact ⟨this.1,by rw [(hsame k).1];exact this.2.1,this.2.2⟩
 ·intro U k e
  rw [hlead] at e
  by_cases d:U=(s.pr p).term
  ·rw [if_pos d] at e
   injection e with e
   subst e d
   rw [hllog,hini,if_pos rfl,if_pos rfl]
   refine ⟨by rw [List.take_of_length_le (Nat.le_refl _)];exact hcl,Nat.le_refl _,fun i r h1 h2 => ?_,hlm _ _ (h.log_lm p hp)⟩
   rw [List.getElem?_eq_some_iff] at h2
   have:=h2.1
   omega
  ·rw [if_neg d] at e
   rw [hllog,hini,if_neg d,if_neg d]
   have:=h.lead_cl U k e
   exact ⟨this.1,this.2.1,this.2.2.1,hlm _ _ this.2.2.2⟩
 ·intro U e
  rw [hlead] at e
  by_cases d:U=(s.pr p).term
  ·rw [if_pos d] at e;cases e
  ·rw [if_neg d] at e
   rw [hllog,if_neg d];exact h.llog_none U e
 ·intro r hr e
  by_cases d:r=p
  ·subst d
   rw [hself]
   refine ⟨by rw [hlead];exact if_pos rfl,by rw [hllog];exact (if_pos rfl).symm,fun q hq => ?_⟩
   rw [hack]
   show (if q=r then (s.pr r).log.length else 0)≤_
   split
   ·next e=>rw [if_pos ⟨rfl,e⟩];exact Nat.le_refl _
   ·exact Nat.zero_le _
  ·rw [hne r d] at e ⊢
   have:=h.leader r hr e
   have d2:(s.pr r).term≠(s.pr p).term:=by intro c;rw [c,hnone] at this;cases this.1
   rw [hlead,hllog,if_neg d2,if_neg d2]
   refine ⟨this.1,this.2.1,fun q hq => ?_⟩
   rw [hack,if_neg (fun c=>d2 c.1)]
   exact this.2.2 q hq
 ·intro r hr
  rw [(hsame r).1,(hsame r).2.1];exact hlm _ _ (h.log_lm r hr)
 ·intro T q
  rw [hack,hllog]
  by_cases d:T=(s.pr p).term
  ·rw [if_pos d]
   split
   ·exact Nat.le_refl _
   ·rw [d,hack0];exact Nat.zero_le _
  ·rw [if_neg d,if_neg (fun c=>d c.1)];exact h.ack_le T q
 ·intro T q hq e
  rw [(hsame q).1]
  rw [hack] at e
  by_cases d:T=(s.pr p).term∧q=p
  ·rw [d.1,d.2];exact Nat.le_refl _
  ·rw [if_neg d] at e;exact h.ack_term T q hq e
 ·intro T q i hq h1 h2 h3
  rw [(hsame q).2.1]
  rw [hini] at h1
  rw [hack] at h2
  by_cases d:T=(s.pr p).term
  ·rw [if_pos d] at h1
   split at h2
   ·omega
   ·rw [d,hack0] at h2;omega
  ·rw [if_neg d] at h1
   rw [if_neg (fun c=>d c.1)] at h2
   rw [hllog,if_neg d]
   exact h.acked T q i hq h1 h2 (hch T i h3)
 ·intro T U q x l i hq h0 h00 h1 h2 h3
  rw [hini] at h1
  rw [hack] at h2
  by_cases d:T=(s.pr p).term
  ·rw [if_pos d] at h1
   split at h2
   ·omega
   ·rw [d,hack0] at h2;omega
  ·rw [if_neg d] at h1
   rw [if_neg (fun c=>d c.1)] at h2
   rw [hllog,if_neg d]
   exact h.ackedV T U q x l i hq h0 h00 h1 h2 (hch T i h3)
 ·intro T U k i h0 h00 h1 h2 h3
  rw [hini] at h1
  rw [hllog] at h2
  by_cases d:T=(s.pr p).term
  ·rw [if_pos d] at h1 h2;omega
  ·rw [if_neg d] at h1 h2
   rw [hlead] at h0
   rw [hini,hllog,hllog,if_neg d]
   by_cases e:U=(s.pr p).term
   ·rw [if_pos e,if_pos e]
    exact h.elects hp hr hQ (by omega) h1 h2 (hch T i h3)
   ·rw [if_neg e] at h0
    rw [if_neg e,if_neg e]
    exact h.whole T U k i h0 h00 h1 h2 (hch T i h3)
 ·intro r hr
  rw [(hsame r).1,(hsame r).2.1,(hsame r).2.2.1]
  refine ⟨(h.comm r hr).1,(h.comm r hr).2.grow (Nat.le_refl _) (fun U hU => ?_) (fun U => ?_) (fun U q hq => ?_)⟩
  ·rw [hini,if_neg];rintro rfl;exact hU hll
  ·rw [hllog]
   by_cases d:U=(s.pr p).term
   ·rw [if_pos d,d,hll];exact ⟨_,rfl⟩
   ·rw [if_neg d];exact ⟨[],by simp⟩
  ·rw [hack]
   split
   ·next d=>rw [d.1,hack0];exact Nat.zero_le _
   ·exact Nat.le_refl _
def St.propose (s:St) (p:Nat) (r:Rc):St:={ s.setP p { s.pr p with log:=(s.pr p).log++[r],mat:=fun q=>if q=p then (s.pr p).log.length+1 else (s.pr p).mat q } with
 llog:=fun T=>if T=(s.pr p).term then (s.pr p).log++[r] else s.llog T
 ack:=fun T q=>if T=(s.pr p).term∧q=p then (s.pr p).log.length+1 else s.ack T q }
theorem Inv.propose {n:Nat} {s:St} (h:Inv n s) {p:Nat} (hp:p<n) (hr:(s.pr p).role=2) {r:Rc} (ht:r.term=(s.pr p).term) (hx:r.index=(s.pr p).log.length+1):Inv n (s.propose p r):=by
 obtain ⟨hld,hlg,hmt⟩:=h.leader p hp hr
 have hself:(s.propose p r).pr p={ s.pr p with log:=(s.pr p).log++[r],mat:=fun q=>if q=p then (s.pr p).log.length+1 else (s.pr p).mat q }:=by
  show (if p=p then _ else _)=_
  rw [if_pos rfl]
 have hne:∀ q,q≠p→(s.propose p r).pr q=s.pr q:=by
  intro q hq
  show (if q=p then _ else _)=_
  rw [if_neg hq]
 have hsame:∀ q,((s.propose p r).pr q).term=(s.pr q).term∧((s.propose p r).pr q).role=(s.pr q).role∧((s.propose p r).pr q).commit=(s.pr q).commit∧((s.propose p r).pr q).vote=(s.pr q).vote:=by
  intro q
  by_cases d:q=p
  ·subst d;rw [hself];exact ⟨rfl,rfl,rfl,rfl⟩
  ·rw [hne q d];exact ⟨rfl,rfl,rfl,rfl⟩
 have hllog:∀ T,(s.propose p r).llog T=if T=(s.pr p).term then (s.pr p).log++[r] else s.llog T:=fun _=>rfl
 have hack:∀ T q,(s.propose p r).ack T q=if T=(s.pr p).term∧q=p then (s.pr p).log.length+1 else s.ack T q:=fun _ _=>rfl
 have hgrow:∀ U,∃ t,(s.propose p r).llog U=s.llog U++t:=fun U=>by
  rw [hllog]
  by_cases d:U=(s.pr p).term
  ·rw [if_pos d,d,←hlg];exact ⟨[r],rfl⟩
  ·rw [if_neg d];exact ⟨[],by simp⟩
 have htake:∀ T i,i≤(s.llog T).length→((s.propose p r).llog T).take i=(s.llog T).take i:=fun T i hi=>by
  obtain ⟨t,e⟩:=hgrow T
  rw [e,List.take_append_of_le_length hi]
 have hlm:∀ l T,LM s l T→LM (s.propose p r) l T:=fun l T hl=>hl.grow (fun U k e=>e) (fun U k _=>hgrow U)
 have hch:∀ T i,Chos n (s.propose p r) T i→Chos n s T i:=fun T i=>Chos.back (fun q _=>by rw [(hsame q).1];exact Nat.le_refl _) (fun q _ hi=>by
  rw [hack] at hi
  by_cases d:T=(s.pr p).term∧q=p
  ·right;rw [d.1,d.2];exact Nat.le_refl _
  ·rw [if_neg d] at hi;exact .inl hi)
 have hlc:=h.lead_cl _ _ hld
 have h1U:=(h.cl_lm p _ _ hlc.1).2.1
 have hnew:LM (s.propose p r) ((s.pr p).log++[r]) (s.pr p).term:=by
  intro i x hix
  by_cases c:i<(s.pr p).log.length
  ·rw [List.getElem?_append_left c] at hix
   have:=hlm _ _ (h.log_lm p hp) i x hix
   refine ⟨this.1,this.2.1,this.2.2.1,?_,this.2.2.2.2⟩
   rw [List.take_append_of_le_length (by omega)]
   exact this.2.2.2.1
  ·have hlen:i<((s.pr p).log++[r]).length:=by rw [List.getElem?_eq_some_iff] at hix;exact hix.1
   simp at hlen
   have:i=(s.pr p).log.length:=by omega
   subst this
   simp at hix
   subst hix
   rw [ht]
   refine ⟨h1U,Nat.le_refl _,⟨p,hld⟩,?_,hx⟩
   rw [hllog,if_pos rfl]
 refine { vote_of := ?_,vote_is := ?_,vt_term := ?_,cl_term := ?_,cl_lm := ?_,vt_cl := ?_,cand := ?_,lead_q := ?_,lead_cl := ?_,llog_none := ?_,leader := ?_,log_lm := ?_,ack_le := ?_,ack_term := ?_,acked := ?_,ackedV := ?_,whole := ?_,comm := ?_ }
 ·intro q x hq e
  rw [(hsame q).1];rw [(hsame q).2.2.2] at e;exact h.vote_of q x hq e
 ·intro q x l hq e
  rw [(hsame q).2.2.2];rw [(hsame q).1] at e;exact h.vote_is q x l hq e
 ·intro q U y hq e
  rw [(hsame q).1];exact h.vt_term q U y hq e
 ·intro q U y hq e
  rw [(hsame q).1];exact h.cl_term q U y hq e
 ·intro q U l e
  have:=h.cl_lm q U l e
  exact ⟨this.1,this.2.1,hlm _ _ this.2.2⟩
 ·intro q U x l hq e
  have:=h.vt_cl q U x l hq e
  exact ⟨hlm _ _ this.1,this.2⟩
 ·intro q hq e
  rw [(hsame q).2.1] at e
  by_cases d:q=p
  ·subst d;rw [hr] at e;cases e
  ·rw [hne q d];exact h.cand q hq e
 ·intro U k e
  have:=h.lead_q U k e
  exact ⟨this.1,by rw [(hsame k).1];exact this.2.1,this.2.2⟩
 ·intro U k e
  have:=h.lead_cl U k e
  refine ⟨?_,?_,?_,?_⟩
  ·have e2:=htake U (s.ini U) this.2.1
   show s.cl U k=some (((s.propose p r).llog U).take (s.ini U))
   rw [e2];exact this.1
  ·obtain ⟨t,e2⟩:=hgrow U
   show s.ini U≤((s.propose p r).llog U).length
   rw [e2,List.length_append];have:=this.2.1;omega
  ·intro i x h1 h2
   rw [hllog] at h2
   by_cases d:U=(s.pr p).term
   ·rw [if_pos d] at h2
    by_cases c:i<(s.pr p).log.length
    ·rw [List.getElem?_append_left c] at h2
     exact this.2.2.1 i x h1 (by rw [d,←hlg];exact h2)
    ·have hlen:i<((s.pr p).log++[r]).length:=by rw [List.getElem?_eq_some_iff] at h2;exact h2.1
     simp at hlen
     have:i=(s.pr p).log.length:=by omega
     subst this
     simp at h2
     subst h2
     rw [ht,d]
   ·rw [if_neg d] at h2
    exact this.2.2.1 i x h1 h2
  ·rw [hllog]
   by_cases d:U=(s.pr p).term
   ·rw [if_pos d,d];exact hnew
   ·rw [if_neg d];exact hlm _ _ this.2.2.2
 ·intro U e
  have:=h.llog_none U e
  rw [hllog,if_neg]
  ·exact this
  ·rintro rfl
   have e:s.lead (s.pr p).term=none:=e
   rw [hld] at e
   cases e
 ·intro q hq e
  rw [(hsame q).2.1] at e
  by_cases d:q=p
  ·subst d
   rw [hself]
   refine ⟨hld,by rw [hllog];exact (if_pos rfl).symm,fun y hy => ?_⟩
   rw [hack]
   show (if y=q then (s.pr q).log.length+1 else (s.pr q).mat y)≤_
   split
   ·next e=>rw [if_pos ⟨rfl,e⟩];exact Nat.le_refl _
   ·next e=>rw [if_neg (fun c=>e c.2)];exact hmt y hy
  ·rw [hne q d]
   have:=h.leader q hq e
   have d2:(s.pr q).term≠(s.pr p).term:=by
    intro c
    have:=this.1
    rw [c,hld] at this
    injection this with this
    exact d this.symm
   rw [hllog,if_neg d2]
   refine ⟨this.1,this.2.1,fun y hy => ?_⟩
   rw [hack,if_neg (fun c=>d2 c.1)]
   exact this.2.2 y hy
 ·intro q hq
  rw [(hsame q).1]
  by_cases d:q=p
  ·subst d;rw [hself];exact hnew
  ·rw [hne q d];exact hlm _ _ (h.log_lm q hq)
 ·intro T q
  rw [hack]
  by_cases d:T=(s.pr p).term∧q=p
  ·rw [if_pos d,hllog,if_pos d.1];simp
  ·rw [if_neg d]
   obtain ⟨t,e2⟩:=hgrow T
   rw [e2,List.length_append]
   have:=h.ack_le T q
   omega
 ·intro T q hq e
  rw [(hsame q).1]
  rw [hack] at e
  by_cases d:T=(s.pr p).term∧q=p
  ·rw [d.1,d.2];exact Nat.le_refl _
  ·rw [if_neg d] at e;exact h.ack_term T q hq e
 ·intro T q i hq h1 h2 h3
  have h1:s.ini T<i:=h1
  rw [hack] at h2
  by_cases d:T=(s.pr p).term∧q=p
  ·obtain ⟨rfl,rfl⟩:=d
   rw [hself,hllog,if_pos rfl]
  ·rw [if_neg d] at h2
   have:=h.acked T q i hq h1 h2 (hch T i h3)
   have hle:i≤(s.llog T).length:=Nat.le_trans h2 (h.ack_le T q)
   rw [htake T i hle]
   by_cases d2:q=p
   ·subst d2
    rw [hself,List.take_append_of_le_length (len_of_take this hle)]
    exact this
   ·rw [hne q d2];exact this
 ·intro T U q x l i hq h0 h00 h1 h2 h3
  have h1:s.ini T<i:=h1
  rw [hack] at h2
  by_cases d:T=(s.pr p).term∧q=p
  ·obtain ⟨rfl,rfl⟩:=d
   have:=h.vt_term q U _ hq h0
   omega
  ·rw [if_neg d] at h2
   rw [htake T i (Nat.le_trans h2 (h.ack_le T q))]
   exact h.ackedV T U q x l i hq h0 h00 h1 h2 (hch T i h3)
 ·intro T U k i h0 h00 h1 h2 h3
  have h1:s.ini T<i:=h1
  have h0:s.lead U=some k:=h0
  show i≤s.ini U∧_
  by_cases c:i≤(s.llog T).length
  ·have:=h.whole T U k i h0 h00 h1 c (hch T i h3)
   refine ⟨this.1,?_⟩
   rw [htake T i c,htake U i (Nat.le_trans this.1 (h.lead_cl U k h0).2.1)]
   exact this.2
  ·exfalso
   rw [hllog] at h2
   by_cases d:T=(s.pr p).term
   ·rw [if_pos d] at h2
    subst d
    obtain ⟨Q,hQ,hq⟩:=h3
    obtain ⟨_,_,V,hV,hv⟩:=h.lead_q U k h0
    obtain ⟨q,hqn,hq1,hq2⟩:=quorum_meet hQ hV
    obtain ⟨l,hl⟩:=hv q hqn hq2
    have hut:=h.vt_term q U _ hqn hl
    rcases hq q hqn hq1 with e | e
    ·rw [hack] at e
     by_cases d2:q=p
     ·subst d2;omega
     ·rw [if_neg (fun c=>d2 c.2)] at e
      have:=h.ack_le (s.pr p).term q
      omega
    ·rw [(hsame q).1] at e;omega
   ·rw [if_neg d] at h2;omega
 ·intro q hq
  rw [(hsame q).1,(hsame q).2.2.1]
  have hc:=h.comm q hq
  have hC:=hc.2.grow (s':=s.propose p r) (Nat.le_refl _) (fun _ _=>rfl) hgrow (fun U y hy=>by
   rw [hack]
   split
   ·next d =>
    have:=h.ack_le U y
    rw [d.1,←hlg] at this
    rw [d.1]
    omega
   ·exact Nat.le_refl _)
  by_cases d:q=p
  ·subst d
   rw [hself]
   refine ⟨by simp;omega,?_⟩
   show Comm n _ (((s.pr q).log++[r]).take _) _
   rw [List.take_append_of_le_length hc.1]
   exact hC
  ·rw [hne q d];exact ⟨hc.1,hC⟩
theorem Comm.chos {n:Nat} {s:St} {T i:Nat} (h:∃ Q,quorum n Q∧∀ q,q<n→Q q=true→i≤s.ack T q):Chos n s T i:=by
 obtain ⟨Q,hQ,h⟩:=h
 exact ⟨Q,hQ,fun q hq hQq=>.inl (h q hq hQq)⟩
theorem Inv.held {n:Nat} {s:St} (h:Inv n s) {l:List Rc} {T k:Nat} (hl:s.lead T=some k) (hc:Comm n s l T):l.length≤(s.llog T).length∧l=(s.llog T).take l.length:=by
 rcases hc with rfl | ⟨T0,i,h1,h2,h3,h4,h5,h6⟩
 ·simp
 ·by_cases d:T0=T
  ·subst d;exact ⟨by omega,h6⟩
  ·have w:=h.whole T0 T k i hl (by omega) h2 h3 (Comm.chos h4)
   have hi:=len_of_take w.2 h3
   refine ⟨by omega,?_⟩
   rw [take_le w.2 h5]
   exact h6
theorem Inv.agree {n:Nat} {s:St} (h:Inv n s) {l m:List Rc} {T U:Nat} (hl:Comm n s l T) (hm:Comm n s m U) (hle:l.length≤m.length):l=m.take l.length:=by
 rcases hl with rfl | ⟨T0,i,h1,h2,h3,h4,h5,h6⟩
 ·simp
 rcases hm with rfl | ⟨U0,j,g1,g2,g3,g4,g5,g6⟩
 ·simp at hle
  rw [hle];simp
 have key:(s.llog T0).take l.length=(s.llog U0).take l.length:=by
  rcases Nat.lt_trichotomy T0 U0 with d | d | d
  ·obtain ⟨k,hk⟩:=h.led (ne_of_len g3 (by omega))
   have w:=h.whole T0 U0 k i hk d h2 h3 (Comm.chos h4)
   exact (take_le w.2 h5).symm
  ·rw [d]
  ·obtain ⟨k,hk⟩:=h.led (ne_of_len h3 (by omega))
   have w:=h.whole U0 T0 k j hk d g2 g3 (Comm.chos g4)
   exact take_le w.2 (by omega)
 conv=>lhs;rw [h6,key]
 rw [g6,List.take_take,Nat.min_eq_left (by omega)]
def St.accept (s:St) (q e:Nat) (x:Pr):St:={ s.setP q x with ack:=fun T r=>if T=(s.pr q).term∧r=q then max (s.ack T r) e else s.ack T r }
theorem Inv.accept {n:Nat} {s:St} (h:Inv n s) {q k e C:Nat} {x:Pr} (hq:q<n) (hk:s.lead (s.pr q).term=some k) (he:e≤(s.llog (s.pr q).term).length)
  (ht:x.term=(s.pr q).term) (hv:x.vote=(s.pr q).vote) (hr:x.role=0) (hl:LM s x.log (s.pr q).term) (h1:x.log.take e=(s.llog (s.pr q).term).take e)
  (h2:∀ i,i≤(s.llog (s.pr q).term).length→(s.pr q).log.take i=(s.llog (s.pr q).term).take i→x.log.take i=(s.llog (s.pr q).term).take i)
  (hC:C≤e) (hC2:Comm n s ((s.llog (s.pr q).term).take C) (s.pr q).term) (hx:x.commit=max (s.pr q).commit C):Inv n (s.accept q e x):=by
 have hself:(s.accept q e x).pr q=x:=by show (if q=q then _ else _)=_;rw [if_pos rfl]
 have hne:∀ r,r≠q→(s.accept q e x).pr r=s.pr r:=by
  intro r hr
  show (if r=q then _ else _)=_
  rw [if_neg hr]
 have hterm:∀ r,((s.accept q e x).pr r).term=(s.pr r).term:=by
  intro r
  by_cases d:r=q
  ·subst d;rw [hself];exact ht
  ·rw [hne r d]
 have hvote:∀ r,((s.accept q e x).pr r).vote=(s.pr r).vote:=by
  intro r
  by_cases d:r=q
  ·subst d;rw [hself];exact hv
  ·rw [hne r d]
 have hack:∀ T r,(s.accept q e x).ack T r=if T=(s.pr q).term∧r=q then max (s.ack T r) e else s.ack T r:=fun _ _=>rfl
 have hge:∀ T r,s.ack T r≤(s.accept q e x).ack T r:=fun T r=>by
  rw [hack]
  split
  ·exact Nat.le_max_left _ _
  ·exact Nat.le_refl _
 have hch:∀ T i,Chos n (s.accept q e x) T i→Chos n s T i:=fun T i=>Chos.back (fun r _=>by rw [hterm r];exact Nat.le_refl _) (fun r _ hi=>by
  rw [hack] at hi
  by_cases d:T=(s.pr q).term∧r=q
  ·right;rw [d.1,d.2];exact Nat.le_refl _
  ·rw [if_neg d] at hi;exact .inl hi)
 refine { vote_of := ?_,vote_is := ?_,vt_term := ?_,cl_term := ?_,cl_lm:=h.cl_lm,vt_cl:=h.vt_cl,cand := ?_,lead_q := ?_,lead_cl:=h.lead_cl,llog_none:=h.llog_none,leader := ?_,log_lm := ?_,ack_le := ?_,ack_term := ?_,acked := ?_,ackedV := ?_,whole := ?_,comm := ?_ }
 ·intro r c hr' e'
  rw [hterm r];rw [hvote r] at e';exact h.vote_of r c hr' e'
 ·intro r c l hr' e'
  rw [hvote r];rw [hterm r] at e';exact h.vote_is r c l hr' e'
 ·intro r U y hr' e'
  rw [hterm r];exact h.vt_term r U y hr' e'
 ·intro r U y hr' e'
  rw [hterm r];exact h.cl_term r U y hr' e'
 ·intro r hr' e'
  by_cases d:r=q
  ·subst d;rw [hself,hr] at e';cases e'
  ·rw [hne r d] at e' ⊢;exact h.cand r hr' e'
 ·intro U c e'
  have:=h.lead_q U c e'
  exact ⟨this.1,by rw [hterm c];exact this.2.1,this.2.2⟩
 ·intro r hr' e'
  by_cases d:r=q
  ·subst d;rw [hself,hr] at e';cases e'
  ·rw [hne r d] at e' ⊢
   have:=h.leader r hr' e'
   exact ⟨this.1,this.2.1,fun y hy=>Nat.le_trans (this.2.2 y hy) (hge _ _)⟩
 ·intro r hr'
  rw [hterm r]
  by_cases d:r=q
  ·subst d;rw [hself];exact hl
  ·rw [hne r d];exact h.log_lm r hr'
 ·intro T r
  rw [hack]
  show _≤(s.llog T).length
  split
  ·next d =>
   have:=h.ack_le T r
   rw [d.1] at this ⊢
   omega
  ·exact h.ack_le T r
 ·intro T r hr' e'
  rw [hterm r]
  rw [hack] at e'
  by_cases d:T=(s.pr q).term∧r=q
  ·rw [d.1,d.2];exact Nat.le_refl _
  ·rw [if_neg d] at e';exact h.ack_term T r hr' e'
 ·intro T r i hr' g1 g2 g3
  have g1:s.ini T<i:=g1
  show _=(s.llog T).take i
  rw [hack] at g2
  by_cases d:r=q
  ·subst d
   rw [hself]
   by_cases d2:T=(s.pr r).term
   ·subst d2
    rw [if_pos ⟨rfl,rfl⟩] at g2
    by_cases c:i≤e
    ·exact take_le h1 c
    ·have g4:i≤s.ack (s.pr r).term r:=by omega
     exact h2 i (Nat.le_trans g4 (h.ack_le _ _)) (h.acked _ r i hr' g1 g4 (hch _ i g3))
   ·rw [if_neg (fun c=>d2 c.1)] at g2
    have o:=h.acked T r i hr' g1 g2 (hch T i g3)
    have hT:=h.ack_term T r hr' (by omega)
    have hlen:=Nat.le_trans g2 (h.ack_le T r)
    have w:=h.whole T _ k i hk (by omega) g1 hlen (hch T i g3)
    have hlen2:=len_of_take w.2 hlen
    rw [←w.2]
    exact h2 i hlen2 (o.trans w.2.symm)
  ·rw [if_neg (fun c=>d c.2)] at g2
   rw [hne r d]
   exact h.acked T r i hr' g1 g2 (hch T i g3)
 ·intro T U r c l i hr' g0 g00 g1 g2 g3
  have g1:s.ini T<i:=g1
  rw [hack] at g2
  by_cases d:T=(s.pr q).term∧r=q
  ·have:=h.vt_term r U _ hr' g0
   rw [d.2] at this
   omega
  ·rw [if_neg d] at g2
   exact h.ackedV T U r c l i hr' g0 g00 g1 g2 (hch T i g3)
 ·intro T U c i g0 g00 g1 g2 g3
  exact h.whole T U c i g0 g00 g1 g2 (hch T i g3)
 ·intro r hr'
  rw [hterm r]
  have grow:∀ l T,Comm n s l T→Comm n (s.accept q e x) l T:=fun l T hl=>hl.grow (Nat.le_refl _) (fun _ _=>rfl) (fun U=>⟨[],by simp [St.accept,St.setP]⟩) (fun U y _=>hge U y)
  by_cases d:r=q
  ·subst d
   rw [hself,hx]
   have hc:=h.comm r hr'
   have hh:=h.held hk hc.2
   have hlen:((s.pr r).log.take (s.pr r).commit).length=(s.pr r).commit:=by rw [List.length_take];exact Nat.min_eq_left hc.1
   rw [hlen] at hh
   have h3:=h2 (s.pr r).commit hh.1 hh.2
   rcases Nat.le_total (s.pr r).commit C with c | c
   ·rw [Nat.max_eq_right c]
    have h4:=take_le h1 hC
    have h5:=len_of_take h4 (by omega)
    rw [h4]
    exact ⟨h5,grow _ _ hC2⟩
   ·rw [Nat.max_eq_left c]
    refine ⟨len_of_take h3 hh.1,?_⟩
    rw [h3,←hh.2]
    exact grow _ _ hc.2
  ·rw [hne r d];exact ⟨(h.comm r hr').1,grow _ _ (h.comm r hr').2⟩
def St.begin:St:=⟨fun _=>⟨0,0,0,0,[],fun _=>false,fun _=>0⟩,fun _=>none,fun _=>[],fun _=>0,fun _ _=>0,fun _ _=>none,fun _ _=>none⟩
theorem Inv.begin (n:Nat):Inv n St.begin where
 vote_of:=fun p c _ e=>by cases e
 vote_is:=fun p c l _ e=>by cases e
 vt_term:=fun p U x _ e=>by cases e
 cl_term:=fun p U x _ e=>by cases e
 cl_lm:=fun p U l e=>by cases e
 vt_cl:=fun q U c l _ e=>by cases e
 cand:=fun p _ e=>by cases e
 lead_q:=fun U k e=>by cases e
 lead_cl:=fun U k e=>by cases e
 llog_none:=fun _ _=>rfl
 leader:=fun p _ e=>by cases e
 log_lm:=fun p _ i r e=>by simp [St.begin] at e
 ack_le:=fun _ _=>Nat.le_refl _
 ack_term:=fun T q _ e=>by cases e
 acked:=fun T q i _ h1 h2 _=>by have h2:i≤0:=h2;omega
 ackedV:=fun T U q c l i _ e=>by cases e
 whole:=fun T U k i e=>by cases e
 comm:=fun p _=>⟨Nat.le_refl _,.inl rfl⟩
end Go.Proofs.YtcfdmbkiinjmaaaGreat.Raft
namespace Go.Proofs.YtcfdmbkiinjmaaaGreat.Raft
structure Peer where
 up:Bool
 term:Nat
 vote:Nat
 commit:Nat
 role:Nat
 log:List Rc
 votes:List Bool
 next:List Nat
 mat:List Nat
structure Msg where
 kind:Nat
 frm:Nat
 «to» : Nat
 term:Nat
 a:Nat
 b:Nat
 c:Nat
 ok:Bool
 log:List Rc
structure Cl where
 peers:List Peer
 net:List Msg
 chosen:List Rc
 conflict:Bool
def Peer.zero:Peer:=⟨false,0,0,0,0,[],[],[],[]⟩
def Cl.at (c:Cl) (k:Nat):Peer:=c.peers.getD k Peer.zero
def Cl.put (c:Cl) (k:Nat) (p:Peer):Cl:={ c with peers:=c.peers.set k p }
def Cl.send (c:Cl) (m:Msg):Cl:=if c.net.length<200 then { c with net:=c.net++[m] } else c
def termAt (l:List Rc) (i:Nat):Nat:=if i=0 then 0 else match l[i-1]? with
 | some r=>r.term
 | none=>0
def Cl.down (c:Cl) (k T:Nat):Cl :=
 let p:=c.at k
 c.put k { p with term:=max p.term T,vote:=if p.term<T then 0 else p.vote,role:=0,votes:=[],next:=[],mat:=[] }
def Cl.records (c:Cl) (k «to» : Nat):Cl :=
 let p:=c.at k
 let x:=p.next.getD «to» 0
 c.send ⟨3,k,«to»,p.term,x-1,termAt p.log (x-1),p.commit,false,p.log.drop (x-1)⟩
def others (n k:Nat):List Nat:=(List.range n).filter (· ≠ k)
def Cl.toAll (c:Cl) (k:Nat):Cl:=(others c.peers.length k).foldl (fun c i=>c.records k i) c
def Cl.note (c:Cl) (k:Nat):Cl :=
 let l:=(c.at k).log.take (c.at k).commit
 { c with chosen:=c.chosen++l.drop c.chosen.length,conflict:=c.conflict || decide (l.take c.chosen.length≠c.chosen.take l.length) }
def most (n:Nat):Nat:=n / 2+1
def reach (p:Peer) (n:Nat):Nat→Nat
 | 0=>p.commit
 | i+1=>if i+1≤p.commit then p.commit else if most n≤p.mat.countP (fun m=>decide (i+1≤m))∧termAt p.log (i+1)=p.term then i+1 else reach p n i
def Cl.commits (c:Cl) (k:Nat):Cl :=
 let p:=c.at k
 (c.put k { p with commit:=reach p c.peers.length p.log.length }).note k
def Cl.elected (c:Cl) (k:Nat):Cl :=
 let p:=c.at k
 let n:=c.peers.length
 if p.role=1∧most n≤p.votes.countP id then
  ((c.put k { p with role:=2,votes:=[],next:=List.replicate n (p.log.length+1),mat:=(List.replicate n 0).set k p.log.length }).commits k).toAll k
 else c
def Cl.tick (c:Cl) (k:Nat):Cl :=
 let p:=c.at k
 let n:=c.peers.length
 if p.role=2 then c.toAll k else if p.term=1000000 then c else
  let q:={ p with term:=p.term+1,vote:=k+1,role:=1,votes:=(List.replicate n false).set k true }
  ((others n k).foldl (fun c i=>c.send ⟨1,k,i,q.term,q.log.length,lastTerm q.log,0,false,[]⟩) (c.put k q)).elected k
def merge (l:List Rc) (a:Nat):List Rc→List Rc
 | []=>l
 | r::rs =>
  let m:=if a<l.length∧termAt l (a+1)≠r.term then l.take a else l
  merge (if a=m.length then m++[r] else m) (a+1) rs
def Cl.appended (c:Cl) (m:Msg):Cl :=
 let p:=c.at m.to
 if m.term<p.term then c.send ⟨4,m.to,m.frm,p.term,0,0,0,false,[]⟩ else
  let c:=c.down m.to m.term
  let p:=c.at m.to
  if p.log.length<m.a∨termAt p.log m.a≠m.b then c.send ⟨4,m.to,m.frm,p.term,min (m.a-1) p.log.length,0,0,false,[]⟩ else
   let e:=m.a+m.log.length
   ((c.put m.to { p with log:=merge p.log m.a m.log,commit:=max p.commit (min m.c e) }).note m.to).send ⟨4,m.to,m.frm,p.term,e,0,0,true,[]⟩
def Cl.deliver (c:Cl) (m:Msg):Cl :=
 if (c.at m.to).up=false then c else
  let c:=if (c.at m.to).term<m.term then c.down m.to m.term else c
  let p:=c.at m.to
  if m.kind=1 then
   let ok:=decide (m.term=p.term∧(p.vote=0∨p.vote=m.frm+1)∧(lastTerm p.log<m.b∨m.b=lastTerm p.log∧p.log.length≤m.a))
   (if ok then c.put m.to { p with vote:=m.frm+1 } else c).send ⟨2,m.to,m.frm,p.term,0,0,0,ok,[]⟩
  else if m.kind=2 then
   if m.term=p.term∧p.role=1∧m.ok=true then (c.put m.to { p with votes:=p.votes.set m.frm true }).elected m.to else c
  else if m.kind=3 then c.appended m
  else if m.kind=4 then
   if m.term≠p.term∨p.role≠2 then c
   else if m.ok then (c.put m.to { p with mat:=p.mat.set m.frm (max (p.mat.getD m.frm 0) m.a),next:=p.next.set m.frm (max (p.next.getD m.frm 0) (m.a+1)) }).commits m.to
   else if m.a+1<p.next.getD m.frm 0 then (c.put m.to { p with next:=p.next.set m.frm (max (p.mat.getD m.frm 0+1) (m.a+1)) }).records m.to m.frm
   else c
  else c
structure Ev where
 kind:Int
 n:Int
 data:List Int
def Cl.event (c:Cl) (e:Ev):Cl×Int :=
 if e.kind=2∨e.kind=3∨e.kind=4 then
  if e.n<0∨(c.net.length:Int)≤e.n then (c,6) else
   match c.net[e.n.toNat]? with
   | none=>(c,6)
   | some m =>
    if e.kind=2 then (({ c with net:=c.net.eraseIdx e.n.toNat }:Cl).deliver m,0)
    else if e.kind=3 then ({ c with net:=c.net.eraseIdx e.n.toNat },0)
    else (c.send m,0)
 else if e.kind=1∨e.kind=5∨e.kind=6∨e.kind=7 then
  if e.n<0∨(c.peers.length:Int)≤e.n then (c,6) else
   let k:=e.n.toNat
   let p:=c.at k
   if p.up=decide (e.kind=6) then (c,15)
   else if e.kind=1 then (c.tick k,0)
   else if e.kind=5 then (c.put k ⟨false,p.term,p.vote,0,0,p.log,[],[],[]⟩,0)
   else if e.kind=6 then (c.put k { p with up:=true },0)
   else if p.role≠2 then (c,15)
   else if 1000<e.data.length∨p.log.length=100 then (c,14)
   else ((c.put k { p with log:=p.log++[⟨p.term,p.log.length+1,e.data⟩],mat:=p.mat.set k (p.log.length+1) }).commits k,0)
 else (c,3)
def Cl.begin (n:Nat):Cl:=⟨List.replicate n { Peer.zero with up:=true },[],[],false⟩
def Peer.abs (p:Peer):Pr:=⟨p.term,p.vote,p.commit,p.role,p.log,fun q=>p.votes.getD q false,fun q=>p.mat.getD q 0⟩
structure Ext (s s':St):Prop where
 cl:∀ U p x,s.cl U p=some x→s'.cl U p=some x
 vt:∀ U p x,s.vt U p=some x→s'.vt U p=some x
 lead:∀ U k,s.lead U=some k→s'.lead U=some k
 llog:∀ U,∃ t,s'.llog U=s.llog U++t
 ini:∀ U,s.llog U≠[]→s'.ini U=s.ini U
 ack:∀ U q,s.ack U q≤s'.ack U q
theorem Ext.refl (s:St):Ext s s:=⟨fun _ _ _ h=>h,fun _ _ _ h=>h,fun _ _ h=>h,fun _=>⟨[],by simp⟩,fun _ _=>rfl,fun _ _=>Nat.le_refl _⟩
theorem Ext.setP (s:St) (p:Nat) (x:Pr):Ext s (s.setP p x):=⟨fun _ _ _ h=>h,fun _ _ _ h=>h,fun _ _ h=>h,fun _=>⟨[],by simp [St.setP]⟩,fun _ _=>rfl,fun _ _=>Nat.le_refl _⟩
theorem Ext.comm {n:Nat} {s s':St} (h:Ext s s') {l:List Rc} {T:Nat} (hc:Comm n s l T):Comm n s' l T:=hc.grow (Nat.le_refl _) h.ini h.llog (fun U q _=>h.ack U q)
theorem Ext.take {s s':St} (h:Ext s s') {T i:Nat} (hi:i≤(s.llog T).length):(s'.llog T).take i=(s.llog T).take i:=by
 obtain ⟨t,e⟩:=h.llog T
 rw [e,List.take_append_of_le_length hi]
theorem Ext.length {s s':St} (h:Ext s s') (T:Nat):(s.llog T).length≤(s'.llog T).length:=by
 obtain ⟨t,e⟩:=h.llog T
 rw [e,List.length_append];omega
theorem termAt_take {l m:List Rc} {i:Nat} (h:l.take i=m.take i):termAt l i=termAt m i:=by
 unfold termAt
 by_cases c:i=0
 ·rw [if_pos c,if_pos c]
 ·rw [if_neg c,if_neg c,get_take h (by omega)]
structure MsgOK (n:Nat) (s:St) (m:Msg):Prop where
 frm:m.frm<n
 «to» : m.to<n
 ne:m.frm≠m.to
 ask:m.kind=1→∃ l,s.cl m.term m.frm=some l∧m.a=l.length∧m.b=lastTerm l
 vote:m.kind=2→m.ok=true→∃ l,s.vt m.term m.frm=some (m.to,l)
 recs:m.kind=3→s.lead m.term=some m.frm∧m.a+m.log.length≤(s.llog m.term).length∧m.b=termAt (s.llog m.term) m.a∧m.log=((s.llog m.term).take (m.a+m.log.length)).drop m.a∧m.c≤(s.llog m.term).length∧Comm n s ((s.llog m.term).take m.c) m.term
 acked:m.kind=4→m.ok=true→m.a≤s.ack m.term m.frm∧s.lead m.term=some m.to
theorem MsgOK.ext {n:Nat} {s s':St} {m:Msg} (h:MsgOK n s m) (e:Ext s s'):MsgOK n s' m where
 frm:=h.frm
 «to» := h.to
 ne:=h.ne
 ask:=fun k=>by
  obtain ⟨l,h1,h2⟩:=h.ask k
  exact ⟨l,e.cl _ _ _ h1,h2⟩
 vote:=fun k o=>by
  obtain ⟨l,h1⟩:=h.vote k o
  exact ⟨l,e.vt _ _ _ h1⟩
 recs:=fun k=>by
  obtain ⟨h1,h2,h3,h4,h5,h6⟩:=h.recs k
  refine ⟨e.lead _ _ h1,Nat.le_trans h2 (e.length _),?_,?_,Nat.le_trans h5 (e.length _),?_⟩
  ·rw [h3];exact termAt_take (e.take (by omega)).symm
  ·rw [e.take h2];exact h4
  ·rw [e.take h5];exact e.comm h6
 acked:=fun k o=>⟨Nat.le_trans (h.acked k o).1 (e.ack _ _),e.lead _ _ (h.acked k o).2⟩
structure WF (n:Nat) (p:Peer):Prop where
 votes:p.role=1→p.votes.length=n
 lists:p.role=2→p.next.length=n∧p.mat.length=n∧∀ q,q<n→1≤p.next.getD q 0∧p.next.getD q 0≤p.log.length+1
structure Rel (n:Nat) (c:Cl) (s:St):Prop where
 inv:Inv n s
 len:c.peers.length=n
 abs:∀ p,p<n→s.pr p=(c.at p).abs
 wf:∀ p,p<n→WF n (c.at p)
 msgs:∀ m,m∈c.net→MsgOK n s m
 chosen:∃ T,Comm n s c.chosen T
 clash:c.conflict=false
def Cov (n:Nat) (c:Cl):Prop:=∀ p,p<n→(c.at p).commit≤c.chosen.length
theorem at_put (c:Cl) (k:Nat) (p:Peer) (h:k<c.peers.length):(c.put k p).at k=p:=by simp [Cl.at,Cl.put,List.getD,h]
theorem at_put_ne (c:Cl) {k q:Nat} (p:Peer) (h:q≠k):(c.put k p).at q=c.at q:=by simp [Cl.at,Cl.put,List.getD,h.symm]
theorem Rel.move {n:Nat} {c:Cl} {s s':St} (h:Rel n c s) {k:Nat} {p:Peer} (hk:k<n) (hi:Inv n s') (he:Ext s s') (hp:s'.pr k=p.abs) (hq:∀ q,q≠k→s'.pr q=s.pr q) (hw:WF n p):Rel n (c.put k p) s' where
 inv:=hi
 len:=by simp [Cl.put];exact h.len
 abs:=fun q hqn=>by
  by_cases d:q=k
  ·subst d;rw [at_put c q p (by rw [h.len];exact hk)];exact hp
  ·rw [at_put_ne c p d,hq q d];exact h.abs q hqn
 wf:=fun q hqn=>by
  by_cases d:q=k
  ·subst d;rw [at_put c q p (by rw [h.len];exact hk)];exact hw
  ·rw [at_put_ne c p d];exact h.wf q hqn
 msgs:=fun m hm=>(h.msgs m hm).ext he
 chosen:=by
  obtain ⟨T,hT⟩:=h.chosen
  exact ⟨T,he.comm hT⟩
 clash:=h.clash
theorem send_at (c:Cl) (m:Msg) (k:Nat):(c.send m).at k=c.at k:=by unfold Cl.send;split <;> rfl
theorem send_peers (c:Cl) (m:Msg):(c.send m).peers=c.peers:=by unfold Cl.send;split <;> rfl
theorem send_chosen (c:Cl) (m:Msg):(c.send m).chosen=c.chosen∧(c.send m).conflict=c.conflict:=by unfold Cl.send;split <;> exact ⟨rfl,rfl⟩
theorem Rel.send {n:Nat} {c:Cl} {s:St} (h:Rel n c s) {m:Msg} (hm:MsgOK n s m):Rel n (c.send m) s where
 inv:=h.inv
 len:=by rw [send_peers];exact h.len
 abs:=fun p hp=>by rw [send_at];exact h.abs p hp
 wf:=fun p hp=>by rw [send_at];exact h.wf p hp
 msgs:=fun x hx=>by
  unfold Cl.send at hx
  split at hx
  ·rcases List.mem_append.1 hx with hx | hx
   ·exact h.msgs x hx
   ·rw [List.mem_singleton.1 hx];exact hm
  ·exact h.msgs x hx
 chosen:=by rw [(send_chosen c m).1];exact h.chosen
 clash:=by rw [(send_chosen c m).2];exact h.clash
theorem Cov.send {n:Nat} {c:Cl} (h:Cov n c) (m:Msg):Cov n (c.send m):=fun p hp=>by rw [send_at,(send_chosen c m).1];exact h p hp
theorem Cov.put {n:Nat} {c:Cl} (h:Cov n c) {k:Nat} {p:Peer} (hc:p.commit≤(c.at k).commit) (hk:k<n) (hl:c.peers.length=n):Cov n (c.put k p):=fun q hq=>by
 show ((c.put k p).at q).commit≤c.chosen.length
 by_cases d:q=k
 ·subst d
  rw [at_put c q p (by omega)]
  exact Nat.le_trans hc (h q hq)
 ·rw [at_put_ne c p d];exact h q hq
theorem Rel.lower {n:Nat} {c:Cl} {s:St} (h:Rel n c s) {k:Nat} {p:Peer} (hk:k<n) (ht:(c.at k).term≤p.term) (hl:p.log=(c.at k).log) (hc:p.commit≤(c.at k).commit)
  (hv:(p.term=(c.at k).term∧p.vote=(c.at k).vote)∨((c.at k).term<p.term∧p.vote=0)) (hr:p.role=0):Rel n (c.put k p) (s.setP k p.abs):=by
 have e:=h.abs k hk
 refine h.move hk (h.inv.setP ?_ ?_ (.inl ?_) (fun _ => ?_) (fun _=>.inl ?_)) (Ext.setP _ _ _) (setP_self _ _ _) (fun q hq=>setP_ne _ _ hq) ⟨fun x=>by (rw [hr] at x;cases x),fun x=>by (rw [hr] at x;cases x)⟩
 ·rw [e];exact ht
 ·rw [e];exact hl
 ·rw [e];exact hc
 ·rw [e];exact hv
 ·exact ⟨by show p.role≠1;omega,by show p.role≠2;omega⟩
theorem Rel.note {n:Nat} {c:Cl} {s:St} (h:Rel n c s) {k:Nat} (hk:k<n) (hc:∀ p,p<n→p≠k→(c.at p).commit≤c.chosen.length):Rel n (c.note k) s∧Cov n (c.note k):=by
 obtain ⟨T,hT⟩:=h.chosen
 have e:=h.abs k hk
 have hm:=h.inv.comm k hk
 rw [e] at hm
 have hlen:((c.at k).log.take (c.at k).commit).length=(c.at k).commit:=by rw [List.length_take];exact Nat.min_eq_left hm.1
 have hm2:Comm n s ((c.at k).log.take (c.at k).commit) (c.at k).term:=hm.2
 have hnew:∃ T,Comm n s (c.chosen++((c.at k).log.take (c.at k).commit).drop c.chosen.length) T:=by
  rcases Nat.le_total c.chosen.length ((c.at k).log.take (c.at k).commit).length with d | d
  ·have:=h.inv.agree hT hm2 d
   refine ⟨(c.at k).term,?_⟩
   have e3:c.chosen++((c.at k).log.take (c.at k).commit).drop c.chosen.length=(c.at k).log.take (c.at k).commit:=(congrArg (· ++ ((c.at k).log.take (c.at k).commit).drop c.chosen.length) this).trans (List.take_append_drop _ _)
   rw [e3]
   exact hm2
  ·rw [List.drop_eq_nil_of_le d,List.append_nil];exact ⟨T,hT⟩
 have hcl:((c.at k).log.take (c.at k).commit).take c.chosen.length=c.chosen.take ((c.at k).log.take (c.at k).commit).length:=by
  rcases Nat.le_total c.chosen.length ((c.at k).log.take (c.at k).commit).length with d | d
  ·rw [←h.inv.agree hT hm2 d,List.take_of_length_le d]
  ·rw [←h.inv.agree hm2 hT d,List.take_of_length_le d]
 refine ⟨⟨h.inv,h.len,h.abs,h.wf,h.msgs,hnew,?_⟩,fun p hp => ?_⟩
 ·show (c.conflict || decide _)=false
  rw [h.clash,hcl];simp
 ·show (c.at p).commit≤(c.chosen++_).length
  rw [List.length_append,List.length_drop,hlen]
  by_cases d:p=k
  ·subst d;omega
  ·have:=hc p hp d;omega
theorem count_getD {α:Type} (f:α→Bool) (d:α):∀ l:List α,l.countP f=(List.range l.length).countP (fun q=>f (l.getD q d))
 | []=>rfl
 | x::l=>by
  rw [List.countP_cons,List.length_cons,List.range_succ_eq_map,List.countP_cons,List.countP_map,count_getD f d l]
  rfl
theorem Rel.records {n:Nat} {c:Cl} {s:St} (h:Rel n c s) {k «to» : Nat} (hk:k<n) (ht : «to» < n) (hne : «to» ≠ k) (hr:(c.at k).role=2):Rel n (c.records k «to») s:=by
 have e:=h.abs k hk
 have hl:=h.inv.leader k hk (by rw [e];exact hr)
 have hc:=h.inv.comm k hk
 rw [e] at hl hc
 have hl1:s.lead (c.at k).term=some k:=hl.1
 have hl2:(c.at k).log=s.llog (c.at k).term:=hl.2.1
 have hw:=((h.wf k hk).lists hr).2.2 «to» ht
 have hlen:(s.llog (c.at k).term).length=(c.at k).log.length:=by rw [hl2]
 refine h.send ⟨hk,ht,hne.symm,fun x=>(by cases x),fun x=>(by cases x),fun _ => ?_,fun x=>(by cases x)⟩
 have hsum:(c.at k).next.getD «to» 0-1+((c.at k).log.drop ((c.at k).next.getD «to» 0-1)).length=(c.at k).log.length:=by rw [List.length_drop];omega
 refine ⟨hl1,?_,?_,?_,?_,?_⟩
 ·show _+((c.at k).log.drop _).length≤(s.llog (c.at k).term).length
  rw [hsum,hlen];exact Nat.le_refl _
 ·show termAt (c.at k).log _=termAt (s.llog (c.at k).term) _
  rw [←hl2]
 ·show (c.at k).log.drop _=((s.llog (c.at k).term).take (_+((c.at k).log.drop _).length)).drop _
  rw [hsum,←hl2,List.take_of_length_le (Nat.le_refl _)]
 ·show (c.at k).commit≤(s.llog (c.at k).term).length
  rw [hlen];exact hc.1
 ·show Comm n s ((s.llog (c.at k).term).take (c.at k).commit) (c.at k).term
  rw [←hl2];exact hc.2
theorem records_at (c:Cl) (k «to» q:Nat):(c.records k «to»).at q=c.at q:=send_at _ _ _
theorem records_peers (c:Cl) (k «to» : Nat):(c.records k «to»).peers=c.peers:=send_peers _ _
theorem Rel.fold {n:Nat} {s:St} {k:Nat} (hk:k<n):∀ (l:List Nat) (c:Cl),(∀ i∈l,i<n∧i≠k)→Rel n c s→Cov n c→(c.at k).role=2→Rel n (l.foldl (fun c i=>c.records k i) c) s∧Cov n (l.foldl (fun c i=>c.records k i) c)
 | [],c,_,h,hc,_=>⟨h,hc⟩
 | i::l,c,hl,h,hc,hr=>by
  have:=hl i List.mem_cons_self
  exact Rel.fold hk l (c.records k i) (fun j hj=>hl j (List.mem_cons_of_mem _ hj)) (h.records hk this.1 this.2 hr) (hc.send _) (by rw [records_at];exact hr)
theorem mem_others {n k i:Nat} (h:i∈others n k):i<n∧i≠k:=by
 unfold others at h
 simp at h
 exact h
theorem Rel.toAll {n:Nat} {c:Cl} {s:St} (h:Rel n c s) (hc:Cov n c) {k:Nat} (hk:k<n) (hr:(c.at k).role=2):Rel n (c.toAll k) s∧Cov n (c.toAll k) :=
 Rel.fold hk _ c (fun i hi=>by have:=mem_others hi;rw [h.len] at this;exact this) h hc hr
theorem reach_spec (p:Peer) (n:Nat):∀ i,reach p n i=p.commit∨(p.commit<reach p n i∧reach p n i≤i∧most n≤p.mat.countP (fun m=>decide (reach p n i≤m))∧termAt p.log (reach p n i)=p.term)
 | 0=>.inl rfl
 | i+1=>by
  unfold reach
  split
  ·exact .inl rfl
  ·next h1 =>
   split
   ·next h2=>exact .inr ⟨by omega,Nat.le_refl _,h2.1,h2.2⟩
   ·rcases reach_spec p n i with h | h
    ·exact .inl h
    ·exact .inr ⟨h.1,by omega,h.2.2⟩
theorem Rel.commits {n:Nat} {c:Cl} {s:St} (h:Rel n c s) (hc:Cov n c) {k:Nat} (hk:k<n) (hr:(c.at k).role=2):∃ s',Rel n (c.commits k) s'∧Cov n (c.commits k)∧((c.commits k).at k).role=2:=by
 have e:=h.abs k hk
 have hl:=h.inv.leader k hk (by rw [e];exact hr)
 have hcm:=h.inv.comm k hk
 rw [e] at hl hcm
 have hl1:s.lead (c.at k).term=some k:=hl.1
 have hl2:(c.at k).log=s.llog (c.at k).term:=hl.2.1
 have hl3:∀ q,q<n→(c.at k).mat.getD q 0≤s.ack (c.at k).term q:=hl.2.2
 have hw:=h.wf k hk
 have hcm1:(c.at k).commit≤(c.at k).log.length:=hcm.1
 have hnew:reach (c.at k) c.peers.length (c.at k).log.length≤(c.at k).log.length∧Comm n s ((c.at k).log.take (reach (c.at k) c.peers.length (c.at k).log.length)) (c.at k).term:=by
  rcases reach_spec (c.at k) c.peers.length (c.at k).log.length with d | ⟨d1,d2,d3,d4⟩
  ·rw [d];exact hcm
  ·refine ⟨d2,.inr ⟨(c.at k).term,reach (c.at k) c.peers.length (c.at k).log.length,Nat.le_refl _,?_,by rw [←hl2];exact d2,⟨fun q=>decide (reach (c.at k) c.peers.length (c.at k).log.length≤(c.at k).mat.getD q 0),?_,?_⟩,by rw [List.length_take];exact Nat.min_le_left _ _,?_⟩⟩
   ·unfold termAt at d4
    rw [if_neg (by omega)] at d4
    obtain ⟨r,hr0⟩:∃ r,(c.at k).log[reach (c.at k) c.peers.length (c.at k).log.length-1]?=some r:=⟨_,List.getElem?_eq_getElem (by omega)⟩
    rw [hr0] at d4
    have:=h.inv.before hl1 (by rw [←hl2];exact hr0) d4
    omega
   ·unfold quorum
    rw [count_getD _ 0,(hw.lists hr).2.1,h.len] at d3
    rw [h.len]
    exact d3
   ·intro q hq hQ
    exact Nat.le_trans (by simpa using hQ) (hl3 q hq)
   ·rw [List.length_take,Nat.min_eq_left d2,←hl2]
 have hrel:Rel n (c.put k { c.at k with commit:=reach (c.at k) c.peers.length (c.at k).log.length }) (s.setP k { c.at k with commit:=reach (c.at k) c.peers.length (c.at k).log.length:Peer }.abs):=by
  refine h.move hk (h.inv.setP (by rw [e];exact Nat.le_refl _) (by rw [e];rfl) (.inr hnew) (fun _=>.inl (by rw [e];exact ⟨rfl,rfl⟩)) (fun _=>.inr ⟨by rw [e];rfl,by rw [e];rfl,fun x => ?_,fun _ => ?_⟩)) (Ext.setP _ _ _) (setP_self _ _ _) (fun q hq=>setP_ne _ _ hq) ⟨hw.votes,hw.lists⟩
  ·have x:(c.at k).role=1:=x
   rw [hr] at x;cases x
  ·exact hl3
 have hp:c.peers.length=n:=h.len
 have:=hrel.note hk (fun p hpn hne=>by rw [at_put_ne _ _ hne];exact hc p hpn)
 refine ⟨_,this.1,this.2,?_⟩
 show (Cl.at (c.put k _) k).role=2
 rw [at_put c k _ (by omega)]
 exact hr
theorem Inv.fresh {n:Nat} {s:St} (h:Inv n s) {p:Nat} (hp:p<n) (hr:(s.pr p).role=1) (hQ:quorum n (s.pr p).votes):s.lead (s.pr p).term=none:=by
 obtain ⟨hcl,hnl,hvs⟩:=h.cand p hp hr
 cases e:s.lead (s.pr p).term with
 | none=>rfl
 | some k =>
  obtain ⟨_,_,Q,h3,h4⟩:=h.lead_q _ k e
  obtain ⟨q,hq,h5,h6⟩:=quorum_meet hQ h3
  obtain ⟨l,hl⟩:=hvs q hq h5
  obtain ⟨l',hl'⟩:=h4 q hq h6
  rw [hl] at hl'
  injection hl' with hl'
  injection hl' with hl' _
  subst hl'
  exact absurd e hnl
theorem Ext.elect {n:Nat} {s:St} (h:Inv n s) {p:Nat} (hp:p<n) (hr:(s.pr p).role=1) (hQ:quorum n (s.pr p).votes):Ext s (s.elect p):=by
 have hnone:=h.fresh hp hr hQ
 have hll:=h.llog_none _ hnone
 refine ⟨fun _ _ _ x=>x,fun _ _ _ x=>x,fun U k e => ?_,fun U => ?_,fun U hU => ?_,fun U q => ?_⟩
 ·show (if U=(s.pr p).term then some p else s.lead U)=some k
  rw [if_neg];exact e;rintro rfl;rw [hnone] at e;cases e
 ·show ∃ t,(if U=(s.pr p).term then (s.pr p).log else s.llog U)=s.llog U++t
  by_cases d:U=(s.pr p).term
  ·rw [if_pos d,d,hll];exact ⟨_,rfl⟩
  ·rw [if_neg d];exact ⟨[],by simp⟩
 ·show (if U=(s.pr p).term then (s.pr p).log.length else s.ini U)=s.ini U
  rw [if_neg];rintro rfl;exact hU hll
 ·show s.ack U q≤(if U=(s.pr p).term∧q=p then (s.pr p).log.length else s.ack U q)
  split
  ·next d =>
   have:=h.ack_le U q
   rw [d.1,hll] at this
   rw [d.1]
   simp at this
   omega
  ·exact Nat.le_refl _
theorem Rel.elected {n:Nat} {c:Cl} {s:St} (h:Rel n c s) (hc:Cov n c) {k:Nat} (hk:k<n):∃ s',Rel n (c.elected k) s'∧Cov n (c.elected k):=by
 unfold Cl.elected
 by_cases d:(c.at k).role=1∧most c.peers.length≤(c.at k).votes.countP id
 ·simp only [if_pos d]
  have e:=h.abs k hk
  have hr:(s.pr k).role=1:=by rw [e];exact d.1
  have hQ:quorum n (s.pr k).votes:=by
   rw [e]
   have:=d.2
   rw [count_getD _ false,(h.wf k hk).votes d.1,h.len] at this
   exact this
  have hlen:=h.len
  have hrel:Rel n (c.put k { c.at k with role:=2,votes:=[],next:=List.replicate c.peers.length ((c.at k).log.length+1),mat:=(List.replicate c.peers.length 0).set k (c.at k).log.length }) (s.elect k):=by
   refine h.move hk (h.inv.elect hk hr hQ) (Ext.elect h.inv hk hr hQ) ?_ (fun q hq => ?_) ⟨fun x=>(by cases x),fun _=>⟨by simp [hlen],by simp [hlen],fun q hq => ?_⟩⟩
   ·show (if k=k then _ else _)=_
    rw [if_pos rfl,e]
    show Pr.mk _ _ _ _ _ _ _=Pr.mk _ _ _ _ _ _ _
    congr 1
    funext q
    show (if q=k then (c.at k).log.length else 0)=((List.replicate c.peers.length 0).set k (c.at k).log.length).getD q 0
    by_cases d2:q=k
    ·subst d2
     rw [if_pos rfl]
     simp [List.getD,hlen,hk]
    ·rw [if_neg d2]
     simp only [List.getD,List.getElem?_set_ne (Ne.symm d2),List.getElem?_replicate]
     split <;> rfl
   ·show (if q=k then _ else _)=_
    rw [if_neg hq]
   ·simp [List.getD,hlen,hq]
  have hcov:Cov n (c.put k { c.at k with role:=2,votes:=[],next:=List.replicate c.peers.length ((c.at k).log.length+1),mat:=(List.replicate c.peers.length 0).set k (c.at k).log.length }):=hc.put (Nat.le_refl _) hk hlen
  obtain ⟨s',h1,h2,h3⟩:=hrel.commits hcov hk (by rw [at_put c k _ (by omega)])
  exact ⟨s',h1.toAll h2 hk h3⟩
 ·simp only [if_neg d]
  exact ⟨s,h,hc⟩
theorem Ext.stand {n:Nat} {s:St} (h:Inv n s) {p:Nat} (hp:p<n):Ext s (s.stand p):=by
 refine ⟨fun U q x e => ?_,fun U q x e => ?_,fun _ _ e=>e,fun U=>⟨[],by simp [St.stand,St.setP]⟩,fun _ _=>rfl,fun _ _=>Nat.le_refl _⟩
 ·show (if U=(s.pr p).term+1∧q=p then _ else s.cl U q)=some x
  rw [if_neg]
  ·exact e
  ·rintro ⟨rfl,rfl⟩;have:=h.cl_term _ _ _ hp e;omega
 ·show (if U=(s.pr p).term+1∧q=p then _ else s.vt U q)=some x
  rw [if_neg]
  ·exact e
  ·rintro ⟨rfl,rfl⟩;have:=h.vt_term _ _ _ hp e;omega
theorem Rel.sends {n:Nat} {s:St} {f:Nat→Msg}:∀ (l:List Nat) (c:Cl),(∀ i∈l,MsgOK n s (f i))→Rel n c s→Cov n c→Rel n (l.foldl (fun c i=>c.send (f i)) c) s∧Cov n (l.foldl (fun c i=>c.send (f i)) c)
 | [],_,_,h,hc=>⟨h,hc⟩
 | i::l,c,hl,h,hc=>Rel.sends l (c.send (f i)) (fun j hj=>hl j (List.mem_cons_of_mem _ hj)) (h.send (hl i List.mem_cons_self)) (hc.send _)
theorem Rel.tick {n:Nat} {c:Cl} {s:St} (h:Rel n c s) (hc:Cov n c) {k:Nat} (hk:k<n):∃ s',Rel n (c.tick k) s'∧Cov n (c.tick k):=by
 unfold Cl.tick
 by_cases d:(c.at k).role=2
 ·simp only [if_pos d]
  exact ⟨s,h.toAll hc hk d⟩
 ·simp only [if_neg d]
  by_cases d2:(c.at k).term=1000000
  ·simp only [if_pos d2];exact ⟨s,h,hc⟩
  ·simp only [if_neg d2]
   have e:=h.abs k hk
   have hlen:=h.len
   have hrel:Rel n (c.put k { c.at k with term:=(c.at k).term+1,vote:=k+1,role:=1,votes:=(List.replicate c.peers.length false).set k true }) (s.stand k):=by
    refine h.move hk (h.inv.stand hk) (Ext.stand h.inv hk) ?_ (fun q hq => ?_) ⟨fun _=>by simp [hlen],fun x=>(by cases x)⟩
    ·show (if k=k then _ else _)=_
     rw [if_pos rfl,e]
     show Pr.mk _ _ _ _ _ _ _=Pr.mk _ _ _ _ _ _ _
     congr 1
     funext q
     show decide (q=k)=((List.replicate c.peers.length false).set k true).getD q false
     by_cases d2:q=k
     ·subst d2
      simp [List.getD,hlen,hk]
     ·simp only [List.getD,List.getElem?_set_ne (Ne.symm d2),List.getElem?_replicate,d2,decide_false]
      split <;> rfl
    ·show (if q=k then _ else _)=_
     rw [if_neg hq]
   have hcov:Cov n (c.put k { c.at k with term:=(c.at k).term+1,vote:=k+1,role:=1,votes:=(List.replicate c.peers.length false).set k true }):=hc.put (Nat.le_refl _) hk hlen
   have:=Rel.sends (f:=fun i=>⟨1,k,i,(c.at k).term+1,(c.at k).log.length,lastTerm (c.at k).log,0,false,[]⟩) (others c.peers.length k) _ (fun i hi => ?_) hrel hcov
   ·exact this.1.elected this.2 hk
   ·have hm:=mem_others hi
    rw [hlen] at hm
    refine ⟨hk,hm.1,hm.2.symm,fun _=>⟨(c.at k).log,?_,rfl,rfl⟩,fun x=>(by cases x),fun x=>(by cases x),fun x=>(by cases x)⟩
    show (if (c.at k).term+1=(s.pr k).term+1∧k=k then some (s.pr k).log else _)=_
    rw [e,if_pos ⟨rfl,rfl⟩]
    rfl
theorem merge_spec {s:St} {L:List Rc} {T U:Nat} (hL:LM s L T):∀ (rs l:List Rc) (a:Nat),LM s l U→U≤T→a≤l.length→a+rs.length≤L.length→rs=(L.take (a+rs.length)).drop a→l.take a=L.take a →
  LM s (merge l a rs) T∧(merge l a rs).take (a+rs.length)=L.take (a+rs.length)∧∀ i,i≤L.length→l.take i=L.take i→(merge l a rs).take i=L.take i
 | [],l,a,hl,hU,_,_,_,ht=>⟨hl.weaken hU,ht,fun _ _ h=>h⟩
 | r::rs,l,a,hl,hU,ha,hlen,hrs,ht=>by
  have hlen':a+(rs.length+1)≤L.length:=hlen
  have hr:L[a]?=some r:=by
   have:=congrArg (fun x=>x[0]?) hrs
   simp only [List.getElem?_drop,List.getElem?_take,List.length_cons,Nat.add_zero,List.getElem?_cons_zero] at this
   rw [if_pos (by omega)] at this
   exact this.symm
  have hrs2:rs=(L.take (a+1+rs.length)).drop (a+1):=by
   have:=congrArg (List.drop 1) hrs
   simp only [List.drop_drop,List.drop_succ_cons,List.drop_zero,List.length_cons] at this
   rw [show a+1+rs.length=a+(rs.length+1) by omega]
   exact this
  have key:∀ l1:List Rc,LM s l1 T→l1.take (a+1)=L.take (a+1)→(∀ i,i≤L.length→l.take i=L.take i→l1.take i=L.take i)→LM s (merge l1 (a+1) rs) T∧(merge l1 (a+1) rs).take (a+(r::rs).length)=L.take (a+(r::rs).length)∧∀ i,i≤L.length→l.take i=L.take i→(merge l1 (a+1) rs).take i=L.take i:=by
   intro l1 h1 h2 h3
   have:=merge_spec (U:=T) hL rs l1 (a+1) h1 (Nat.le_refl _) (len_of_take h2 (by omega)) (by omega) hrs2 h2
   rw [List.length_cons,show a+(rs.length+1)=a+1+rs.length by omega]
   exact ⟨this.1,this.2.1,fun i hi hli=>this.2.2 i hi (h3 i hi hli)⟩
  unfold merge
  by_cases c:a<l.length
  ·obtain ⟨x,hx⟩:∃ x,l[a]?=some x:=⟨_,List.getElem?_eq_getElem c⟩
   have hta:termAt l (a+1)=x.term:=by unfold termAt;rw [if_neg (by omega),show a+1-1=a by omega,hx]
   by_cases d:x.term=r.term
   ·have e1:¬ (a<l.length∧termAt l (a+1)≠r.term):=by rw [hta];exact fun y=>y.2 d
    simp only [if_neg e1]
    rw [if_neg (by omega)]
    exact key l (hl.weaken hU) (hl.same hL hx hr d) (fun _ _ h=>h)
   ·have e1:a<l.length∧termAt l (a+1)≠r.term:=⟨c,by rw [hta];exact d⟩
    simp only [if_pos e1]
    have e2:a=(l.take a).length:=by rw [List.length_take];omega
    rw [if_pos e2]
    have e3:l.take a++[r]=L.take (a+1):=by rw [ht,List.take_add_one,hr];rfl
    rw [e3]
    refine key _ (hL.take _) (by rw [List.take_take];congr 1;omega) (fun i hi hli => ?_)
    have hia:i≤a:=by
     refine Classical.byContradiction fun hc => ?_
     have:=get_take hli (show a<i by omega)
     rw [hx,hr] at this
     injection this with this
     exact d (by rw [this])
    rw [List.take_take,Nat.min_eq_left (by omega)]
  ·have e1:¬ (a<l.length∧termAt l (a+1)≠r.term):=fun y=>c y.1
   simp only [if_neg e1]
   have e2:a=l.length:=by omega
   rw [if_pos e2]
   have e3:l++[r]=L.take (a+1):=by
    rw [List.take_add_one,hr,←ht,e2,List.take_of_length_le (Nat.le_refl _)];rfl
   rw [e3]
   refine key _ (hL.take _) (by rw [List.take_take];congr 1;omega) (fun i hi hli => ?_)
   have hia:i≤a:=by have:=len_of_take hli hi;omega
   rw [List.take_take,Nat.min_eq_left (by omega)]
theorem Ext.accept {s:St} {q e:Nat} {x:Pr}:Ext s (s.accept q e x):=⟨fun _ _ _ h=>h,fun _ _ _ h=>h,fun _ _ h=>h,fun _=>⟨[],by simp [St.accept,St.setP]⟩,fun _ _=>rfl,fun U r=>by
 show s.ack U r≤(if U=(s.pr q).term∧r=q then max (s.ack U r) e else s.ack U r)
 split
 ·exact Nat.le_max_left _ _
 ·exact Nat.le_refl _⟩
theorem Rel.down {n:Nat} {c:Cl} {s:St} (h:Rel n c s) (hc:Cov n c) {k:Nat} (hk:k<n) (T:Nat):∃ s',Rel n (c.down k T) s'∧Cov n (c.down k T)∧Ext s s'∧(c.down k T).at k={ c.at k with term:=max (c.at k).term T,vote:=if (c.at k).term<T then 0 else (c.at k).vote,role:=0,votes:=[],next:=[],mat:=[] }:=by
 have hlen:=h.len
 refine ⟨_,h.lower (p:={ c.at k with term:=max (c.at k).term T,vote:=if (c.at k).term<T then 0 else (c.at k).vote,role:=0,votes:=[],next:=[],mat:=[] }) hk (Nat.le_max_left _ _) rfl (Nat.le_refl _) ?_ rfl,hc.put (Nat.le_refl _) hk hlen,Ext.setP _ _ _,at_put c k _ (by omega)⟩
 show (max (c.at k).term T=(c.at k).term∧(if (c.at k).term<T then 0 else (c.at k).vote)=(c.at k).vote)∨((c.at k).term<max (c.at k).term T∧(if (c.at k).term<T then 0 else (c.at k).vote)=0)
 by_cases d:(c.at k).term<T
 ·rw [if_pos d];exact .inr ⟨by omega,rfl⟩
 ·rw [if_neg d];exact .inl ⟨by omega,rfl⟩
theorem Rel.appended {n:Nat} {c:Cl} {s:St} (h:Rel n c s) (hc:Cov n c) {m:Msg} (hm:MsgOK n s m) (h3:m.kind=3):∃ s',Rel n (c.appended m) s'∧Cov n (c.appended m):=by
 unfold Cl.appended
 by_cases d:m.term<(c.at m.to).term
 ·simp only [if_pos d]
  exact ⟨s,h.send ⟨hm.to,hm.frm,hm.ne.symm,fun x=>(by cases x),fun x=>(by cases x),fun x=>(by cases x),fun _ x=>(by cases x)⟩,hc.send _⟩
 ·simp only [if_neg d]
  obtain ⟨s1,r1,c1,x1,a1⟩:=h.down hc hm.to m.term
  have hm1:=hm.ext x1
  generalize c.down m.to m.term=C at r1 c1 a1 ⊢
  have ht:(C.at m.to).term=m.term:=by rw [a1];show max _ _=_;omega
  have hrole:(C.at m.to).role=0:=by rw [a1]
  by_cases d2:(C.at m.to).log.length<m.a∨termAt (C.at m.to).log m.a≠m.b
  ·simp only [if_pos d2]
   exact ⟨s1,r1.send ⟨hm.to,hm.frm,hm.ne.symm,fun x=>(by cases x),fun x=>(by cases x),fun x=>(by cases x),fun _ x=>(by cases x)⟩,c1.send _⟩
  ·simp only [if_neg d2]
   obtain ⟨g1,g2,g3,g4,g5,g6⟩:=hm1.recs h3
   have e:=r1.abs m.to hm.to
   have hterm:(s1.pr m.to).term=m.term:=by rw [e];exact ht
   have hlog:(s1.pr m.to).log=(C.at m.to).log:=by rw [e];rfl
   have hL:=(r1.inv.lead_cl _ _ g1).2.2.2
   have hl:=r1.inv.log_lm m.to hm.to
   rw [hlog,hterm] at hl
   have ha:m.a≤(C.at m.to).log.length:=by omega
   have hb:termAt (C.at m.to).log m.a=m.b:=Classical.byContradiction fun x=>d2 (.inr x)
   have htake:(C.at m.to).log.take m.a=(s1.llog m.term).take m.a:=by
    by_cases z:m.a=0
    ·rw [z];rfl
    ·obtain ⟨x,hx⟩:∃ x,(C.at m.to).log[m.a-1]?=some x:=⟨_,List.getElem?_eq_getElem (by omega)⟩
     obtain ⟨y,hy⟩:∃ y,(s1.llog m.term)[m.a-1]?=some y:=⟨_,List.getElem?_eq_getElem (by omega)⟩
     have hxy:x.term=y.term:=by
      have:=hb.trans g3
      unfold termAt at this
      rw [if_neg z,if_neg z,hx,hy] at this
      exact this
     have:=hl.same hL hx hy hxy
     rw [show m.a-1+1=m.a by omega] at this
     exact this
   obtain ⟨k1,k2,k3⟩:=merge_spec hL m.log (C.at m.to).log m.a hl (Nat.le_refl _) ha g2 g4 htake
   have hinv:Inv n (s1.accept m.to (m.a+m.log.length) { C.at m.to with log:=merge (C.at m.to).log m.a m.log,commit:=max (C.at m.to).commit (min m.c (m.a+m.log.length)):Peer }.abs):=by
    refine r1.inv.accept (k:=m.frm) (C:=min m.c (m.a+m.log.length)) hm.to (by rw [hterm];exact g1) (by rw [hterm];exact g2) (by rw [e];rfl) (by rw [e];rfl) hrole (by rw [hterm];exact k1) (by rw [hterm];exact k2) (fun i hi hli => ?_) (Nat.min_le_right _ _) ?_ (by rw [e];rfl)
    ·rw [hterm] at hi hli ⊢
     rw [hlog] at hli
     exact k3 i hi hli
    ·rw [hterm]
     have:=g6.prefix (min m.c (m.a+m.log.length))
     rw [List.take_take,Nat.min_eq_left (Nat.min_le_left _ _)] at this
     exact this
   have hrel:=r1.move (p:={ C.at m.to with log:=merge (C.at m.to).log m.a m.log,commit:=max (C.at m.to).commit (min m.c (m.a+m.log.length)) }) hm.to hinv Ext.accept (by show (if m.to=m.to then _ else _)=_;rw [if_pos rfl]) (fun q hq=>by show (if q=m.to then _ else _)=_;rw [if_neg hq]) ⟨fun x=>by (have x:(C.at m.to).role=1:=x;rw [hrole] at x;cases x),fun x=>by (have x:(C.at m.to).role=2:=x;rw [hrole] at x;cases x)⟩
   have hnote:=hrel.note hm.to (fun p hp hne=>by rw [at_put_ne _ _ hne];exact c1 p hp)
   refine ⟨_,hnote.1.send ⟨hm.to,hm.frm,hm.ne.symm,fun x=>(by cases x),fun x=>(by cases x),fun x=>(by cases x),fun _ _=>⟨?_,?_⟩⟩,hnote.2.send _⟩
   ·show m.a+m.log.length≤(if (C.at m.to).term=(s1.pr m.to).term∧m.to=m.to then max _ (m.a+m.log.length) else _)
    rw [if_pos ⟨by rw [e];rfl,rfl⟩]
    exact Nat.le_max_right _ _
   ·show s1.lead (C.at m.to).term=some m.frm
    rw [ht];exact g1
theorem Ext.grant {n:Nat} {s:St} (h:Inv n s) {q c:Nat} (hq:q<n) (h0:(s.pr q).vote=0):Ext s (s.grant q c):=by
 refine ⟨fun _ _ _ e=>e,fun U p x e => ?_,fun _ _ e=>e,fun U=>⟨[],by simp [St.grant,St.setP]⟩,fun _ _=>rfl,fun _ _=>Nat.le_refl _⟩
 show (if U=(s.pr q).term∧p=q then _ else s.vt U p)=some x
 rw [if_neg]
 ·exact e
 ·rintro ⟨rfl,rfl⟩;have:=h.vote_is _ _ _ hq e;omega
theorem Rel.votes {n:Nat} {c:Cl} {s:St} (h:Rel n c s) (hc:Cov n c) {m:Msg} (hm:MsgOK n s m) (h1:m.kind=1) (ok:Bool) (hok:ok=decide (m.term=(c.at m.to).term∧((c.at m.to).vote=0∨(c.at m.to).vote=m.frm+1)∧(lastTerm (c.at m.to).log<m.b∨m.b=lastTerm (c.at m.to).log∧(c.at m.to).log.length≤m.a))) :
  ∃ s',Rel n ((if ok then c.put m.to { c.at m.to with vote:=m.frm+1 } else c).send ⟨2,m.to,m.frm,(c.at m.to).term,0,0,0,ok,[]⟩) s'∧Cov n ((if ok then c.put m.to { c.at m.to with vote:=m.frm+1 } else c).send ⟨2,m.to,m.frm,(c.at m.to).term,0,0,0,ok,[]⟩):=by
 have e:=h.abs m.to hm.to
 have hlen:=h.len
 cases ok with
 | false =>
  exact ⟨s,h.send ⟨hm.to,hm.frm,hm.ne.symm,fun x=>(by cases x),fun _ x=>(by cases x),fun x=>(by cases x),fun x=>(by cases x)⟩,hc.send _⟩
 | true =>
  have hd:=of_decide_eq_true hok.symm
  have hcov:Cov n (c.put m.to { c.at m.to with vote:=m.frm+1 }):=hc.put (Nat.le_refl _) hm.to hlen
  by_cases d:(c.at m.to).vote=0
  ·obtain ⟨l,g1,g2,g3⟩:=hm.ask h1
   have h0:(s.pr m.to).vote=0:=by rw [e];exact d
   have hin:Inv n (s.grant m.to m.frm):=by
    refine h.inv.grant (k:=l) hm.to h0 (by rw [e];show s.cl (c.at m.to).term _=_;rw [←hd.1];exact g1) ?_
    rw [e]
    show Far l (c.at m.to).log
    unfold Far
    rw [←g2,←g3]
    rcases hd.2.2 with x | x
    ·exact .inl x
    ·exact .inr ⟨x.1.symm,x.2⟩
   have hrel:=h.move (p:={ c.at m.to with vote:=m.frm+1 }) hm.to hin (Ext.grant h.inv hm.to h0) (by show (if m.to=m.to then _ else _)=_;rw [if_pos rfl,e];rfl) (fun q hq=>by show (if q=m.to then _ else _)=_;rw [if_neg hq]) ⟨(h.wf m.to hm.to).votes,(h.wf m.to hm.to).lists⟩
   refine ⟨_,hrel.send ⟨hm.to,hm.frm,hm.ne.symm,fun x=>(by cases x),fun _ _=>⟨(s.pr m.to).log,?_⟩,fun x=>(by cases x),fun x=>(by cases x)⟩,hcov.send _⟩
   show (if (c.at m.to).term=(s.pr m.to).term∧m.to=m.to then some (m.frm,(s.pr m.to).log) else _)=_
   rw [if_pos ⟨by rw [e];rfl,rfl⟩]
  ·have hv:(c.at m.to).vote=m.frm+1:=by rcases hd.2.1 with x | x;exact absurd x d;exact x
   have hput:s.pr m.to=({ c.at m.to with vote:=m.frm+1 }:Peer).abs:=by rw [e];unfold Peer.abs;rw [hv]
   have hrel:=h.move (p:={ c.at m.to with vote:=m.frm+1 }) hm.to h.inv (Ext.refl s) hput (fun _ _=>rfl) ⟨(h.wf m.to hm.to).votes,(h.wf m.to hm.to).lists⟩
   obtain ⟨l,hl⟩:=h.inv.vote_of m.to m.frm hm.to (by rw [e];exact hv)
   refine ⟨_,hrel.send ⟨hm.to,hm.frm,hm.ne.symm,fun x=>(by cases x),fun _ _=>⟨l,?_⟩,fun x=>(by cases x),fun x=>(by cases x)⟩,hcov.send _⟩
   rw [e] at hl
   exact hl
theorem getD_set {α:Type} (l:List α) (k q:Nat) (v d:α) (hk:k<l.length):(l.set k v).getD q d=if q=k then v else l.getD q d:=by
 by_cases c:q=k
 ·subst c;rw [if_pos rfl];simp [List.getD,hk]
 ·rw [if_neg c];simp only [List.getD,List.getElem?_set_ne (Ne.symm c)]
theorem Rel.deliver {n:Nat} {c:Cl} {s:St} (h:Rel n c s) (hc:Cov n c) {m:Msg} (hm:MsgOK n s m):∃ s',Rel n (c.deliver m) s'∧Cov n (c.deliver m):=by
 unfold Cl.deliver
 by_cases up:(c.at m.to).up=false
 ·simp only [if_pos up];exact ⟨s,h,hc⟩
 simp only [if_neg up]
 obtain ⟨s1,r1,c1,x1⟩:∃ s1,Rel n (if (c.at m.to).term<m.term then c.down m.to m.term else c) s1∧Cov n (if (c.at m.to).term<m.term then c.down m.to m.term else c)∧Ext s s1:=by
  by_cases d:(c.at m.to).term<m.term
  ·simp only [if_pos d]
   obtain ⟨s1,r1,c1,x1,_⟩:=h.down hc hm.to m.term
   exact ⟨s1,r1,c1,x1⟩
  ·simp only [if_neg d];exact ⟨s,h,hc,Ext.refl s⟩
 have hm1:=hm.ext x1
 generalize (if (c.at m.to).term<m.term then c.down m.to m.term else c)=C at r1 c1 ⊢
 have e:=r1.abs m.to hm.to
 have hlen:=r1.len
 have hw:=r1.wf m.to hm.to
 by_cases k1:m.kind=1
 ·rw [if_pos k1];exact r1.votes c1 hm1 k1 _ rfl
 rw [if_neg k1]
 by_cases k2:m.kind=2
 ·rw [if_pos k2]
  by_cases d:m.term=(C.at m.to).term∧(C.at m.to).role=1∧m.ok=true
  ·rw [if_pos d]
   have hvl:=hw.votes d.2.1
   obtain ⟨l,hl⟩:=hm1.vote k2 d.2.2
   have hcd:=r1.inv.cand m.to hm.to (by rw [e];exact d.2.1)
   rw [e] at hcd
   have hrel:=r1.move (p:={ C.at m.to with votes:=(C.at m.to).votes.set m.frm true }) hm.to (r1.inv.setP (x:={ C.at m.to with votes:=(C.at m.to).votes.set m.frm true:Peer }.abs) (by rw [e];exact Nat.le_refl _) (by rw [e];rfl) (.inl (by rw [e];exact Nat.le_refl _)) (fun _=>.inl (by rw [e];exact ⟨rfl,rfl⟩)) (fun _=>.inr ⟨by rw [e];rfl,by rw [e];rfl,fun _ q hq hv => ?_,fun x=>by (have x:(C.at m.to).role=2:=x;rw [d.2.1] at x;cases x)⟩)) (Ext.setP _ _ _) (setP_self _ _ _) (fun q hq=>setP_ne _ _ hq) ⟨fun _=>by simp [hvl],hw.lists⟩
   ·exact hrel.elected (c1.put (Nat.le_refl _) hm.to hlen) hm.to
   ·have hv:((C.at m.to).votes.set m.frm true).getD q false=true:=hv
    rw [getD_set _ _ _ _ _ (by rw [hvl];exact hm.frm)] at hv
    by_cases z:q=m.frm
    ·subst z
     exact ⟨l,by show s1.vt (C.at m.to).term m.frm=_;rw [←d.1];exact hl⟩
    ·rw [if_neg z] at hv
     exact hcd.2.2 q hq hv
  ·rw [if_neg d];exact ⟨s1,r1,c1⟩
 rw [if_neg k2]
 by_cases k3:m.kind=3
 ·rw [if_pos k3];exact r1.appended c1 hm1 k3
 rw [if_neg k3]
 by_cases k4:m.kind=4
 ·rw [if_pos k4]
  by_cases d:m.term≠(C.at m.to).term∨(C.at m.to).role≠2
  ·rw [if_pos d];exact ⟨s1,r1,c1⟩
  ·rw [if_neg d]
   have ht:m.term=(C.at m.to).term:=Classical.byContradiction fun x=>d (.inl x)
   have hr:(C.at m.to).role=2:=Classical.byContradiction fun x=>d (.inr x)
   obtain ⟨w1,w2,w3⟩:=hw.lists hr
   have hld:=r1.inv.leader m.to hm.to (by rw [e];exact hr)
   rw [e] at hld
   have hl2:(C.at m.to).log=s1.llog (C.at m.to).term:=hld.2.1
   have hmat:∀ q,q<n→(C.at m.to).mat.getD q 0≤s1.ack (C.at m.to).term q:=hld.2.2
   have hal:∀ q,s1.ack (C.at m.to).term q≤(C.at m.to).log.length:=fun q=>by rw [hl2];exact r1.inv.ack_le _ q
   have gen:∀ (mt nx:List Nat),mt.length=n→nx.length=n→(∀ q,q<n→mt.getD q 0≤s1.ack (C.at m.to).term q)→(∀ q,q<n→1≤nx.getD q 0∧nx.getD q 0≤(C.at m.to).log.length+1)→∃ s',Rel n (C.put m.to { C.at m.to with mat:=mt,next:=nx }) s'∧Cov n (C.put m.to { C.at m.to with mat:=mt,next:=nx }):=by
    intro mt nx g1 g2 g3 g4
    refine ⟨_,r1.move (p:={ C.at m.to with mat:=mt,next:=nx }) hm.to (r1.inv.setP (x:={ C.at m.to with mat:=mt,next:=nx:Peer }.abs) (by rw [e];exact Nat.le_refl _) (by rw [e];rfl) (.inl (by rw [e];exact Nat.le_refl _)) (fun _=>.inl (by rw [e];exact ⟨rfl,rfl⟩)) (fun _=>.inr ⟨by rw [e];rfl,by rw [e];rfl,fun x=>by (have x:(C.at m.to).role=1:=x;rw [hr] at x;cases x),fun _=>g3⟩)) (Ext.setP _ _ _) (setP_self _ _ _) (fun q hq=>setP_ne _ _ hq) ⟨hw.votes,fun _=>⟨g2,g1,g4⟩⟩,c1.put (Nat.le_refl _) hm.to hlen⟩
   cases ho:m.ok with
   | true =>
    simp only [if_true]
    have ha:=(hm1.acked k4 ho).1
    rw [ht] at ha
    have g1:∀ q,q<n→((C.at m.to).mat.set m.frm (max ((C.at m.to).mat.getD m.frm 0) m.a)).getD q 0≤s1.ack (C.at m.to).term q:=fun q hq=>by
     rw [getD_set _ _ _ _ _ (by rw [w2];exact hm.frm)]
     by_cases z:q=m.frm
     ·rw [if_pos z,z]
      exact Nat.max_le.2 ⟨hmat _ hm.frm,ha⟩
     ·rw [if_neg z];exact hmat q hq
    have g2:∀ q,q<n→1≤((C.at m.to).next.set m.frm (max ((C.at m.to).next.getD m.frm 0) (m.a+1))).getD q 0∧((C.at m.to).next.set m.frm (max ((C.at m.to).next.getD m.frm 0) (m.a+1))).getD q 0≤(C.at m.to).log.length+1:=fun q hq=>by
     rw [getD_set _ _ _ _ _ (by rw [w1];exact hm.frm)]
     by_cases z:q=m.frm
     ·rw [if_pos z]
      have:=w3 m.frm hm.frm
      have:=hal m.frm
      omega
     ·rw [if_neg z];exact w3 q hq
    obtain ⟨s2,r2,c2⟩:=gen _ _ (by simp [w2]) (by simp [w1]) g1 g2
    obtain ⟨s3,r3,c3,_⟩:=r2.commits c2 hm.to (by rw [at_put _ _ _ (by rw [hlen];exact hm.to)];exact hr)
    exact ⟨s3,r3,c3⟩
   | false =>
    simp only [Bool.false_eq_true,if_false]
    by_cases d2:m.a+1<(C.at m.to).next.getD m.frm 0
    ·rw [if_pos d2]
     obtain ⟨s2,r2,c2⟩:=gen (C.at m.to).mat ((C.at m.to).next.set m.frm (max ((C.at m.to).mat.getD m.frm 0+1) (m.a+1))) w2 (by simp [w1]) hmat (fun q hq=>by
      rw [getD_set _ _ _ _ _ (by rw [w1];exact hm.frm)]
      by_cases z:q=m.frm
      ·rw [if_pos z]
       have:=w3 m.frm hm.frm
       have:=hal m.frm
       have:=hmat m.frm hm.frm
       omega
      ·rw [if_neg z];exact w3 q hq)
     exact ⟨s2,r2.records hm.to hm.frm hm.ne (by rw [at_put _ _ _ (by rw [hlen];exact hm.to)];exact hr),c2.send _⟩
    ·rw [if_neg d2];exact ⟨s1,r1,c1⟩
 ·rw [if_neg k4];exact ⟨s1,r1,c1⟩
theorem Rel.part {n:Nat} {c:Cl} {s:St} (h:Rel n c s) {net:List Msg} (hn:∀ m,m∈net→m∈c.net):Rel n { c with net:=net } s:=⟨h.inv,h.len,h.abs,h.wf,fun m hm=>h.msgs m (hn m hm),h.chosen,h.clash⟩
theorem Ext.propose {n:Nat} {s:St} (h:Inv n s) {p:Nat} (hp:p<n) (hr:(s.pr p).role=2) (r:Rc):Ext s (s.propose p r):=by
 obtain ⟨h1,h2,_⟩:=h.leader p hp hr
 refine ⟨fun _ _ _ e=>e,fun _ _ _ e=>e,fun _ _ e=>e,fun U => ?_,fun _ _=>rfl,fun U q => ?_⟩
 ·show ∃ t,(if U=(s.pr p).term then (s.pr p).log++[r] else s.llog U)=s.llog U++t
  by_cases d:U=(s.pr p).term
  ·rw [if_pos d,d,←h2];exact ⟨[r],rfl⟩
  ·rw [if_neg d];exact ⟨[],by simp⟩
 ·show s.ack U q≤(if U=(s.pr p).term∧q=p then (s.pr p).log.length+1 else s.ack U q)
  split
  ·next d =>
   have:=h.ack_le U q
   rw [d.1,←h2] at this
   rw [d.1]
   omega
  ·exact Nat.le_refl _
theorem Rel.event {n:Nat} {c:Cl} {s:St} (h:Rel n c s) (hc:Cov n c) (e:Ev):∃ s',Rel n (c.event e).1 s'∧Cov n (c.event e).1:=by
 unfold Cl.event
 by_cases k:e.kind=2∨e.kind=3∨e.kind=4
 ·simp only [if_pos k]
  by_cases d:e.n<0∨(c.net.length:Int)≤e.n
  ·simp only [if_pos d];exact ⟨s,h,hc⟩
  ·simp only [if_neg d]
   cases hm:c.net[e.n.toNat]? with
   | none=>exact ⟨s,h,hc⟩
   | some m =>
    have hmem:m∈c.net:=List.mem_of_getElem? hm
    have hpart:=h.part (net:=c.net.eraseIdx e.n.toNat) (fun x hx=>List.mem_of_mem_eraseIdx hx)
    simp only
    by_cases k2:e.kind=2
    ·simp only [if_pos k2];exact hpart.deliver (c:={ c with net:=c.net.eraseIdx e.n.toNat }) hc (h.msgs m hmem)
    ·simp only [if_neg k2]
     by_cases k3:e.kind=3
     ·simp only [if_pos k3];exact ⟨s,hpart,hc⟩
     ·simp only [if_neg k3];exact ⟨s,h.send (h.msgs m hmem),hc.send _⟩
 ·simp only [if_neg k]
  by_cases k':e.kind=1∨e.kind=5∨e.kind=6∨e.kind=7
  ·simp only [if_pos k']
   by_cases d:e.n<0∨(c.peers.length:Int)≤e.n
   ·simp only [if_pos d];exact ⟨s,h,hc⟩
   ·simp only [if_neg d]
    have hlen:=h.len
    have hk:e.n.toNat<n:=by omega
    generalize e.n.toNat=p at hk ⊢
    have ea:=h.abs p hk
    have hw:=h.wf p hk
    by_cases u:(c.at p).up=decide (e.kind=6)
    ·simp only [if_pos u];exact ⟨s,h,hc⟩
    simp only [if_neg u]
    by_cases k1:e.kind=1
    ·simp only [if_pos k1];exact h.tick hc hk
    simp only [if_neg k1]
    by_cases k5:e.kind=5
    ·simp only [if_pos k5]
     exact ⟨_,h.lower (p:=⟨false,(c.at p).term,(c.at p).vote,0,0,(c.at p).log,[],[],[]⟩) hk (Nat.le_refl _) rfl (Nat.zero_le _) (.inl ⟨rfl,rfl⟩) rfl,hc.put (Nat.zero_le _) hk hlen⟩
    simp only [if_neg k5]
    by_cases k6:e.kind=6
    ·simp only [if_pos k6]
     exact ⟨s,h.move (p:={ c.at p with up:=true }) hk h.inv (Ext.refl s) (by rw [ea];rfl) (fun _ _=>rfl) ⟨hw.votes,hw.lists⟩,hc.put (Nat.le_refl _) hk hlen⟩
    simp only [if_neg k6]
    by_cases r:(c.at p).role≠2
    ·simp only [if_pos r];exact ⟨s,h,hc⟩
    simp only [if_neg r]
    by_cases z:1000<e.data.length∨(c.at p).log.length=100
    ·simp only [if_pos z];exact ⟨s,h,hc⟩
    simp only [if_neg z]
    have hr:(c.at p).role=2:=Classical.byContradiction r
    have hr2:(s.pr p).role=2:=by rw [ea];exact hr
    obtain ⟨w1,w2,w3⟩:=hw.lists hr
    have hin:=h.inv.propose (r:=⟨(c.at p).term,(c.at p).log.length+1,e.data⟩) hk hr2 (by rw [ea];rfl) (by rw [ea];rfl)
    have hrel:=h.move (p:={ c.at p with log:=(c.at p).log++[⟨(c.at p).term,(c.at p).log.length+1,e.data⟩],mat:=(c.at p).mat.set p ((c.at p).log.length+1) }) hk hin (Ext.propose h.inv hk hr2 _) (by
     show (if p=p then _ else _)=_
     rw [if_pos rfl,ea]
     show Pr.mk _ _ _ _ _ _ _=Pr.mk _ _ _ _ _ _ _
     congr 1
     funext q
     show (if q=p then (c.at p).log.length+1 else (c.at p).mat.getD q 0)=((c.at p).mat.set p ((c.at p).log.length+1)).getD q 0
     rw [getD_set _ _ _ _ _ (by rw [w2];exact hk)]) (fun q hq=>by show (if q=p then _ else _)=_;rw [if_neg hq]) ⟨fun x=>by (have x:(c.at p).role=1:=x;rw [hr] at x;cases x),fun _=>⟨w1,by simp [w2],fun q hq=>by
      have:=w3 q hq
      refine ⟨this.1,?_⟩
      show (c.at p).next.getD q 0≤((c.at p).log++[_]).length+1
      rw [List.length_append]
      omega⟩⟩
    obtain ⟨s3,r3,c3,_⟩:=hrel.commits (hc.put (Nat.le_refl _) hk hlen) hk (by rw [at_put _ _ _ (by rw [hlen];exact hk)];exact hr)
    exact ⟨s3,r3,c3⟩
  ·simp only [if_neg k'];exact ⟨s,h,hc⟩
def Cl.run (c:Cl):List Ev→Cl×List Int
 | []=>(c,[])
 | e::es=>(((c.event e).1.run es).1,(c.event e).2::((c.event e).1.run es).2)
theorem at_begin (n p:Nat) (h:p<n):(Cl.begin n).at p={ Peer.zero with up:=true }:=by simp [Cl.begin,Cl.at,List.getD,h]
theorem Rel.begin (n:Nat):Rel n (Cl.begin n) St.begin∧Cov n (Cl.begin n) :=
 ⟨⟨Inv.begin n,by simp [Cl.begin],fun p hp=>by rw [at_begin n p hp];rfl,fun p hp=>by rw [at_begin n p hp];exact ⟨fun x=>(by cases x),fun x=>(by cases x)⟩,fun m hm=>by simp [Cl.begin] at hm,⟨0,.inl rfl⟩,rfl⟩,fun p hp=>by rw [at_begin n p hp];exact Nat.zero_le _⟩
def Keeps (c d:Cl):Prop:=∃ t,d.chosen=c.chosen++t
end Go.Proofs.YtcfdmbkiinjmaaaGreat.Raft
namespace Go.Proofs.YtcfdmbkiinjmaaaGreat.mem
open Go.ChangeShapes Go.WideShapes Go.ChangeAt Go.RowKit
open Raft
abbrev Fz:=Nat→Option Obj
def In (M:Fz) (w:World):Prop:=∀ b o,M b=some o→w.heap[b]?=some o
def Le (M M':Fz):Prop:=∀ b o,M b=some o→M' b=some o
def add (M:Fz) (b:Nat) (o:Obj):Fz:=fun x=>if x=b then some o else M x
def cellM (M:Fz) (b i:Nat):Option Value:=match M b with
 | some (.cells cur _ _)=>cur[i]?
 | _=>none
theorem Le.refl (M:Fz):Le M M:=fun _ _ h=>h
theorem Le.trans {A B C:Fz} (h:Le A B) (k:Le B C):Le A C:=fun b o hb=>k b o (h b o hb)
theorem Le.add {M:Fz} {b:Nat} (h:M b=none) (o:Obj):Le M (add M b o):=fun x p hx=>by
 unfold mem.add
 split
 ·rename_i e;subst e;rw [h] at hx;cases hx
 ·exact hx
theorem add_at (M:Fz) (b:Nat) (o:Obj):add M b o b=some o:=by simp [add]
theorem add_other {M:Fz} {b x:Nat} (h:x≠b) (o:Obj):add M b o x=M x:=by simp [add,h]
theorem In.cell {M:Fz} {w:World} (h:In M w) {b i:Nat} {v:Value} (hc:cellM M b i=some v):w.cell? ⟨b,i,none⟩=some v:=by
 unfold cellM at hc
 split at hc
 ·rename_i cur t fr e
  simp [World.cell?,h b _ e,hc]
 ·cases hc
theorem Le.cell {M M':Fz} (h:Le M M') {b i:Nat} {v:Value} (hc:cellM M b i=some v):cellM M' b i=some v:=by
 unfold cellM at hc ⊢
 split at hc
 ·rename_i cur t fr e
  rw [h b _ e]
  exact hc
 ·cases hc
theorem In.lt {M:Fz} {w:World} (h:In M w) {b:Nat} {o:Obj} (hb:M b=some o):b<w.heap.size:=(Array.getElem?_eq_some_iff.1 (h b o hb)).1
theorem In.fresh {M:Fz} {w:World} (h:In M w) {b:Nat} (hb:w.heap.size≤b):M b=none:=by
 cases e:M b with
 | none=>rfl
 | some o=>have:=h.lt e;omega
theorem In.below {M:Fz} {w w':World} (h:In M w) (hb:Below w.heap.size w w'):In M w':=fun b o e=>(hb.block b (h.lt e)).trans (h b o e)
theorem In.grown {M:Fz} {w w':World} {row:Option Nat} (h:In M w) (g:w.grownBy w' row) (hr:∀ k,row=some k→M k=none):In M w':=fun b o e=>(g.block b (h.lt e) (fun e'=>by rw [hr b e'.symm] at e;cases e)).trans (h b o e)
theorem In.set {M:Fz} {w:World} (h:In M w) {a:Addr} (ha:M a.block=none) (v:Value):In M (w.setCell a v):=fun b o e=>(Below.heap_setCell w a v b (fun e'=>by rw [e',ha] at e;cases e)).trans (h b o e)
theorem In.add {M:Fz} {w:World} (h:In M w) {b:Nat} {o:Obj} (hb:w.heap[b]?=some o):In (add M b o) w:=fun x p hx=>by
 unfold mem.add at hx
 split at hx
 ·rename_i e;subst e;rw [hb];exact hx
 ·exact h x p hx
def RowM (M:Fz) (v:Value) (n sz:Nat) (xs:List Value):Prop :=
 ∃ ao cap,v=.slice ao n cap∧n≤cap∧cap≤maxLen∧xs.length=n*sz∧(ao=none→n=0∧cap=0) ∧
  (0<n→∃ b off,ao=some ⟨b,off,none⟩∧∀ i v,xs[i]?=some v→cellM M b (off+i)=some v)
theorem RowM.le {M M':Fz} {v:Value} {n sz:Nat} {xs:List Value} (h:RowM M v n sz xs) (hl:Le M M'):RowM M' v n sz xs:=by
 obtain ⟨ao,cap,rfl,h1,h2,h3,h4,h5⟩:=h
 refine ⟨ao,cap,rfl,h1,h2,h3,h4,fun hp => ?_⟩
 obtain ⟨b,off,rfl,hc⟩:=h5 hp
 exact ⟨b,off,rfl,fun i v hv=>hl.cell (hc i v hv)⟩
theorem RowM.nil (M:Fz) (sz:Nat):RowM M (.slice none 0 0) 0 sz []:=⟨none,0,rfl,Nat.le_refl _,by simp [maxLen],by simp,fun _=>⟨rfl,rfl⟩,fun h=>by omega⟩
theorem RowM.freeze {M:Fz} {w:World} {base e sz:Nat} {v:Value} {n:Nat} {xs:List Value} (h:w.ownsRow base e sz v n xs) (hI:In M w) (hM:∀ g,v.ownBlock=some g→M g=none) :
  ∃ M',Le M M'∧In M' w∧RowM M' v n sz xs∧∀ b,M' b≠none→M b≠none∨v.ownBlock=some b:=by
 obtain ⟨h1,⟨rfl,rfl⟩|⟨g,cap,cur,rfl,hb,hg,hnc,hcm,hcs,ht⟩⟩:=h
 ·obtain rfl:xs=[]:=List.length_eq_zero_iff.1 (by omega)
  exact ⟨M,Le.refl M,hI,RowM.nil M sz,fun b hb=>.inl hb⟩
 ·refine ⟨add M g (.cells cur e (0,0)),Le.add (hM g rfl) _,hI.add hg,⟨_,cap,rfl,hnc,hcm,h1,(fun h=>by cases h),fun hp=>⟨g,0,rfl,fun i v hv => ?_⟩⟩,fun b hb => ?_⟩
  ·have hi:i<n*sz:=by rw [←h1];exact (List.getElem?_eq_some_iff.1 hv).1
   rw [←ht,List.getElem?_take_of_lt hi] at hv
   simp only [cellM,add_at,Nat.zero_add]
   simpa using hv
  ·by_cases e:b=g
   ·exact .inr (by simp [Value.ownBlock,e])
   ·rw [add_other e] at hb;exact .inl hb
theorem flat_len {α:Type} (f:α→List Value) (sz:Nat) (hf:∀ a,(f a).length=sz):∀ l:List α,(l.flatMap f).length=l.length*sz
 | []=>by simp
 | a::l=>by
  rw [List.flatMap_cons,List.length_append,hf,flat_len f sz hf l,List.length_cons,Nat.succ_mul]
  omega
theorem flat_get {α:Type} (f:α→List Value) (sz:Nat) (hf:∀ a,(f a).length=sz):∀ (l:List α) (k j:Nat) (a:α),l[k]?=some a→j<sz→(l.flatMap f)[k*sz+j]?=(f a)[j]?
 | [],k,j,a,h,_=>by simp at h
 | x::l,0,j,a,h,hj=>by
  simp only [List.getElem?_cons_zero,Option.some.injEq] at h
  subst h
  rw [List.flatMap_cons,Nat.zero_mul,Nat.zero_add,List.getElem?_append_left (by rw [hf];exact hj)]
 | x::l,k+1,j,a,h,hj=>by
  rw [List.getElem?_cons_succ] at h
  rw [List.flatMap_cons,List.getElem?_append_right (by rw [hf,Nat.succ_mul];omega),hf,←flat_get f sz hf l k j a h hj]
  congr 1
  rw [Nat.succ_mul]
  omega
def BytesM (M:Fz) (v:Value) (xs:List Int):Prop:=RowM M v xs.length 1 (xs.map (Value.int .u8))∧∀ x∈xs,0≤x∧x≤255
theorem BytesM.le {M M':Fz} {v:Value} {xs:List Int} (h:BytesM M v xs) (hl:Le M M'):BytesM M' v xs:=⟨h.1.le hl,h.2⟩
structure RV where
 r:Rc
 dv:Value
def recCells (x:RV):List Value:=[.int .i64 x.r.term,.int .i64 x.r.index,x.dv]
theorem recCells_len (x:RV):(recCells x).length=3:=rfl
def RecsV (M:Fz) (v:Value) (us:List RV):Prop:=RowM M v us.length 3 (us.flatMap recCells)∧∀ x∈us,BytesM M x.dv x.r.data∧x.r.data.length≤1000
def RecsM (M:Fz) (v:Value) (l:List Rc):Prop:=∃ us,us.map (·.r)=l∧RecsV M v us
theorem RecsV.le {M M':Fz} {v:Value} {us:List RV} (h:RecsV M v us) (hl:Le M M'):RecsV M' v us:=⟨h.1.le hl,fun x hx=>⟨(h.2 x hx).1.le hl,(h.2 x hx).2⟩⟩
theorem RecsM.le {M M':Fz} {v:Value} {l:List Rc} (h:RecsM M v l) (hl:Le M M'):RecsM M' v l:=by
 obtain ⟨us,h1,h2⟩:=h
 exact ⟨us,h1,h2.le hl⟩
theorem RecsM.nil (M:Fz):RecsM M (.slice none 0 0) []:=⟨[],rfl,RowM.nil M 3,by simp⟩
structure MV where
 m:Msg
 lv:Value
def msgCells (x:MV):List Value:=[.int .i64 x.m.kind,.int .i64 x.m.frm,.int .i64 x.m.to,.int .i64 x.m.term,.int .i64 x.m.a,.int .i64 x.m.b,.int .i64 x.m.c,.bool x.m.ok,x.lv]
theorem msgCells_len (x:MV):(msgCells x).length=9:=rfl
def MsgsV (M:Fz) (v:Value) (us:List MV):Prop:=RowM M v us.length 9 (us.flatMap msgCells)∧∀ x∈us,RecsM M x.lv x.m.log
theorem MsgsV.le {M M':Fz} {v:Value} {us:List MV} (h:MsgsV M v us) (hl:Le M M'):MsgsV M' v us:=⟨h.1.le hl,fun x hx=>(h.2 x hx).le hl⟩
end Go.Proofs.YtcfdmbkiinjmaaaGreat.mem
namespace Go.Proofs.YtcfdmbkiinjmaaaGreat.shape
open Go.ChangeShapes Go.WideShapes Go.ChangeAt Go.RowKit
open mem
inductive Kd where
 | int
 | bool
 | byte
def Kd.val:Kd→Int→Value
 | .int,q=>.int .i64 q
 | .bool,q=>.bool (q % 3 == 0)
 | .byte,q=>.int .u8 (IntKind.u8.wrap q)
inductive En where
 | leaf (b i:Nat) (k:Kd)
 | head (b i:Nat) (v:Value)
def En.at:En→Nat×Nat
 | .leaf b i _=>(b,i)
 | .head b i _=>(b,i)
def marked:World→List En→Int→World
 | w,[],_=>w
 | w,.leaf b i k::es,q=>marked (w.setCell ⟨b,i,none⟩ (k.val q)) es (q+1)
 | w,.head _ _ _::es,q=>marked w es q
def count:List En→Nat
 | []=>0
 | .leaf _ _ _::es=>count es+1
 | .head _ _ _::es=>count es
def Has (w:World):En→Prop
 | .leaf b i _=>(∃ v,w.cell? ⟨b,i,none⟩=some v)∧w.frozen? ⟨b,i,none⟩=false
 | .head b i v=>w.cell? ⟨b,i,none⟩=some v
def Ok (w:World) (es:List En):Prop:=∀ e∈es,Has w e
def Held (w:World):List En→Int→Prop
 | [],_=>True
 | .leaf b i k::es,q=>w.cell? ⟨b,i,none⟩=some (k.val q)∧Held w es (q+1)
 | .head b i v::es,q=>w.cell? ⟨b,i,none⟩=some v∧Held w es q
theorem count_append:∀ a b:List En,count (a++b)=count a+count b
 | [],b=>by simp [count]
 | .leaf _ _ _::a,b=>by simp [count,count_append a b];omega
 | .head _ _ _::a,b=>by simp [count,count_append a b]
theorem marked_append:∀ (a b:List En) (w:World) (q:Int),marked w (a++b) q=marked (marked w a q) b (q+count a)
 | [],b,w,q=>by simp [marked,count]
 | .leaf _ _ _::a,b,w,q=>by
  simp only [List.cons_append,marked,count]
  rw [marked_append a b]
  congr 1
  omega
 | .head _ _ _::a,b,w,q=>by
  simp only [List.cons_append,marked,count]
  rw [marked_append a b]
theorem addr_ne {b i c j:Nat} (h:(b,i)≠(c,j)):(⟨b,i,none⟩:Addr)≠⟨c,j,none⟩:=fun e=>h (by cases e;rfl)
theorem marked_other:∀ (es:List En) (w:World) (q:Int) (b i:Nat),(∀ e∈es,e.at≠(b,i))→(marked w es q).cell? ⟨b,i,none⟩=w.cell? ⟨b,i,none⟩
 | [],w,q,b,i,h=>rfl
 | .leaf c j k::es,w,q,b,i,h=>by
  simp only [marked]
  rw [marked_other es _ _ b i (fun e he=>h e (List.mem_cons_of_mem _ he)),World.cell?_setCell_other _ _ _ _ (addr_ne (h (.leaf c j k) (List.mem_cons_self ..)))]
 | .head _ _ _::es,w,q,b,i,h=>by
  simp only [marked]
  exact marked_other es _ _ b i (fun e he=>h e (List.mem_cons_of_mem _ he))
theorem marked_some:∀ (es:List En) (w:World) (q:Int) (a:Addr),(∃ v,w.cell? a=some v)→∃ v,(marked w es q).cell? a=some v
 | [],w,q,a,h=>h
 | .leaf c j k::es,w,q,a,⟨v,h⟩=>marked_some es _ _ a (cell?_setCell_some h)
 | .head _ _ _::es,w,q,a,h=>marked_some es w q a h
theorem marked_frozen:∀ (es:List En) (w:World) (q:Int) (a:Addr),(marked w es q).frozen? a=w.frozen? a
 | [],w,q,a=>rfl
 | .leaf c j k::es,w,q,a=>by
  simp only [marked]
  rw [marked_frozen es]
  simp
 | .head _ _ _::es,w,q,a=>marked_frozen es w q a
theorem marked_block:∀ (es:List En) (w:World) (q:Int) (b:Nat),(∀ e∈es,e.at.1≠b)→(marked w es q).heap[b]?=w.heap[b]?
 | [],w,q,b,h=>rfl
 | .leaf c j k::es,w,q,b,h=>by
  simp only [marked]
  rw [marked_block es _ _ b (fun e he=>h e (List.mem_cons_of_mem _ he))]
  exact Below.heap_setCell w _ _ b (fun e=>h (.leaf c j k) (List.mem_cons_self ..) e.symm)
 | .head _ _ _::es,w,q,b,h=>by
  simp only [marked]
  exact marked_block es _ _ b (fun e he=>h e (List.mem_cons_of_mem _ he))
theorem marked_below:∀ (es:List En) (w w0:World) (q:Int) (B:Nat),Below B w0 w→(∀ e∈es,B≤e.at.1)→Below B w0 (marked w es q)
 | [],w,w0,q,B,hb,h=>hb
 | .leaf c j k::es,w,w0,q,B,hb,h=>marked_below es _ w0 _ B (hb.setCell (h (.leaf c j k) (List.mem_cons_self ..)) _) (fun e he=>h e (List.mem_cons_of_mem _ he))
 | .head _ _ _::es,w,w0,q,B,hb,h=>marked_below es w w0 q B hb (fun e he=>h e (List.mem_cons_of_mem _ he))
theorem marked_in {M:Fz} {w:World} (h:In M w) (es:List En) (q:Int) (hn:∀ e∈es,M e.at.1=none):In M (marked w es q):=fun b o hb=>(marked_block es w q b (fun e he e'=>by have:=hn e he;rw [e',hb] at this;cases this)).trans (h b o hb)
theorem Has.marked {w:World} {e:En} (h:Has w e) (es:List En) (q:Int) (hn:∀ x∈es,x.at≠e.at):Has (marked w es q) e:=by
 cases e with
 | leaf b i k=>exact ⟨marked_some es w q _ h.1,(marked_frozen es w q _).trans h.2⟩
 | head b i v=>exact (marked_other es w q b i hn).trans h
theorem Ok.marked {w:World} {es:List En} (h:Ok w es) (ps:List En) (q:Int) (hn:∀ x∈ps,∀ e∈es,x.at≠e.at):Ok (marked w ps q) es:=fun e he=>(h e he).marked ps q (fun x hx=>hn x hx e he)
theorem Ok.left {w:World} {a b:List En} (h:Ok w (a++b)):Ok w a:=fun e he=>h e (List.mem_append.2 (.inl he))
theorem Ok.right {w:World} {a b:List En} (h:Ok w (a++b)):Ok w b:=fun e he=>h e (List.mem_append.2 (.inr he))
def Nd (es:List En):Prop:=(es.map En.at).Nodup
theorem Nd.apart {a b:List En} (h:Nd (a++b)):∀ x∈a,∀ e∈b,x.at≠e.at:=fun x hx e he=>by
 unfold Nd at h
 rw [List.map_append,List.nodup_append] at h
 exact h.2.2 _ (List.mem_map.2 ⟨x,hx,rfl⟩) _ (List.mem_map.2 ⟨e,he,rfl⟩)
theorem Nd.left {a b:List En} (h:Nd (a++b)):Nd a:=by
 unfold Nd at h ⊢
 rw [List.map_append,List.nodup_append] at h
 exact h.1
theorem Nd.right {a b:List En} (h:Nd (a++b)):Nd b:=by
 unfold Nd at h ⊢
 rw [List.map_append,List.nodup_append] at h
 exact h.2.1
theorem Nd.mk {a b:List En} (ha:Nd a) (hb:Nd b) (h:∀ x∈a,∀ e∈b,x.at≠e.at):Nd (a++b):=by
 unfold Nd at ha hb ⊢
 rw [List.map_append,List.nodup_append]
 refine ⟨ha,hb,fun p hp r hr => ?_⟩
 obtain ⟨x,hx,rfl⟩:=List.mem_map.1 hp
 obtain ⟨e,he,rfl⟩:=List.mem_map.1 hr
 exact h x hx e he
theorem Held.frame {w w':World}:∀ (es:List En) (q:Int),Held w es q→(∀ e∈es,w'.cell? ⟨e.at.1,e.at.2,none⟩=w.cell? ⟨e.at.1,e.at.2,none⟩)→Held w' es q
 | [],q,h,hc=>trivial
 | .leaf b i k::es,q,h,hc=>⟨(hc (.leaf b i k) (List.mem_cons_self ..)).trans h.1,Held.frame es _ h.2 (fun e he=>hc e (List.mem_cons_of_mem _ he))⟩
 | .head b i v::es,q,h,hc=>⟨(hc (.head b i v) (List.mem_cons_self ..)).trans h.1,Held.frame es _ h.2 (fun e he=>hc e (List.mem_cons_of_mem _ he))⟩
theorem Held.below {w w':World} {B:Nat} {es:List En} {q:Int} (h:Held w es q) (hb:Below B w w') (hl:∀ e∈es,e.at.1<B):Held w' es q:=Held.frame es q h (fun e he=>hb.cell (hl e he))
theorem Held.append {w:World}:∀ (a b:List En) (q:Int),Held w (a++b) q↔Held w a q∧Held w b (q+count a)
 | [],b,q=>by simp [Held,count]
 | .leaf c i k::a,b,q=>by
  simp only [List.cons_append,Held,count]
  rw [Held.append a b,and_assoc,show q+1+((count a:Nat):Int)=q+((count a+1:Nat):Int) by omega]
 | .head c i v::a,b,q=>by
  simp only [List.cons_append,Held,count]
  rw [Held.append a b,and_assoc]
theorem Held.of:∀ (es:List En) (w:World) (q:Int),Ok w es→Nd es→Held (marked w es q) es q
 | [],w,q,h,hn=>trivial
 | .leaf b i k::es,w,q,h,hn=>by
  have hn2:Nd ([.leaf b i k]++es):=hn
  have ha:∀ e∈es,e.at≠(b,i):=fun e he e'=>hn2.apart (.leaf b i k) (by simp) e he e'.symm
  have hok:Ok w ([.leaf b i k]++es):=h
  obtain ⟨⟨v,hv⟩,_⟩:=h (.leaf b i k) (List.mem_cons_self ..)
  refine ⟨?_,Held.of es _ _ ?_ hn2.right⟩
  ·simp only [marked]
   rw [marked_other es _ _ b i ha]
   exact World.cell?_setCell_same _ _ _ hv
  ·have:=Ok.marked hok.right [.leaf b i k] q (fun x hx e he=>hn2.apart x hx e he)
   simpa [marked] using this
 | .head b i v::es,w,q,h,hn=>by
  have hn2:Nd ([.head b i v]++es):=hn
  have ha:∀ e∈es,e.at≠(b,i):=fun e he e'=>hn2.apart (.head b i v) (by simp) e he e'.symm
  have hok:Ok w ([.head b i v]++es):=h
  refine ⟨?_,Held.of es _ _ hok.right hn2.right⟩
  simp only [marked]
  rw [marked_other es _ _ b i ha]
  exact h (.head b i v) (List.mem_cons_self ..)
theorem leaf_has {w:World} {b i:Nat} {k:Kd} {es:List En} (h:Ok w es) (hm:.leaf b i k∈es):(∃ v,w.cell? ⟨b,i,none⟩=some v)∧w.frozen? ⟨b,i,none⟩=false:=h _ hm
theorem head_has {w:World} {b i:Nat} {v:Value} {es:List En} (h:Ok w es) (hm:.head b i v∈es):w.cell? ⟨b,i,none⟩=some v:=h _ hm
def plain (b:Nat) (k:Kd):Nat→Nat→List En
 | o,0=>[]
 | o,n+1=>plain b k o n++[.leaf b (o+n) k]
theorem plain_count (b:Nat) (k:Kd) (o:Nat):∀ n,count (plain b k o n)=n
 | 0=>rfl
 | n+1=>by simp [plain,count_append,plain_count b k o n,count]
theorem plain_mem {b:Nat} {k:Kd} {o:Nat} {e:En}:∀ {n:Nat},e∈plain b k o n→∃ j,j<n∧e=.leaf b (o+j) k
 | 0,h=>by simp [plain] at h
 | n+1,h=>by
  rcases List.mem_append.1 h with h | h
  ·obtain ⟨j,hj,e⟩:=plain_mem h
   exact ⟨j,by omega,e⟩
  ·exact ⟨n,by omega,by simpa using h⟩
theorem plain_has {b:Nat} {k:Kd} {o:Nat}:∀ {n j:Nat},j<n→En.leaf b (o+j) k∈plain b k o n
 | 0,j,h=>by omega
 | n+1,j,h=>by
  by_cases e:j=n
  ·subst e;simp [plain]
  ·exact List.mem_append.2 (.inl (plain_has (by omega)))
theorem plain_nd (b:Nat) (k:Kd) (o:Nat):∀ n,Nd (plain b k o n)
 | 0=>by simp [plain,Nd]
 | n+1=>Nd.mk (plain_nd b k o n) (by simp [Nd]) (fun x hx e he=>by
   obtain ⟨j,hj,rfl⟩:=plain_mem hx
   obtain rfl:=List.mem_singleton.1 he
   simp [En.at]
   omega)
end Go.Proofs.YtcfdmbkiinjmaaaGreat.shape
namespace Go.Proofs.YtcfdmbkiinjmaaaGreat.grp
open Go.ChangeShapes Go.WideShapes Go.ChangeAt Go.RowKit
open Raft mem
theorem hide {p:Prop} (h:p):Hid p:=h
theorem cell_of {w:World} {b i:Nat} {cur:Array Value} {t:Nat} {v:Value} (h:w.heap[b]?=some (.cells cur t (0,0))) (hv:cur[i]?=some v):w.cell? ⟨b,i,none⟩=some v:=by simp [World.cell?,h,hv]
theorem frozen_of {w:World} {b:Nat} {cur:Array Value} {t:Nat} (h:w.heap[b]?=some (.cells cur t (0,0))) (i:Nat):w.frozen? ⟨b,i,none⟩=false:=by simp [World.frozen?,h]
theorem kept {w w':World} {B k:Nat} {o:Obj} (h:Below B w w') (hk:w.heap[k]?=some o) (hB:w.heap.size≤B):w'.heap[k]?=some o:=(h.block k (by have:=(Array.getElem?_eq_some_iff.1 hk).1;omega)).trans hk
theorem more {W wx:World} (h:Below W.heap.size W wx) (o:Obj):Below W.heap.size W (wx.alloc o):=h.alloc h.size o
theorem addr_add (b off i:Nat):(⟨b,off,none⟩:Addr).add i=⟨b,off+i,none⟩:=by
 unfold Addr.add
 split
 ·rename_i h;subst h;rfl
 ·rfl
theorem set_at {w:World} {b t:Nat} {cur cur':Array Value} (h:w.heap[b]?=some (.cells cur t (0,0))) (i:Nat) (x:Value) (hc:cur.setIfInBounds i x=cur'):(w.setCell ⟨b,i,none⟩ x).heap[b]?=some (.cells cur' t (0,0)):=by
 subst hc
 exact heap_setCell_same w b i cur t x h
theorem row_kept {w w':World} {base e sz:Nat} {v:Value} {n:Nat} {xs:List Value} (h:w.ownsRow base e sz v n xs) (hk:∀ g,v.ownBlock=some g→w'.heap[g]?=w.heap[g]?):w'.ownsRow base e sz v n xs:=by
 obtain ⟨h1,h2 | ⟨g,cap,cur,rfl,hb,hg,r⟩⟩:=h
 ·exact ⟨h1,.inl h2⟩
 ·exact ⟨h1,.inr ⟨g,cap,cur,rfl,hb,(hk g rfl).trans hg,r⟩⟩
theorem row_lt {w:World} {base e sz:Nat} {v:Value} {n:Nat} {xs:List Value} (h:w.ownsRow base e sz v n xs) {g:Nat} (hg:v.ownBlock=some g):base≤g∧g<w.heap.size:=by
 obtain ⟨h1,⟨rfl,_⟩|⟨g',cap,cur,rfl,hb,hh,_⟩⟩:=h
 ·simp [Value.ownBlock] at hg
 ·simp only [Value.ownBlock,Option.some.injEq] at hg
  subst hg
  exact ⟨hb,(Array.getElem?_eq_some_iff.1 hh).1⟩
theorem own_slice {w:World} {base e sz:Nat} {v:Value} {n:Nat} {xs:List Value} (h:w.ownsRow base e sz v n xs):∃ o c,v=.slice o n c:=by
 obtain ⟨_,⟨e1,e2⟩|⟨g,cap,cur,e1,_⟩⟩:=h
 ·subst e2;exact ⟨_,_,e1⟩
 ·exact ⟨_,_,e1⟩
theorem own_at {w:World} {base e sz:Nat} {v:Value} {n:Nat} {xs:List Value} (h:w.ownsRow base e sz v n xs) (hn:0<n):∃ g cap,v=.slice (some ⟨g,0,none⟩) n cap∧n≤cap∧cap≤maxLen∧(∀ i u,xs[i]?=some u→w.cell? ⟨g,i,none⟩=some u)∧∀ i,w.frozen? ⟨g,i,none⟩=false:=by
 obtain ⟨h1,⟨_,e2⟩|⟨g,cap,cur,e1,hb,hh,hc,hm,hs,ht⟩⟩:=h
 ·omega
 ·refine ⟨g,cap,e1,hc,hm,fun i u hu=>cell_of hh ?_,fun i=>frozen_of hh i⟩
  have hi:i<n*sz:=by rw [←h1];exact (List.getElem?_eq_some_iff.1 hu).1
  rw [←ht,List.getElem?_take_of_lt hi] at hu
  simpa using hu
theorem own_cap {w:World} {base e sz:Nat} {o:Option Addr} {m c n:Nat} {xs:List Value} (h:w.ownsRow base e sz (.slice o m c) n xs):m=n∧n≤c∧c≤maxLen:=by
 obtain ⟨_,⟨e1,e2⟩|⟨g,cap,cur,e1,hb,hh,hc,hm,hs,ht⟩⟩:=h
 ·simp only [Value.slice.injEq] at e1
  obtain ⟨_,rfl,rfl⟩:=e1
  exact ⟨e2.symm,by omega,by simp [maxLen]⟩
 ·simp only [Value.slice.injEq] at e1
  obtain ⟨_,rfl,rfl⟩:=e1
  exact ⟨rfl,hc,hm⟩
abbrev Lb:=Nat→Option Nat
def lab (O:Lb) (b l:Nat):Lb:=fun x=>if x=b then some l else O x
theorem lab_at (O:Lb) (b l:Nat):lab O b l b=some l:=by simp [lab]
theorem lab_ne (O:Lb) {b x:Nat} (l:Nat) (h:x≠b):lab O b l x=O x:=by simp [lab,h]
structure Sta (M:Fz) (O:Lb) (w:World):Prop where
 inn:In M w
 ok:∀ b l,O b=some l→M b=none∧b<w.heap.size
structure Aft (S:Nat→Prop) (M:Fz) (O:Lb) (w:World) (M':Fz) (O':Lb) (w':World):Prop where
 os:w'.os=w.os
 tape:w'.tape=w.tape
 output:w'.output=w.output
 size:w.heap.size≤w'.heap.size
 le:Le M M'
 inn:In M' w'
 lab:∀ b,b<w.heap.size→O' b=O b
 ok:∀ b l,O' b=some l→M' b=none∧b<w'.heap.size
 newM:∀ b,M' b≠none→M b≠none∨w.heap.size≤b
 newL:∀ b l,w.heap.size≤b→O' b=some l→S l
 keep:∀ b,b<w.heap.size→(∀ l,O b=some l→¬ S l)→w'.heap[b]?=w.heap[b]?
section
variable {S:Nat→Prop} {M M' M'':Fz} {O O' O'':Lb} {w w' w'':World}
theorem Aft.sta (h:Aft S M O w M' O' w'):Sta M' O' w':=⟨h.inn,h.ok⟩
theorem Aft.refl (S:Nat→Prop) (h:Sta M O w):Aft S M O w M O w :=
 ⟨rfl,rfl,rfl,Nat.le_refl _,Le.refl _,h.inn,fun _ _=>rfl,h.ok,fun _ hb=>.inl hb,fun b l hb hl=>by have:=(h.ok b l hl).2;omega,fun _ _ _=>rfl⟩
theorem Aft.trans (h:Aft S M O w M' O' w') (k:Aft S M' O' w' M'' O'' w''):Aft S M O w M'' O'' w'' where
 os:=k.os.trans h.os
 tape:=k.tape.trans h.tape
 output:=k.output.trans h.output
 size:=Nat.le_trans h.size k.size
 le:=h.le.trans k.le
 inn:=k.inn
 lab:=fun b hb=>(k.lab b (Nat.lt_of_lt_of_le hb h.size)).trans (h.lab b hb)
 ok:=k.ok
 newM:=fun b hb=>by
  rcases k.newM b hb with h1 | h1
  ·exact h.newM b h1
  ·exact .inr (Nat.le_trans h.size h1)
 newL:=fun b l hb hl=>by
  by_cases hlt:b<w'.heap.size
  ·rw [k.lab b hlt] at hl;exact h.newL b l hb hl
  ·exact k.newL b l (by omega) hl
 keep:=fun b hb hs=>(k.keep b (Nat.lt_of_lt_of_le hb h.size) (fun l hl=>hs l (by rw [←h.lab b hb];exact hl))).trans (h.keep b hb hs)
theorem Aft.mono {S':Nat→Prop} (h:Aft S M O w M' O' w') (hs:∀ l,S l→S' l):Aft S' M O w M' O' w' :=
 ⟨h.os,h.tape,h.output,h.size,h.le,h.inn,h.lab,h.ok,h.newM,fun b l hb hl=>hs l (h.newL b l hb hl),fun b hb hk=>h.keep b hb (fun l hl hS=>hk l hl (hs l hS))⟩
theorem Aft.below (h:Aft S M O w M' O' w') (hb:Below w'.heap.size w' w''):Aft S M O w M' O' w'' where
 os:=hb.os.trans h.os
 tape:=hb.tape.trans h.tape
 output:=hb.output.trans h.output
 size:=Nat.le_trans h.size hb.size
 le:=h.le
 inn:=h.inn.below hb
 lab:=h.lab
 ok:=fun b l hl=>⟨(h.ok b l hl).1,Nat.lt_of_lt_of_le (h.ok b l hl).2 hb.size⟩
 newM:=h.newM
 newL:=h.newL
 keep:=fun b hlt hs=>(hb.block b (Nat.lt_of_lt_of_le hlt h.size)).trans (h.keep b hlt hs)
theorem Aft.alloc (h:Aft S M O w M' O' w') (o:Obj):Aft S M O w M' O' (w'.alloc o):=h.below ((Below.refl _ _).alloc (Nat.le_refl _) o)
theorem Aft.set (h:Aft S M O w M' O' w') {b l:Nat} (hl:O' b=some l) (hs:S l) (i:Nat) (v:Value):Aft S M O w M' O' (w'.setCell ⟨b,i,none⟩ v) where
 os:=h.os
 tape:=h.tape
 output:=h.output
 size:=by simpa using h.size
 le:=h.le
 inn:=h.inn.set (h.ok b l hl).1 v
 lab:=h.lab
 ok:=fun b' l' hl'=>⟨(h.ok b' l' hl').1,by simpa using (h.ok b' l' hl').2⟩
 newM:=h.newM
 newL:=h.newL
 keep:=fun b' hlt hk=>(Below.heap_setCell w' ⟨b,i,none⟩ v b' (fun e=>by
  subst e
  exact hk l (by rw [←h.lab b' hlt];exact hl) hs)).trans (h.keep b' hlt hk)
theorem Aft.grown (h:Aft S M O w M' O' w') {row:Option Nat} (g:w'.grownBy w'' row) (hr:∀ b,row=some b→∃ l,O' b=some l∧S l):Aft S M O w M' O' w'' where
 os:=g.os.trans h.os
 tape:=g.tape.trans h.tape
 output:=g.output.trans h.output
 size:=Nat.le_trans h.size g.size
 le:=h.le
 inn:=h.inn.grown g (fun k hk=>by
  obtain ⟨l,h1,_⟩:=hr k hk
  exact (h.ok k l h1).1)
 lab:=h.lab
 ok:=fun b l hl=>⟨(h.ok b l hl).1,Nat.lt_of_lt_of_le (h.ok b l hl).2 g.size⟩
 newM:=h.newM
 newL:=h.newL
 keep:=fun b hlt hk=>(g.block b (Nat.lt_of_lt_of_le hlt h.size) (fun e=>by
  obtain ⟨l,h1,h2⟩:=hr b e.symm
  exact hk l (by rw [←h.lab b hlt];exact h1) h2)).trans (h.keep b hlt hk)
theorem Aft.freezes {M2:Fz} (h:Aft S M O w M' O' w') (hl:Le M' M2) (hI:In M2 w') (hn:∀ b,M2 b≠none→M' b≠none∨w.heap.size≤b) (hf:∀ b l,O' b=some l→M2 b=none):Aft S M O w M2 O' w' where
 os:=h.os
 tape:=h.tape
 output:=h.output
 size:=h.size
 le:=h.le.trans hl
 inn:=hI
 lab:=h.lab
 ok:=fun x l hx=>⟨hf x l hx,(h.ok x l hx).2⟩
 newM:=fun x hx=>by
  rcases hn x hx with h1 | h1
  ·exact h.newM x h1
  ·exact .inr h1
 newL:=h.newL
 keep:=h.keep
theorem Aft.label (h:Aft S M O w M' O' w') {b l:Nat} (hb:w.heap.size≤b) (hlt:b<w'.heap.size) (hm:M' b=none) (hs:S l):Aft S M O w M' (grp.lab O' b l) w' where
 os:=h.os
 tape:=h.tape
 output:=h.output
 size:=h.size
 le:=h.le
 inn:=h.inn
 lab:=fun x hx=>(lab_ne O' l (by omega)).trans (h.lab x hx)
 ok:=fun x l' hx=>by
  by_cases e:x=b
  ·subst e;exact ⟨hm,hlt⟩
  ·rw [lab_ne O' l e] at hx;exact h.ok x l' hx
 newM:=h.newM
 newL:=fun x l' hx hl'=>by
  by_cases e:x=b
  ·subst e;rw [lab_at] at hl';exact (Option.some.inj hl') ▸ hs
  ·rw [lab_ne O' l e] at hl';exact h.newL x l' hx hl'
 keep:=h.keep
theorem Sta.fresh (h:Sta M O w) {b:Nat} (hb:w.heap.size≤b):O b=none∧M b=none:=by
 refine ⟨?_,h.inn.fresh hb⟩
 cases e:O b with
 | none=>rfl
 | some l=>have:=(h.ok b l e).2;omega
theorem Sta.below (h:Sta M O w) (hb:Below w.heap.size w w'):Sta M O w':=((Aft.refl (fun _=>True) h).below hb).sta
end
structure Nd (w:World) (M:Fz) (O:Lb) (b k:Nat) (p:Peer) (us:List RV) (lv vv nv mv:Value):Prop where
 blk:w.heap[b]?=some (.cells #[.int .i64 p.term,.int .i64 p.vote,lv,.int .i64 k,.bool p.up,.int .i64 p.commit,.int .i64 p.role,vv,nv,mv] 89 (0,0))
 own:O b=some (3+k)
 log:w.ownsRow 0 74 3 lv us.length (us.flatMap recCells)
 recs:us.map (·.r)=p.log
 data:∀ x∈us,BytesM M x.dv x.r.data∧x.r.data.length≤1000
 votes:w.ownsRow 0 4 1 vv p.votes.length (p.votes.map Value.bool)
 next:w.ownsRow 0 3 1 nv p.next.length (p.next.map fun (n:Nat)=>Value.int .i64 (n:Int))
 mat:w.ownsRow 0 3 1 mv p.mat.length (p.mat.map fun (n:Nat)=>Value.int .i64 (n:Int))
 lab:∀ v∈[lv,vv,nv,mv],∀ g,v.ownBlock=some g→O g=some (3+k)
 apart:∀ g,nv.ownBlock=some g→mv.ownBlock≠some g
def Nod (w:World) (M:Fz) (O:Lb) (b k:Nat) (p:Peer):Prop:=∃ us lv vv nv mv,Nd w M O b k p us lv vv nv mv
theorem type_ne {w:World} {base e sz:Nat} {v:Value} {n:Nat} {xs:List Value} (h:w.ownsRow base e sz v n xs) {b:Nat} {cur:Array Value} {t:Nat} (hb:w.heap[b]?=some (.cells cur t (0,0))) (ht:t≠e):v.ownBlock≠some b:=fun hg=>by
 obtain ⟨h1,⟨rfl,_⟩|⟨g',cap,cur',rfl,_,hh,_⟩⟩:=h
 ·simp [Value.ownBlock] at hg
 ·simp only [Value.ownBlock,Option.some.injEq] at hg
  subst hg
  rw [hb] at hh
  simp only [Option.some.injEq,Obj.cells.injEq] at hh
  exact ht hh.2.1
section
variable {w w':World} {M M':Fz} {O O':Lb} {b k:Nat} {p p':Peer} {us:List RV} {lv vv nv mv:Value}
theorem Nd.keep (h:Nd w M O b k p us lv vv nv mv) (hk:∀ x,O x=some (3+k)→w'.heap[x]?=w.heap[x]?) (hl:Le M M') (ho:∀ x,O x=some (3+k)→O' x=some (3+k)):Nd w' M' O' b k p us lv vv nv mv where
 blk:=(hk b h.own).trans h.blk
 own:=ho b h.own
 log:=row_kept h.log fun g hg=>hk g (h.lab lv (by simp) g hg)
 recs:=h.recs
 data:=fun x hx=>⟨(h.data x hx).1.le hl,(h.data x hx).2⟩
 votes:=row_kept h.votes fun g hg=>hk g (h.lab vv (by simp) g hg)
 next:=row_kept h.next fun g hg=>hk g (h.lab nv (by simp) g hg)
 mat:=row_kept h.mat fun g hg=>hk g (h.lab mv (by simp) g hg)
 lab:=fun v hv g hg=>ho g (h.lab v hv g hg)
 apart:=h.apart
theorem Nd.ne (h:Nd w M O b k p us lv vv nv mv):lv.ownBlock≠some b∧vv.ownBlock≠some b∧nv.ownBlock≠some b∧mv.ownBlock≠some b :=
 ⟨type_ne h.log h.blk (by decide),type_ne h.votes h.blk (by decide),type_ne h.next h.blk (by decide),type_ne h.mat h.blk (by decide)⟩
theorem Nd.put (h:Nd w M O b k p us lv vv nv mv) (p':Peer) {vv' nv' mv':Value} (hb:w'.heap[b]?=some (.cells #[.int .i64 p'.term,.int .i64 p'.vote,lv,.int .i64 k,.bool p'.up,.int .i64 p'.commit,.int .i64 p'.role,vv',nv',mv'] 89 (0,0)))
  (hk:∀ x,x≠b→w'.heap[x]?=w.heap[x]?) (hl:p'.log=p.log) (hv:(vv'=vv∧p'.votes=p.votes)∨(vv'=.slice none 0 0∧p'.votes=[])) (hn:(nv'=nv∧p'.next=p.next)∨(nv'=.slice none 0 0∧p'.next=[]))
  (hm:(mv'=mv∧p'.mat=p.mat)∨(mv'=.slice none 0 0∧p'.mat=[])):Nd w' M O b k p' us lv vv' nv' mv':=by
 obtain ⟨n1,n2,n3,n4⟩:=h.ne
 have r1:=row_kept (w':=w') h.log fun g hg=>hk g (fun e=>n1 (e ▸ hg))
 have r2:=row_kept (w':=w') h.votes fun g hg=>hk g (fun e=>n2 (e ▸ hg))
 have r3:=row_kept (w':=w') h.next fun g hg=>hk g (fun e=>n3 (e ▸ hg))
 have r4:=row_kept (w':=w') h.mat fun g hg=>hk g (fun e=>n4 (e ▸ hg))
 refine ⟨hb,h.own,r1,by rw [hl];exact h.recs,h.data,?_,?_,?_,?_,?_⟩
 ·rcases hv with ⟨rfl,e⟩|⟨rfl,e⟩
  ·rw [e];exact r2
  ·rw [e];exact World.ownsRow_nil w' 0 4 1
 ·rcases hn with ⟨rfl,e⟩|⟨rfl,e⟩
  ·rw [e];exact r3
  ·rw [e];exact World.ownsRow_nil w' 0 3 1
 ·rcases hm with ⟨rfl,e⟩|⟨rfl,e⟩
  ·rw [e];exact r4
  ·rw [e];exact World.ownsRow_nil w' 0 3 1
 ·intro v hv' g hg
  simp only [List.mem_cons,List.not_mem_nil,or_false] at hv'
  rcases hv' with rfl | rfl | rfl | rfl
  ·exact h.lab _ (by simp) g hg
  ·rcases hv with ⟨rfl,_⟩|⟨rfl,_⟩
   ·exact h.lab _ (by simp) g hg
   ·simp [Value.ownBlock] at hg
  ·rcases hn with ⟨rfl,_⟩|⟨rfl,_⟩
   ·exact h.lab _ (by simp) g hg
   ·simp [Value.ownBlock] at hg
  ·rcases hm with ⟨rfl,_⟩|⟨rfl,_⟩
   ·exact h.lab _ (by simp) g hg
   ·simp [Value.ownBlock] at hg
 ·intro g hg
  rcases hn with ⟨rfl,_⟩|⟨rfl,_⟩
  ·rcases hm with ⟨rfl,_⟩|⟨rfl,_⟩
   ·exact h.apart g hg
   ·simp [Value.ownBlock]
  ·simp [Value.ownBlock] at hg
end
def letter (x:MV) (nx:Option Nat):Array Value:=#[.int .i64 x.m.kind,.int .i64 x.m.frm,.int .i64 x.m.to,.int .i64 x.m.term,.int .i64 x.m.a,.int .i64 x.m.b,.int .i64 x.m.c,.bool x.m.ok,x.lv,.pointer (nx.map fun b=>⟨b,0,none⟩)]
def mv0:MV:=⟨⟨0,0,0,0,0,0,0,false,[]⟩,.slice none 0 0⟩
structure Pst (w:World) (M:Fz) (O:Lb) (hd:Nat) (bs:List Nat) (us:List MV):Prop where
 len:bs.length=us.length
 nodup:(hd::bs).Nodup
 lab:∀ b∈hd::bs,O b=some 2
 blk:∀ (i b:Nat) (x:MV),(hd::bs)[i]?=some b→(mv0::us)[i]?=some x→w.heap[b]?=some (.cells (letter x bs[i]?) 79 (0,0))
 logs:∀ x∈us,RecsM M x.lv x.m.log
theorem Pst.keep {w w':World} {M M':Fz} {O O':Lb} {hd:Nat} {bs:List Nat} {us:List MV} (h:Pst w M O hd bs us) (hk:∀ x,O x=some 2→w'.heap[x]?=w.heap[x]?) (hl:Le M M') (ho:∀ x,O x=some 2→O' x=some 2):Pst w' M' O' hd bs us where
 len:=h.len
 nodup:=h.nodup
 lab:=fun b hb=>ho b (h.lab b hb)
 blk:=fun i b x hb hx=>(hk b (h.lab b (List.mem_iff_getElem?.2 ⟨i,hb⟩))).trans (h.blk i b x hb hx)
 logs:=fun x hx=>(h.logs x hx).le hl
structure Chs (w:World) (M:Fz) (O:Lb) (cv:Value) (cs:List RV):Prop where
 row:w.ownsRow 0 74 3 cv cs.length (cs.flatMap recCells)
 lab:∀ g,cv.ownBlock=some g→O g=some 1
 data:∀ x∈cs,BytesM M x.dv x.r.data∧x.r.data.length≤1000
theorem Chs.keep {w w':World} {M M':Fz} {O O':Lb} {cv:Value} {cs:List RV} (h:Chs w M O cv cs) (hk:∀ x,O x=some 1→w'.heap[x]?=w.heap[x]?) (hl:Le M M') (ho:∀ x,O x=some 1→O' x=some 1):Chs w' M' O' cv cs :=
 ⟨row_kept h.row fun g hg=>hk g (h.lab g hg),fun g hg=>ho g (h.lab g hg),fun x hx=>⟨(h.data x hx).1.le hl,(h.data x hx).2⟩⟩
structure Gr (w:World) (M:Fz) (O:Lb) (d hd:Nat) (nb:List Nat) (c:Cl) (pv cv:Value) (bs:List Nat) (us:List MV) (cs:List RV):Prop where
 st:Sta M O w
 blk:w.heap[d]?=some (.cells #[.pointer (some ⟨hd,0,none⟩),.int .i64 us.length,pv,cv,.bool c.conflict] 84 (0,0))
 own:O d=some 0
 peers:RowM M pv nb.length 1 (nb.map fun b=>Value.pointer (some ⟨b,0,none⟩))
 len:nb.length=c.peers.length
 nodes:∀ (k b:Nat) (p:Peer),nb[k]?=some b→c.peers[k]?=some p→Nod w M O b k p
 post:Pst w M O hd bs us
 nets:us.map (·.m)=c.net
 chos:Chs w M O cv cs
 chosen:cs.map (·.r)=c.chosen
def G (w:World) (M:Fz) (O:Lb) (d:Nat) (nb:List Nat) (c:Cl):Prop:=∃ hd pv cv bs us cs,Gr w M O d hd nb c pv cv bs us cs
section
variable {w w':World} {M M':Fz} {O O':Lb} {d hd:Nat} {nb:List Nat} {c:Cl} {pv cv:Value} {bs:List Nat} {us:List MV} {cs:List RV}
theorem lab_of {S:Nat→Prop} (h:Sta M O w) (a:Aft S M O w M' O' w') {l:Nat}:∀ x,O x=some l→O' x=some l:=fun x hx=>(a.lab x (h.ok x l hx).2).trans hx
theorem keep_of {S:Nat→Prop} (h:Sta M O w) (a:Aft S M O w M' O' w') {l:Nat} (hl:¬ S l):∀ x,O x=some l→w'.heap[x]?=w.heap[x]? := fun x hx=>a.keep x (h.ok x l hx).2 (fun l' hl'=>by rw [hx] at hl';exact (Option.some.inj hl') ▸ hl)
theorem Gr.node (h:Gr w M O d hd nb c pv cv bs us cs) {k b:Nat} {p':Peer} (hb:nb[k]?=some b) (a:Aft (· = 3+k) M O w M' O' w') (hn:Nod w' M' O' b k p'):Gr w' M' O' d hd nb (c.put k p') pv cv bs us cs where
 st:=a.sta
 blk:=(keep_of h.st a (by omega) d h.own).trans h.blk
 own:=lab_of h.st a d h.own
 peers:=h.peers.le a.le
 len:=by simp [Cl.put];exact h.len
 nodes:=fun j b' p hb' hp=>by
  by_cases e:j=k
  ·subst e
   have e1:b'=b:=by rw [hb] at hb';exact (Option.some.inj hb').symm
   have hlt:j<c.peers.length:=by have:=(List.getElem?_eq_some_iff.1 hb).1;rw [h.len] at this;exact this
   simp only [Cl.put,List.getElem?_set_self hlt,Option.some.injEq] at hp
   subst e1 hp
   exact hn
  ·simp only [Cl.put] at hp
   rw [List.getElem?_set_ne (Ne.symm e)] at hp
   obtain ⟨us',lv,vv,nv,mv,hnd⟩:=h.nodes j b' p hb' hp
   exact ⟨us',lv,vv,nv,mv,hnd.keep (keep_of h.st a (by omega)) a.le (lab_of h.st a)⟩
 post:=h.post.keep (keep_of h.st a (by omega)) a.le (lab_of h.st a)
 nets:=h.nets
 chos:=h.chos.keep (keep_of h.st a (by omega)) a.le (lab_of h.st a)
 chosen:=h.chosen
theorem Gr.keep (h:Gr w M O d hd nb c pv cv bs us cs) (a:Aft (fun _=>False) M O w M' O' w'):Gr w' M' O' d hd nb c pv cv bs us cs where
 st:=a.sta
 blk:=(keep_of h.st a (fun x=>x) d h.own).trans h.blk
 own:=lab_of h.st a d h.own
 peers:=h.peers.le a.le
 len:=h.len
 nodes:=fun j b' p hb' hp=>by
  obtain ⟨us',lv,vv,nv,mv,hnd⟩:=h.nodes j b' p hb' hp
  exact ⟨us',lv,vv,nv,mv,hnd.keep (keep_of h.st a (fun x=>x)) a.le (lab_of h.st a)⟩
 post:=h.post.keep (keep_of h.st a (fun x=>x)) a.le (lab_of h.st a)
 nets:=h.nets
 chos:=h.chos.keep (keep_of h.st a (fun x=>x)) a.le (lab_of h.st a)
 chosen:=h.chosen
theorem Gr.part (h:Gr w M O d hd nb c pv cv bs us cs) {c':Cl} {cv':Value} {bs':List Nat} {us':List MV} {cs':List RV} (a:Aft (fun l=>l<3) M O w M' O' w') (hp:c'.peers=c.peers)
  (hb:w'.heap[d]?=some (.cells #[.pointer (some ⟨hd,0,none⟩),.int .i64 us'.length,pv,cv',.bool c'.conflict] 84 (0,0))) (hpost:Pst w' M' O' hd bs' us') (hn:us'.map (·.m)=c'.net) (hc:Chs w' M' O' cv' cs') (hch:cs'.map (·.r)=c'.chosen):Gr w' M' O' d hd nb c' pv cv' bs' us' cs' where
 st:=a.sta
 blk:=hb
 own:=lab_of h.st a d h.own
 peers:=h.peers.le a.le
 len:=by rw [hp];exact h.len
 nodes:=fun j b' p hb' hp'=>by
  rw [hp] at hp'
  obtain ⟨us',lv,vv,nv,mv,hnd⟩:=h.nodes j b' p hb' hp'
  exact ⟨us',lv,vv,nv,mv,hnd.keep (keep_of h.st a (by omega)) a.le (lab_of h.st a)⟩
 post:=hpost
 nets:=hn
 chos:=hc
 chosen:=hch
theorem G.sta (h:G w M O d nb c):Sta M O w:=by obtain ⟨_,_,_,_,_,_,h⟩:=h;exact h.st
theorem G.keep (h:G w M O d nb c) (a:Aft (fun _=>False) M O w M' O' w'):G w' M' O' d nb c:=by
 obtain ⟨_,_,_,_,_,_,h⟩:=h
 exact ⟨_,_,_,_,_,_,h.keep a⟩
theorem G.below (h:G w M O d nb c) (hb:Below w.heap.size w w'):G w' M O d nb c:=h.keep ((Aft.refl _ h.sta).below hb)
theorem G.node (h:G w M O d nb c) {k b:Nat} {p':Peer} (hb:nb[k]?=some b) (a:Aft (· = 3+k) M O w M' O' w') (hn:Nod w' M' O' b k p'):G w' M' O' d nb (c.put k p'):=by
 obtain ⟨_,_,_,_,_,_,h⟩:=h
 exact ⟨_,_,_,_,_,_,h.node hb a hn⟩
theorem G.len (h:G w M O d nb c):nb.length=c.peers.length:=by obtain ⟨_,_,_,_,_,_,h⟩:=h;exact h.len
theorem G.at (h:G w M O d nb c) {k b:Nat} (hb:nb[k]?=some b):Nod w M O b k (c.at k):=by
 have hl:=h.len
 obtain ⟨_,_,_,_,_,_,h⟩:=h
 have hlt:k<c.peers.length:=by have:=(List.getElem?_eq_some_iff.1 hb).1;omega
 have e:c.peers[k]?=some (c.at k):=by rw [Cl.at,List.getD_eq_getElem?_getD,List.getElem?_eq_getElem hlt];rfl
 exact h.nodes k b (c.at k) hb e
end
def NDid (M:Fz) (O:Lb) (w:World) (b k:Nat) (p':Peer) (w':World):Prop:=∃ M' O',Aft (· = 3+k) M O w M' O' w'∧Nod w' M' O' b k p'
def Did (M:Fz) (O:Lb) (w:World) (d:Nat) (nb:List Nat) (c':Cl) (w':World):Prop:=∃ M' O',Aft (fun _=>True) M O w M' O' w'∧G w' M' O' d nb c'
theorem NDid.lift {M:Fz} {O:Lb} {w w':World} {d b k:Nat} {nb:List Nat} {c:Cl} {p':Peer} (h:NDid M O w b k p' w') (hg:G w M O d nb c) (hb:nb[k]?=some b):Did M O w d nb (c.put k p') w':=by
 obtain ⟨M',O',a,hn⟩:=h
 exact ⟨M',O',a.mono (fun _ _=>trivial),hg.node hb a hn⟩
theorem NDid.below {M:Fz} {O:Lb} {w w' w'':World} {b k:Nat} {p':Peer} (h:NDid M O w b k p' w') (hb:Below w'.heap.size w' w''):NDid M O w b k p' w'':=by
 obtain ⟨M',O',a,us,lv,vv,nv,mv,hn⟩:=h
 exact ⟨M',O',a.below hb,us,lv,vv,nv,mv,hn.keep (fun x hx=>hb.block x (a.ok x _ hx).2) (Le.refl _) (fun _ hx=>hx)⟩
theorem NDid.drew {M:Fz} {O:Lb} {w w':World} {b k:Nat} {p':Peer} (h:NDid M O w b k p' w'):NDid M O w b k p' w'.drew:=h.below (Below.refl _ _).drew
theorem Did.below {M:Fz} {O:Lb} {w w' w'':World} {d:Nat} {nb:List Nat} {c':Cl} (h:Did M O w d nb c' w') (hb:Below w'.heap.size w' w''):Did M O w d nb c' w'':=by
 obtain ⟨M',O',a,hg⟩:=h
 exact ⟨M',O',a.below hb,hg.below hb⟩
theorem Did.drew {M:Fz} {O:Lb} {w w':World} {d:Nat} {nb:List Nat} {c':Cl} (h:Did M O w d nb c' w'):Did M O w d nb c' w'.drew:=h.below (Below.refl _ _).drew
theorem Did.trans {M M1:Fz} {O O1:Lb} {w w1 w':World} {d:Nat} {nb:List Nat} {c':Cl} (a:Aft (fun _=>True) M O w M1 O1 w1) (h:Did M1 O1 w1 d nb c' w'):Did M O w d nb c' w':=by
 obtain ⟨M',O',a',hg⟩:=h
 exact ⟨M',O',a.trans a',hg⟩
end Go.Proofs.YtcfdmbkiinjmaaaGreat.grp
namespace Go.Proofs.YtcfdmbkiinjmaaaGreat.mk1
open Go.ChangeShapes Go.WideShapes Go.ChangeAt Go.RowKit
open mem grp shape
theorem plain_step {w:World} {b o k:Nat} {kd:Kd} {q:Int}:(marked w (plain b kd o k) q).setCell ⟨b,o+k,none⟩ (kd.val (q+k))=marked w (plain b kd o (k+1)) q:=by
 simp only [plain]
 rw [marked_append,plain_count]
 rfl
theorem plain_at {w:World} {b o n k:Nat} {kd:Kd} (q:Int) (h:Ok w (plain b kd o n)) (hk:k<n):(∃ v,(marked w (plain b kd o k) q).cell? ⟨b,o+k,none⟩=some v)∧(marked w (plain b kd o k) q).frozen? ⟨b,o+k,none⟩=false:=by
 obtain ⟨h1,h2⟩:=leaf_has h (plain_has hk)
 exact ⟨marked_some _ _ _ _ h1,(marked_frozen _ _ _ _).trans h2⟩
theorem held_at {w:World} {b o:Nat} {kd:Kd} {q:Int}:∀ {n k:Nat},Held w (plain b kd o n) q→k<n→w.cell? ⟨b,o+k,none⟩=some (kd.val (q+k))
 | 0,k,h,hk=>by omega
 | n+1,k,h,hk=>by
  simp only [plain] at h
  rw [Held.append,plain_count] at h
  by_cases e:k=n
  ·subst e;exact h.2.1
  ·exact held_at h.1 (by omega)
set_option maxRecDepth 20000 in
set_option maxHeartbeats 1000000 in
theorem markByteS_any (w:World) (ao:Option Addr) (b o n cap:Nat) (ha:0<n→ao=some ⟨b,o,none⟩) (hc:n≤cap) (hm:cap≤maxLen) (h:Ok w (plain b .byte o n)) (q:Int) (h0:0≤q) (hq:q+n≤4611686018427387904) :
  Calls Tryz.prog 28 #[.slice ao n cap,.int .i64 q] w fun e w'=>e=.returned (.int .i64 (q+n))∧w'=marked w (plain b .byte o n) q:=by
 unfold maxLen at hm
 have HA:=hide ha
 have HO:=hide h
 have HW0:Hid (w=marked w (plain b .byte o 0) q):=rfl
 clear ha h
 go_enter Tryz.func28,Tryz.ntmps28
 go_wp2
 go_loopw [1,5] (fun q' i wr=>∃ k:Nat,k≤n∧i=.int .i64 k∧q'=.int .i64 (q+k)∧Hid (wr=marked w (plain b .byte o k) q)) (fun _ i _=>n-(intOf i).toNat)
 case atStart=>exact ⟨0,by omega,rfl,by simp,HW0⟩
 case round =>
  obtain ⟨k,hk,rfl,rfl,HR⟩:=hrel
  by_cases hlt:k<n
  ·have hltI:(k:Int)<n:=by omega
   obtain rfl:=HA.out (by omega)
   obtain ⟨⟨v0,c0⟩,f0⟩:=plain_at q HO.out hlt
   rw [←HR.out] at c0 f0
   have HN:Hid (wr.setCell ⟨b,o+k,none⟩ (Kd.val .byte (q+k))=marked w (plain b .byte o (k+1)) q):=by rw [HR.out];exact plain_step
   simp only [Kd.val] at HN
   clear HR
   go_wp2
   go_roundw
   case rel=>exact ⟨k+1,by omega,by go_num,by congr 1;omega,HN⟩
   case measure=>simp [intOf];omega
  ·have hlt2:¬ (k:Int)<n:=by omega
   obtain rfl:k=n:=by omega
   go_wp2
   go_ret
   exact ⟨rfl,HR.out⟩
set_option maxRecDepth 20000 in
set_option maxHeartbeats 1000000 in
theorem markIntS_any (w:World) (ao:Option Addr) (b o n cap:Nat) (ha:0<n→ao=some ⟨b,o,none⟩) (hc:n≤cap) (hm:cap≤maxLen) (h:Ok w (plain b .int o n)) (q:Int) (h0:0≤q) (hq:q+n≤4611686018427387904) :
  Calls Tryz.prog 13 #[.slice ao n cap,.int .i64 q] w fun e w'=>e=.returned (.int .i64 (q+n))∧w'=marked w (plain b .int o n) q:=by
 unfold maxLen at hm
 have HA:=hide ha
 have HO:=hide h
 have HW0:Hid (w=marked w (plain b .int o 0) q):=rfl
 clear ha h
 go_enter Tryz.func13,Tryz.ntmps13
 go_wp2
 go_loopw [1,5] (fun q' i wr=>∃ k:Nat,k≤n∧i=.int .i64 k∧q'=.int .i64 (q+k)∧Hid (wr=marked w (plain b .int o k) q)) (fun _ i _=>n-(intOf i).toNat)
 case atStart=>exact ⟨0,by omega,rfl,by simp,HW0⟩
 case round =>
  obtain ⟨k,hk,rfl,rfl,HR⟩:=hrel
  by_cases hlt:k<n
  ·have hltI:(k:Int)<n:=by omega
   obtain rfl:=HA.out (by omega)
   obtain ⟨⟨v0,c0⟩,f0⟩:=plain_at q HO.out hlt
   rw [←HR.out] at c0 f0
   have HN:Hid (wr.setCell ⟨b,o+k,none⟩ (Kd.val .int (q+k))=marked w (plain b .int o (k+1)) q):=by rw [HR.out];exact plain_step
   simp only [Kd.val] at HN
   clear HR
   go_wp2
   go_roundw
   case rel=>exact ⟨k+1,by omega,by go_num,by congr 1;omega,HN⟩
   case measure=>simp [intOf];omega
  ·have hlt2:¬ (k:Int)<n:=by omega
   obtain rfl:k=n:=by omega
   go_wp2
   go_ret
   exact ⟨rfl,HR.out⟩
set_option maxRecDepth 20000 in
set_option maxHeartbeats 1000000 in
theorem markBoolS_any (w:World) (ao:Option Addr) (b o n cap:Nat) (ha:0<n→ao=some ⟨b,o,none⟩) (hc:n≤cap) (hm:cap≤maxLen) (h:Ok w (plain b .bool o n)) (q:Int) (h0:0≤q) (hq:q+n≤4611686018427387904) :
  Calls Tryz.prog 52 #[.slice ao n cap,.int .i64 q] w fun e w'=>e=.returned (.int .i64 (q+n))∧w'=marked w (plain b .bool o n) q:=by
 unfold maxLen at hm
 have HA:=hide ha
 have HO:=hide h
 have HW0:Hid (w=marked w (plain b .bool o 0) q):=rfl
 clear ha h
 go_enter Tryz.func52,Tryz.ntmps52
 go_wp2
 go_loopw [1,5] (fun q' i wr=>∃ k:Nat,k≤n∧i=.int .i64 k∧q'=.int .i64 (q+k)∧Hid (wr=marked w (plain b .bool o k) q)) (fun _ i _=>n-(intOf i).toNat)
 case atStart=>exact ⟨0,by omega,rfl,by simp,HW0⟩
 case round =>
  obtain ⟨k,hk,rfl,rfl,HR⟩:=hrel
  by_cases hlt:k<n
  ·have hltI:(k:Int)<n:=by omega
   obtain rfl:=HA.out (by omega)
   obtain ⟨⟨v0,c0⟩,f0⟩:=plain_at q HO.out hlt
   rw [←HR.out] at c0 f0
   have HN:Hid (wr.setCell ⟨b,o+k,none⟩ (Kd.val .bool (q+k))=marked w (plain b .bool o (k+1)) q):=by rw [HR.out];exact plain_step
   simp only [Kd.val] at HN
   clear HR
   go_wp2
   go_roundw
   case rel=>exact ⟨k+1,by omega,by go_num,by congr 1;omega,HN⟩
   case measure=>simp [intOf];omega
  ·have hlt2:¬ (k:Int)<n:=by omega
   obtain rfl:k=n:=by omega
   go_wp2
   go_ret
   exact ⟨rfl,HR.out⟩
set_option maxRecDepth 20000 in
set_option maxHeartbeats 1000000 in
theorem heldByteS_any (w:World) (ao:Option Addr) (b o n cap:Nat) (ha:0<n→ao=some ⟨b,o,none⟩) (hc:n≤cap) (hm:cap≤maxLen) (q:Int) (h:Held w (plain b .byte o n) q) (h0:0≤q) (hq:q+n≤4611686018427387904) :
  Calls Tryz.prog 54 #[.slice ao n cap,.int .i64 q] w fun e w'=>e=.returned (.int .i64 (q+n))∧w'=w:=by
 unfold maxLen at hm
 have HA:=hide ha
 have HO:=hide h
 clear ha h
 go_enter Tryz.func54,Tryz.ntmps54
 go_wp2
 go_loopw [1,5] (fun q' i wr=>∃ k:Nat,k≤n∧i=.int .i64 k∧q'=.int .i64 (q+k)∧wr=w) (fun _ i _=>n-(intOf i).toNat)
 case atStart=>exact ⟨0,by omega,rfl,by simp,rfl⟩
 case round =>
  obtain ⟨k,hk,rfl,rfl,hwr⟩:=hrel
  subst hwr
  by_cases hlt:k<n
  ·have hltI:(k:Int)<n:=by omega
   obtain rfl:=HA.out (by omega)
   have c0:=held_at HO.out hlt
   simp only [Kd.val] at c0
   go_wp2
   go_roundw
   case rel=>exact ⟨k+1,by omega,by go_num,by congr 1;omega,trivial⟩
   case measure=>simp [intOf];omega
  ·have hlt2:¬ (k:Int)<n:=by omega
   obtain rfl:k=n:=by omega
   go_wp2
   go_ret
   exact ⟨rfl,rfl⟩
set_option maxRecDepth 20000 in
set_option maxHeartbeats 1000000 in
theorem heldIntS_any (w:World) (ao:Option Addr) (b o n cap:Nat) (ha:0<n→ao=some ⟨b,o,none⟩) (hc:n≤cap) (hm:cap≤maxLen) (q:Int) (h:Held w (plain b .int o n) q) (h0:0≤q) (hq:q+n≤4611686018427387904) :
  Calls Tryz.prog 15 #[.slice ao n cap,.int .i64 q] w fun e w'=>e=.returned (.int .i64 (q+n))∧w'=w:=by
 unfold maxLen at hm
 have HA:=hide ha
 have HO:=hide h
 clear ha h
 go_enter Tryz.func15,Tryz.ntmps15
 go_wp2
 go_loopw [1,5] (fun q' i wr=>∃ k:Nat,k≤n∧i=.int .i64 k∧q'=.int .i64 (q+k)∧wr=w) (fun _ i _=>n-(intOf i).toNat)
 case atStart=>exact ⟨0,by omega,rfl,by simp,rfl⟩
 case round =>
  obtain ⟨k,hk,rfl,rfl,hwr⟩:=hrel
  subst hwr
  by_cases hlt:k<n
  ·have hltI:(k:Int)<n:=by omega
   obtain rfl:=HA.out (by omega)
   have c0:=held_at HO.out hlt
   simp only [Kd.val] at c0
   go_wp2
   go_roundw
   case rel=>exact ⟨k+1,by omega,by go_num,by congr 1;omega,trivial⟩
   case measure=>simp [intOf];omega
  ·have hlt2:¬ (k:Int)<n:=by omega
   obtain rfl:k=n:=by omega
   go_wp2
   go_ret
   exact ⟨rfl,rfl⟩
set_option maxRecDepth 20000 in
set_option maxHeartbeats 1000000 in
theorem heldBoolS_any (w:World) (ao:Option Addr) (b o n cap:Nat) (ha:0<n→ao=some ⟨b,o,none⟩) (hc:n≤cap) (hm:cap≤maxLen) (q:Int) (h:Held w (plain b .bool o n) q) (h0:0≤q) (hq:q+n≤4611686018427387904) :
  Calls Tryz.prog 53 #[.slice ao n cap,.int .i64 q] w fun e w'=>e=.returned (.int .i64 (q+n))∧w'=w:=by
 unfold maxLen at hm
 have HA:=hide ha
 have HO:=hide h
 clear ha h
 go_enter Tryz.func53,Tryz.ntmps53
 go_wp2
 go_loopw [1,5] (fun q' i wr=>∃ k:Nat,k≤n∧i=.int .i64 k∧q'=.int .i64 (q+k)∧wr=w) (fun _ i _=>n-(intOf i).toNat)
 case atStart=>exact ⟨0,by omega,rfl,by simp,rfl⟩
 case round =>
  obtain ⟨k,hk,rfl,rfl,hwr⟩:=hrel
  subst hwr
  by_cases hlt:k<n
  ·have hltI:(k:Int)<n:=by omega
   obtain rfl:=HA.out (by omega)
   have c0:=held_at HO.out hlt
   simp only [Kd.val] at c0
   go_wp2
   go_roundw
   case rel=>exact ⟨k+1,by omega,by go_num,by congr 1;omega,trivial⟩
   case measure=>simp [intOf];omega
  ·have hlt2:¬ (k:Int)<n:=by omega
   obtain rfl:k=n:=by omega
   go_wp2
   go_ret
   exact ⟨rfl,rfl⟩
end Go.Proofs.YtcfdmbkiinjmaaaGreat.mk1
namespace Go.Proofs.YtcfdmbkiinjmaaaGreat.mk2
open Go.ChangeShapes Go.WideShapes Go.ChangeAt Go.RowKit
open mem grp shape mk1
def rowE (f:Nat→List En):Nat→List En
 | 0=>[]
 | k+1=>rowE f k++f k
theorem rowE_split (f:Nat→List En):∀ (n k:Nat),k<n→∃ r,rowE f n=rowE f k++(f k++r)
 | 0,k,h=>by omega
 | n+1,k,h=>by
  by_cases e:k=n
  ·subst e;exact ⟨[],by simp [rowE]⟩
  ·obtain ⟨r,hr⟩:=rowE_split f n k (by omega)
   exact ⟨r++f n,by simp [rowE,hr]⟩
theorem rowE_ok {w:World} {f:Nat→List En} {n k:Nat} (h:Ok w (rowE f n)) (hn:Nd (rowE f n)) (hk:k<n) (q:Int):Ok (marked w (rowE f k) q) (f k)∧Nd (f k):=by
 obtain ⟨r,hr⟩:=rowE_split f n k hk
 rw [hr] at h hn
 exact ⟨Ok.marked h.right.left _ q (fun x hx e he=>hn.apart x hx e (List.mem_append.2 (.inl he))),hn.right.left⟩
theorem rowE_held {w:World} {f:Nat→List En} {n k:Nat} {q:Int} (h:Held w (rowE f n) q) (hk:k<n):Held w (f k) (q+count (rowE f k)):=by
 obtain ⟨r,hr⟩:=rowE_split f n k hk
 rw [hr,Held.append,Held.append] at h
 exact h.2.1
theorem rowE_le {f:Nat→List En} {n k:Nat} (hk:k<n):count (rowE f k)+count (f k)≤count (rowE f n):=by
 obtain ⟨r,hr⟩:=rowE_split f n k hk
 rw [hr,count_append,count_append]
 omega
theorem rowE_next {w:World} {f:Nat→List En} {k:Nat} {q:Int}:marked (marked w (rowE f k) q) (f k) (q+count (rowE f k))=marked w (rowE f (k+1)) q:=by
 simp only [rowE]
 rw [marked_append]
theorem rowE_count (f:Nat→List En) (k:Nat):count (rowE f (k+1))=count (rowE f k)+count (f k):=by simp only [rowE];rw [count_append]
theorem rowE_mem {f:Nat→List En} {e:En}:∀ {n:Nat},e∈rowE f n→∃ k,k<n∧e∈f k
 | 0,h=>by simp [rowE] at h
 | n+1,h=>by
  rcases List.mem_append.1 h with h | h
  ·obtain ⟨k,hk,h⟩:=rowE_mem h
   exact ⟨k,by omega,h⟩
  ·exact ⟨n,by omega,h⟩
structure Sl where
 ao:Option Addr
 b:Nat
 o:Nat
 n:Nat
 cap:Nat
def Sl.v (s:Sl):Value:=.slice s.ao s.n s.cap
def Sl.Good (s:Sl):Prop:=(0<s.n→s.ao=some ⟨s.b,s.o,none⟩)∧s.n≤s.cap∧s.cap≤maxLen
def zS:Sl:=⟨none,0,0,0,0⟩
structure Rs where
 ao:Option Addr
 b:Nat
 o:Nat
 cap:Nat
 xs:List Sl
def Rs.v (r:Rs):Value:=.slice r.ao r.xs.length r.cap
def recE (b o:Nat) (s:Sl):List En:=.leaf b o .int::.leaf b (o+1) .int::.head b (o+2) (.slice s.ao s.n s.cap)::plain s.b .byte s.o s.n
def Rs.f (r:Rs) (j:Nat):List En:=recE r.b (r.o+j*3) (r.xs.getD j zS)
def Rs.es (r:Rs):List En:=rowE r.f r.xs.length
def Rs.Good (r:Rs):Prop:=(0<r.xs.length→r.ao=some ⟨r.b,r.o,none⟩)∧(r.xs.length≤r.cap∧r.cap≤maxLen)∧∀ x∈r.xs,x.Good
def zR:Rs:=⟨none,0,0,0,[]⟩
theorem getD_mem {α:Type} {l:List α} {d:α} {k:Nat} (h:k<l.length):l.getD k d∈l:=by
 rw [List.getD_eq_getElem?_getD,List.getElem?_eq_getElem h]
 exact List.getElem_mem h
theorem recE_mark {A:World} {b o:Nat} {s:Sl} {Q:Int} (hs:s.Good) (h:Ok A (recE b o s)) (hn:Nd (recE b o s)) (h0:0≤Q) (hq:Q+1+1+s.n≤4611686018427387904) :
  ((∃ v,A.cell? ⟨b,o,none⟩=some v)∧A.frozen? ⟨b,o,none⟩=false∧(∃ v,A.cell? ⟨b,o+1,none⟩=some v)∧A.frozen? ⟨b,o+1,none⟩=false)∧A.cell? ⟨b,o+2,none⟩=some (.slice s.ao s.n s.cap) ∧
  Calls Tryz.prog 28 #[.slice s.ao s.n s.cap,.int .i64 (Q+1+1)] ((A.setCell ⟨b,o,none⟩ (.int .i64 Q)).setCell ⟨b,o+1,none⟩ (.int .i64 (Q+1))) fun e w'=>e=.returned (.int .i64 (Q+1+1+s.n))∧w'=marked A (recE b o s) Q:=by
 have l0:=leaf_has (b:=b) (i:=o) (k:=.int) h (by simp [recE])
 have l1:=leaf_has (b:=b) (i:=o+1) (k:=.int) h (by simp [recE])
 have l2:=head_has (b:=b) (i:=o+2) (v:=.slice s.ao s.n s.cap) h (by simp [recE])
 refine ⟨⟨l0.1,l0.2,l1.1,l1.2⟩,l2,?_⟩
 have hsp:recE b o s=[.leaf b o .int,.leaf b (o+1) .int,.head b (o+2) (.slice s.ao s.n s.cap)]++plain s.b .byte s.o s.n:=rfl
 have hO:Ok (marked A [.leaf b o .int,.leaf b (o+1) .int,.head b (o+2) (.slice s.ao s.n s.cap)] Q) (plain s.b .byte s.o s.n):=by
  rw [hsp] at h hn
  exact Ok.marked h.right _ Q hn.apart
 exact markByteS_any _ s.ao s.b s.o s.n s.cap hs.1 hs.2.1 hs.2.2 hO (Q+1+1) (by omega) hq
theorem recE_count (b o:Nat) (s:Sl):count (recE b o s)=s.n+1+1:=by simp [recE,count,plain_count]
set_option maxRecDepth 20000 in
set_option maxHeartbeats 2000000 in
theorem markRecS_any (w:World) (r:Rs) (hg:r.Good) (h:Ok w r.es) (hn:Nd r.es) (q:Int) (h0:0≤q) (hq:q+count r.es≤4611686018427387904) :
  Calls Tryz.prog 31 #[.slice r.ao r.xs.length r.cap,.int .i64 q] w fun e w'=>e=.returned (.int .i64 (q+count r.es))∧w'=marked w r.es q:=by
 obtain ⟨ha,⟨hc,hm⟩,hx⟩:=hg
 unfold maxLen at hm
 have HStep:Hid (∀ k Q wr,k<r.xs.length→Q=q+count (rowE r.f k)→wr=marked w (rowE r.f k) q→∃ (ao:Option Addr) (n cap:Nat),r.ao=some ⟨r.b,r.o,none⟩∧0≤Q∧Q+1+1+n≤4611686018427387904∧((∃ v,wr.cell? ⟨r.b,r.o+k*3,none⟩=some v)∧wr.frozen? ⟨r.b,r.o+k*3,none⟩=false∧(∃ v,wr.cell? ⟨r.b,r.o+k*3+1,none⟩=some v)∧wr.frozen? ⟨r.b,r.o+k*3+1,none⟩=false)∧wr.cell? ⟨r.b,r.o+k*3+2,none⟩=some (.slice ao n cap) ∧
   Hid (Calls Tryz.prog 28 #[.slice ao n cap,.int .i64 (Q+1+1)] ((wr.setCell ⟨r.b,r.o+k*3,none⟩ (.int .i64 Q)).setCell ⟨r.b,r.o+k*3+1,none⟩ (.int .i64 (Q+1))) fun e w'=>e=.returned (.int .i64 (Q+1+1+n))∧Hid (Q+1+1+n=q+count (rowE r.f (k+1))∧w'=marked w (rowE r.f (k+1)) q))):=fun k Q wr hk hQ hwr=>by
  subst hwr
  obtain ⟨o1,o2⟩:=rowE_ok h hn hk q
  have hle:=rowE_le (f:=r.f) hk
  have hcnt:count (r.f k)=(r.xs.getD k zS).n+1+1:=recE_count _ _ _
  have hes:count (rowE r.f r.xs.length)=count r.es:=rfl
  obtain ⟨z1,z2,z3⟩:=recE_mark (Q:=Q) (hx _ (getD_mem (d:=zS) hk)) o1 o2 (by omega) (by omega)
  refine ⟨_,_,_,ha (by omega),by omega,by omega,z1,z2,z3.mono ?_⟩
  rintro e w' ⟨e1,e2⟩
  have hc2:=rowE_count r.f k
  refine ⟨e1,by omega,?_⟩
  rw [e2,←rowE_next,hQ]
  rfl
 have HFin:Hid (∀ Q wr,Q=q+count (rowE r.f r.xs.length)→wr=marked w (rowE r.f r.xs.length) q→Q=q+count r.es∧wr=marked w r.es q):=fun Q wr a b=>⟨a,b⟩
 have HS0:Hid (q=q+count (rowE r.f 0)∧w=marked w (rowE r.f 0) q):=⟨by simp [rowE,count],rfl⟩
 obtain ⟨c,hce⟩:∃ c,c=count r.es:=⟨_,rfl⟩
 rw [←hce] at HFin hq ⊢
 obtain ⟨W',hW'⟩:∃ W',W'=marked w r.es q:=⟨_,rfl⟩
 rw [←hW'] at HFin ⊢
 obtain ⟨n,hne⟩:∃ n,n=r.xs.length:=⟨_,rfl⟩
 rw [←hne] at HStep HFin hc ⊢
 obtain ⟨ro,hro⟩:∃ ro,ro=r.ao:=⟨_,rfl⟩
 rw [←hro] at HStep ⊢
 obtain ⟨rb,hrb⟩:∃ rb,rb=r.b:=⟨_,rfl⟩
 rw [←hrb] at HStep
 obtain ⟨oo,hoo⟩:∃ oo,oo=r.o:=⟨_,rfl⟩
 rw [←hoo] at HStep
 obtain ⟨rc,hrc⟩:∃ rc,rc=r.cap:=⟨_,rfl⟩
 rw [←hrc] at hc hm ⊢
 clear ha hx h hn hce hW' hne hro hrb hoo hrc
 go_enter Tryz.func31,Tryz.ntmps31
 go_wp2
 go_loopw [1,5] (fun q' i wr=>∃ (k:Nat) (Q:Int),k≤n∧i=.int .i64 k∧q'=.int .i64 Q∧Hid (Q=q+count (rowE r.f k)∧wr=marked w (rowE r.f k) q)) (fun _ i _=>n-(intOf i).toNat)
 case atStart=>exact ⟨0,q,by omega,rfl,rfl,HS0⟩
 case round =>
  obtain ⟨k,Q,hk,rfl,rfl,HR⟩:=hrel
  by_cases hlt:k<n
  ·have hltI:(k:Int)<n:=by omega
   obtain ⟨ao,m,cap,rfl,hQ0,hQm,⟨⟨v0,c0⟩,f0,⟨v1,c1⟩,f1⟩,c2,HC⟩:=HStep.out k Q wr hlt HR.out.1 HR.out.2
   clear HR
   go_wp2_with (go_at_call 28;refine HC.out.mono ?_;rintro e w9 ⟨rfl,HN⟩)
   go_roundw
   case rel=>exact ⟨k+1,_,by omega,by go_num,rfl,HN⟩
   case measure=>simp [intOf];omega
  ·have hlt2:¬ (k:Int)<n:=by omega
   obtain rfl:k=n:=by omega
   have HE:=hide (HFin.out Q wr HR.out.1 HR.out.2)
   go_wp2
   go_ret
   exact ⟨by rw [HE.out.1];rfl,HE.out.2⟩
theorem recE_held {A:World} {b o:Nat} {s:Sl} {Q:Int} (hs:s.Good) (h:Held A (recE b o s) Q) (h0:0≤Q) (hq:Q+1+1+s.n≤4611686018427387904) :
  A.cell? ⟨b,o,none⟩=some (.int .i64 Q)∧A.cell? ⟨b,o+1,none⟩=some (.int .i64 (Q+1))∧A.cell? ⟨b,o+2,none⟩=some (.slice s.ao s.n s.cap) ∧
  Calls Tryz.prog 54 #[.slice s.ao s.n s.cap,.int .i64 (Q+1+1)] A fun e w'=>e=.returned (.int .i64 (Q+1+1+s.n))∧w'=A:=by
 simp only [recE,Held,Kd.val] at h
 exact ⟨h.1,h.2.1,h.2.2.1,heldByteS_any _ s.ao s.b s.o s.n s.cap hs.1 hs.2.1 hs.2.2 _ h.2.2.2 (by omega) hq⟩
set_option maxRecDepth 20000 in
set_option maxHeartbeats 2000000 in
theorem heldRecS_any (w:World) (r:Rs) (hg:r.Good) (q:Int) (h:Held w r.es q) (h0:0≤q) (hq:q+count r.es≤4611686018427387904) :
  Calls Tryz.prog 34 #[.slice r.ao r.xs.length r.cap,.int .i64 q] w fun e w'=>e=.returned (.int .i64 (q+count r.es))∧w'=w:=by
 obtain ⟨ha,⟨hc,hm⟩,hx⟩:=hg
 unfold maxLen at hm
 have HStep:Hid (∀ k Q,k<r.xs.length→Q=q+count (rowE r.f k)→∃ (ao:Option Addr) (n cap:Nat),r.ao=some ⟨r.b,r.o,none⟩∧0≤Q∧Q+1+1+n≤4611686018427387904∧w.cell? ⟨r.b,r.o+k*3,none⟩=some (.int .i64 Q)∧w.cell? ⟨r.b,r.o+k*3+1,none⟩=some (.int .i64 (Q+1))∧w.cell? ⟨r.b,r.o+k*3+2,none⟩=some (.slice ao n cap) ∧
   Hid (Calls Tryz.prog 54 #[.slice ao n cap,.int .i64 (Q+1+1)] w fun e w'=>e=.returned (.int .i64 (Q+1+1+n))∧w'=w)∧Hid (Q+1+1+n=q+count (rowE r.f (k+1)))):=fun k Q hk hQ=>by
  have o1:=rowE_held h hk
  have hle:=rowE_le (f:=r.f) hk
  have hcnt:count (r.f k)=(r.xs.getD k zS).n+1+1:=recE_count _ _ _
  have hes:count (rowE r.f r.xs.length)=count r.es:=rfl
  rw [←hQ] at o1
  obtain ⟨z1,z2,z3,z4⟩:=recE_held (Q:=Q) (hx _ (getD_mem (d:=zS) hk)) o1 (by omega) (by omega)
  have hc2:=rowE_count r.f k
  exact ⟨_,_,_,ha (by omega),by omega,by omega,z1,z2,z3,z4,by show _=_;omega⟩
 have HFin:Hid (∀ Q,Q=q+count (rowE r.f r.xs.length)→Q=q+count r.es):=fun Q a=>a
 have HS0:Hid (q=q+count (rowE r.f 0)):=by show _=_;simp [rowE,count]
 obtain ⟨c,hce⟩:∃ c,c=count r.es:=⟨_,rfl⟩
 rw [←hce] at HFin hq ⊢
 obtain ⟨n,hne⟩:∃ n,n=r.xs.length:=⟨_,rfl⟩
 rw [←hne] at HStep HFin hc ⊢
 obtain ⟨ro,hro⟩:∃ ro,ro=r.ao:=⟨_,rfl⟩
 rw [←hro] at HStep ⊢
 obtain ⟨rb,hrb⟩:∃ rb,rb=r.b:=⟨_,rfl⟩
 rw [←hrb] at HStep
 obtain ⟨oo,hoo⟩:∃ oo,oo=r.o:=⟨_,rfl⟩
 rw [←hoo] at HStep
 obtain ⟨rc,hrc⟩:∃ rc,rc=r.cap:=⟨_,rfl⟩
 rw [←hrc] at hc hm ⊢
 clear ha hx h hce hne hro hrb hoo hrc
 go_enter Tryz.func34,Tryz.ntmps34
 go_wp2
 go_loopw [1,5] (fun q' i wr=>∃ (k:Nat) (Q:Int),k≤n∧i=.int .i64 k∧q'=.int .i64 Q∧wr=w∧Hid (Q=q+count (rowE r.f k))) (fun _ i _=>n-(intOf i).toNat)
 case atStart=>exact ⟨0,q,by omega,rfl,rfl,rfl,HS0⟩
 case round =>
  obtain ⟨k,Q,hk,rfl,rfl,hwr,HR⟩:=hrel
  subst hwr
  by_cases hlt:k<n
  ·have hltI:(k:Int)<n:=by omega
   obtain ⟨ao,m,cap,rfl,hQ0,hQm,c0,c1,c2,HC,HN⟩:=HStep.out k Q hlt HR.out
   clear HR
   have hnn:¬ Q+1+1+(m:Int)<0:=by omega
   go_wp2_with (go_at_call 54;refine HC.out.mono ?_;rintro e w9 ⟨rfl,e9⟩;obtain rfl:=e9.symm)
   go_roundw
   case rel=>exact ⟨k+1,_,by omega,by go_num,rfl,trivial,HN⟩
   case measure=>simp [intOf];omega
  ·have hlt2:¬ (k:Int)<n:=by omega
   obtain rfl:k=n:=by omega
   have HE:=hide (HFin.out Q HR.out)
   go_wp2
   go_ret
   exact ⟨by rw [HE.out];rfl,rfl⟩
end Go.Proofs.YtcfdmbkiinjmaaaGreat.mk2
