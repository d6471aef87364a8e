import Derived.Test.YtfhimmnoipfiaaaDoorQ07
import Derived.BigRegion
import Derived.Lib.Strings
import Derived.OwnWalk
import Derived.Deep.RegionLaw
import Derived.Deep.QuietTactic
import Derived.BigQuiet
set_option linter.unusedVariables false
open Go.ChangeShapes Go.WideShapes Go.ChangeAt Go.RowKit
namespace Go.Proofs.YtfhimmnoipfiaaaDoor.eng
open bytes places sets tz rex
abbrev mt0:ByteArray:=⟨#[]⟩
def rxV (kind n m:Int) (ss:ByteArray) (v:Value):Array Value:=#[.int .i64 kind,.int .i64 n,.int .i64 m,.string ss,v]
def unM:Option Nat→Int
 | some m=>m
 | none => -1
abbrev nilV:Value:=.slice none 0 0
mutual
def RxAt (M:Fz):Tr→Array Value→Prop
 | .char b,cs=>cs=rxV 1 b 0 mt0 nilV
 | .any,cs=>cs=rxV 2 0 0 mt0 nilV
 | .set s,cs=>cs=rxV 3 0 0 (strOfNums s) nilV
 | .beg,cs=>cs=rxV 4 0 0 mt0 nilV
 | .fin,cs=>cs=rxV 5 0 0 mt0 nilV
 | .group n k,cs=>∃ g cap cur,cs=rxV 6 n 0 mt0 (.slice (some ⟨g,0,none⟩) 1 cap)∧M g=some (.cells cur 25 (0,0))∧∃ cc:Array Value,cc.size=5∧(∀ j,j<5→cur[0*5+j]?=cc[j]?)∧RxAt M k cc
 | .cat ks,cs=>(ks=[]∧cs=rxV 7 0 0 mt0 nilV)∨∃ g cap cur,cs=rxV 7 0 0 mt0 (.slice (some ⟨g,0,none⟩) ks.length cap)∧M g=some (.cells cur 25 (0,0))∧KAt M ks cur 0
 | .alt ks,cs=>∃ g cap cur,cs=rxV 8 0 0 mt0 (.slice (some ⟨g,0,none⟩) ks.length cap)∧M g=some (.cells cur 25 (0,0))∧KAt M ks cur 0
 | .rep n m k,cs=>∃ g cap cur,cs=rxV 9 n (unM m) mt0 (.slice (some ⟨g,0,none⟩) 1 cap)∧M g=some (.cells cur 25 (0,0))∧∃ cc:Array Value,cc.size=5∧(∀ j,j<5→cur[0*5+j]?=cc[j]?)∧RxAt M k cc
def KAt (M:Fz):List Tr→Array Value→Nat→Prop
 | [],_,_=>True
 | k::ks,cur,i=>(∃ cc:Array Value,cc.size=5∧(∀ j,j<5→cur[i*5+j]?=cc[j]?)∧RxAt M k cc)∧KAt M ks cur (i+1)
end
mutual
theorem RxAt.up {M M':Fz} (h:FLe M M'):∀ (t:Tr) (cs:Array Value),RxAt M t cs→RxAt M' t cs
 | .char b,cs,x=>by rw [RxAt] at x ⊢;exact x
 | .any,cs,x=>by rw [RxAt] at x ⊢;exact x
 | .set s,cs,x=>by rw [RxAt] at x ⊢;exact x
 | .beg,cs,x=>by rw [RxAt] at x ⊢;exact x
 | .fin,cs,x=>by rw [RxAt] at x ⊢;exact x
 | .group n k,cs,x=>by
  rw [RxAt] at x ⊢
  obtain ⟨g,cap,cur,h1,h2,cc,h3,h4,h5⟩:=x
  exact ⟨g,cap,cur,h1,h _ _ h2,cc,h3,h4,RxAt.up h k cc h5⟩
 | .cat ks,cs,x=>by
  rw [RxAt] at x ⊢
  rcases x with x | ⟨g,cap,cur,h1,h2,h3⟩
  ·exact .inl x
  ·exact .inr ⟨g,cap,cur,h1,h _ _ h2,KAt.up h ks cur 0 h3⟩
 | .alt ks,cs,x=>by
  rw [RxAt] at x ⊢
  obtain ⟨g,cap,cur,h1,h2,h3⟩:=x
  exact ⟨g,cap,cur,h1,h _ _ h2,KAt.up h ks cur 0 h3⟩
 | .rep n m k,cs,x=>by
  rw [RxAt] at x ⊢
  obtain ⟨g,cap,cur,h1,h2,cc,h3,h4,h5⟩:=x
  exact ⟨g,cap,cur,h1,h _ _ h2,cc,h3,h4,RxAt.up h k cc h5⟩
theorem KAt.up {M M':Fz} (h:FLe M M'):∀ (ks:List Tr) (cur:Array Value) (i:Nat),KAt M ks cur i→KAt M' ks cur i
 | [],cur,i,x=>by rw [KAt] at x ⊢;exact x
 | k::ks,cur,i,x=>by
  rw [KAt] at x ⊢
  obtain ⟨⟨cc,h3,h4,h5⟩,h6⟩:=x
  exact ⟨⟨cc,h3,h4,RxAt.up h k cc h5⟩,KAt.up h ks cur (i+1) h6⟩
end
theorem KAt.get {M:Fz}:∀ {ks:List Tr} {cur:Array Value} {i:Nat},KAt M ks cur i→∀ {j:Nat} {k:Tr},ks[j]?=some k→∃ cc:Array Value,cc.size=5∧(∀ x,x<5→cur[(i+j)*5+x]?=cc[x]?)∧RxAt M k cc
 | [],cur,i,_,j,k,hj=>by simp at hj
 | a::ks,cur,i,h,0,k,hj=>by
  rw [KAt] at h
  simp only [List.getElem?_cons_zero,Option.some.injEq] at hj
  subst hj
  exact h.1
 | a::ks,cur,i,h,j+1,k,hj=>by
  rw [KAt] at h
  obtain ⟨cc,h1,h2,h3⟩:=KAt.get h.2 (j:=j) (by simpa using hj)
  exact ⟨cc,h1,fun x hx=>by rw [←h2 x hx,show i+1+j=i+(j+1) by omega],h3⟩
def kidsOf:Tr→List Tr
 | .group _ k=>[k]
 | .cat ks=>ks
 | .alt ks=>ks
 | .rep _ _ k=>[k]
 | _=>[]
def KidsV (M:Fz) (ks:List Tr) (v:Value):Prop:=(ks=[]∧v=nilV)∨∃ g cap cur,v=.slice (some ⟨g,0,none⟩) ks.length cap∧M g=some (.cells cur 25 (0,0))∧KAt M ks cur 0
theorem KAt.one {M:Fz} {k:Tr} {cur:Array Value} (h:∃ cc:Array Value,cc.size=5∧(∀ j,j<5→cur[0*5+j]?=cc[j]?)∧RxAt M k cc):KAt M [k] cur 0:=by
 rw [KAt]
 exact ⟨h,by rw [KAt];trivial⟩
theorem RxAt.form {M:Fz}:∀ {t:Tr} {cs:Array Value},RxAt M t cs→∃ kind n m ss v,cs=rxV kind n m ss v∧KidsV M (kidsOf t) v
 | .char b,cs,x=>by rw [RxAt] at x;exact ⟨_,_,_,_,_,x,.inl ⟨rfl,rfl⟩⟩
 | .any,cs,x=>by rw [RxAt] at x;exact ⟨_,_,_,_,_,x,.inl ⟨rfl,rfl⟩⟩
 | .set s,cs,x=>by rw [RxAt] at x;exact ⟨_,_,_,_,_,x,.inl ⟨rfl,rfl⟩⟩
 | .beg,cs,x=>by rw [RxAt] at x;exact ⟨_,_,_,_,_,x,.inl ⟨rfl,rfl⟩⟩
 | .fin,cs,x=>by rw [RxAt] at x;exact ⟨_,_,_,_,_,x,.inl ⟨rfl,rfl⟩⟩
 | .group n k,cs,x=>by
  rw [RxAt] at x
  obtain ⟨g,cap,cur,h1,h2,h3⟩:=x
  exact ⟨_,_,_,_,_,h1,.inr ⟨g,cap,cur,rfl,h2,KAt.one h3⟩⟩
 | .cat ks,cs,x=>by
  rw [RxAt] at x
  rcases x with ⟨rfl,x⟩|⟨g,cap,cur,h1,h2,h3⟩
  ·exact ⟨_,_,_,_,_,x,.inl ⟨rfl,rfl⟩⟩
  ·exact ⟨_,_,_,_,_,h1,.inr ⟨g,cap,cur,rfl,h2,h3⟩⟩
 | .alt ks,cs,x=>by
  rw [RxAt] at x
  obtain ⟨g,cap,cur,h1,h2,h3⟩:=x
  exact ⟨_,_,_,_,_,h1,.inr ⟨g,cap,cur,rfl,h2,h3⟩⟩
 | .rep n m k,cs,x=>by
  rw [RxAt] at x
  obtain ⟨g,cap,cur,h1,h2,h3⟩:=x
  exact ⟨_,_,_,_,_,h1,.inr ⟨g,cap,cur,rfl,h2,KAt.one h3⟩⟩
mutual
def OkT (N:Nat):Tr→Prop
 | .char b=>0≤b∧b≤255
 | .any=>True
 | .set s=>s≠[]∧(∀ x∈s,0≤x∧x≤255)∧s.Pairwise (· < ·)
 | .beg=>True
 | .fin=>True
 | .group n k=>1≤n∧2*n+2≤N∧n≤9∧OkT N k
 | .cat ks=>ks.length≤300∧OkK N ks
 | .alt ks=>2≤ks.length∧ks.length≤300∧OkK N ks
 | .rep n m k=>n≤20∧(∀ m',m=some m'→n≤m'∧m'≤20)∧OkT N k
def OkK (N:Nat):List Tr→Prop
 | []=>True
 | k::ks=>OkT N k∧OkK N ks
end
theorem OkK.get {N:Nat}:∀ {ks:List Tr},OkK N ks→∀ {j:Nat} {k:Tr},ks[j]?=some k→OkT N k
 | [],_,j,k,hj=>by simp at hj
 | a::ks,h,0,k,hj=>by
  rw [OkK] at h
  simp only [List.getElem?_cons_zero,Option.some.injEq] at hj
  subst hj
  exact h.1
 | a::ks,h,j+1,k,hj=>by
  rw [OkK] at h
  exact OkK.get h.2 (j:=j) (by simpa using hj)
theorem OkT.kids {N:Nat}:∀ {t:Tr},OkT N t→(kidsOf t).length≤300∧∀ {j:Nat} {k:Tr},(kidsOf t)[j]?=some k→OkT N k
 | .char b,h=>⟨by simp [kidsOf],fun hj=>by simp [kidsOf] at hj⟩
 | .any,h=>⟨by simp [kidsOf],fun hj=>by simp [kidsOf] at hj⟩
 | .set s,h=>⟨by simp [kidsOf],fun hj=>by simp [kidsOf] at hj⟩
 | .beg,h=>⟨by simp [kidsOf],fun hj=>by simp [kidsOf] at hj⟩
 | .fin,h=>⟨by simp [kidsOf],fun hj=>by simp [kidsOf] at hj⟩
 | .group n k,h=>by
  rw [OkT] at h
  refine ⟨by simp [kidsOf],fun {j} {x} hj => ?_⟩
  rw [kidsOf] at hj
  have:=List.mem_of_getElem? hj
  simp only [List.mem_singleton] at this
  rw [this];exact h.2.2.2
 | .cat ks,h=>by rw [OkT] at h;exact ⟨h.1,fun hj=>h.2.get hj⟩
 | .alt ks,h=>by rw [OkT] at h;exact ⟨h.2.1,fun hj=>h.2.2.get hj⟩
 | .rep n m k,h=>by
  rw [OkT] at h
  refine ⟨by simp [kidsOf],fun {j} {x} hj => ?_⟩
  rw [kidsOf] at hj
  have:=List.mem_of_getElem? hj
  simp only [List.mem_singleton] at this
  rw [this];exact h.2.2
structure WL (L:Nat) (ts:List Int) (M:Fz) (K:Ks) (R:Rs) (O:Lb) (w:World) (N:Nat) (ks:List Tr) (W0:World) (i:Nat) (M':Fz) (K':Ks) (R':Rs) (O':Lb) (kds:List Kd) (cur:Array Value) (W:World):Prop where
 fm:FLe M M'
 km:KLe K K'
 st:St L M' K' R O w R' O' W
 few:Few K' R'
 len:kds.length=i
 sz:cur.size=ks.length*2
 row:W.heap[w.heap.size+2]?=some (.cells cur 49 (0,0))
 is:∀ (j:Nat) (x:Value),(rowOf kds)[j]?=some x→cur[j]?=some x
 kid:∀ (j:Nat) (k:Kd),kds[j]?=some k→∃ T,ks[j]?=some T∧k.a=rex.mt ts T∧k.s=sp ts T∧KdOK L M' K' N k
 o0:O' w.heap.size=none∧O' (w.heap.size+1)=none∧O' (w.heap.size+2)=none
 low:W.heap[w.heap.size]?=W0.heap[w.heap.size]? ∧ W.heap[w.heap.size+1]?=W0.heap[w.heap.size+1]?
 size:w.heap.size+3≤W.heap.size
section
variable {L:Nat} {ts:List Int} {M M' M2:Fz} {K K' K2:Ks} {R R' R2:Rs} {O O' O2:Lb} {w W0 W w3:World} {N i:Nat} {ks:List Tr} {kds:List Kd} {cur:Array Value}
theorem WL.next (h:WL L ts M K R O w N ks W0 i M' K' R' O' kds cur W) (o:Obj) {T:Tr} (hT:ks[i]?=some T) {k2:Kd} (ha:k2.a=rex.mt ts T) (hs:k2.s=sp ts T) (g1:FLe M' M2) (g2:KLe K' K2) (g3:St L M2 K2 R' O' (W.alloc o) R2 O2 w3) (g4:Few K2 R2) (hk:KdOK L M2 K2 N k2) :
  w3.heap[w.heap.size+2]?=some (.cells cur 49 (0,0))∧w.heap.size+2<w3.heap.size∧i*2+1<cur.size ∧
   WL L ts M K R O w N ks W0 (i+1) M2 K2 R2 O2 (kds++[k2]) ((cur.setIfInBounds (i*2) k2.ve).setIfInBounds (i*2+1) k2.vp) ((w3.setCell ⟨w.heap.size+2,i*2,none⟩ k2.ve).setCell ⟨w.heap.size+2,i*2+1,none⟩ k2.vp):=by
 have hsz:=h.size
 have hil:=(List.getElem?_eq_some_iff.1 hT).1
 have e3:∀ b,b<w.heap.size+3→O' b=none→w3.heap[b]?=W.heap[b]? := fun b hb ho=>(g3.same b (by simp;omega) (.inl ho)).trans (Below.heap_alloc _ _ _ (by omega))
 have hrow:=(e3 (w.heap.size+2) (by omega) h.o0.2.2).trans h.row
 have hcs:i*2+1<cur.size:=by rw [h.sz];omega
 have hz3:=g3.size
 simp at hz3
 have ho2:∀ b,b<w.heap.size+3→O' b=none→O2 b=none:=fun b hb ho=>(g3.lab b (by simp;omega)).trans ho
 have hO2:=ho2 _ (by omega) h.o0.2.2
 refine ⟨hrow,by omega,hcs,⟨h.fm.trans g1,h.km.trans g2,(((h.st.alloc o).then g3).set (a:=⟨w.heap.size+2,i*2,none⟩) (by simp) hO2 _).set (a:=⟨w.heap.size+2,i*2+1,none⟩) (by simp) hO2 _,g4,by simp [h.len],by simp [h.sz],?_,fun j x hx => ?_,fun j q hq => ?_,⟨ho2 _ (by omega) h.o0.1,ho2 _ (by omega) h.o0.2.1,hO2⟩,⟨?_,?_⟩,by simp;omega⟩⟩
 ·have t0:=heap_setCell_same w3 (w.heap.size+2) (i*2) cur 49 k2.ve hrow
  exact heap_setCell_same _ (w.heap.size+2) (i*2+1) _ 49 k2.vp t0
 ·rw [rowOf_app] at hx
  have hlk:(rowOf kds).length=i*2:=by rw [rowOf_len,h.len]
  have hx':(rowOf kds++[k2.ve,k2.vp])[j]?=some x:=hx
  by_cases hj:j<i*2
  ·rw [List.getElem?_append_left (by omega)] at hx'
   rw [Array.getElem?_setIfInBounds_ne (by omega),Array.getElem?_setIfInBounds_ne (by omega)]
   exact h.is j x hx'
  ·rw [List.getElem?_append_right (by omega),hlk] at hx'
   by_cases hj2:j=i*2
   ·subst hj2
    rw [Nat.sub_self] at hx'
    simp only [List.getElem?_cons_zero,Option.some.injEq] at hx'
    rw [Array.getElem?_setIfInBounds_ne (by omega)]
    simp [hx',show i*2<cur.size by omega]
   ·have hj3:j=i*2+1:=by
     have:=(List.getElem?_eq_some_iff.1 hx').1
     simp at this
     omega
    subst hj3
    rw [show i*2+1-i*2=1 by omega] at hx'
    simp only [List.getElem?_cons_succ,List.getElem?_cons_zero,Option.some.injEq] at hx'
    simp [hx',hcs]
 ·by_cases hj:j<kds.length
  ·rw [List.getElem?_append_left hj] at hq
   obtain ⟨T',h1,h2,h3,h4⟩:=h.kid j q hq
   exact ⟨T',h1,h2,h3,h4.up g1 g2⟩
  ·rw [List.getElem?_append_right (by omega)] at hq
   have hj3:j=kds.length:=by
    have:=(List.getElem?_eq_some_iff.1 hq).1
    simp at this
    omega
   subst hj3
   rw [Nat.sub_self] at hq
   simp only [List.getElem?_cons_zero,Option.some.injEq] at hq
   subst hq
   exact ⟨T,by rw [h.len];exact hT,ha,hs,hk⟩
 ·exact (Below.heap_setCell _ _ _ _ (by simp)).trans ((Below.heap_setCell _ _ _ _ (by simp)).trans ((e3 _ (by omega) h.o0.1).trans h.low.1))
 ·exact (Below.heap_setCell _ _ _ _ (by simp)).trans ((Below.heap_setCell _ _ _ _ (by simp)).trans ((e3 _ (by omega) h.o0.2.1).trans h.low.2))
end
end Go.Proofs.YtfhimmnoipfiaaaDoor.eng
namespace Go.Proofs.YtfhimmnoipfiaaaDoor.eng
open bytes places sets tz rex
theorem pair_lt {s:List Int} (h:s.Pairwise (· < ·)) {i:Nat} (hi:i+1<s.length):s.getD i 0<s.getD (i+1) 0:=by
 rw [List.getD_eq_getElem?_getD,List.getD_eq_getElem?_getD,List.getElem?_eq_getElem (by omega),List.getElem?_eq_getElem hi]
 exact List.pairwise_iff_getElem.1 h i (i+1) (by omega) hi (by omega)
set_option maxHeartbeats 4000000 in
theorem rises_any (w:World) (s:List Int) (hs:∀ x∈s,0≤x∧x≤255) (hne:s≠[]) (hp:s.Pairwise (· < ·)) :
  Calls Tryd.prog 58 #[.string (strOfNums s)] w fun e w'=>e=.returned (.bool true)∧Below w.heap.size w w':=by
 have hsz:(strOfNums s).size=s.length:=strOfNums_size _
 have hpos:0<s.length:=List.length_pos_iff.2 hne
 have hix:=fun (p:Nat) (hlt:p<s.length) (W:World)=>index_text s hs p hlt W
 have hemp:((strOfNums s).toList.isEmpty)=false:=by
  cases s with
  | nil=>exact absurd rfl hne
  | cons a l =>
   rw [Lib.toList_data]
   simp [strOfNums]
 have hlen:s.length≤256:=by
  have key:∀ (l:List Int) (a:Int),(a::l).Pairwise (· < ·)→(∀ x∈(a::l),x≤255)→(l.length:Int)+a≤255:=by
   intro l
   induction l with
   | nil=>intro a _ h;have:=h a (by simp);simp;omega
   | cons b l ih =>
    intro a h1 h2
    have h3:=ih b (List.pairwise_cons.1 h1).2 (fun x hx=>h2 x (List.mem_cons_of_mem _ hx))
    have h4:=(List.pairwise_cons.1 h1).1 b (by simp)
    simp
    omega
  cases s with
  | nil=>simp
  | cons a l =>
   have h1:=key l a hp (fun x hx=>(hs x hx).2)
   have h2:=(hs a (by simp)).1
   simp
   omega
 have hS:=hide (And.intro hs hp)
 generalize strOfNums s=S at hix hsz hemp ⊢
 clear hs hp hne
 go_enter Tryd.func58,Tryd.ntmps58
 go_wp2
 go_loopw [3] (fun v3 wr=>∃ i:Nat,1≤i∧i≤s.length∧v3=.int .i64 i∧Hid (Below w.heap.size w wr)) (fun v3 _=>s.length-(intOf v3).toNat)
 case atStart=>exact ⟨1,by omega,by omega,rfl,hide (Below.refl _ _)⟩
 case round =>
  obtain ⟨i,h1,h2,rfl,hB⟩:=hrel
  by_cases hi:i<s.length
  ·have hti:(i:Int)<(s.length:Int):=by omega
   obtain ⟨j,rfl⟩:∃ j,i=j+1:=⟨i-1,by omega⟩
   have e1:((j+1:Nat):Int)-1=(j:Int):=by omega
   have hwj:IntKind.i64.wrap (((j+1:Nat):Int)-1)=(j:Int):=by rw [IntKind.wrap_i64];omega
   have hwj2:IntKind.i64.wrap ((j:Int)+1-1)=(j:Int):=by rw [IntKind.wrap_i64];omega
   have hwi:IntKind.i64.wrap (((j+1:Nat):Int)+1)=((j+1+1:Nat):Int):=by rw [IntKind.wrap_i64];omega
   have i0:=hix j (by omega)
   have i1:=hix (j+1) hi
   have hlt:=pair_lt hS.out.2 hi
   obtain ⟨a,ha⟩:∃ a,a=s.getD j 0:=⟨_,rfl⟩
   obtain ⟨b,hb⟩:∃ b,b=s.getD (j+1) 0:=⟨_,rfl⟩
   rw [←ha] at i0 hlt
   rw [←hb] at i1 hlt
   have hge:¬ b≤a:=by omega
   have hge2:decide (b≤a)=false:=by simp;omega
   obtain ⟨J,hJ⟩:∃ J,J=j+1:=⟨_,rfl⟩
   rw [←hJ] at i1 hti e1 hwj hwi hi h1 h2 ⊢
   have e2:(J:Int)-1=(j:Int):=by omega
   clear ha hb hix hJ
   have hw3:IntKind.i64.wrap (j:Int)=(j:Int):=by rw [IntKind.wrap_i64];omega
   go_wp2
   go_region
   go_wp2
   go_roundw
   case rel=>exact ⟨J+1,by omega,by omega,by simp,hide hB.out.drew⟩
   case measure=>simp [intOf];omega
  ·obtain rfl:i=s.length:=by omega
   have hnl:¬ (s.length:Int)<(s.length:Int):=by omega
   clear hix
   go_wp2
   go_ret
   exact ⟨rfl,hB.out⟩
end Go.Proofs.YtfhimmnoipfiaaaDoor.eng
namespace Go.Proofs.YtfhimmnoipfiaaaDoor.eng
open bytes places sets tz rex
set_option maxHeartbeats 4000000 in
theorem times_any (w:World) (a:Nat) (b:Int) (ha:a≤20) (hb:b = -1∨(a:Int)≤b):Calls Tryd.prog 59 #[.int .i64 (a:Int),.int .i64 b] w fun e w'=>e=.returned (.bool true)∧w'=w:=by
 have h1:(0:Int)≤(a:Int):=by omega
 have h2:(a:Int)≤20:=by omega
 have e1:decide ((0:Int)≤(a:Int))=true:=by simp
 have e2:decide ((a:Int)≤20)=true:=by simp;omega
 by_cases c:b = -1
 ·subst c
  go_enter Tryd.func59,Tryd.ntmps59
  go_wp2
  go_ret
  exact ⟨by simp,rfl⟩
 ·have hab:(a:Int)≤b:=by omega
  have e3:(b == -1)=false:=by simp [c]
  have e4:decide ((a:Int)≤b)=true:=by simp [hab]
  go_enter Tryd.func59,Tryd.ntmps59
  go_wp2
  go_ret
  exact ⟨by simp,rfl⟩
set_option maxHeartbeats 4000000 in
theorem row_char (w:World) (c:Nat) (y:Int) (h0:0≤y) (h1:y≤255) :
  Calls Tryd.prog 38 #[.pointer (some ⟨c,0,none⟩),.agg (rxV 1 y 0 mt0 nilV)] w fun e w'=>e=.returned (.bool true)∧Below w.heap.size w w':=by
 unfold rxV
 have h2:y<256:=by omega
 go_enter Tryd.func38,Tryd.ntmps38
 go_wp2
 go_region
 go_wp2
 go_ret
 exact ⟨rfl,(((Below.refl _ _).alloc (Nat.le_refl _) _).alloc (by simp) _).drew⟩
set_option maxHeartbeats 4000000 in
theorem row_any (w:World) (c:Nat):Calls Tryd.prog 38 #[.pointer (some ⟨c,0,none⟩),.agg (rxV 2 0 0 mt0 nilV)] w fun e w'=>e=.returned (.bool true)∧Below w.heap.size w w':=by
 unfold rxV
 go_enter Tryd.func38,Tryd.ntmps38
 go_wp2
 go_region
 go_wp2
 go_ret
 exact ⟨rfl,(((Below.refl _ _).alloc (Nat.le_refl _) _).alloc (by simp) _).drew⟩
set_option maxHeartbeats 4000000 in
theorem row_beg (w:World) (c:Nat):Calls Tryd.prog 38 #[.pointer (some ⟨c,0,none⟩),.agg (rxV 4 0 0 mt0 nilV)] w fun e w'=>e=.returned (.bool true)∧Below w.heap.size w w':=by
 unfold rxV
 go_enter Tryd.func38,Tryd.ntmps38
 go_wp2
 go_region
 go_wp2
 go_ret
 exact ⟨rfl,(((Below.refl _ _).alloc (Nat.le_refl _) _).alloc (by simp) _).drew⟩
set_option maxHeartbeats 4000000 in
theorem row_fin (w:World) (c:Nat):Calls Tryd.prog 38 #[.pointer (some ⟨c,0,none⟩),.agg (rxV 5 0 0 mt0 nilV)] w fun e w'=>e=.returned (.bool true)∧Below w.heap.size w w':=by
 unfold rxV
 go_enter Tryd.func38,Tryd.ntmps38
 go_wp2
 go_region
 go_wp2
 go_ret
 exact ⟨rfl,(((Below.refl _ _).alloc (Nat.le_refl _) _).alloc (by simp) _).drew⟩
set_option maxHeartbeats 4000000 in
theorem row_set (w:World) (c:Nat) (s:List Int) (hs:∀ x∈s,0≤x∧x≤255) (hne:s≠[]) (hp:s.Pairwise (· < ·)) :
  Calls Tryd.prog 38 #[.pointer (some ⟨c,0,none⟩),.agg (rxV 3 0 0 (strOfNums s) nilV)] w fun e w'=>e=.returned (.bool true)∧Below w.heap.size w w':=by
 have HR:=hide (fun W=>rises_any W s hs hne hp)
 unfold rxV
 generalize strOfNums s=S at HR ⊢
 clear hs hne hp
 go_enter Tryd.func38,Tryd.ntmps38
 go_wp2
 go_region
 obtain ⟨W2,hW2⟩:∃ W2,W2=((w.alloc (.cells #[.int .i64 3,.int .i64 0,.int .i64 0,.string S,.slice none 0 0] 25)).alloc (.cells #[.int .i64 3,.int .i64 0,.int .i64 0,.string S,.slice none 0 0] 25)).drew:=⟨_,rfl⟩
 have hb1:W2.heap[w.heap.size]?=some (.cells #[.int .i64 3,.int .i64 0,.int .i64 0,.string S,.slice none 0 0] 25 (0,0)):=by
  rw [hW2]
  exact (Below.heap_alloc _ _ _ (by simp)).trans (heap_alloc_new w _)
 have hb2:W2.heap[w.heap.size+1]?=some (.cells #[.int .i64 3,.int .i64 0,.int .i64 0,.string S,.slice none 0 0] 25 (0,0)):=by
  rw [hW2]
  have h:=heap_alloc_new (w.alloc (.cells #[.int .i64 3,.int .i64 0,.int .i64 0,.string S,.slice none 0 0] 25)) (.cells #[.int .i64 3,.int .i64 0,.int .i64 0,.string S,.slice none 0 0] 25)
  rw [World.size_alloc] at h
  exact h
 have hB:Below w.heap.size w W2:=by
  rw [hW2]
  exact (((Below.refl _ _).alloc (Nat.le_refl _) _).alloc (by simp) _).drew
 rw [←hW2]
 have p0:W2.cell? ⟨w.heap.size,0,none⟩=some (.int .i64 3):=by simp [World.cell?,hb1]
 have p3:W2.cell? ⟨w.heap.size,3,none⟩=some (.string S):=by simp [World.cell?,hb1]
 have hz:w.heap.size+1<W2.heap.size:=(Array.getElem?_eq_some_iff.1 hb2).1
 have HB:=hide (And.intro hB (And.intro hb2 hz))
 have HQ:=hide (HR.out W2)
 clear hW2 hb1 hb2 hB HR hz
 go_wp2_with fail
 refine HQ.out.mono ?_
 rintro e w3 ⟨rfl,B3⟩
 have hb3:=(B3.block _ HB.out.2.2).trans HB.out.2.1
 have q0:w3.cell? ⟨w.heap.size+1,1,none⟩=some (.int .i64 0):=by simp [World.cell?,hb3]
 have q1:w3.cell? ⟨w.heap.size+1,2,none⟩=some (.int .i64 0):=by simp [World.cell?,hb3]
 have q2:w3.cell? ⟨w.heap.size+1,3,none⟩=some (.string S):=by simp [World.cell?,hb3]
 have q3:w3.cell? ⟨w.heap.size+1,4,none⟩=some (.slice none 0 0):=by simp [World.cell?,hb3]
 have q4:w3.frozen? ⟨w.heap.size+1,3,none⟩=false:=by simp [World.frozen?,hb3]
 have HE:=hide ((HB.out.1.trans (B3.mono HB.out.1.size)).setCell (p:=⟨w.heap.size+1,3,none⟩) (by simp) (.string ⟨#[]⟩))
 clear HQ HB B3 hb3 p0 p3
 go_wp2
 go_ret
 exact ⟨rfl,HE.out⟩
set_option maxHeartbeats 4000000 in
theorem row_cat (w:World) (c:Nat) (o:Option Addr) (n cap:Nat) :
  Calls Tryd.prog 38 #[.pointer (some ⟨c,0,none⟩),.agg (rxV 7 0 0 mt0 (.slice o n cap))] w fun e w'=>e=.returned (.bool true)∧Below w.heap.size w w':=by
 unfold rxV
 go_enter Tryd.func38,Tryd.ntmps38
 go_wp2
 go_region
 go_wp2
 go_ret
 exact ⟨rfl,(((Below.refl _ _).alloc (Nat.le_refl _) _).alloc (by simp) _).drew⟩
set_option maxHeartbeats 4000000 in
theorem row_alt (w:World) (c:Nat) (o:Option Addr) (n cap:Nat) (hn:2≤n) :
  Calls Tryd.prog 38 #[.pointer (some ⟨c,0,none⟩),.agg (rxV 8 0 0 mt0 (.slice o n cap))] w fun e w'=>e=.returned (.bool true)∧Below w.heap.size w w':=by
 have h2:(2:Int)≤(n:Int):=by omega
 have e2:decide ((2:Int)≤(n:Int))=true:=by simp;omega
 unfold rxV
 go_enter Tryd.func38,Tryd.ntmps38
 go_wp2
 go_region
 go_wp2
 go_ret
 exact ⟨rfl,(((Below.refl _ _).alloc (Nat.le_refl _) _).alloc (by simp) _).drew⟩
set_option maxHeartbeats 4000000 in
theorem row_rep (w:World) (c:Nat) (a:Nat) (b:Int) (o:Option Addr) (cap:Nat) (ha:a≤20) (hb:b = -1∨(a:Int)≤b) :
  Calls Tryd.prog 38 #[.pointer (some ⟨c,0,none⟩),.agg (rxV 9 a b mt0 (.slice o 1 cap))] w fun e w'=>e=.returned (.bool true)∧Below w.heap.size w w':=by
 have HT:=hide (fun W=>times_any W a b ha hb)
 unfold rxV
 clear ha hb
 go_enter Tryd.func38,Tryd.ntmps38
 go_wp2
 go_region
 go_wp2_with (go_at_call 59;refine (HT.out _).mono ?_;rintro e w3 ⟨rfl,rfl⟩)
 go_ret
 exact ⟨rfl,(((Below.refl _ _).alloc (Nat.le_refl _) _).alloc (by simp) _).drew⟩
structure CK (w:World) (c n g:Nat):Prop where
 blk:w.heap[c]?=some (.cells #[.int .i64 n,.int .i64 g] 58 (0,0))
theorem CK.c0 {w:World} {c n g:Nat} (h:CK w c n g):w.cell? ⟨c,0,none⟩=some (.int .i64 n):=by simp [World.cell?,h.blk]
theorem CK.c1 {w:World} {c n g:Nat} (h:CK w c n g):w.cell? ⟨c,1,none⟩=some (.int .i64 g):=by simp [World.cell?,h.blk]
theorem CK.fz {w:World} {c n g:Nat} (h:CK w c n g) (i:Nat):w.frozen? ⟨c,i,none⟩=false:=by simp [World.frozen?,h.blk]
theorem CK.lt {w:World} {c n g:Nat} (h:CK w c n g):c<w.heap.size:=(Array.getElem?_eq_some_iff.1 h.blk).1
theorem CK.below {w w':World} {c n g:Nat} (h:CK w c n g) (hb:Below w.heap.size w w'):CK w' c n g:=⟨(hb.block c h.lt).trans h.blk⟩
end Go.Proofs.YtfhimmnoipfiaaaDoor.eng
namespace Go.Proofs.YtfhimmnoipfiaaaDoor.eng
open bytes places sets tz rex
mutual
def szT:Tr→Nat
 | .group _ k=>1+szT k
 | .cat ks=>1+szK ks
 | .alt ks=>1+szK ks
 | .rep _ _ k=>1+szT k
 | _=>1
def szK:List Tr→Nat
 | []=>0
 | k::ks=>szT k+szK ks
end
mutual
def ngT:Tr→Nat
 | .group _ k=>1+ngT k
 | .cat ks=>ngK ks
 | .alt ks=>ngK ks
 | .rep _ _ k=>ngT k
 | _=>0
def ngK:List Tr→Nat
 | []=>0
 | k::ks=>ngT k+ngK ks
end
def tmsT (n:Nat):Option Nat→Nat
 | some m=>max n m
 | none=>n
mutual
def wtT:Tr→Nat
 | .group _ k=>1+wtT k
 | .cat ks=>1+wtK ks
 | .alt ks=>1+wtK ks
 | .rep n m k=>(1+wtT k)*(tmsT n m+1)
 | _=>1
def wtK:List Tr→Nat
 | []=>0
 | k::ks=>wtT k+wtK ks
end
mutual
def NumT (g:Nat):Tr→Prop
 | .group n k=>n=g+1∧NumT (g+1) k
 | .cat ks=>NumK g ks
 | .alt ks=>NumK g ks
 | .rep _ _ k=>NumT g k
 | _=>True
def NumK (g:Nat):List Tr→Prop
 | []=>True
 | k::ks=>NumT g k∧NumK (g+ngT k) ks
end
theorem szK_take:∀ (ks:List Tr) (i:Nat) (k:Tr),ks[i]?=some k→szK (ks.take (i+1))=szK (ks.take i)+szT k∧ngK (ks.take (i+1))=ngK (ks.take i)+ngT k∧wtK (ks.take (i+1))=wtK (ks.take i)+wtT k
 | [],i,k,h=>by simp at h
 | a::ks,0,k,h=>by
  simp only [List.getElem?_cons_zero,Option.some.injEq] at h
  subst h
  simp [szK,ngK,wtK]
 | a::ks,i+1,k,h=>by
  obtain ⟨h1,h2,h3⟩:=szK_take ks i k (by simpa using h)
  simp only [List.take_succ_cons,szK,ngK,wtK,h1,h2,h3]
  omega
theorem szK_le:∀ (ks:List Tr) (i:Nat),szK (ks.take i)≤szK ks∧ngK (ks.take i)≤ngK ks∧wtK (ks.take i)≤wtK ks
 | [],i=>by simp
 | a::ks,0=>by simp [szK,ngK,wtK]
 | a::ks,i+1=>by
  obtain ⟨h1,h2,h3⟩:=szK_le ks i
  simp only [List.take_succ_cons,szK,ngK,wtK]
  omega
theorem numK_get:∀ {ks:List Tr} {g:Nat},NumK g ks→∀ {i:Nat} {k:Tr},ks[i]?=some k→NumT (g+ngK (ks.take i)) k
 | [],g,_,i,k,h=>by simp at h
 | a::ks,g,hn,0,k,h=>by
  simp only [List.getElem?_cons_zero,Option.some.injEq] at h
  subst h
  rw [NumK] at hn
  simpa [ngK] using hn.1
 | a::ks,g,hn,i+1,k,h=>by
  rw [NumK] at hn
  have:=numK_get hn.2 (i:=i) (k:=k) (by simpa using h)
  rw [List.take_succ_cons,ngK,←Nat.add_assoc]
  exact this
theorem kids_num {T:Tr} {g:Nat} (h:NumT g T):∃ d,NumK (g+d) (kidsOf T)∧ngT T=d+ngK (kidsOf T)∧szT T=1+szK (kidsOf T)∧((∃ n k,T=.group n k∧d=1∧n=g+1)∨(d=0∧∀ n k,T≠.group n k)):=by
 cases T with
 | group n k =>
  rw [NumT] at h
  exact ⟨1,by simp [kidsOf,NumK,h.2],by simp [kidsOf,ngT,ngK],by simp [kidsOf,szT,szK],.inl ⟨n,k,rfl,rfl,h.1⟩⟩
 | cat ks=>rw [NumT] at h;exact ⟨0,h,by simp [kidsOf,ngT],by simp [kidsOf,szT],.inr ⟨rfl,fun _ _ e=>by cases e⟩⟩
 | alt ks=>rw [NumT] at h;exact ⟨0,h,by simp [kidsOf,ngT],by simp [kidsOf,szT],.inr ⟨rfl,fun _ _ e=>by cases e⟩⟩
 | rep n m k=>rw [NumT] at h;exact ⟨0,by simp [kidsOf,NumK,h],by simp [kidsOf,ngT,ngK],by simp [kidsOf,szT,szK],.inr ⟨rfl,fun _ _ e=>by cases e⟩⟩
 | char b=>exact ⟨0,by simp [kidsOf,NumK],by simp [kidsOf,ngT,ngK],by simp [kidsOf,szT,szK],.inr ⟨rfl,fun _ _ e=>by cases e⟩⟩
 | any=>exact ⟨0,by simp [kidsOf,NumK],by simp [kidsOf,ngT,ngK],by simp [kidsOf,szT,szK],.inr ⟨rfl,fun _ _ e=>by cases e⟩⟩
 | set b=>exact ⟨0,by simp [kidsOf,NumK],by simp [kidsOf,ngT,ngK],by simp [kidsOf,szT,szK],.inr ⟨rfl,fun _ _ e=>by cases e⟩⟩
 | beg=>exact ⟨0,by simp [kidsOf,NumK],by simp [kidsOf,ngT,ngK],by simp [kidsOf,szT,szK],.inr ⟨rfl,fun _ _ e=>by cases e⟩⟩
 | fin=>exact ⟨0,by simp [kidsOf,NumK],by simp [kidsOf,ngT,ngK],by simp [kidsOf,szT,szK],.inr ⟨rfl,fun _ _ e=>by cases e⟩⟩
theorem wt_kids (T:Tr):(∃ n m k,T=.rep n m k∧wtT T=(1+wtK (kidsOf T))*(tmsT n m+1))∨((∀ n m k,T≠.rep n m k)∧wtT T=1+wtK (kidsOf T)):=by
 cases T with
 | rep n m k=>exact .inl ⟨n,m,k,rfl,by simp [kidsOf,wtT,wtK]⟩
 | group n k=>exact .inr ⟨fun _ _ _ e=>(by cases e),by simp [kidsOf,wtT,wtK]⟩
 | cat ks=>exact .inr ⟨fun _ _ _ e=>(by cases e),by simp [kidsOf,wtT]⟩
 | alt ks=>exact .inr ⟨fun _ _ _ e=>(by cases e),by simp [kidsOf,wtT]⟩
 | char b=>exact .inr ⟨fun _ _ _ e=>(by cases e),by simp [kidsOf,wtT,wtK]⟩
 | any=>exact .inr ⟨fun _ _ _ e=>(by cases e),by simp [kidsOf,wtT,wtK]⟩
 | set b=>exact .inr ⟨fun _ _ _ e=>(by cases e),by simp [kidsOf,wtT,wtK]⟩
 | beg=>exact .inr ⟨fun _ _ _ e=>(by cases e),by simp [kidsOf,wtT,wtK]⟩
 | fin=>exact .inr ⟨fun _ _ _ e=>(by cases e),by simp [kidsOf,wtT,wtK]⟩
set_option maxHeartbeats 4000000 in
theorem row_group (w:World) (c n g:Nat) (o:Option Addr) (cap:Nat) (h:CK w c n g) (hg:g+1≤9) :
  Calls Tryd.prog 38 #[.pointer (some ⟨c,0,none⟩),.agg (rxV 6 ((g+1:Nat):Int) 0 mt0 (.slice o 1 cap))] w fun e w'=>e=.returned (.bool true)∧CK w' c n (g+1)∧w.grownBy w' (some c):=by
 have hc:=h.lt
 have hgw:IntKind.i64.wrap ((g:Int)+1)=((g+1:Nat):Int):=by rw [IntKind.wrap_i64];omega
 have hg9:((g+1:Nat):Int)≤9:=by omega
 obtain ⟨G,hG⟩:∃ G,G=g+1:=⟨_,rfl⟩
 rw [←hG] at hgw hg9 ⊢
 have c1:=h.c1
 have f1:=h.fz 1
 have HE:Hid (∀ W2,W2=(((w.setCell ⟨c,1,none⟩ (.int .i64 (G:Int))).alloc (.cells #[.int .i64 6,.int .i64 (G:Int),.int .i64 0,.string mt0,.slice o 1 cap] 25)).alloc (.cells #[.int .i64 6,.int .i64 (G:Int),.int .i64 0,.string mt0,.slice o 1 cap] 25)).drew→CK W2 c n G∧w.grownBy W2 (some c)∧W2.heap[w.heap.size]?=some (.cells #[.int .i64 6,.int .i64 (G:Int),.int .i64 0,.string mt0,.slice o 1 cap] 25 (0,0))∧W2.heap[w.heap.size+1]?=some (.cells #[.int .i64 6,.int .i64 (G:Int),.int .i64 0,.string mt0,.slice o 1 cap] 25 (0,0))):=by
  refine hide fun W2 hW2 => ?_
  have h1:=heap_setCell_same w c 1 _ 58 (.int .i64 (G:Int)) h.blk
  simp at h1
  have e:∀ k,k<w.heap.size→W2.heap[k]?=(w.setCell ⟨c,1,none⟩ (.int .i64 (G:Int))).heap[k]? := fun k hk=>by
   rw [hW2]
   exact (Below.heap_alloc _ _ _ (by simp;omega)).trans (Below.heap_alloc _ _ _ (by simp;omega))
  refine ⟨⟨(e c hc).trans h1⟩,⟨by rw [hW2];rfl,by rw [hW2];rfl,by rw [hW2];rfl,by rw [hW2];simp;omega,fun k hk hn=>(e k hk).trans (heap_setCell_other _ ⟨c,1,none⟩ k _ (fun e=>hn (by simp [e])))⟩,?_,?_⟩
  ·rw [hW2]
   have h2:=heap_alloc_new (w.setCell ⟨c,1,none⟩ (.int .i64 (G:Int))) (.cells #[.int .i64 6,.int .i64 (G:Int),.int .i64 0,.string mt0,.slice o 1 cap] 25)
   rw [World.size_setCell] at h2
   exact (Below.heap_alloc _ _ _ (by simp)).trans h2
  ·rw [hW2]
   have h2:=heap_alloc_new ((w.setCell ⟨c,1,none⟩ (.int .i64 (G:Int))).alloc (.cells #[.int .i64 6,.int .i64 (G:Int),.int .i64 0,.string mt0,.slice o 1 cap] 25)) (.cells #[.int .i64 6,.int .i64 (G:Int),.int .i64 0,.string mt0,.slice o 1 cap] 25)
   rw [World.size_alloc,World.size_setCell] at h2
   exact h2
 unfold rxV
 clear h hG hg
 go_enter Tryd.func38,Tryd.ntmps38
 go_wp2
 go_region
 go_wp2
 obtain ⟨W2,hW2⟩:∃ W2,W2=(((w.setCell ⟨c,1,none⟩ (.int .i64 (G:Int))).alloc (.cells #[.int .i64 6,.int .i64 (G:Int),.int .i64 0,.string mt0,.slice o 1 cap] 25)).alloc (.cells #[.int .i64 6,.int .i64 (G:Int),.int .i64 0,.string mt0,.slice o 1 cap] 25)).drew:=⟨_,rfl⟩
 rw [←hW2]
 obtain ⟨k1,k2,k3,k4⟩:=HE.out W2 hW2
 have p1:W2.cell? ⟨w.heap.size,1,none⟩=some (.int .i64 (G:Int)):=by simp [World.cell?,k3]
 have p4:W2.cell? ⟨w.heap.size,4,none⟩=some (.slice o 1 cap):=by simp [World.cell?,k3]
 have q0:=k1.c1
 have HF:=hide (And.intro k1 (And.intro k2 (And.intro k4 hc)))
 clear k1 k2 k3 k4 c1 f1 HE hW2
 go_quiet (fail)
 obtain ⟨W3,hW3⟩:∃ W3,W3=W2.drewN nq:=⟨_,rfl⟩
 rw [←hW3]
 have hb3:W3.heap[w.heap.size+1]?=some (.cells #[.int .i64 6,.int .i64 (G:Int),.int .i64 0,.string mt0,.slice o 1 cap] 25 (0,0)):=by rw [hW3];exact HF.out.2.2.1
 have r1:W3.cell? ⟨w.heap.size+1,1,none⟩=some (.int .i64 (G:Int)):=by simp [World.cell?,hb3]
 have r2:W3.cell? ⟨w.heap.size+1,2,none⟩=some (.int .i64 0):=by simp [World.cell?,hb3]
 have r3:W3.cell? ⟨w.heap.size+1,3,none⟩=some (.string ⟨#[]⟩):=by simp [World.cell?,hb3]
 have r4:W3.cell? ⟨w.heap.size+1,4,none⟩=some (.slice o 1 cap):=by simp [World.cell?,hb3]
 have r5:W3.frozen? ⟨w.heap.size+1,1,none⟩=false:=by simp [World.frozen?,hb3]
 have r6:W3.frozen? ⟨w.heap.size+1,4,none⟩=false:=by simp [World.frozen?,hb3]
 have HF3:Hid (CK ((W3.setCell ⟨w.heap.size+1,1,none⟩ (.int .i64 0)).setCell ⟨w.heap.size+1,4,none⟩ (.slice none 0 0)) c n G∧w.grownBy ((W3.setCell ⟨w.heap.size+1,1,none⟩ (.int .i64 0)).setCell ⟨w.heap.size+1,4,none⟩ (.slice none 0 0)) (some c)):=by
  have hk:CK W3 c n G:=by rw [hW3];exact ⟨HF.out.1.blk⟩
  have hg:w.grownBy W3 (some c):=by rw [hW3];exact ⟨HF.out.2.1.os,HF.out.2.1.tape,HF.out.2.1.output,HF.out.2.1.size,HF.out.2.1.block⟩
  refine hide ⟨⟨?_⟩,?_⟩
  ·rw [Below.heap_setCell _ _ _ _ (by simp;omega),Below.heap_setCell _ _ _ _ (by simp;omega)]
   exact hk.blk
  ·have hB:=(Below.setCell (Below.setCell (Below.refl 0 W3) (p:=⟨w.heap.size+1,1,none⟩) (Nat.zero_le _) (.int .i64 0)) (p:=⟨w.heap.size+1,4,none⟩) (Nat.zero_le _) (.slice none 0 0))
   exact ⟨hB.os.trans hg.os,hB.tape.trans hg.tape,hB.output.trans hg.output,by simp;exact hg.size,fun k hk hn=>by
    rw [Below.heap_setCell _ _ _ _ (by simp;omega),Below.heap_setCell _ _ _ _ (by simp;omega)]
    exact hg.block k hk hn⟩
 clear hW3 hb3 HF p1 p4 q0
 go_wp2
 go_ret
 exact ⟨rfl,HF3.out.1,HF3.out.2⟩
end Go.Proofs.YtfhimmnoipfiaaaDoor.eng
namespace Go.Proofs.YtfhimmnoipfiaaaDoor.eng
open bytes places sets tz rex
attribute [local go_sem] Oper.semAt_some
set_option maxRecDepth 20000 in
set_option maxHeartbeats 8000000 in
theorem rep_mk (L N:Nat) (M:Fz) (K:Ks) (R:Rs) (O:Lb) (w:World) (S:ByteArray) (k:Kd) (n:Nat) (x0 x2:Int) (ss:ByteArray) (kv:Value) (a:B2) (s:Sp) (hI:Inv L M K R O w) (hf:Few K R) (hL:L≤22) (hS:S.size=L) (hn:n≤300) (hk:KdOK L M K N k)
  (H72:∀ W,Inv L M K R O W→Calls Tryd.prog 72 #[.agg #[.int .i64 x0,.int .i64 (n:Int),.int .i64 x2,.string ss,kv],.agg #[k.ve,k.vp],.string S] W (WayMade L M K R O W N a s)) (hma:Mono a) :
  Calls Tryd.prog 49 #[.agg #[.int .i64 x0,.int .i64 (n:Int),.int .i64 x2,.string ss,kv],.agg #[k.ve,k.vp],.string S] w (WayMade L M K R O w N (pw k.a a n) (pwS k.a a k.s s n)):=by
 have hmf:=mf
 obtain ⟨fe,cf,he,hof,hAt⟩:=hk.e
 obtain ⟨fp,cfp,hep,hop,hPt⟩:=hk.p
 obtain ⟨i0,hi0,hz0,hs0,hb0⟩:=info_parts info49
 obtain ⟨W0,hW0⟩:∃ W0,((w.alloc (.cells #[.int .i64 x0,.int .i64 (n:Int),.int .i64 x2,.string ss,kv] 25)).alloc (.cells #[k.ve,k.vp] 49)).alloc (.cells #[.nilFunc,.nilFunc] 49)=W0:=⟨_,rfl⟩
 have hz:W0.heap.size=w.heap.size+3:=by rw [←hW0];simp
 have hB:Below w.heap.size w W0:=by
  rw [←hW0]
  exact (((Below.refl _ _).alloc (Nat.le_refl _) _).alloc (by simp) _).alloc (by simp;omega) _
 have a1:∀ (V:World) (o:Obj) (m:Nat),V.heap.size=m→(V.alloc o).heap[m]?=some o:=fun V o m h=>by subst h;exact heap_alloc_new V o
 have b1:W0.heap[w.heap.size]?=some (.cells #[.int .i64 x0,.int .i64 (n:Int),.int .i64 x2,.string ss,kv] 25 (0,0)):=by
  rw [←hW0,Below.heap_alloc _ _ _ (by simp;omega),Below.heap_alloc _ _ _ (by simp)]
  exact a1 _ _ _ (by simp)
 have b2:W0.heap[w.heap.size+1]?=some (.cells #[k.ve,k.vp] 49 (0,0)):=by
  rw [←hW0,Below.heap_alloc _ _ _ (by simp)]
  exact a1 _ _ _ (by simp)
 have b3:W0.heap[w.heap.size+2]?=some (.cells #[.nilFunc,.nilFunc] 49 (0,0)):=by
  rw [←hW0]
  exact a1 _ _ _ (by simp)
 have HS:Hid (RR L M K R O w W0 k 0 (.slice none 0 0) W0):=hide ⟨(St.refl hI).below hB,World.ownsRow_nil _ _ _ _,fun _ _=>rfl,by omega⟩
 have p1:W0.cell? ⟨w.heap.size,1,none⟩=some (.int .i64 (n:Int)):=by simp [World.cell?,b1]
 have HB:=hide (And.intro b1 (And.intro b2 b3))
 have HI:=hide (And.intro hI (And.intro hf (And.intro hL (And.intro hS (And.intro hk (And.intro H72 hma))))))
 have HK:=hide (And.intro hi0 (And.intro hz0 (And.intro hs0 hb0)))
 have HX0:Hid (∀ t v W,RR L M K R O w W0 k t v W→(W.cell? ⟨w.heap.size+1,0,none⟩=some (.func (.func fe) #[] cf)∧W.cell? ⟨w.heap.size+1,1,none⟩=some (.func (.func fp) #[] cfp))):=hide fun t v W h=>by
  have hb:=(h.low (w.heap.size+1) (by omega)).trans b2
  rw [he,hep] at hb
  exact ⟨by simp [World.cell?,hb],by simp [World.cell?,hb]⟩
 have HX1:Hid (∀ t v W,RR L M K R O w W0 k t v W→(W.cell? ⟨w.heap.size,0,none⟩=some (.int .i64 x0)∧W.cell? ⟨w.heap.size,1,none⟩=some (.int .i64 (n:Int))∧W.cell? ⟨w.heap.size,2,none⟩=some (.int .i64 x2)∧W.cell? ⟨w.heap.size,3,none⟩=some (.string ss)∧W.cell? ⟨w.heap.size,4,none⟩=some kv)):=hide fun t v W h=>by
  have hb:=(h.low (w.heap.size) (by omega)).trans b1
  exact ⟨by simp [World.cell?,hb],by simp [World.cell?,hb],by simp [World.cell?,hb],by simp [World.cell?,hb],by simp [World.cell?,hb]⟩
 have HE:=hide (And.intro he hep)
 rw [he] at hW0 ⊢
 rw [hep] at hW0 ⊢
 clear hI hf hk hAt hPt he hep hop hL hS hof b1 b2 b3 hB a1 H72 hz hi0 hz0 hs0 hb0 hma
 go_enter Tryd.func49,Tryd.ntmps49
 go_wp2
 (try rw [hW0])
 clear hW0 p1
 go_loopw [7,10] (fun v7 v10 wr=>∃ t:Nat,t≤n∧v10=.int .i64 t∧(∃ o c,v7=.slice o t c)∧Hid (RR L M K R O w W0 k t v7 wr)) (fun _ v10 _=>n-(intOf v10).toNat)
 case atStart=>exact ⟨0,by omega,rfl,⟨none,0,rfl⟩,HS⟩
 case round =>
  obtain ⟨t,ht,rfl,⟨o,c,rfl⟩,HX⟩:=hrel
  clear HS
  by_cases htn:t<n
  ·have hti:(t:Int)<(n:Int):=by omega
   have htw:IntKind.i64.wrap ((t:Int)+1)=((t+1:Nat):Int):=by rw [IntKind.wrap_i64];omega
   obtain ⟨c0,c1⟩:=HX0.out _ _ _ HX.out
   have hws:=HX.out.size
   have HO:=hide HX.out.own
   have HN:Hid (∀ g cap W3,W3.ownsRow (w.heap.size+3) 49 2 (.slice (some ⟨g,0,none⟩) (t+1) cap) (t+1) (rowOf (List.replicate t k)++[.func (.func fe) #[] cf,.func (.func fp) #[] cfp])→(wr.alloc (.cells #[.func (.func fe) #[] cf,.func (.func fp) #[] cfp] 49)).grownBy W3 (Value.slice o t c).ownBlock→RR L M K R O w W0 k (t+1) (.slice (some ⟨g,0,none⟩) (t+1) cap) W3):=hide fun g cap W3 h1 h2=>HX.out.step HI.out.1 (by rw [HE.out.1,HE.out.2];exact h1) (by rw [HE.out.1,HE.out.2];exact h2)
   clear HX
   go_wp2_with (at_builtin;refine wpList_append_lies _ rfl _ _ 88 rfl (w.heap.size+3) 49 i0 (.agg #[.nilFunc,.nilFunc]) 2 16 Tryd.underlying88 HK.out.1 HK.out.2.1 HK.out.2.2.1 HK.out.2.2.2 rfl (by decide) (.slice o t c) t (rowOf (List.replicate t k)) rfl (HO.out.alloc _) ⟨_,0,none⟩ 1 1 [.func (.func fe) #[] cf,.func (.func fp) #[] cfp] rfl rfl (World.news_of_block (heap_alloc_new _ _)) (by simp [Value.oneCell']) (by decide) (by unfold maxLen;omega) (by omega) (by simp;omega) _ (World.size_alloc ..) ?_;intro g2 cap2 w2 h1 h2 h3 h4)
   have HR:=hide (HN.out g2 cap2 w2 h1 h2)
   clear h1 h2 h3 HN HO
   go_roundw
   case rel=>exact ⟨t+1,by omega,by simp,⟨_,_,rfl⟩,HR⟩
   case measure=>simp [intOf];omega
  ·obtain rfl:t=n:=by omega
   have hlt:¬ (t:Int)<(t:Int):=by omega
   obtain ⟨c0,c1⟩:=HX0.out _ _ _ HX.out
   obtain ⟨d0,d1,d2,d3,d4⟩:=HX1.out _ _ _ HX.out
   have HC:=hide (HI.out.2.2.2.2.2.1 wr HX.out.st.inv)
   rw [HE.out.1,HE.out.2] at HC
   have hws:=HX.out.size
   go_wp2_with fail
   refine HC.out.mono ?_
   rintro e w3 ⟨k2,rfl,hk2a,hk2s,M',K',R',O',g1,g2,g3,g4,hk2⟩
   obtain ⟨f2,cf2,he2,_,_⟩:=hk2.e
   obtain ⟨f3,cf3,he3,_,_⟩:=hk2.p
   obtain ⟨own3,low3,hz3,hfin⟩:=HX.out.fin HI.out.1 HI.out.2.2.2.2.1 g1 g2 g3 g4 hk2
   have HO:=hide own3
   have HFin:=hide hfin
   have HG:=hide (And.intro g1 (And.intro g2 (And.intro g3 (And.intro g4 (And.intro hk2a (And.intro hk2s (And.intro hk2 (And.intro he2 he3))))))))
   rw [he2,he3]
   clear c0 c1 d0 d1 d2 d3 d4 g1 g2 g3 g4 hk2 hk2a hk2s own3 hfin HC HX he2 he3 low3
   go_wp2_with (at_builtin;refine wpList_append_lies _ rfl _ _ 88 rfl (w.heap.size+3) 49 i0 (.agg #[.nilFunc,.nilFunc]) 2 16 Tryd.underlying88 HK.out.1 HK.out.2.1 HK.out.2.2.1 HK.out.2.2.2 rfl (by decide) (.slice o t c) t (rowOf (List.replicate t k)) rfl (HO.out.alloc _) ⟨_,0,none⟩ 1 1 [.func (.func f2) #[] cf2,.func (.func f3) #[] cf3] rfl rfl (World.news_of_block (heap_alloc_new _ _)) (by simp [Value.oneCell']) (by decide) (by unfold maxLen;omega) (by omega) (by simp;omega) _ (World.size_alloc ..) ?_;intro g9 cap9 w5 h1 h2 h3 h4)
   have hh:=HFin.out g9 cap9 w5 (by rw [HG.out.2.2.2.2.2.2.2.1,HG.out.2.2.2.2.2.2.2.2];exact h1) (by rw [HG.out.2.2.2.2.2.2.2.1,HG.out.2.2.2.2.2.2.2.2];exact h2) h3
   obtain ⟨M2,O2,cur,i1,i2,i3,i4,i5,i6⟩:=hh
   have HC:=hide (cmk.cat_mk L N M2 K' R' O2 w5 S g9 (t+1) cap9 (List.replicate t k++[k2]) cur i2.inv HG.out.2.2.2.1 HI.out.2.2.1 HI.out.2.2.2.1 (by simp) (by omega) i5 i3 i4)
   have HH:=hide (And.intro i1 (And.intro i2 i6))
   clear h1 h2 h3 i1 i2 i3 i4 i5 i6 HFin HO
   go_wp2_with fail
   refine HC.out.mono ?_
   rintro e w6 ⟨k3,rfl,hk3a,hk3s,M3,K3,R3,O3,j1,j2,j3,j4,hk3⟩
   obtain ⟨f4,cf4,he4,_,_⟩:=hk3.e
   obtain ⟨f5,cf5,he5,_,_⟩:=hk3.p
   have o5:=(HH.out.2.2 (w.heap.size+2) (by omega) (by omega)).2
   have hl5:w.heap.size+2<w5.heap.size:=(Array.getElem?_eq_some_iff.1 ((HH.out.2.2 (w.heap.size+2) (by omega) (by omega)).1.trans HB.out.2.2)).1
   have hb5:w6.heap[w.heap.size+2]?=some (.cells #[.nilFunc,.nilFunc] 49 (0,0)):=(j3.same _ hl5 (.inl o5)).trans ((HH.out.2.2 (w.heap.size+2) (by omega) (by omega)).1.trans HB.out.2.2)
   have o6:O3 (w.heap.size+2)=none:=(j3.lab _ hl5).trans o5
   have HM:Hid (WayMade L M K R O w N (pw k.a a t) (pwS k.a a k.s s t) (.returned (.agg #[k3.ve,k3.vp])) ((w6.setCell ⟨w.heap.size+2,0,none⟩ k3.ve).setCell ⟨w.heap.size+2,1,none⟩ k3.vp)):=by
    have hw:WayMade L M K R O w N (seqL (ends (List.replicate t k++[k2]))) (seqLS (prs (List.replicate t k++[k2]))) (.returned (.agg #[k3.ve,k3.vp])) ((w6.setCell ⟨w.heap.size+2,0,none⟩ k3.ve).setCell ⟨w.heap.size+2,1,none⟩ k3.vp) :=
     ⟨k3,rfl,hk3a,hk3s,M3,K3,R3,O3,(HG.out.1.trans HH.out.1).trans j1,HG.out.2.1.trans j2,((HH.out.2.1.then j3).set (a:=⟨w.heap.size+2,0,none⟩) (by simp) o6 _).set (a:=⟨w.heap.size+2,1,none⟩) (by simp) o6 _,j4,hk3⟩
    rw [ends_rep,prs_rep,HG.out.2.2.2.2.1,HG.out.2.2.2.2.2.1] at hw
    refine hw.congr ?_ (fun i j out hij hm=>(pwS_eq HI.out.2.2.2.2.2.2 t i j out hij hm).symm)
    funext i j
    exact (pw_eq HI.out.2.2.2.2.2.2 t i j).symm
   have y0:w6.cell? ⟨w.heap.size+2,0,none⟩=some .nilFunc:=by simp [World.cell?,hb5]
   have y1:w6.cell? ⟨w.heap.size+2,1,none⟩=some .nilFunc:=by simp [World.cell?,hb5]
   have y2:w6.frozen? ⟨w.heap.size+2,0,none⟩=false:=by simp [World.frozen?,hb5]
   have y3:w6.frozen? ⟨w.heap.size+2,1,none⟩=false:=by simp [World.frozen?,hb5]
   have HE9:=hide (way_set hb5 k3.ve k3.vp)
   rw [he4,he5] at HM HE9 ⊢
   clear hb5 o5 o6 j1 j2 j3 j4 hk3 hk3a hk3s HC HH HG he4 he5
   go_wp2
   exact bodyPost_ret (results_cell_row rfl _ _ (w.heap.size+2) 49 _ (0,0) _ rfl HE9.out Tryd.underlying49 rfl (size49.trans (by simp))) rfl HM.out
end Go.Proofs.YtfhimmnoipfiaaaDoor.eng
namespace Go.Proofs.YtfhimmnoipfiaaaDoor.eng
open bytes places sets tz rex
attribute [local go_sem] Oper.semAt_some
set_option maxRecDepth 20000 in
set_option maxHeartbeats 8000000 in
theorem left_inf (L N:Nat) (M:Fz) (K:Ks) (R:Rs) (O:Lb) (w:World) (S:ByteArray) (k:Kd) (n:Nat) (k9:Int) (ss:ByteArray) (kv:Value) (hI:Inv L M K R O w) (hf:Few K R) (hL:L≤22) (hS:S.size=L) (hk:KdOK L M K N k) :
  Calls Tryd.prog 88 #[.agg #[.int .i64 k9,.int .i64 (n:Int),.int .i64 (-1),.string ss,kv],.agg #[k.ve,k.vp],.string S] w (LeftMade L M K R O w k.a true 0):=by
 have hmf:=mf
 obtain ⟨fe,cf,he,hof,hAt⟩:=hk.e
 obtain ⟨fp,cfp,hep,hop,hPt⟩:=hk.p
 rw [he,hep]
 obtain ⟨W0,hW0⟩:∃ W0,(((w.alloc (.cells #[.int .i64 k9,.int .i64 (n:Int),.int .i64 (-1),.string ss,kv] 25)).alloc (.cells #[.func (.func fe) #[] cf,.func (.func fp) #[] cfp] 49)).alloc (.cells #[.string S] 9)).alloc (.cells #[.nilFunc] 46)=W0:=⟨_,rfl⟩
 have hz:W0.heap.size=w.heap.size+4:=by rw [←hW0];simp
 have hB:Below w.heap.size w W0:=by
  rw [←hW0]
  exact ((((Below.refl _ _).alloc (Nat.le_refl _) _).alloc (by simp) _).alloc (by simp;omega) _).alloc (by simp;omega) _
 have a1:∀ (V:World) (o:Obj) (m:Nat),V.heap.size=m→(V.alloc o).heap[m]?=some o:=fun V o m h=>by subst h;exact heap_alloc_new V o
 have b2:W0.heap[w.heap.size+1]?=some (.cells #[.func (.func fe) #[] cf,.func (.func fp) #[] cfp] 49 (0,0)):=by
  rw [←hW0,Below.heap_alloc _ _ _ (by simp),Below.heap_alloc _ _ _ (by simp)]
  exact a1 _ _ _ (by simp)
 have b3:W0.heap[w.heap.size+2]?=some (.cells #[.string S] 9 (0,0)):=by
  rw [←hW0,Below.heap_alloc _ _ _ (by simp)]
  exact a1 _ _ _ (by simp)
 have b4:W0.heap[w.heap.size+3]?=some (.cells #[.nilFunc] 46 (0,0)):=by
  rw [←hW0]
  exact a1 _ _ _ (by simp)
 have h0:=(St.refl hI).below hB
 obtain ⟨M2,e1,e2,e3⟩:=h0.fz' (b:=w.heap.size+1) (by omega) b2 (hI.fresh (by omega))
 have ob:up O (w.heap.size+1) (some (0,0)) (w.heap.size+3)=none:=by rw [up_ne _ _ (by omega)];exact hI.fresh (by omega)
 have c3:W0.cell? ⟨w.heap.size+2,0,none⟩=some (.string S):=by simp [World.cell?,b3]
 have HC:=hide (once_call W0 (w.heap.size+2) (w.heap.size+1) 100 S #[.pointer (some ⟨w.heap.size+3,0,none⟩)] c3)
 obtain ⟨M3,K3,O3,g1,g2,g3,g4,g5,g6,g7⟩:=e3.once hf hL hS hk.mono hof e2 (fun p hp=>(hAt p hp).up e1 (KLe.refl _)) 100 #[.pointer (some ⟨w.heap.size+3,0,none⟩)] OkF100 L
 have hq:=knW_facts (W0.alloc (.cells #[.func (.func 100) #[] #[.pointer (some ⟨w.heap.size+3,0,none⟩)]] 46)) S (.func 98) #[.pointer (some ⟨w.heap.size+1,0,none⟩),.pointer (some ⟨W0.heap.size,0,none⟩)]
 rw [World.size_alloc,hz] at hq
 rw [hz] at HC g3 g5 g6 g7
 obtain ⟨q1,q2,_⟩:=hq
 obtain ⟨Wk,hWk⟩:∃ Wk,knW (W0.alloc (.cells #[.func (.func 100) #[] #[.pointer (some ⟨w.heap.size+3,0,none⟩)]] 46)) S (.func 98) #[.pointer (some ⟨w.heap.size+1,0,none⟩),.pointer (some ⟨w.heap.size+4,0,none⟩)]=Wk:=⟨_,rfl⟩
 rw [hWk] at HC g3 q1 q2
 have hb4:C1 Wk (w.heap.size+3) .nilFunc 46:=(q1 _ (by omega)).trans ((Below.heap_alloc _ _ _ (by omega)).trans b4)
 have oe:O3 (w.heap.size+3)=none:=(g5 _ (by omega)).trans ob
 have r0:=hb4.c
 have r1:=hb4.fz 0
 have hset:=hb4.set (knV (w.heap.size+4+1))
 have g9:=g3.set (a:=⟨w.heap.size+3,0,none⟩) (by simp) oe (knV (w.heap.size+4+1))
 have hzk:Wk.heap.size=w.heap.size+9:=by omega
 have HE:Hid (Made L M K R O w ((Wk.setCell ⟨w.heap.size+3,0,none⟩ (knV (w.heap.size+4+1))).alloc (.cells #[knV (w.heap.size+4+1)] 46)) fun M' K'=>∃ cs:Array Value,M' Wk.heap.size=some (.cells cs 46 (0,0))∧LeftAt L M' K' k.a true cs.toList 0):=by
  have hz2:(Wk.setCell ⟨w.heap.size+3,0,none⟩ (knV (w.heap.size+4+1))).heap.size=w.heap.size+9:=by simp;omega
  have g10:=g9.alloc (.cells #[knV (w.heap.size+4+1)] 46)
  have n1:=heap_alloc_new (Wk.setCell ⟨w.heap.size+3,0,none⟩ (knV (w.heap.size+4+1))) (.cells #[knV (w.heap.size+4+1)] 46)
  rw [hz2] at n1
  obtain ⟨M4,i1,i2,i3⟩:=g10.fz' (b:=w.heap.size+3) (by omega) ((Below.heap_alloc _ _ _ (by omega)).trans hset) oe
  obtain ⟨M5,j1,j2,j3⟩:=i3.fz' (b:=w.heap.size+9) (by omega) n1 (by rw [up_ne _ _ (by omega)];exact g9.fresh (by omega))
  refine ⟨M5,K3,R,_,((e1.trans g1).trans i1).trans j1,g2,j3,g4,#[knV (w.heap.size+4+1)],by rw [hzk];exact j2,fun i hi => ?_⟩
  obtain rfl:i=0:=by omega
  have hme:=j1 _ _ i2
  have key:∀ d p,p≤L→L-p≤d→At L M5 K3 86 #[.pointer (some ⟨w.heap.size+4+1+2,0,none⟩),.pointer (some ⟨w.heap.size+4+1,0,none⟩),.pointer (some ⟨w.heap.size+4+1+3,0,none⟩),.pointer (some ⟨w.heap.size+4+1+1,0,none⟩)] p (pl L (upTo k.a L) p):=by
   intro d
   induction d with
   | zero =>
    intro p hp hd
    have h:=g7 M5 K3 p (i1.trans j1) (KLe.refl _) hp (fun q hq1 hq2=>by omega) (by rw [if_pos rfl];exact pl_upTo (by omega) (by omega))
    rw [if_pos rfl] at h
    exact h
   | succ d ih =>
    intro p hp hd
    have h:=g7 M5 K3 p (i1.trans j1) (KLe.refl _) hp (fun q hq1 hq2=>end_any L M5 K3 (w.heap.size+3) 86 _ OkF86 hme q _ (ih q hq2 (by omega))) (by rw [if_pos rfl];exact pl_upTo (by omega) (by omega))
    rw [if_pos rfl] at h
    exact h
  exact ⟨86,_,rfl,OkF86,fun q hq=>key (L-q) q hq (Nat.le_refl _)⟩
 have hzk2:(Wk.setCell ⟨w.heap.size+3,0,none⟩ (knV (w.heap.size+4+1))).heap.size=Wk.heap.size:=by simp
 have r2:(Wk.setCell ⟨w.heap.size+3,0,none⟩ (knV (w.heap.size+4+1))).cell? ⟨w.heap.size+3,0,none⟩=some (knV (w.heap.size+4+1)):=C1.c hset
 have p2:W0.cell? ⟨w.heap.size,2,none⟩=some (.int .i64 (-1)):=by
  have:W0.heap[w.heap.size]?=some (.cells #[.int .i64 k9,.int .i64 (n:Int),.int .i64 (-1),.string ss,kv] 25 (0,0)):=by
   rw [←hW0,Below.heap_alloc _ _ _ (by simp;omega),Below.heap_alloc _ _ _ (by simp;omega),Below.heap_alloc _ _ _ (by simp)]
   exact heap_alloc_new w _
  simp [World.cell?,this]
 unfold knV at HC HE r2
 clear hI hf hk hAt hPt he hep hop hL hS hof h0 e1 e2 e3 b2 b3 b4 g1 g2 g3 g4 g5 g6 g7 g9 hset hb4 q1 q2 ob oe hB c3 hWk hz a1 hzk
 go_enter Tryd.func88,Tryd.ntmps88
 go_wp2_with fail
 (try rw [hW0])
 refine HC.out.mono ?_
 rintro e w' ⟨rfl,h9⟩
 subst h9
 clear HC
 go_wp2
 go_ret
 exact ⟨_,1,rfl,HE.out⟩
end Go.Proofs.YtfhimmnoipfiaaaDoor.eng
namespace Go.Proofs.YtfhimmnoipfiaaaDoor.eng
open bytes places sets tz rex
attribute [local go_sem] Oper.semAt_some
theorem make88 (n:Nat) (hn:n≤1000) (W:World):(Instr.makeSlice 88 (.int .i64 (n:Int)) (.int .i64 (n:Int))).run Tryd.prog W=.ok (.slice (some ⟨W.heap.size,0,none⟩) n n) (W.alloc (.cells (madeCells #[.nilFunc,.nilFunc] (n*2)) 49)):=by
 obtain ⟨i0,hi,hz0,hz1,hz2⟩:=info_parts info49
 have h:=run_make (P:=Tryd.prog) W 88 49 i0 _ Tryd.underlying88 hi hz0 .i64 .i64 n n (by omega) (Int.le_refl _) (by rw [hz2];omega) (by omega)
 rw [hz1,Int.toNat_natCast] at h
 exact h
def WayOf (ts:List Int) (N:Nat) (T:Tr):Prop:=∀ (M:Fz) (K:Ks) (R:Rs) (O:Lb) (w:World) (cs:Array Value),Inv ts.length M K R O w→Few K R→RxAt M T cs →
 Calls Tryd.prog 31 #[.agg cs,.string (strOfNums ts)] w (WayMade ts.length M K R O w N (rex.mt ts T) (sp ts T))
theorem way_fin {L N:Nat} {M M1:Fz} {K K1:Ks} {R R1:Rs} {O O1:Lb} {w W1 w6:World} (hst:St L M1 K1 R O w R1 O1 W1) (hfm:FLe M M1) (hkm:KLe K K1) (ho:O1 (w.heap.size+1)=none) (hb:W1.heap[w.heap.size+1]?=some (.cells #[.nilFunc,.nilFunc] 49 (0,0))) {k3:Kd} (hm:Made L M1 K1 R1 O1 W1 w6 fun M' K'=>KdOK L M' K' N k3) :
  w6.heap[w.heap.size+1]?=some (.cells #[.nilFunc,.nilFunc] 49 (0,0))∧Made L M K R O w ((w6.setCell ⟨w.heap.size+1,0,none⟩ k3.ve).setCell ⟨w.heap.size+1,1,none⟩ k3.vp) fun M' K'=>KdOK L M' K' N k3:=by
 obtain ⟨M',K',R',O',g1,g2,g3,g4,g5⟩:=hm
 have hl:=(Array.getElem?_eq_some_iff.1 hb).1
 have h1:=(g3.same _ hl (.inl ho)).trans hb
 have o1:O' (w.heap.size+1)=none:=(g3.lab _ hl).trans ho
 exact ⟨h1,M',K',R',O',hfm.trans g1,hkm.trans g2,((hst.then g3).set (a:=⟨w.heap.size+1,0,none⟩) (by simp) o1 _).set (a:=⟨w.heap.size+1,1,none⟩) (by simp) o1 _,g4,g5⟩
theorem way_drew {L:Nat} {M:Fz} {K:Ks} {R:Rs} {O:Lb} {w w':World} {N:Nat} {a:B2} {s:Sp} {e:Ending} (h:WayMade L M K R O w.drew N a s e w'):WayMade L M K R O w N a s e w':=by
 obtain ⟨k,h1,h2,h3,M',K',R',O',g1,g2,g3,g4,g5⟩:=h
 exact ⟨k,h1,h2,h3,M',K',R',O',g1,g2,St.of g3.inv ⟨g3.os,g3.tape,g3.output,g3.size,g3.same,g3.lab,g3.rows⟩,g4,g5⟩
theorem kds_ends {ts:List Int}:∀ {kds:List Kd} {ks:List Tr},kds.length=ks.length→(∀ (j:Nat) (k:Kd),kds[j]?=some k→∃ T,ks[j]?=some T∧k.a=rex.mt ts T∧k.s=sp ts T)→ends kds=ks.map (rex.mt ts)∧prs kds=ks.map fun k=>(rex.mt ts k,sp ts k)
 | [],[],_,_=>⟨rfl,rfl⟩
 | [],_::_,h,_=>by simp at h
 | _::_,[],h,_=>by simp at h
 | k::kds,T::ks,h,hk=>by
  obtain ⟨T',h1,h2,h3⟩:=hk 0 k rfl
  simp only [List.getElem?_cons_zero,Option.some.injEq] at h1
  subst h1
  obtain ⟨e1,e2⟩:=kds_ends (kds:=kds) (ks:=ks) (by simpa using h) (fun j q hq=>hk (j+1) q (by simpa using hq))
  simp only [ends,prs,List.map_cons] at e1 e2 ⊢
  rw [e1,e2,h2,h3]
  exact ⟨rfl,rfl⟩
def KindOf (T:Tr) (kind n9 m9:Int) (ss:ByteArray) (v:Value):Prop :=
 (leafCells T v=some #[.int .i64 kind,.int .i64 n9,.int .i64 m9,.string ss,v]∧(kind≠6∧kind≠7∧kind≠8∧kind≠9)∧sp [] T=idS∧kidsOf T=[])∨(∃ g k,T=.group g k∧kind=6∧n9=(g:Int))∨(∃ ks,T=.cat ks∧kind=7)∨(∃ ks,T=.alt ks∧kind=8)∨(∃ a b k,T=.rep a b k∧kind=9∧n9=(a:Int)∧m9=unM b)
theorem RxAt.kind {M:Fz} {T:Tr} {kind n9 m9:Int} {ss:ByteArray} {v:Value} (h:RxAt M T (rxV kind n9 m9 ss v)):KindOf T kind n9 m9 ss v:=by
 cases T with
 | char b =>
  rw [RxAt] at h
  simp only [rxV,Array.mk.injEq,List.cons.injEq,Value.int.injEq,Value.string.injEq,true_and,and_true] at h
  obtain ⟨rfl,rfl,rfl,rfl,rfl⟩:=h
  exact .inl ⟨rfl,by decide,by simp only [sp],rfl⟩
 | any =>
  rw [RxAt] at h
  simp only [rxV,Array.mk.injEq,List.cons.injEq,Value.int.injEq,Value.string.injEq,true_and,and_true] at h
  obtain ⟨rfl,rfl,rfl,rfl,rfl⟩:=h
  exact .inl ⟨rfl,by decide,by simp only [sp],rfl⟩
 | set s =>
  rw [RxAt] at h
  simp only [rxV,Array.mk.injEq,List.cons.injEq,Value.int.injEq,Value.string.injEq,true_and,and_true] at h
  obtain ⟨rfl,rfl,rfl,rfl,rfl⟩:=h
  exact .inl ⟨rfl,by decide,by simp only [sp],rfl⟩
 | beg =>
  rw [RxAt] at h
  simp only [rxV,Array.mk.injEq,List.cons.injEq,Value.int.injEq,Value.string.injEq,true_and,and_true] at h
  obtain ⟨rfl,rfl,rfl,rfl,rfl⟩:=h
  exact .inl ⟨rfl,by decide,by simp only [sp],rfl⟩
 | fin =>
  rw [RxAt] at h
  simp only [rxV,Array.mk.injEq,List.cons.injEq,Value.int.injEq,Value.string.injEq,true_and,and_true] at h
  obtain ⟨rfl,rfl,rfl,rfl,rfl⟩:=h
  exact .inl ⟨rfl,by decide,by simp only [sp],rfl⟩
 | group n k =>
  rw [RxAt] at h
  obtain ⟨g,cap,cur,h,_⟩:=h
  simp only [rxV,Array.mk.injEq,List.cons.injEq,Value.int.injEq,Value.string.injEq,true_and,and_true] at h
  exact .inr (.inl ⟨n,k,rfl,h.1,h.2.1⟩)
 | cat ks =>
  rw [RxAt] at h
  refine .inr (.inr (.inl ⟨ks,rfl,?_⟩))
  rcases h with ⟨_,h⟩|⟨g,cap,cur,h,_⟩
  ·simp only [rxV,Array.mk.injEq,List.cons.injEq,Value.int.injEq,Value.string.injEq,true_and,and_true] at h
   exact h.1
  ·simp only [rxV,Array.mk.injEq,List.cons.injEq,Value.int.injEq,Value.string.injEq,true_and,and_true] at h
   exact h.1
 | alt ks =>
  rw [RxAt] at h
  obtain ⟨g,cap,cur,h,_⟩:=h
  simp only [rxV,Array.mk.injEq,List.cons.injEq,Value.int.injEq,Value.string.injEq,true_and,and_true] at h
  exact .inr (.inr (.inr (.inl ⟨ks,rfl,h.1⟩)))
 | rep n m k =>
  rw [RxAt] at h
  obtain ⟨g,cap,cur,h,_⟩:=h
  simp only [rxV,Array.mk.injEq,List.cons.injEq,Value.int.injEq,Value.string.injEq,true_and,and_true] at h
  exact .inr (.inr (.inr (.inr ⟨n,m,k,rfl,h.1,h.2.1,h.2.2.1⟩)))
theorem leaf_sp {ts:List Int} {T:Tr} {v:Value} {cs:Array Value} (h:leafCells T v=some cs):sp ts T=idS:=by
 cases T with
 | group n k=>cases h
 | cat ks=>cases h
 | alt ks=>cases h
 | rep n m k=>cases h
 | _=>simp only [sp]
set_option maxRecDepth 20000 in
set_option maxHeartbeats 8000000 in
theorem way_walk (ts:List Int) (hl:ts.length≤22) (hts:∀ t∈ts,0≤t∧t≤255) (N:Nat) (T:Tr) (hT:OkT N T) (hkids:∀ (j:Nat) (k:Tr),(kidsOf T)[j]?=some k→WayOf ts N k) (M:Fz) (K:Ks) (R:Rs) (O:Lb) (w:World) (kind n9 m9:Int) (ss:ByteArray) (v:Value) (hI:Inv ts.length M K R O w) (hf:Few K R) (hv:KidsV M (kidsOf T) v) (hR:RxAt M T (rxV kind n9 m9 ss v)) :
  Calls Tryd.prog 31 #[.agg #[.int .i64 kind,.int .i64 n9,.int .i64 m9,.string ss,v],.string (strOfNums ts)] w (WayMade ts.length M K R O w N (rex.mt ts T) (sp ts T)):=by
 obtain ⟨hk300,hok⟩:=hT.kids
 obtain ⟨n,hn⟩:∃ n,n=(kidsOf T).length:=⟨_,rfl⟩
 have k88:∀ W:World,(Instr.makeSlice 88 (.int .i64 (n:Int)) (.int .i64 (n:Int))).run Tryd.prog W=.ok (.slice (some ⟨W.heap.size,0,none⟩) n n) (W.alloc (.cells (madeCells #[.nilFunc,.nilFunc] (n*2)) 49)):=fun W=>make88 n (by omega) W
 obtain ⟨o,cp,hvs⟩:∃ o cp,v=.slice o n cp:=by
  rcases hv with ⟨h1,h2⟩|⟨g,cap,cur,h1,_⟩
  ·have h0:n=0:=by rw [hn,h1];rfl
   exact ⟨none,0,by rw [h2,h0]⟩
  ·exact ⟨_,cap,by rw [h1,hn]⟩
 have HKV:=hide hv
 subst hvs
 obtain ⟨A,hA⟩:∃ A,A=madeCells #[.nilFunc,.nilFunc] (n*2):=⟨_,rfl⟩
 rw [←hA] at k88
 obtain ⟨W0,hW0⟩:∃ W0,((w.alloc (.cells #[.int .i64 kind,.int .i64 n9,.int .i64 m9,.string ss,.slice o n cp] 25)).alloc (.cells #[.nilFunc,.nilFunc] 49)).alloc (.cells A 49)=W0:=⟨_,rfl⟩
 have hz:W0.heap.size=w.heap.size+3:=by rw [←hW0];simp
 have hB:Below w.heap.size w W0:=by
  rw [←hW0]
  exact (((Below.refl _ _).alloc (Nat.le_refl _) _).alloc (by simp) _).alloc (by simp;omega) _
 have a1:∀ (V:World) (o:Obj) (m:Nat),V.heap.size=m→(V.alloc o).heap[m]?=some o:=fun V o m h=>by subst h;exact heap_alloc_new V o
 have b1:W0.heap[w.heap.size]?=some (.cells #[.int .i64 kind,.int .i64 n9,.int .i64 m9,.string ss,.slice o n cp] 25 (0,0)):=by
  rw [←hW0,Below.heap_alloc _ _ _ (by simp;omega),Below.heap_alloc _ _ _ (by simp)]
  exact a1 _ _ _ (by simp)
 have b2:W0.heap[w.heap.size+1]?=some (.cells #[.nilFunc,.nilFunc] 49 (0,0)):=by
  rw [←hW0,Below.heap_alloc _ _ _ (by simp)]
  exact a1 _ _ _ (by simp)
 have b3:W0.heap[w.heap.size+2]?=some (.cells A 49 (0,0)):=by
  rw [←hW0]
  exact a1 _ _ _ (by simp)
 have HS:Hid (WL ts.length ts M K R O w N (kidsOf T) W0 0 M K R O [] A W0):=hide ⟨FLe.refl _,KLe.refl _,(St.refl hI).below hB,hf,rfl,by rw [hA];simp [madeCells,hn],b3,fun j x hx=>by simp [rowOf] at hx,fun j k hk=>by simp at hk,⟨hI.fresh (Nat.le_refl _),hI.fresh (by omega),hI.fresh (by omega)⟩,⟨rfl,rfl⟩,by omega⟩
 have p4:W0.cell? ⟨w.heap.size,4,none⟩=some (.slice o n cp):=by simp [World.cell?,b1]
 have HKid:Hid (∀ i M' K' R' O' kds cur W,i<n→WL ts.length ts M K R O w N (kidsOf T) W0 i M' K' R' O' kds cur W→∃ (g:Nat) (c0 c1 c2:Int) (c3:ByteArray) (o4:Option Addr) (n4 c4:Nat) (k:Tr),o=some ⟨g,0,none⟩∧W.cell? ⟨g,i*5,none⟩=some (.int .i64 c0)∧W.cell? ⟨g,i*5+1,none⟩=some (.int .i64 c1)∧W.cell? ⟨g,i*5+2,none⟩=some (.int .i64 c2)∧W.cell? ⟨g,i*5+3,none⟩=some (.string c3)∧W.cell? ⟨g,i*5+4,none⟩=some (.slice o4 n4 c4)∧(kidsOf T)[i]?=some k ∧
   ∀ W1,W1=W.alloc (.cells #[.int .i64 c0,.int .i64 c1,.int .i64 c2,.string c3,.slice o4 n4 c4] 25)→Calls Tryd.prog 31 #[.agg #[.int .i64 c0,.int .i64 c1,.int .i64 c2,.string c3,.slice o4 n4 c4],.string (strOfNums ts)] W1 (WayMade ts.length M' K' R' O' W1 N (rex.mt ts k) (sp ts k))):=by
  refine hide fun i M' K' R' O' kds cur W hi h => ?_
  rcases HKV.out with ⟨h1,_⟩|⟨g,cap,cu,h1,h2,h3⟩
  ·have h0:n=0:=by rw [hn,h1];rfl
   omega
  ·obtain ⟨k,hk⟩:∃ k,(kidsOf T)[i]?=some k:=⟨_,List.getElem?_eq_getElem (by omega)⟩
   obtain ⟨cc,q1,q2,q3⟩:=h3.get hk
   rw [Nat.zero_add] at q2
   obtain ⟨c0,c1,c2,c3,v4,hcc,hv4⟩:=q3.form
   obtain ⟨o4,n4,c4,hvs⟩:∃ o n c,v4=.slice o n c:=by
    rcases hv4 with ⟨_,e⟩|⟨g,cap,cur,e,_⟩
    ·exact ⟨_,_,_,e⟩
    ·exact ⟨_,_,_,e⟩
   rw [hvs] at hcc
   subst hcc
   simp only [Value.slice.injEq] at h1
   have hIn:=h.st.inv.fz
   have hMg:=h.fm _ _ h2
   refine ⟨g,c0,c1,c2,c3,o4,n4,c4,k,h1.1,hIn.at hMg (q2 0 (by omega)),hIn.at hMg (q2 1 (by omega)),hIn.at hMg (q2 2 (by omega)),hIn.at hMg (q2 3 (by omega)),hIn.at hMg (q2 4 (by omega)),hk,fun W1 hW1 => ?_⟩
   exact hkids i k hk M' K' R' O' W1 _ (by rw [hW1];exact (h.st.alloc _).inv) h.few (RxAt.up h.fm k _ q3)
 have HG:=hide (And.intro hI (And.intro hf (And.intro hR (And.intro hT (And.intro b1 (And.intro b2 (And.intro hts hl)))))))
 have hS:(strOfNums ts).size=ts.length:=strOfNums_size _
 obtain ⟨S,hSS⟩:∃ S,S=strOfNums ts:=⟨_,rfl⟩
 rw [←hSS] at HKid ⊢
 have HSS:=hide hSS
 have HN:=hide (And.intro hn hk300)
 have hn300:n≤300:=by omega
 clear hI hf hR hT b1 b2 b3 hB a1 hA hv hok hkids hts hl hz hSS hS hn hk300
 go_enter Tryd.func31,Tryd.ntmps31
 go_wp2
 (try rw [hW0])
 clear hW0 p4 k88
 go_loopw [6,7,15] (fun v6 v7 v15 wr=>∃ i:Nat,i≤n∧v15=.int .i64 i∧Hid (∃ M' K' R' O' kds cur,WL ts.length ts M K R O w N (kidsOf T) W0 i M' K' R' O' kds cur wr)) (fun _ _ v15 _=>n-(intOf v15).toNat)
 case atStart=>exact ⟨0,by omega,rfl,hide ⟨_,_,_,_,_,_,HS.out⟩⟩
 case round =>
  obtain ⟨i,hi,rfl,HX⟩:=hrel
  clear HS
  by_cases hin:i<n
  ·have hti:(i:Int)<(n:Int):=by omega
   have htw:IntKind.i64.wrap ((i:Int)+1)=((i+1:Nat):Int):=by rw [IntKind.wrap_i64];omega
   obtain ⟨M',K',R',O',kds,cur,hX⟩:=HX.out
   obtain ⟨g,c0,c1,c2,c3,o4,n4,c4,k,rfl,q0,q1,q2,q3,q4,hk,hC⟩:=HKid.out i M' K' R' O' kds cur wr hin hX
   have HC:=hide (hC _ rfl)
   have HX2:=hide (And.intro hX hk)
   clear hX hk hC HX
   go_wp2_with fail
   refine HC.out.mono ?_
   rintro e w3 ⟨k2,rfl,hk2a,hk2s,M2,K2,R2,O2,g1,g2,g3,g4,hk2⟩
   obtain ⟨f2,cf2,he2,_,_⟩:=hk2.e
   obtain ⟨f3,cf3,he3,_,_⟩:=hk2.p
   obtain ⟨r1,r2,r3,hnext⟩:=HX2.out.1.next _ HX2.out.2 hk2a hk2s g1 g2 g3 g4 hk2
   have HNext:=hide hnext
   obtain ⟨u0,hu0⟩:∃ u,w3.cell? ⟨w.heap.size+2,i*2,none⟩=some u:=by
    simp only [World.cell?,r1]
    exact ⟨_,Array.getElem?_eq_getElem (by omega)⟩
   obtain ⟨u1,hu1⟩:∃ u,w3.cell? ⟨w.heap.size+2,i*2+1,none⟩=some u:=by
    simp only [World.cell?,r1]
    exact ⟨_,Array.getElem?_eq_getElem r3⟩
   have y2:w3.frozen? ⟨w.heap.size+2,i*2,none⟩=false:=by simp [World.frozen?,r1]
   have y3:w3.frozen? ⟨w.heap.size+2,i*2+1,none⟩=false:=by simp [World.frozen?,r1]
   rw [he2,he3] at HNext ⊢
   clear hnext g1 g2 g3 g4 hk2 hk2a hk2s HC q0 q1 q2 q3 q4 r1 r2 r3 he2 he3 HX2
   go_wp2
   go_roundw
   case rel=>exact ⟨i+1,by omega,by simp,hide ⟨_,_,_,_,_,_,HNext.out⟩⟩
   case measure=>simp [intOf];omega
  ·obtain rfl:i=n:=by omega
   have hlt:¬ (i:Int)<(i:Int):=by omega
   obtain ⟨M',K',R',O',kds,cur,hX⟩:=HX.out
   obtain ⟨hI,hf,hR,hT,b1,b2,hts,hl⟩:=HG.out
   have hb1:=hX.low.1.trans b1
   have hb2:=hX.low.2.trans b2
   have p0:wr.cell? ⟨w.heap.size,0,none⟩=some (.int .i64 kind):=by simp [World.cell?,hb1]
   have p1:wr.cell? ⟨w.heap.size,1,none⟩=some (.int .i64 n9):=by simp [World.cell?,hb1]
   have p2:wr.cell? ⟨w.heap.size,2,none⟩=some (.int .i64 m9):=by simp [World.cell?,hb1]
   have p3:wr.cell? ⟨w.heap.size,3,none⟩=some (.string ss):=by simp [World.cell?,hb1]
   have p4:wr.cell? ⟨w.heap.size,4,none⟩=some (.slice o i cp):=by simp [World.cell?,hb1]
   have hkk:=kds_ends (ts:=ts) (kds:=kds) (ks:=kidsOf T) (hX.len.trans HN.out.1) (fun j q hq=>by obtain ⟨T',x1,x2,x3,_⟩:=hX.kid j q hq;exact ⟨T',x1,x2,x3⟩)
   have hall:∀ q∈kds,KdOK ts.length M' K' N q:=fun q hq=>by
    obtain ⟨j,hj⟩:=List.getElem?_of_mem hq
    obtain ⟨_,_,_,_,x⟩:=hX.kid j q hj
    exact x
   rcases hR.kind with ⟨hleaf,⟨k6,k7,k8,k9⟩,_,_⟩|⟨gn,kk,rfl,rfl,rfl⟩|⟨ks,rfl,rfl⟩|⟨ks,rfl,rfl⟩|⟨an,bm,kk,rfl,rfl,rfl,rfl⟩
   ·
    have hset:∀ s,T=.set s→∀ x∈s,0≤x∧x≤255:=by
     rintro s rfl
     rw [OkT] at hT
     exact hT.2.1
    have HC:=hide (leaf_mk M' K' R' O' wr ts hts hl T (.slice o i cp) _ hX.st.inv hX.few hleaf hset)
    rw [←HSS.out] at HC
    have e6:(kind == 6)=false:=by simp [k6]
    have e7:(kind == 7)=false:=by simp [k7]
    have e8:(kind == 8)=false:=by simp [k8]
    have e9:(kind == 9)=false:=by simp [k9]
    have HQ:=hide (And.intro hX (And.intro hb2 (leaf_sp (ts:=ts) hleaf)))
    clear hX hall hkk hb1 hb2 b1 b2 hI hf hR hT hts hleaf hset HKid HX
    go_wp2_with fail
    refine HC.out.mono ?_
    rintro e w6 ⟨f4,cf4,rfl,hof,hM⟩
    obtain ⟨hX,hb2,hsp⟩:=HQ.out
    have hm2:Made ts.length M' K' R' O' wr w6 fun M' K'=>KdOK ts.length M' K' N ⟨.func (.func f4) #[] cf4,.func (.func 51) #[] #[],rex.mt ts T,idS⟩:=hM.mono fun M2 K2 _ _ hp=>⟨⟨f4,cf4,rfl,hof,hp⟩,⟨51,#[],rfl,OkF51,none_pt _ _ _ _ _⟩,mono_mt ts T⟩
    obtain ⟨hb6,hM6⟩:=way_fin hX.st hX.fm hX.km hX.o0.2.1 hb2 hm2
    have y0:w6.cell? ⟨w.heap.size+1,0,none⟩=some .nilFunc:=by simp [World.cell?,hb6]
    have y1:w6.cell? ⟨w.heap.size+1,1,none⟩=some .nilFunc:=by simp [World.cell?,hb6]
    have y2:w6.frozen? ⟨w.heap.size+1,0,none⟩=false:=by simp [World.frozen?,hb6]
    have y3:w6.frozen? ⟨w.heap.size+1,1,none⟩=false:=by simp [World.frozen?,hb6]
    have HE9:=hide (way_set hb6 (.func (.func f4) #[] cf4) (.func (.func 51) #[] #[]))
    have HM:=hide (And.intro hM6 hsp)
    clear hX hb2 hm2 hM hb6 hM6 HC HQ hsp HG p0 p1 p2 p3 p4
    go_wp2
    exact bodyPost_ret (results_cell_row rfl _ _ (w.heap.size+1) 49 _ (0,0) _ rfl HE9.out Tryd.underlying49 rfl (size49.trans (by simp))) rfl ⟨⟨.func (.func f4) #[] cf4,.func (.func 51) #[] #[],rex.mt ts T,idS⟩,rfl,rfl,HM.out.2.symm,HM.out.1⟩
   ·
    have hi1:i=1:=HN.out.1
    obtain ⟨k1,hkds⟩:∃ k1,kds[0]?=some k1:=⟨_,List.getElem?_eq_getElem (by have:=hX.len;omega)⟩
    obtain ⟨T',hT1,hk1a,hk1s,hk1⟩:=hX.kid 0 k1 hkds
    simp only [kidsOf,List.getElem?_cons_zero,Option.some.injEq] at hT1
    subst hT1
    obtain ⟨x0,x1⟩:=rowOf_get kds 0 k1 hkds
    have z0:=hX.is _ _ x0
    have z1:=hX.is _ _ x1
    obtain ⟨f1,c1,he1,_,_⟩:=hk1.e
    obtain ⟨f2,c2,he2,_,_⟩:=hk1.p
    have r0:wr.cell? ⟨w.heap.size+2,0,none⟩=some (.func (.func f1) #[] c1):=by simp only [World.cell?,hX.row,←he1];exact z0
    have r1:wr.cell? ⟨w.heap.size+2,1,none⟩=some (.func (.func f2) #[] c2):=by simp only [World.cell?,hX.row,←he2];exact z1
    have HQ:=hide (And.intro hX.st (And.intro hX.fm (And.intro hX.km (And.intro hX.o0.2.1 hb2))))
    rw [OkT] at hT
    subst hi1
    have HC:Hid (∀ W,W=wr∨W=wr.drew→Calls Tryd.prog 46 #[.int .i64 (gn:Int),.agg #[.func (.func f1) #[] c1,.func (.func f2) #[] c2]] W (WayMade ts.length M' K' R' O' wr N (rex.mt ts kk) (fun i j out=>sp ts kk i j ((out.set (2*gn) i).set (2*gn+1) j)))):=by
     refine hide fun W hW => ?_
     rw [←hk1a,←hk1s,←he1,←he2]
     rcases hW with rfl | rfl
     ·exact group_mk _ M' K' R' O' _ N gn k1 hX.st.inv hX.few hk1 hT.2.1 (by omega)
     ·refine (group_mk _ M' K' R' O' _ N gn k1 hX.st.drew.inv hX.few hk1 hT.2.1 (by omega)).mono ?_
      intro e w' h
      exact way_drew h
    have HH:Hid (∀ w6 (k3:Kd),(k3.a=rex.mt ts kk∧k3.s=(fun i j out=>sp ts kk i j ((out.set (2*gn) (i:Int)).set (2*gn+1) (j:Int)))∧Made ts.length M' K' R' O' wr w6 fun M' K'=>KdOK ts.length M' K' N k3)→∃ f4 cf4 f5 cf5,k3.ve=.func (.func f4) #[] cf4∧k3.vp=.func (.func f5) #[] cf5∧w6.cell? ⟨w.heap.size+1,0,none⟩=some .nilFunc∧w6.cell? ⟨w.heap.size+1,1,none⟩=some .nilFunc∧w6.frozen? ⟨w.heap.size+1,0,none⟩=false∧w6.frozen? ⟨w.heap.size+1,1,none⟩=false ∧
      ((w6.setCell ⟨w.heap.size+1,0,none⟩ (.func (.func f4) #[] cf4)).setCell ⟨w.heap.size+1,1,none⟩ (.func (.func f5) #[] cf5)).heap[w.heap.size+1]?=some (.cells #[.func (.func f4) #[] cf4,.func (.func f5) #[] cf5] 49 (0,0)) ∧
      WayMade ts.length M K R O w N (rex.mt ts (.group gn kk)) (sp ts (.group gn kk)) (.returned (.agg #[.func (.func f4) #[] cf4,.func (.func f5) #[] cf5])) ((w6.setCell ⟨w.heap.size+1,0,none⟩ (.func (.func f4) #[] cf4)).setCell ⟨w.heap.size+1,1,none⟩ (.func (.func f5) #[] cf5))):=by
     refine hide fun w6 k3 ⟨hk3a,hk3s,M2,K2,R2,O2,j1,j2,j3,j4,hk3⟩ => ?_
     obtain ⟨f4,cf4,he4,_,_⟩:=hk3.e
     obtain ⟨f5,cf5,he5,_,_⟩:=hk3.p
     obtain ⟨hb6,hM6⟩:=way_fin HQ.out.1 HQ.out.2.1 HQ.out.2.2.1 HQ.out.2.2.2.1 HQ.out.2.2.2.2 (k3:=k3) ⟨M2,K2,R2,O2,j1,j2,j3,j4,hk3⟩
     refine ⟨f4,cf4,f5,cf5,he4,he5,by simp [World.cell?,hb6],by simp [World.cell?,hb6],by simp [World.frozen?,hb6],by simp [World.frozen?,hb6],way_set hb6 _ _,k3,by rw [he4,he5],?_,?_,?_⟩
     ·rw [hk3a,rex.mt]
     ·rw [hk3s,sp]
     ·rw [he4,he5] at hM6
      obtain ⟨M3,K3,R3,O3,l1,l2,l3,l4,l5⟩:=hM6
      exact ⟨M3,K3,R3,O3,l1,l2,l3,l4,l5⟩
    clear hX hall hkk hb1 hb2 b1 b2 hI hf hR hT hts HKid HX hk1 hk1a hk1s x0 x1 z0 z1 he1 he2 hkds HN HKV
    go_wp2
    go_region_law (first | (go_simp;go_at_call 46;refine (HC.out _ (Or.inr rfl)).mono ?_;rintro e w6 ⟨k3,rfl,hW9⟩;obtain ⟨f4,cf4,f5,cf5,he4,he5,y0,y1,y2,y3,HE9,HM⟩:=HH.out w6 k3 hW9;rw [he4,he5]))
    all_goals
     have HE9:=hide HE9
     have HM:=hide HM
     clear y0 y1 y2 y3 HC HH he4 he5 hW9
     go_wp2
     exact bodyPost_ret (results_cell_row rfl _ _ (w.heap.size+1) 49 _ (0,0) _ rfl HE9.out Tryd.underlying49 rfl (size49.trans (by simp))) rfl HM.out
   ·
    obtain ⟨M1,i1,i2,i3⟩:=hX.st.fz' (b:=w.heap.size+2) (by omega) hX.row hX.o0.2.2
    have HC:=hide (cmk.cat_mk ts.length N M1 K' R' _ wr (strOfNums ts) (w.heap.size+2) i i kds cur i3.inv hX.few hl (strOfNums_size _) hX.len (by omega) (fun q hq=>(hall q hq).up i1 (KLe.refl _)) i2 hX.is)
    rw [←HSS.out,hkk.1,hkk.2] at HC
    have HQ:=hide (And.intro i3 (And.intro (hX.fm.trans i1) (And.intro hX.km (And.intro (show up O' (w.heap.size+2) (some (0,0)) (w.heap.size+1)=none by rw [up_ne _ _ (by omega)];exact hX.o0.2.1) hb2))))
    clear hX hall hkk hb1 hb2 b1 b2 hI hf hR hT hts HKid HX i1 i2 i3
    go_wp2_with fail
    refine HC.out.mono ?_
    rintro e w6 ⟨k3,rfl,hk3a,hk3s,M2,K2,R2,O2,j1,j2,j3,j4,hk3⟩
    obtain ⟨f4,cf4,he4,_,_⟩:=hk3.e
    obtain ⟨f5,cf5,he5,_,_⟩:=hk3.p
    obtain ⟨hb6,hM6⟩:=way_fin HQ.out.1 HQ.out.2.1 HQ.out.2.2.1 HQ.out.2.2.2.1 HQ.out.2.2.2.2 (k3:=k3) ⟨M2,K2,R2,O2,j1,j2,j3,j4,hk3⟩
    have HM:Hid (WayMade ts.length M K R O w N (rex.mt ts (.cat ks)) (sp ts (.cat ks)) (.returned (.agg #[k3.ve,k3.vp])) ((w6.setCell ⟨w.heap.size+1,0,none⟩ k3.ve).setCell ⟨w.heap.size+1,1,none⟩ k3.vp)):=by
     refine hide ⟨k3,rfl,?_,?_,hM6⟩
     ·rw [hk3a];rw [rex.mt,mtC_eq];rfl
     ·rw [hk3s];rw [sp,spC_eq];rfl
    have y0:w6.cell? ⟨w.heap.size+1,0,none⟩=some .nilFunc:=by simp [World.cell?,hb6]
    have y1:w6.cell? ⟨w.heap.size+1,1,none⟩=some .nilFunc:=by simp [World.cell?,hb6]
    have y2:w6.frozen? ⟨w.heap.size+1,0,none⟩=false:=by simp [World.frozen?,hb6]
    have y3:w6.frozen? ⟨w.heap.size+1,1,none⟩=false:=by simp [World.frozen?,hb6]
    have HE9:=hide (way_set hb6 k3.ve k3.vp)
    rw [he4,he5] at HM HE9 ⊢
    clear hb6 hM6 hk3 hk3a hk3s j1 j2 j3 j4 he4 he5 HC HQ HG p0 p1 p2 p3 p4
    go_wp2
    exact bodyPost_ret (results_cell_row rfl _ _ (w.heap.size+1) 49 _ (0,0) _ rfl HE9.out Tryd.underlying49 rfl (size49.trans (by simp))) rfl HM.out
   ·
    obtain ⟨M1,i1,i2,i3⟩:=hX.st.fz' (b:=w.heap.size+2) (by omega) hX.row hX.o0.2.2
    have HC:=hide (alt_mk ts.length M1 K' R' _ wr N (strOfNums ts) (w.heap.size+2) i i kds cur i3.inv hX.few hl (strOfNums_size _) hX.len (by omega) i2 hX.is (fun q hq=>(hall q hq).up i1 (KLe.refl _)))
    rw [←HSS.out,hkk.1,hkk.2] at HC
    have HQ:=hide (And.intro i3 (And.intro (hX.fm.trans i1) (And.intro hX.km (And.intro (show up O' (w.heap.size+2) (some (0,0)) (w.heap.size+1)=none by rw [up_ne _ _ (by omega)];exact hX.o0.2.1) hb2))))
    clear hX hall hkk hb1 hb2 b1 b2 hI hf hR hT hts HKid HX i1 i2 i3
    go_wp2_with fail
    refine HC.out.mono ?_
    rintro e w6 ⟨k3,rfl,hk3a,hk3s,M2,K2,R2,O2,j1,j2,j3,j4,hk3⟩
    obtain ⟨f4,cf4,he4,_,_⟩:=hk3.e
    obtain ⟨f5,cf5,he5,_,_⟩:=hk3.p
    obtain ⟨hb6,hM6⟩:=way_fin HQ.out.1 HQ.out.2.1 HQ.out.2.2.1 HQ.out.2.2.2.1 HQ.out.2.2.2.2 (k3:=k3) ⟨M2,K2,R2,O2,j1,j2,j3,j4,hk3⟩
    have HM:Hid (WayMade ts.length M K R O w N (rex.mt ts (.alt ks)) (sp ts (.alt ks)) (.returned (.agg #[k3.ve,k3.vp])) ((w6.setCell ⟨w.heap.size+1,0,none⟩ k3.ve).setCell ⟨w.heap.size+1,1,none⟩ k3.vp)):=by
     refine hide ⟨k3,rfl,?_,?_,hM6⟩
     ·rw [hk3a];rw [rex.mt,mtA_eq];rfl
     ·rw [hk3s];rw [sp,spA_eq];rfl
    have y0:w6.cell? ⟨w.heap.size+1,0,none⟩=some .nilFunc:=by simp [World.cell?,hb6]
    have y1:w6.cell? ⟨w.heap.size+1,1,none⟩=some .nilFunc:=by simp [World.cell?,hb6]
    have y2:w6.frozen? ⟨w.heap.size+1,0,none⟩=false:=by simp [World.frozen?,hb6]
    have y3:w6.frozen? ⟨w.heap.size+1,1,none⟩=false:=by simp [World.frozen?,hb6]
    have HE9:=hide (way_set hb6 k3.ve k3.vp)
    rw [he4,he5] at HM HE9 ⊢
    clear hb6 hM6 hk3 hk3a hk3s j1 j2 j3 j4 he4 he5 HC HQ HG p0 p1 p2 p3 p4
    go_wp2
    exact bodyPost_ret (results_cell_row rfl _ _ (w.heap.size+1) 49 _ (0,0) _ rfl HE9.out Tryd.underlying49 rfl (size49.trans (by simp))) rfl HM.out
   ·
    have hi1:i=1:=HN.out.1
    obtain ⟨k1,hkds⟩:∃ k1,kds[0]?=some k1:=⟨_,List.getElem?_eq_getElem (by have:=hX.len;omega)⟩
    obtain ⟨T',hT1,hk1a,hk1s,hk1⟩:=hX.kid 0 k1 hkds
    simp only [kidsOf,List.getElem?_cons_zero,Option.some.injEq] at hT1
    subst hT1
    obtain ⟨x0,x1⟩:=rowOf_get kds 0 k1 hkds
    have z0:=hX.is _ _ x0
    have z1:=hX.is _ _ x1
    obtain ⟨f1,c1,he1,_,_⟩:=hk1.e
    obtain ⟨f2,c2,he2,_,_⟩:=hk1.p
    have r0:wr.cell? ⟨w.heap.size+2,0,none⟩=some (.func (.func f1) #[] c1):=by simp only [World.cell?,hX.row,←he1];exact z0
    have r1:wr.cell? ⟨w.heap.size+2,1,none⟩=some (.func (.func f2) #[] c2):=by simp only [World.cell?,hX.row,←he2];exact z1
    have HQ:=hide (And.intro hX.st (And.intro hX.fm (And.intro hX.km (And.intro hX.o0.2.1 hb2))))
    rw [OkT] at hT
    subst hi1
    have HC:Hid (∀ W,W=wr∨W=wr.drew→Calls Tryd.prog 49 #[.agg #[.int .i64 9,.int .i64 (an:Int),.int .i64 (unM bm),.string ss,.slice o 1 cp],.agg #[.func (.func f1) #[] c1,.func (.func f2) #[] c2],.string S] W (WayMade ts.length M' K' R' O' wr N (rex.mt ts (.rep an bm kk)) (sp ts (.rep an bm kk)))):=by
     refine hide fun W hW => ?_
     rw [←he1,←he2,rex.mt,sp,←hk1a,←hk1s]
     have hS9:S.size=ts.length:=by rw [HSS.out];exact strOfNums_size _
     have key:∀ (W:World),Inv ts.length M' K' R' O' W→Calls Tryd.prog 49 #[.agg #[.int .i64 9,.int .i64 (an:Int),.int .i64 (unM bm),.string ss,.slice o 1 cp],.agg #[k1.ve,k1.vp],.string S] W (WayMade ts.length M' K' R' O' W N (pw k1.a (moreB ts.length an bm k1.a) an) (pwS k1.a (moreB ts.length an bm k1.a) k1.s (moreS ts.length an bm k1.a k1.s) an)):=by
      intro W hIW
      cases bm with
      | none=>exact rep_mk ts.length N M' K' R' O' W S k1 an 9 (-1) ss _ _ _ hIW hX.few hl hS9 (by omega) hk1 (fun W1 h1=>more_mk ts.length N M' K' R' O' W1 S k1 true 0 9 _ (-1) ss _ h1 hX.few hl (by omega) hk1 (fun M2 O2 W2 h2 h3=>left_inf ts.length N M2 K' R' O2 W2 S k1 an 9 ss _ h3 hX.few hl hS9 (hk1.up h2 (KLe.refl _)))) (mono_upTo _ _)
      | some m =>
       have hm:=hT.2.1 m rfl
       exact rep_mk ts.length N M' K' R' O' W S k1 an 9 (m:Int) ss _ _ _ hIW hX.few hl hS9 (by omega) hk1 (fun W1 h1=>more_mk ts.length N M' K' R' O' W1 S k1 false (m-an) 9 _ (m:Int) ss _ h1 hX.few hl (by omega) hk1 (fun M2 O2 W2 h2 h3=>left_mk ts.length N M2 K' R' O2 W2 S k1 an m 9 ss _ h3 hX.few hl hS9 (hk1.up h2 (KLe.refl _)) hm.1 (by omega))) (mono_upTo _ _)
     rcases hW with rfl | rfl
     ·exact key _ hX.st.inv
     ·exact (key _ hX.st.drew.inv).mono fun e w' h=>way_drew h
    have HH:Hid (∀ w6 (k3:Kd),(k3.a=rex.mt ts (.rep an bm kk)∧k3.s=sp ts (.rep an bm kk)∧Made ts.length M' K' R' O' wr w6 fun M' K'=>KdOK ts.length M' K' N k3)→∃ f4 cf4 f5 cf5,k3.ve=.func (.func f4) #[] cf4∧k3.vp=.func (.func f5) #[] cf5∧w6.cell? ⟨w.heap.size+1,0,none⟩=some .nilFunc∧w6.cell? ⟨w.heap.size+1,1,none⟩=some .nilFunc∧w6.frozen? ⟨w.heap.size+1,0,none⟩=false∧w6.frozen? ⟨w.heap.size+1,1,none⟩=false ∧
      ((w6.setCell ⟨w.heap.size+1,0,none⟩ (.func (.func f4) #[] cf4)).setCell ⟨w.heap.size+1,1,none⟩ (.func (.func f5) #[] cf5)).heap[w.heap.size+1]?=some (.cells #[.func (.func f4) #[] cf4,.func (.func f5) #[] cf5] 49 (0,0)) ∧
      WayMade ts.length M K R O w N (rex.mt ts (.rep an bm kk)) (sp ts (.rep an bm kk)) (.returned (.agg #[.func (.func f4) #[] cf4,.func (.func f5) #[] cf5])) ((w6.setCell ⟨w.heap.size+1,0,none⟩ (.func (.func f4) #[] cf4)).setCell ⟨w.heap.size+1,1,none⟩ (.func (.func f5) #[] cf5))):=by
     refine hide fun w6 k3 ⟨hk3a,hk3s,M2,K2,R2,O2,j1,j2,j3,j4,hk3⟩ => ?_
     obtain ⟨f4,cf4,he4,_,_⟩:=hk3.e
     obtain ⟨f5,cf5,he5,_,_⟩:=hk3.p
     obtain ⟨hb6,hM6⟩:=way_fin HQ.out.1 HQ.out.2.1 HQ.out.2.2.1 HQ.out.2.2.2.1 HQ.out.2.2.2.2 (k3:=k3) ⟨M2,K2,R2,O2,j1,j2,j3,j4,hk3⟩
     refine ⟨f4,cf4,f5,cf5,he4,he5,by simp [World.cell?,hb6],by simp [World.cell?,hb6],by simp [World.frozen?,hb6],by simp [World.frozen?,hb6],way_set hb6 _ _,k3,by rw [he4,he5],?_,?_,?_⟩
     ·exact hk3a
     ·exact hk3s
     ·rw [he4,he5] at hM6
      obtain ⟨M3,K3,R3,O3,l1,l2,l3,l4,l5⟩:=hM6
      exact ⟨M3,K3,R3,O3,l1,l2,l3,l4,l5⟩
    clear hX hall hkk hb1 hb2 b1 b2 hI hf hR hT hts HKid HX hk1 hk1a hk1s x0 x1 z0 z1 he1 he2 hkds HN HKV
    go_wp2
    go_region_law (first | (go_simp;go_at_call 49;refine (HC.out _ (Or.inr rfl)).mono ?_;rintro e w6 ⟨k3,rfl,hW9⟩;obtain ⟨f4,cf4,f5,cf5,he4,he5,y0,y1,y2,y3,HE9,HM⟩:=HH.out w6 k3 hW9;rw [he4,he5]))
    all_goals
     have HE9:=hide HE9
     have HM:=hide HM
     clear y0 y1 y2 y3 HC HH he4 he5 hW9
     go_wp2
     exact bodyPost_ret (results_cell_row rfl _ _ (w.heap.size+1) 49 _ (0,0) _ rfl HE9.out Tryd.underlying49 rfl (size49.trans (by simp))) rfl HM.out
end Go.Proofs.YtfhimmnoipfiaaaDoor.eng
namespace Go.Proofs.YtfhimmnoipfiaaaDoor.eng
open bytes places sets tz rex
theorem grown_of_below {w w':World} {r:Option Nat} (h:Below w.heap.size w w'):w.grownBy w' r:=⟨h.os,h.tape,h.output,h.size,fun k hk _=>h.block k hk⟩
def gdT:Tr→Nat
 | .group _ _=>1
 | _=>0
theorem row_ok {M:Fz} {N:Nat} {T:Tr} (hT:OkT N T) {cs:Array Value} (hR:RxAt M T cs) {g:Nat} (hn:NumT g T) (W:World) (c n:Nat) (hck:CK W c n g) (hg:g+ngT T≤9) :
  Calls Tryd.prog 38 #[.pointer (some ⟨c,0,none⟩),.agg cs] W fun e w'=>e=.returned (.bool true)∧CK w' c n (g+gdT T)∧W.grownBy w' (some c):=by
 have fin:∀ {e:Ending} {w':World},(e=.returned (.bool true)∧Below W.heap.size W w')→(e=.returned (.bool true)∧CK w' c n (g+0)∧W.grownBy w' (some c)):=fun h=>⟨h.1,hck.below h.2,grown_of_below h.2⟩
 cases T with
 | char b=>rw [RxAt] at hR;rw [OkT] at hT;subst hR;exact (row_char W c b hT.1 hT.2).mono fun e w' h=>fin h
 | any=>rw [RxAt] at hR;subst hR;exact (row_any W c).mono fun e w' h=>fin h
 | set s=>rw [RxAt] at hR;rw [OkT] at hT;subst hR;exact (row_set W c s hT.2.1 hT.1 hT.2.2).mono fun e w' h=>fin h
 | beg=>rw [RxAt] at hR;subst hR;exact (row_beg W c).mono fun e w' h=>fin h
 | fin=>rw [RxAt] at hR;subst hR;exact (row_fin W c).mono fun e w' h=>fin h
 | group m k =>
  rw [RxAt] at hR
  rw [NumT] at hn
  obtain ⟨gg,cap,cur,h1,_⟩:=hR
  obtain ⟨rfl,_⟩:=hn
  subst h1
  rw [ngT] at hg
  exact row_group W c n g _ cap hck (by omega)
 | cat ks =>
  rw [RxAt] at hR
  rcases hR with ⟨_,h1⟩|⟨gg,cap,cur,h1,_⟩
  ·subst h1;exact (row_cat W c _ _ _).mono fun e w' h=>fin h
  ·subst h1;exact (row_cat W c _ _ _).mono fun e w' h=>fin h
 | alt ks =>
  rw [RxAt] at hR
  rw [OkT] at hT
  obtain ⟨gg,cap,cur,h1,_⟩:=hR
  subst h1
  exact (row_alt W c _ _ _ hT.1).mono fun e w' h=>fin h
 | rep a b k =>
  rw [RxAt] at hR
  rw [OkT] at hT
  obtain ⟨gg,cap,cur,h1,_⟩:=hR
  subst h1
  refine (row_rep W c a (unM b) _ cap hT.1 ?_).mono fun e w' h=>fin h
  cases b with
  | none=>exact .inl rfl
  | some m=>have:=hT.2.1 m rfl;simp only [unM];omega
def WeighOf (T:Tr):Prop:=∀ (M:Fz) (w:World) (c n g:Nat) (cs:Array Value),In M w→M c=none→RxAt M T cs→NumT g T→CK w c n g→n+szT T≤120→wtT T≤300→g+ngT T≤9 →
 Calls Tryd.prog 22 #[.pointer (some ⟨c,0,none⟩),.agg cs] w fun e w'=>e=.returned (.int .i64 (wtT T:Nat))∧CK w' c (n+szT T) (g+ngT T)∧w.grownBy w' (some c)
theorem wt_pos (T:Tr):0<wtT T:=by
 rcases wt_kids T with ⟨n,m,k,_,e⟩|⟨_,e⟩
 ·rw [e];exact Nat.mul_pos (by omega) (by omega)
 ·omega
theorem In.grown {M:Fz} {w w':World} {c:Nat} (h:In M w) (hc:M c=none) (hg:w.grownBy w' (some c)):In M w':=fun b o hb=>by
 have hx:=h b o hb
 refine (hg.block b (Array.getElem?_eq_some_iff.1 hx).1 (fun e => ?_)).trans hx
 simp only [Option.some.injEq] at e
 subst e
 rw [hc] at hb
 cases hb
set_option maxRecDepth 20000 in
set_option maxHeartbeats 8000000 in
theorem weigh_walk (N:Nat) (T:Tr) (hT:OkT N T) (hkids:∀ (j:Nat) (k:Tr),(kidsOf T)[j]?=some k→WeighOf k):WeighOf T:=by
 intro M w c n g cs hIn hMc hR hnum hck hsz hwt hng
 obtain ⟨kind,n9,m9,ss,v,rfl,hv⟩:=hR.form
 obtain ⟨d,hd1,hd2,hd3,hd4⟩:=kids_num hnum
 have hgd:d=gdT T:=by
  rcases hd4 with ⟨a,b,rfl,h1,_⟩|⟨h1,h2⟩
  ·rw [h1];rfl
  ·rw [h1]
   cases T with
   | group a b=>exact absurd rfl (h2 a b)
   | _=>rfl
 obtain ⟨ln,hln⟩:∃ ln,ln=(kidsOf T).length:=⟨_,rfl⟩
 obtain ⟨o,cp,hvs⟩:∃ o cp,v=.slice o ln cp:=by
  rcases hv with ⟨h1,h2⟩|⟨gg,cap,cur,h1,_⟩
  ·have h0:ln=0:=by rw [hln,h1];rfl
   exact ⟨none,0,by rw [h2,h0]⟩
  ·exact ⟨_,cap,by rw [h1,hln]⟩
 subst hvs
 have hc:=hck.lt
 have k0:=hck.c0
 have f0:=hck.fz 0
 obtain ⟨n1,hn0⟩:∃ n1,n1=n+1:=⟨_,rfl⟩
 have hn1:IntKind.i64.wrap ((n:Int)+1)=(n1:Int):=by rw [IntKind.wrap_i64];omega
 have hn2:¬ (120:Int)<(n1:Int):=by omega
 have HR9:=hide (fun W (h:CK W c n1 g)=>row_ok hT hR hnum W c n1 h hng)
 rw [←hgd] at HR9
 have HS:Hid (∀ W,W=(w.setCell ⟨c,0,none⟩ (.int .i64 (n1:Int))).alloc (.cells (rxV kind n9 m9 ss (.slice o ln cp)) 25)→CK W c n1 g∧w.grownBy W (some c)∧W.heap[w.heap.size]?=some (.cells (rxV kind n9 m9 ss (.slice o ln cp)) 25 (0,0))):=by
  refine hide fun W hW => ?_
  have h1:=heap_setCell_same w c 0 _ 58 (.int .i64 (n1:Int)) hck.blk
  simp at h1
  refine ⟨⟨?_⟩,⟨by rw [hW];rfl,by rw [hW];rfl,by rw [hW];rfl,by rw [hW];simp,fun k hk hn => ?_⟩,?_⟩
  ·rw [hW]
   refine (Below.heap_alloc _ _ _ (by simpa using hc)).trans ?_
   simpa using h1
  ·rw [hW]
   exact (Below.heap_alloc _ _ _ (by simpa using hk)).trans (heap_setCell_other _ ⟨c,0,none⟩ k _ (fun e=>hn (by simp [e])))
  ·rw [hW]
   have h2:=heap_alloc_new (w.setCell ⟨c,0,none⟩ (.int .i64 (n1:Int))) (.cells (rxV kind n9 m9 ss (.slice o ln cp)) 25)
   rw [World.size_setCell] at h2
   exact h2
 have HKid:Hid (∀ i W,i<ln→In M W→∃ (gg:Nat) (c0 c1 c2:Int) (c3:ByteArray) (o4:Option Addr) (n4 c4:Nat) (k:Tr),o=some ⟨gg,0,none⟩∧gg<W.heap.size∧W.cell? ⟨gg,i*5,none⟩=some (.int .i64 c0)∧W.cell? ⟨gg,i*5+1,none⟩=some (.int .i64 c1)∧W.cell? ⟨gg,i*5+2,none⟩=some (.int .i64 c2)∧W.cell? ⟨gg,i*5+3,none⟩=some (.string c3)∧W.cell? ⟨gg,i*5+4,none⟩=some (.slice o4 n4 c4)∧(kidsOf T)[i]?=some k ∧
   RxAt M k #[.int .i64 c0,.int .i64 c1,.int .i64 c2,.string c3,.slice o4 n4 c4]):=by
  refine hide fun i W hi h => ?_
  rcases hv with ⟨h1,_⟩|⟨gg,cap,cu,h1,h2,h3⟩
  ·have h0:ln=0:=by rw [hln,h1];rfl
   omega
  ·obtain ⟨k,hk⟩:∃ k,(kidsOf T)[i]?=some k:=⟨_,List.getElem?_eq_getElem (by omega)⟩
   obtain ⟨cc,q1,q2,q3⟩:=h3.get hk
   rw [Nat.zero_add] at q2
   obtain ⟨c0,c1,c2,c3,v4,hcc,hv4⟩:=q3.form
   obtain ⟨o4,n4,c4,hvs⟩:∃ o n c,v4=.slice o n c:=by
    rcases hv4 with ⟨_,e⟩|⟨g,cap,cur,e,_⟩
    ·exact ⟨_,_,_,e⟩
    ·exact ⟨_,_,_,e⟩
   rw [hvs] at hcc
   subst hcc
   simp only [Value.slice.injEq] at h1
   exact ⟨gg,c0,c1,c2,c3,o4,n4,c4,k,h1.1,(Array.getElem?_eq_some_iff.1 (h _ _ h2)).1,h.at h2 (q2 0 (by omega)),h.at h2 (q2 1 (by omega)),h.at h2 (q2 2 (by omega)),h.at h2 (q2 3 (by omega)),h.at h2 (q2 4 (by omega)),hk,q3⟩
 have hwk:1+wtK (kidsOf T)≤300:=by
  rcases wt_kids T with ⟨a,b,k,rfl,e⟩|⟨_,e⟩
  ·rw [e] at hwt
   exact Nat.le_trans (Nat.le_mul_of_pos_right _ (by omega)) hwt
  ·omega
 have HA:=hide (And.intro hIn (And.intro hMc (And.intro hd1 (And.intro hd2 (And.intro hd3 (And.intro hln (And.intro hwk (And.intro hkids (And.intro hsz (And.intro hng (And.intro hT (And.intro hwt (And.intro hR.kind hn0)))))))))))))
 clear hIn hMc hR hnum hck hsz hwt hng hv hd1 hd2 hd3 hd4 hln hwk hkids hT hgd hn0
 obtain ⟨RW,hRW⟩:∃ RW,RW=wtT T:=⟨_,rfl⟩
 rw [←hRW]
 have HRW:=hide hRW
 clear hRW
 unfold rxV at HS HR9 ⊢
 go_enter Tryd.func22,Tryd.ntmps22
 go_wp2_with fail
 obtain ⟨W1,hW1⟩:∃ W1,W1=(w.setCell ⟨c,0,none⟩ (.int .i64 (n1:Int))).alloc (.cells #[.int .i64 kind,.int .i64 n9,.int .i64 m9,.string ss,.slice o ln cp] 25):=⟨_,rfl⟩
 obtain ⟨s1,s2,s3⟩:=HS.out W1 hW1
 (try rw [←hW1])
 refine (HR9.out W1 s1).mono ?_
 rintro e w2 ⟨rfl,r1,r2⟩
 have hz1:w.heap.size<W1.heap.size:=(Array.getElem?_eq_some_iff.1 s3).1
 have hb2:w2.heap[w.heap.size]?=some (.cells #[.int .i64 kind,.int .i64 n9,.int .i64 m9,.string ss,.slice o ln cp] 25 (0,0)):=(r2.block _ hz1 (by simp;omega)).trans s3
 have HX0:Hid (CK w2 c (n1+szK ((kidsOf T).take 0)) (g+d+ngK ((kidsOf T).take 0))∧w.grownBy w2 (some c)∧w2.heap[w.heap.size]?=some (.cells #[.int .i64 kind,.int .i64 n9,.int .i64 m9,.string ss,.slice o ln cp] 25 (0,0))):=by
  refine hide ⟨?_,grown_trans s2 r2,hb2⟩
  rw [List.take_zero,szK,ngK]
  exact r1
 have p0:w2.cell? ⟨w.heap.size,4,none⟩=some (.slice o ln cp):=by simp [World.cell?,hb2]
 have hw0:wtK ((kidsOf T).take 0)=0:=by simp [wtK]
 obtain ⟨WT,hWT⟩:∃ WT:Nat→Nat,WT=fun i=>1+wtK ((kidsOf T).take i):=⟨_,rfl⟩
 have hWT0:WT 0=1:=by rw [hWT];simp [wtK]
 have HWT:=hide hWT
 clear hWT hw0 r1 r2 s1 s2 s3 hW1 hz1 hb2 HS HR9 k0 f0 hn1 hn2
 go_wp2
 go_loopw [5,7,8,31] (fun v5 v7 v8 v31 wr=>∃ i:Nat,i≤ln∧v5=.int .i64 (WT i:Nat)∧v31=.int .i64 (i:Int)∧Hid (CK wr c (n1+szK ((kidsOf T).take i)) (g+d+ngK ((kidsOf T).take i))∧w.grownBy wr (some c)∧wr.heap[w.heap.size]?=some (.cells #[.int .i64 kind,.int .i64 n9,.int .i64 m9,.string ss,.slice o ln cp] 25 (0,0)))) (fun _ _ _ v31 _=>ln-(intOf v31).toNat)
 case atStart=>exact ⟨0,by omega,by rw [hWT0];rfl,rfl,HX0⟩
 case round =>
  obtain ⟨i,hi,rfl,rfl,HX⟩:=hrel
  clear HX0 p0
  have hin:=HA.out.1.grown HA.out.2.1 HX.out.2.1
  by_cases hil:i<ln
  ·have hti:(i:Int)<(ln:Int):=by omega
   obtain ⟨gg,c0,c1,c2,c3,o4,n4,c4,k,rfl,hggl,q0,q1,q2,q3,q4,hk,hRk⟩:=HKid.out i wr hil hin
   obtain ⟨e1,e2,e3⟩:=szK_take _ i k hk
   obtain ⟨l1,l2,l3⟩:=szK_le (kidsOf T) (i+1)
   have hlen120:ln≤120:=by
    have key:∀ l:List Tr,l.length≤szK l:=by
     intro l
     induction l with
     | nil=>simp [szK]
     | cons a l ih =>
      have:1≤szT a:=by cases a <;> simp [szT]
      simp [szK];omega
    have:=key (kidsOf T)
    have:=HA.out.2.2.2.2.1
    have:=HA.out.2.2.2.2.2.1
    have:=HA.out.2.2.2.2.2.2.2.2.1
    omega
   have htw:IntKind.i64.wrap ((i:Int)+1)=((i+1:Nat):Int):=by rw [IntKind.wrap_i64];omega
   have hw1:WT (i+1)=WT i+wtT k:=by rw [HWT.out];simp only [e3];omega
   have hw300:WT (i+1)≤300:=by rw [HWT.out];show 1+wtK ((kidsOf T).take (i+1))≤300;have:=HA.out.2.2.2.2.2.2.1;omega
   have hwpos:=wt_pos k
   have hWk:Hid (∀ W,CK W c (n1+szK ((kidsOf T).take i)) (g+d+ngK ((kidsOf T).take i))→In M W→Calls Tryd.prog 22 #[.pointer (some ⟨c,0,none⟩),.agg #[.int .i64 c0,.int .i64 c1,.int .i64 c2,.string c3,.slice o4 n4 c4]] W fun e w'=>e=.returned (.int .i64 (wtT k:Nat))∧CK w' c (n1+szK ((kidsOf T).take i)+szT k) (g+d+ngK ((kidsOf T).take i)+ngT k)∧W.grownBy w' (some c)):=by
    refine hide fun W hW hW2=>HA.out.2.2.2.2.2.2.2.1 i k hk M W c _ _ _ hW2 HA.out.2.1 hRk (numK_get HA.out.2.2.1 hk) hW ?_ ?_ ?_
    ·have:=HA.out.2.2.2.2.1;have:=HA.out.2.2.2.2.2.2.2.2.1;have:=HA.out.2.2.2.2.2.2.2.2.2.2.2.2.2;omega
    ·have:=HA.out.2.2.2.2.2.2.1;omega
    ·have:=HA.out.2.2.2.1;have:=HA.out.2.2.2.2.2.2.2.2.2.1;omega
   have hWk2:=hide (hWk.out _ (⟨(Below.heap_alloc wr (.cells #[.int .i64 c0,.int .i64 c1,.int .i64 c2,.string c3,.slice o4 n4 c4] 25) c HX.out.1.lt).trans HX.out.1.blk⟩) (hin.grown HA.out.2.1 (World.grownBy_alloc wr _ (some c))))
   have HNext:Hid (∀ w5,CK w5 c (n1+szK ((kidsOf T).take i)+szT k) (g+d+ngK ((kidsOf T).take i)+ngT k)→(wr.alloc (.cells #[.int .i64 c0,.int .i64 c1,.int .i64 c2,.string c3,.slice o4 n4 c4] 25)).grownBy w5 (some c)→Hid (CK w5 c (n1+szK ((kidsOf T).take (i+1))) (g+d+ngK ((kidsOf T).take (i+1)))∧w.grownBy w5 (some c)∧w5.heap[w.heap.size]?=some (.cells #[.int .i64 kind,.int .i64 n9,.int .i64 m9,.string ss,(Value.slice (some ⟨gg,0,none⟩) ln cp)] 25 (0,0)))):=by
    refine hide fun w5 h5 g5=>hide ⟨?_,grown_trans HX.out.2.1 (grown_trans (World.grownBy_alloc wr _ (some c)) g5),?_⟩
    ·rw [e1,e2,←Nat.add_assoc,←Nat.add_assoc]
     exact h5
    ·have hl:=(Array.getElem?_eq_some_iff.1 HX.out.2.2).1
     exact (g5.block _ (by simp;omega) (by simp;omega)).trans ((Below.heap_alloc _ _ _ hl).trans HX.out.2.2)
   have hwadd:IntKind.i64.wrap (((WT i:Nat):Int)+((wtT k:Nat):Int))=((WT (i+1):Nat):Int):=by rw [IntKind.wrap_i64];omega
   have hnz:¬ ((wtT k:Nat):Int)=0:=by omega
   have hnz2:(((wtT k:Nat):Int) == 0)=false:=by simp;omega
   obtain ⟨wt2,hwt2⟩:∃ wt2,wt2=WT (i+1):=⟨_,rfl⟩
   have HW2:=hide hwt2
   rw [←hwt2] at hwadd
   clear hwt2
   generalize wtT k=wk at *
   clear HX hin hw1 hw300 hwpos e1 e2 e3 l1 l2 l3 hRk hk hWk
   go_wp2_with fail
   refine hWk2.out.mono ?_
   rintro e w5 ⟨rfl,h5,g5⟩
   have HX5:=HNext.out w5 h5 g5
   clear h5 g5 hWk2 HNext q1 q2 q3 q4
   go_wp2
   go_roundw
   case rel=>exact ⟨i+1,by omega,by rw [HW2.out],by simp,HX5⟩
   case measure=>simp [intOf];omega
  ·obtain rfl:i=ln:=by omega
   have hnl:¬ (i:Int)<(i:Int):=by omega
   obtain ⟨hIn,hMc,hd1,hd2,hd3,hln,hwk,hkids,hsz,hng,hT,hwt,hkind,hn0⟩:=HA.out
   have htake:(kidsOf T).take i=kidsOf T:=by rw [hln];exact List.take_length
   have HF:Hid (CK wr c (n+szT T) (g+ngT T)∧w.grownBy wr (some c)):=by
    have h:=HX.out.1
    rw [htake] at h
    refine hide ⟨?_,HX.out.2.1⟩
    rw [hd3,hd2,←Nat.add_assoc,←Nat.add_assoc,←hn0]
    exact h
   have hWi:WT i=1+wtK (kidsOf T):=by rw [HWT.out];show 1+wtK ((kidsOf T).take i)=_;rw [htake]
   have p0:wr.cell? ⟨w.heap.size,0,none⟩=some (.int .i64 kind):=by simp [World.cell?,HX.out.2.2]
   have p1:wr.cell? ⟨w.heap.size,1,none⟩=some (.int .i64 n9):=by simp [World.cell?,HX.out.2.2]
   have p2:wr.cell? ⟨w.heap.size,2,none⟩=some (.int .i64 m9):=by simp [World.cell?,HX.out.2.2]
   rcases wt_kids T with ⟨a,b,kk,rfl,hwe⟩|⟨hnr,hwe⟩
   ·
    rcases hkind with ⟨_,_,_,h⟩|⟨_,_,h,_⟩|⟨_,h,_⟩|⟨_,h,_⟩|⟨a',b',k',h,rfl,rfl,rfl⟩
    ·simp [kidsOf] at h
    ·cases h
    ·cases h
    ·cases h
    ·simp only [Tr.rep.injEq] at h
     obtain ⟨rfl,rfl,rfl⟩:=h
     rw [OkT] at hT
     obtain ⟨mx,hmx⟩:∃ mx,mx=tmsT a b:=⟨_,rfl⟩
     have hmxI:max (a:Int) (unM b)=(mx:Int):=by
      rw [hmx]
      cases b with
      | none=>simp only [unM,tmsT];omega
      | some m=>simp only [unM,tmsT];omega
     have hmx1:(if (a:Int)<unM b then unM b else (a:Int))=(mx:Int):=by rw [←hmxI];split <;> omega
     have hmx2:(if unM b≤(a:Int) then (a:Int) else unM b)=(mx:Int):=by rw [←hmxI];split <;> omega
     have hmx3:(if (a:Int)≤unM b then unM b else (a:Int))=(mx:Int):=by rw [←hmxI];split <;> omega
     have hmx4:(if unM b<(a:Int) then (a:Int) else unM b)=(mx:Int):=by rw [←hmxI];split <;> omega
     have hmx20:mx≤20:=by
      rw [hmx]
      cases b with
      | none=>simp only [tmsT];omega
      | some m=>have:=hT.2.1 m rfl;simp only [tmsT];omega
     have hm300:¬ (300:Int)≤(mx:Int):=by omega
     rw [←hmx,←hWi] at hwe
     have hwm1:IntKind.i64.wrap ((mx:Int)+1)=(mx:Int)+1:=by rw [IntKind.wrap_i64];omega
     have hR9:=HRW.out
     have hmul:((WT i:Nat):Int)*((mx:Int)+1)=(RW:Int):=by rw [hR9,hwe];push_cast;rfl
     have hwR:IntKind.i64.wrap (RW:Int)=(RW:Int):=by rw [IntKind.wrap_i64];omega
     have hle:¬ (300:Int)<(RW:Int):=by omega
     generalize WT i=W9 at *
     generalize unM b=um at *
     clear hwe hR9 hmx HX HKid HA hkids hln htake hWi hd1 hd2 hd3 hIn
     go_wp2
     go_ret
     exact ⟨rfl,HF.out⟩
   ·have hk9:¬ kind=9:=by
     rcases hkind with ⟨_,h,_⟩|⟨_,_,_,h,_⟩|⟨_,_,h⟩|⟨_,_,h⟩|⟨a',b',k',h,_⟩
     ·exact h.2.2.2
     ·omega
     ·omega
     ·omega
     ·exact absurd h (hnr a' b' k')
    have hk92:(kind == 9)=false:=by simp [hk9]
    rw [←hWi] at hwe
    have hRe:RW=WT i:=HRW.out.trans hwe
    rw [hwe] at hwt
    have hRW2:=hide (congrArg (fun (x:Nat)=>(x:Int)) hRe)
    clear hRe
    have hle:¬ (300:Int)<((WT i:Nat):Int):=by omega
    generalize WT i=W9 at *
    clear hwe HX HKid HA hkids hln htake hWi hd1 hd2 hd3 hIn
    go_wp2
    go_ret
    exact ⟨congrArg (fun x:Int=>Ending.returned (Value.int .i64 x)) (show (W9:Int)=(RW:Int) from hRW2.out.symm),HF.out⟩
mutual
theorem weigh_mk {N:Nat}:∀ T:Tr,OkT N T→WeighOf T
 | .char b,h=>weigh_walk N _ h fun j k hj=>by simp [kidsOf] at hj
 | .any,h=>weigh_walk N _ h fun j k hj=>by simp [kidsOf] at hj
 | .set s,h=>weigh_walk N _ h fun j k hj=>by simp [kidsOf] at hj
 | .beg,h=>weigh_walk N _ h fun j k hj=>by simp [kidsOf] at hj
 | .fin,h=>weigh_walk N _ h fun j k hj=>by simp [kidsOf] at hj
 | .group n k,h=>weigh_walk N _ h fun j x hj=>by
  have hx:=List.mem_of_getElem? hj
  simp only [kidsOf,List.mem_singleton] at hx
  rw [OkT] at h
  rw [hx]
  exact weigh_mk k h.2.2.2
 | .cat ks,h=>weigh_walk N _ h fun j k hj=>by
  rw [OkT] at h
  exact weighs_mk ks h.2 j k hj
 | .alt ks,h=>weigh_walk N _ h fun j k hj=>by
  rw [OkT] at h
  exact weighs_mk ks h.2.2 j k hj
 | .rep n m k,h=>weigh_walk N _ h fun j x hj=>by
  have hx:=List.mem_of_getElem? hj
  simp only [kidsOf,List.mem_singleton] at hx
  rw [OkT] at h
  rw [hx]
  exact weigh_mk k h.2.2
theorem weighs_mk {N:Nat}:∀ (ks:List Tr),OkK N ks→∀ (j:Nat) (k:Tr),ks[j]?=some k→WeighOf k
 | [],_,j,k,hj=>by simp at hj
 | a::ks,h,0,k,hj=>by
  rw [OkK] at h
  simp only [List.getElem?_cons_zero,Option.some.injEq] at hj
  subst hj
  exact weigh_mk a h.1
 | a::ks,h,j+1,k,hj=>by
  rw [OkK] at h
  exact weighs_mk ks h.2 j k (by simpa using hj)
end
structure Good (T:Tr):Prop where
 ok:OkT (2*ngT T+2) T
 num:NumT 0 T
 sz:szT T≤120
 wt:wtT T≤300
 ng:ngT T≤9
theorem check_any {M:Fz} {T:Tr} (hT:Good T) {cs:Array Value} (hR:RxAt M T cs) (w:World) (hIn:In M w) (c:Nat) (hc:w.heap.size=c) :
  Calls Tryd.prog 22 #[.pointer (some ⟨c,0,none⟩),.agg cs] (w.alloc (.cells #[.int .i64 0,.int .i64 0] 58)) fun e w'=>e=.returned (.int .i64 (wtT T:Nat))∧CK w' c (szT T) (ngT T)∧Below w.heap.size w w':=by
 subst hc
 have hMc:M w.heap.size=none:=by
  cases e:M w.heap.size with
  | none=>rfl
  | some o=>have:=(Array.getElem?_eq_some_iff.1 (hIn _ _ e)).1;omega
 have hB:=(Below.refl w.heap.size w).alloc (Nat.le_refl _) (.cells #[.int .i64 0,.int .i64 0] 58)
 refine (weigh_mk T hT.ok M _ w.heap.size 0 0 cs (fun b o hb=>(hB.block b (Array.getElem?_eq_some_iff.1 (hIn b o hb)).1).trans (hIn b o hb)) hMc hR hT.num ⟨heap_alloc_new w _⟩ (by have:=hT.sz;omega) hT.wt (by have:=hT.ng;omega)).mono ?_
 rintro e w' ⟨h1,h2,h3⟩
 rw [Nat.zero_add,Nat.zero_add] at h2
 exact ⟨h1,h2,⟨h3.os.trans hB.os,h3.tape.trans hB.tape,h3.output.trans hB.output,Nat.le_trans hB.size h3.size,fun b hb=>(h3.block b (by simp;omega) (by simp;omega)).trans (hB.block b hb)⟩⟩
set_option maxHeartbeats 4000000 in
theorem groups_any {M:Fz} {T:Tr} (hT:Good T) {kind n9 m9:Int} {ss:ByteArray} {o:Option Addr} {ln cp:Nat} (hR:RxAt M T (rxV kind n9 m9 ss (.slice o ln cp))) (w:World) (hIn:In M w) :
  Calls Tryd.prog 9 #[.agg (rxV kind n9 m9 ss (.slice o ln cp))] w fun e w'=>e=.returned (.tuple #[.int .i64 (ngT T:Nat),.int .i64 0])∧Below w.heap.size w w':=by
 have hB:=(Below.refl w.heap.size w).alloc (Nat.le_refl _) (.cells (rxV kind n9 m9 ss (.slice o ln cp)) 25)
 have HC:=hide (check_any hT hR (w.alloc (.cells (rxV kind n9 m9 ss (.slice o ln cp)) 25)) (fun b o hb=>(hB.block b (Array.getElem?_eq_some_iff.1 (hIn b o hb)).1).trans (hIn b o hb)) _ (by rw [World.size_alloc]))
 have hp:=wt_pos T
 have hnz:¬ ((wtT T:Nat):Int)=0:=by omega
 have hnz2:(((wtT T:Nat):Int) == 0)=false:=by simp;omega
 have HB:=hide hB
 unfold rxV at HC HB ⊢
 generalize wtT T=W9 at *
 clear hR hIn hB hp
 go_enter Tryd.func9,Tryd.ntmps9
 go_wp2_with fail
 refine HC.out.mono ?_
 rintro e w3 ⟨rfl,h1,h2⟩
 have c1:=h1.c1
 have HE:=hide (HB.out.trans (h2.mono HB.out.size))
 clear h1 h2 HB HC
 go_wp2
 go_ret2
 exact ⟨rfl,HE.out⟩
set_option maxHeartbeats 4000000 in
theorem rxOK_any {M:Fz} {T:Tr} (hT:Good T) {kind n9 m9:Int} {ss:ByteArray} {o:Option Addr} {ln cp:Nat} (hR:RxAt M T (rxV kind n9 m9 ss (.slice o ln cp))) (w:World) (hIn:In M w) :
  Calls Tryd.prog 10 #[.agg (rxV kind n9 m9 ss (.slice o ln cp))] w fun e w'=>e=.returned (.bool true)∧Below w.heap.size w w':=by
 have hB:=(Below.refl w.heap.size w).alloc (Nat.le_refl _) (.cells (rxV kind n9 m9 ss (.slice o ln cp)) 25)
 have HC:=hide (check_any hT hR (w.alloc (.cells (rxV kind n9 m9 ss (.slice o ln cp)) 25)) (fun b o hb=>(hB.block b (Array.getElem?_eq_some_iff.1 (hIn b o hb)).1).trans (hIn b o hb)) _ (by rw [World.size_alloc]))
 have hp:=wt_pos T
 have hnz:(0:Int)<((wtT T:Nat):Int):=by omega
 have HB:=hide hB
 unfold rxV at HC HB ⊢
 generalize wtT T=W9 at *
 clear hR hIn hB hp
 go_enter Tryd.func10,Tryd.ntmps10
 go_wp2_with fail
 refine HC.out.mono ?_
 rintro e w3 ⟨rfl,h1,h2⟩
 have HE:=hide (HB.out.trans (h2.mono HB.out.size))
 clear h1 h2 HB HC
 go_wp2
 go_ret
 exact ⟨ret_bool (by simpa using hnz),HE.out⟩
end Go.Proofs.YtfhimmnoipfiaaaDoor.eng
namespace Go.Proofs.YtfhimmnoipfiaaaDoor.eng
open bytes places sets tz rex
structure Nd (M:Fz) (T:Tr) (kind n9 m9:Int) (ss:ByteArray) (o:Option Addr) (ln cp:Nat):Prop where
 at_:RxAt M T (rxV kind n9 m9 ss (.slice o ln cp))
 len:ln=(kidsOf T).length
theorem nd_of {M:Fz} {T:Tr} {cs:Array Value} (h:RxAt M T cs):∃ kind n9 m9 ss o ln cp,cs=rxV kind n9 m9 ss (.slice o ln cp)∧Nd M T kind n9 m9 ss o ln cp:=by
 obtain ⟨kind,n9,m9,ss,v,rfl,hv⟩:=h.form
 obtain ⟨o,cp,hvs⟩:∃ o cp,v=.slice o (kidsOf T).length cp:=by
  rcases hv with ⟨h1,h2⟩|⟨gg,cap,cur,h1,_⟩
  ·exact ⟨none,0,by rw [h2,h1];rfl⟩
  ·exact ⟨_,cap,h1⟩
 subst hvs
 exact ⟨kind,n9,m9,ss,o,_,cp,rfl,h,rfl⟩
theorem Nd.kid {M:Fz} {T:Tr} {kind n9 m9:Int} {ss:ByteArray} {o:Option Addr} {ln cp:Nat} (h:Nd M T kind n9 m9 ss o ln cp) {i:Nat} (hi:i<ln) {W:World} (hW:In M W) :
  ∃ (gg:Nat) (c0 c1 c2:Int) (c3:ByteArray) (o4:Option Addr) (n4 c4:Nat) (k:Tr),o=some ⟨gg,0,none⟩∧gg<W.heap.size∧W.cell? ⟨gg,i*5,none⟩=some (.int .i64 c0)∧W.cell? ⟨gg,i*5+1,none⟩=some (.int .i64 c1)∧W.cell? ⟨gg,i*5+2,none⟩=some (.int .i64 c2)∧W.cell? ⟨gg,i*5+3,none⟩=some (.string c3)∧W.cell? ⟨gg,i*5+4,none⟩=some (.slice o4 n4 c4)∧(kidsOf T)[i]?=some k ∧
   RxAt M k (rxV c0 c1 c2 c3 (.slice o4 n4 c4)):=by
 obtain ⟨_,_,_,_,v,hcs,hv⟩:=h.at_.form
 obtain ⟨rfl,rfl,rfl,rfl,rfl⟩:_∧_∧_∧_∧_:=by
  have h:=congrArg Array.toList hcs
  simp only [rxV,List.cons.injEq,Value.int.injEq,true_and,Value.string.injEq,and_true] at h
  exact ⟨h.1,h.2.1,h.2.2.1,h.2.2.2.1,h.2.2.2.2⟩
 have hln:=h.len
 rcases hv with ⟨h1,_⟩|⟨gg,cap,cu,h1,h2,h3⟩
 ·have h0:ln=0:=by rw [hln,h1];rfl
  omega
 ·obtain ⟨k,hk⟩:∃ k,(kidsOf T)[i]?=some k:=⟨_,List.getElem?_eq_getElem (by omega)⟩
  obtain ⟨cc,q1,q2,q3⟩:=h3.get hk
  rw [Nat.zero_add] at q2
  obtain ⟨c0,c1,c2,c3,v4,hcc,hv4⟩:=q3.form
  obtain ⟨o4,n4,c4,hvs⟩:∃ o n c,v4=.slice o n c:=by
   rcases hv4 with ⟨_,e⟩|⟨g,cap,cur,e,_⟩
   ·exact ⟨_,_,_,e⟩
   ·exact ⟨_,_,_,e⟩
  rw [hvs] at hcc
  subst hcc
  simp only [Value.slice.injEq] at h1
  exact ⟨gg,c0,c1,c2,c3,o4,n4,c4,k,h1.1,(Array.getElem?_eq_some_iff.1 (hW _ _ h2)).1,hW.at h2 (q2 0 (by omega)),hW.at h2 (q2 1 (by omega)),hW.at h2 (q2 2 (by omega)),hW.at h2 (q2 3 (by omega)),hW.at h2 (q2 4 (by omega)),hk,q3⟩
theorem In.below {M:Fz} {w w':World} (h:In M w) (hb:Below w.heap.size w w'):In M w':=fun b o hx=>(hb.block b (Array.getElem?_eq_some_iff.1 (h b o hx)).1).trans (h b o hx)
theorem kids_len (T:Tr):(kidsOf T).length<szT T:=by
 have key:∀ l:List Tr,l.length≤szK l:=by
  intro l
  induction l with
  | nil=>simp [szK]
  | cons a l ih =>
   have:1≤szT a:=by cases a <;> simp [szT]
   simp [szK];omega
 cases T with
 | group n k=>have:=key [k];simp [kidsOf,szT,szK] at this ⊢;omega
 | cat ks=>have:=key ks;simp only [kidsOf,szT];omega
 | alt ks=>have:=key ks;simp only [kidsOf,szT];omega
 | rep n m k=>have:=key [k];simp [kidsOf,szT,szK] at this ⊢;omega
 | _=>simp [kidsOf,szT]
theorem sz_kids (T:Tr):szT T=1+szK (kidsOf T):=by
 cases T with
 | group n k=>simp [kidsOf,szT,szK]
 | cat ks=>simp [kidsOf,szT]
 | alt ks=>simp [kidsOf,szT]
 | rep n m k=>simp [kidsOf,szT,szK]
 | _=>simp [kidsOf,szT,szK]
theorem ng_kids (T:Tr):ngT T=gdT T+ngK (kidsOf T):=by
 cases T with
 | group n k=>simp [kidsOf,ngT,ngK,gdT]
 | cat ks=>simp [kidsOf,ngT,gdT]
 | alt ks=>simp [kidsOf,ngT,gdT]
 | rep n m k=>simp [kidsOf,ngT,ngK,gdT]
 | _=>simp [kidsOf,ngT,ngK,gdT]
theorem by_kids {P:Tr→Prop} (h:∀ T,(∀ (j:Nat) (k:Tr),(kidsOf T)[j]?=some k→P k)→P T):∀ (n:Nat) (T:Tr),szT T≤n→P T
 | 0,T,hn=>by have:=kids_len T;omega
 | n+1,T,hn=>h T fun j k hk=>by
  refine by_kids h n k ?_
  have h1:=(szK_take (kidsOf T) j k hk).1
  have h2:=(szK_le (kidsOf T) (j+1)).1
  have h3:=sz_kids T
  omega
def sizeOf (T:Tr):Prop:=∀ (M:Fz) (w:World) (cs:Array Value) (l:Nat),In M w→RxAt M T cs→szT T≤l→l≤1000000→Calls Tryd.prog 41 #[.agg cs] w fun e w'=>e=.returned (.int .i64 ((szT T:Nat):Int))∧Below w.heap.size w w'
set_option maxRecDepth 20000 in
set_option maxHeartbeats 4000000 in
theorem size_walk (T:Tr) (hkids:∀ (j:Nat) (k:Tr),(kidsOf T)[j]?=some k→sizeOf k):sizeOf T:=by
 intro M w cs l hIn hR hsz hl
 obtain ⟨kind,n9,m9,ss,o,ln,cp,rfl,hN⟩:=nd_of hR
 have hB:=(Below.refl w.heap.size w).alloc (Nat.le_refl _) (.cells (rxV kind n9 m9 ss (.slice o ln cp)) 25)
 have hln:=hN.len
 have hsk:=sz_kids T
 have hkl:=kids_len T
 obtain ⟨S,hS⟩:∃ S:Nat→Nat,S=fun i=>1+szK ((kidsOf T).take i):=⟨_,rfl⟩
 have hS0:S 0=1:=by rw [hS];simp [szK]
 have HK:Hid (∀ i W,i<ln→Below w.heap.size w W→∃ (gg:Nat) (c0 c1 c2:Int) (c3:ByteArray) (o4:Option Addr) (n4 c4 z:Nat),o=some ⟨gg,0,none⟩∧gg<W.heap.size∧W.cell? ⟨gg,i*5,none⟩=some (.int .i64 c0)∧W.cell? ⟨gg,i*5+1,none⟩=some (.int .i64 c1)∧W.cell? ⟨gg,i*5+2,none⟩=some (.int .i64 c2)∧W.cell? ⟨gg,i*5+3,none⟩=some (.string c3)∧W.cell? ⟨gg,i*5+4,none⟩=some (.slice o4 n4 c4)∧(S (i+1)=S i+z∧S (i+1)≤l)∧(∀ W',Below W.heap.size W W'→Calls Tryd.prog 41 #[.agg (rxV c0 c1 c2 c3 (.slice o4 n4 c4))] W' fun e w'=>e=.returned (.int .i64 ((z:Nat):Int))∧Below W.heap.size W w')):=by
  refine hide fun i W hi hb => ?_
  obtain ⟨gg,c0,c1,c2,c3,o4,n4,c4,k,h0,h1,h2,h3,h4,h5,h6,h7,h8⟩:=hN.kid hi (hIn.below hb)
  obtain ⟨e1,e2,e3⟩:=szK_take _ i k h7
  obtain ⟨l1,l2,l3⟩:=szK_le (kidsOf T) (i+1)
  have hS1:S (i+1)=S i+szT k:=by rw [hS];simp only [e1];omega
  have hSb:S (i+1)≤l:=by rw [hS];simp only;omega
  refine ⟨gg,c0,c1,c2,c3,o4,n4,c4,szT k,h0,h1,h2,h3,h4,h5,h6,⟨hS1,hSb⟩,fun W' hb' => ?_⟩
  refine (hkids i k h7 M W' _ l ((hIn.below hb).below hb') h8 (by omega) (by omega)).mono ?_
  rintro e w' ⟨r1,r2⟩
  exact ⟨r1,hb'.trans (r2.mono hb'.size)⟩
 have hb0:(w.alloc (.cells (rxV kind n9 m9 ss (.slice o ln cp)) 25)).heap[w.heap.size]?=some (.cells (rxV kind n9 m9 ss (.slice o ln cp)) 25 (0,0)):=heap_alloc_new w _
 have HX0:=hide (And.intro hB hb0)
 have hSl:S ln=szT T:=by rw [hS];simp only [hln,List.take_length];omega
 have hlnb:ln≤1000000:=by omega
 clear hIn hN hkids hB hb0 hsk hkl hln hS hsz
 generalize szT T=SZ at *
 unfold rxV at HX0 hR ⊢
 have HR9:=hide hR
 clear hR
 go_enter Tryd.func41,Tryd.ntmps41
 (try rw [World.cell?_alloc_same])
 go_wp2_with fail
 generalize w.alloc (.cells #[.int .i64 kind,.int .i64 n9,.int .i64 m9,.string ss,.slice o ln cp] 25)=W0 at HX0 ⊢
 go_loopw [3,4] (fun v3 v4 wr=>∃ i:Nat,i≤ln∧v3=.int .i64 ((S i:Nat):Int)∧v4=.int .i64 (i:Int)∧Hid (Below w.heap.size w wr∧wr.heap[w.heap.size]?=some (.cells #[.int .i64 kind,.int .i64 n9,.int .i64 m9,.string ss,.slice o ln cp] 25 (0,0)))) (fun _ v4 _=>ln-(intOf v4).toNat)
 case atStart=>exact ⟨0,by omega,by rw [hS0] <;> first | rfl | simp,rfl,HX0⟩
 case round =>
  obtain ⟨i,hi,rfl,rfl,HX⟩:=hrel
  clear HX0
  have hx4:wr.cell? ⟨w.heap.size,4,none⟩=some (.slice o ln cp):=by simp [World.cell?,HX.out.2]
  by_cases hil:i<ln
  ·have hti:(i:Int)<(ln:Int):=by omega
   have htw:IntKind.i64.wrap ((i:Int)+1)=((i+1:Nat):Int):=by rw [IntKind.wrap_i64];omega
   obtain ⟨gg,c0,c1,c2,c3,o4,n4,c4,z,rfl,hggl,q0,q1,q2,q3,q4,hst,hcall⟩:=HK.out i wr hil HX.out.1
   obtain ⟨hst,hsb⟩:=hst
   have hwadd:IntKind.i64.wrap (((S i:Nat):Int)+((z:Nat):Int))=((S (i+1):Nat):Int):=by rw [IntKind.wrap_i64];omega
   unfold rxV at hcall
   obtain ⟨s2,hs2⟩:∃ s2,s2=S (i+1):=⟨_,rfl⟩
   rw [←hs2] at hwadd
   have hst:=hide hs2
   clear hs2
   have HC:=hide (fun W' hb'=>(hcall W' hb'))
   have HN:Hid (∀ w5,Below wr.heap.size wr w5→Hid (Below w.heap.size w w5∧w5.heap[w.heap.size]?=some (.cells #[.int .i64 kind,.int .i64 n9,.int .i64 m9,.string ss,.slice (some ⟨gg,0,none⟩) ln cp] 25 (0,0)))):=hide fun w5 h5=>hide ⟨HX.out.1.trans (h5.mono HX.out.1.size),(h5.block _ (Array.getElem?_eq_some_iff.1 HX.out.2).1).trans HX.out.2⟩
   clear hcall HX
   go_wp2_with fail
   refine (HC.out _ (Below.refl _ _)).mono ?_
   rintro e w5 ⟨rfl,h5⟩
   have HX5:=HN.out w5 h5
   clear h5 HC HN q0 q1 q2 q3 q4 hx4
   go_wp2
   go_roundw
   case rel=>exact ⟨i+1,by omega,by rw [hst.out],by simp,HX5⟩
   case measure=>simp [intOf];omega
  ·obtain rfl:i=ln:=by omega
   have hnl:¬ (i:Int)<(i:Int):=by omega
   have HE:=hide HX.out.1
   rw [hSl]
   clear HX HK
   go_wp2
   go_ret
   exact ⟨rfl,HE.out⟩
theorem size_any (T:Tr):sizeOf T:=by_kids (P:=sizeOf) size_walk _ T (Nat.le_refl _)
theorem group_kind {M:Fz} {T:Tr} {kind n9 m9:Int} {ss:ByteArray} {v:Value} (h:RxAt M T (rxV kind n9 m9 ss v)):(kind=6∧gdT T=1)∨(¬ kind=6∧(kind == 6)=false∧gdT T=0):=by
 cases T with
 | group n k =>
  rw [RxAt] at h
  obtain ⟨g,cap,cur,h1,_⟩:=h
  simp only [rxV,Array.mk.injEq,List.cons.injEq,Value.int.injEq,true_and] at h1
  exact .inl ⟨h1.1,rfl⟩
 | cat ks =>
  rw [RxAt] at h
  rcases h with ⟨_,h1⟩|⟨g,cap,cur,h1,_⟩ <;> simp only [rxV,Array.mk.injEq,List.cons.injEq,Value.int.injEq,true_and] at h1 <;> exact .inr ⟨by omega,by rw [h1.1];rfl,rfl⟩
 | alt ks =>
  rw [RxAt] at h
  obtain ⟨g,cap,cur,h1,_⟩:=h
  simp only [rxV,Array.mk.injEq,List.cons.injEq,Value.int.injEq,true_and] at h1
  exact .inr ⟨by omega,by rw [h1.1];rfl,rfl⟩
 | rep n m k =>
  rw [RxAt] at h
  obtain ⟨g,cap,cur,h1,_⟩:=h
  simp only [rxV,Array.mk.injEq,List.cons.injEq,Value.int.injEq,true_and] at h1
  exact .inr ⟨by omega,by rw [h1.1];rfl,rfl⟩
 | _ =>
  rw [RxAt] at h
  simp only [rxV,Array.mk.injEq,List.cons.injEq,Value.int.injEq,true_and] at h
  exact .inr ⟨by omega,by rw [h.1];rfl,rfl⟩
mutual
theorem ng_le:∀ T:Tr,ngT T≤szT T
 | .group n k=>by have:=ng_le k;simp only [ngT,szT];omega
 | .cat ks=>by have:=ngk_le ks;simp only [ngT,szT];omega
 | .alt ks=>by have:=ngk_le ks;simp only [ngT,szT];omega
 | .rep n m k=>by have:=ng_le k;simp only [ngT,szT];omega
 | .char b=>by simp [ngT]
 | .any=>by simp [ngT]
 | .set s=>by simp [ngT]
 | .beg=>by simp [ngT]
 | .fin=>by simp [ngT]
theorem ngk_le:∀ ks:List Tr,ngK ks≤szK ks
 | []=>by simp [ngK]
 | k::ks=>by have:=ng_le k;have:=ngk_le ks;simp only [ngK,szK];omega
end
def ngroupsOf (T:Tr):Prop:=∀ (M:Fz) (w:World) (cs:Array Value) (l:Nat),In M w→RxAt M T cs→szT T≤l→l≤1000000→Calls Tryd.prog 36 #[.agg cs] w fun e w'=>e=.returned (.int .i64 ((ngT T:Nat):Int))∧Below w.heap.size w w'
set_option maxRecDepth 20000 in
set_option maxHeartbeats 4000000 in
theorem ngroups_walk (T:Tr) (hkids:∀ (j:Nat) (k:Tr),(kidsOf T)[j]?=some k→ngroupsOf k):ngroupsOf T:=by
 intro M w cs l hIn hR hsz hl
 obtain ⟨kind,n9,m9,ss,o,ln,cp,rfl,hN⟩:=nd_of hR
 have hB:=(Below.refl w.heap.size w).alloc (Nat.le_refl _) (.cells (rxV kind n9 m9 ss (.slice o ln cp)) 25)
 have hln:=hN.len
 have hsk:=sz_kids T
 have hkl:=kids_len T
 obtain ⟨S,hS⟩:∃ S:Nat→Nat,S=fun i=>gdT T+ngK ((kidsOf T).take i):=⟨_,rfl⟩
 have hS0:S 0=gdT T:=by rw [hS];simp [ngK]
 have HK:Hid (∀ i W,i<ln→Below w.heap.size w W→∃ (gg:Nat) (c0 c1 c2:Int) (c3:ByteArray) (o4:Option Addr) (n4 c4 z:Nat),o=some ⟨gg,0,none⟩∧gg<W.heap.size∧W.cell? ⟨gg,i*5,none⟩=some (.int .i64 c0)∧W.cell? ⟨gg,i*5+1,none⟩=some (.int .i64 c1)∧W.cell? ⟨gg,i*5+2,none⟩=some (.int .i64 c2)∧W.cell? ⟨gg,i*5+3,none⟩=some (.string c3)∧W.cell? ⟨gg,i*5+4,none⟩=some (.slice o4 n4 c4)∧(S (i+1)=S i+z∧S (i+1)≤l)∧(∀ W',Below W.heap.size W W'→Calls Tryd.prog 36 #[.agg (rxV c0 c1 c2 c3 (.slice o4 n4 c4))] W' fun e w'=>e=.returned (.int .i64 ((z:Nat):Int))∧Below W.heap.size W w')):=by
  refine hide fun i W hi hb => ?_
  obtain ⟨gg,c0,c1,c2,c3,o4,n4,c4,k,h0,h1,h2,h3,h4,h5,h6,h7,h8⟩:=hN.kid hi (hIn.below hb)
  obtain ⟨e1,e2,e3⟩:=szK_take _ i k h7
  obtain ⟨l1,l2,l3⟩:=szK_le (kidsOf T) (i+1)
  have hS1:S (i+1)=S i+ngT k:=by rw [hS];simp only [e2];omega
  have hgs:=ng_le T
  have hSb:S (i+1)≤l:=by have h9:=ng_kids T;rw [hS];simp only;omega
  refine ⟨gg,c0,c1,c2,c3,o4,n4,c4,ngT k,h0,h1,h2,h3,h4,h5,h6,⟨hS1,hSb⟩,fun W' hb' => ?_⟩
  refine (hkids i k h7 M W' _ l ((hIn.below hb).below hb') h8 (by omega) (by omega)).mono ?_
  rintro e w' ⟨r1,r2⟩
  exact ⟨r1,hb'.trans (r2.mono hb'.size)⟩
 have hb0:(w.alloc (.cells (rxV kind n9 m9 ss (.slice o ln cp)) 25)).heap[w.heap.size]?=some (.cells (rxV kind n9 m9 ss (.slice o ln cp)) 25 (0,0)):=heap_alloc_new w _
 have HX0:=hide (And.intro hB hb0)
 have hSl:S ln=ngT T:=by rw [hS];simp only [hln,List.take_length];have h9:=ng_kids T;omega
 have hkd:=group_kind hN.at_
 have hlnb:ln≤1000000:=by omega
 clear hIn hN hkids hB hb0 hsk hkl hln hS hsz
 generalize ngT T=SZ at *
 obtain ⟨gd,hgd⟩:∃ gd,gd=gdT T:=⟨_,rfl⟩
 rw [←hgd] at hS0 hkd
 unfold rxV at HX0 hR ⊢
 have HR9:=hide hR
 clear hR
 clear hgd
 rcases hkd with ⟨rfl,rfl⟩|⟨hk6,hk6b,rfl⟩
 ·go_enter Tryd.func36,Tryd.ntmps36
  (try rw [World.cell?_alloc_same])
  go_wp2_with fail
  generalize w.alloc (.cells #[.int .i64 6,.int .i64 n9,.int .i64 m9,.string ss,.slice o ln cp] 25)=W0 at HX0 ⊢
  go_loopw [3,4] (fun v3 v4 wr=>∃ i:Nat,i≤ln∧v3=.int .i64 ((S i:Nat):Int)∧v4=.int .i64 (i:Int)∧Hid (Below w.heap.size w wr∧wr.heap[w.heap.size]?=some (.cells #[.int .i64 6,.int .i64 n9,.int .i64 m9,.string ss,.slice o ln cp] 25 (0,0)))) (fun _ v4 _=>ln-(intOf v4).toNat)
  case atStart=>exact ⟨0,by omega,by rw [hS0] <;> first | rfl | simp,rfl,HX0⟩
  case round =>
   obtain ⟨i,hi,rfl,rfl,HX⟩:=hrel
   clear HX0
   have hx4:wr.cell? ⟨w.heap.size,4,none⟩=some (.slice o ln cp):=by simp [World.cell?,HX.out.2]
   by_cases hil:i<ln
   ·have hti:(i:Int)<(ln:Int):=by omega
    have htw:IntKind.i64.wrap ((i:Int)+1)=((i+1:Nat):Int):=by rw [IntKind.wrap_i64];omega
    obtain ⟨gg,c0,c1,c2,c3,o4,n4,c4,z,rfl,hggl,q0,q1,q2,q3,q4,hst,hcall⟩:=HK.out i wr hil HX.out.1
    obtain ⟨hst,hsb⟩:=hst
    have hwadd:IntKind.i64.wrap (((S i:Nat):Int)+((z:Nat):Int))=((S (i+1):Nat):Int):=by rw [IntKind.wrap_i64];omega
    unfold rxV at hcall
    obtain ⟨s2,hs2⟩:∃ s2,s2=S (i+1):=⟨_,rfl⟩
    rw [←hs2] at hwadd
    have hst:=hide hs2
    clear hs2
    have HC:=hide (fun W' hb'=>(hcall W' hb'))
    have HN:Hid (∀ w5,Below wr.heap.size wr w5→Hid (Below w.heap.size w w5∧w5.heap[w.heap.size]?=some (.cells #[.int .i64 6,.int .i64 n9,.int .i64 m9,.string ss,.slice (some ⟨gg,0,none⟩) ln cp] 25 (0,0)))):=hide fun w5 h5=>hide ⟨HX.out.1.trans (h5.mono HX.out.1.size),(h5.block _ (Array.getElem?_eq_some_iff.1 HX.out.2).1).trans HX.out.2⟩
    clear hcall HX
    go_wp2_with fail
    refine (HC.out _ (Below.refl _ _)).mono ?_
    rintro e w5 ⟨rfl,h5⟩
    have HX5:=HN.out w5 h5
    clear h5 HC HN q0 q1 q2 q3 q4 hx4
    go_wp2
    go_roundw
    case rel=>exact ⟨i+1,by omega,by rw [hst.out],by simp,HX5⟩
    case measure=>simp [intOf];omega
   ·obtain rfl:i=ln:=by omega
    have hnl:¬ (i:Int)<(i:Int):=by omega
    have HE:=hide HX.out.1
    rw [hSl]
    clear HX HK
    go_wp2
    go_ret
    exact ⟨rfl,HE.out⟩
 ·go_enter Tryd.func36,Tryd.ntmps36
  (try rw [World.cell?_alloc_same])
  go_wp2_with fail
  generalize w.alloc (.cells #[.int .i64 kind,.int .i64 n9,.int .i64 m9,.string ss,.slice o ln cp] 25)=W0 at HX0 ⊢
  go_loopw [3,4] (fun v3 v4 wr=>∃ i:Nat,i≤ln∧v3=.int .i64 ((S i:Nat):Int)∧v4=.int .i64 (i:Int)∧Hid (Below w.heap.size w wr∧wr.heap[w.heap.size]?=some (.cells #[.int .i64 kind,.int .i64 n9,.int .i64 m9,.string ss,.slice o ln cp] 25 (0,0)))) (fun _ v4 _=>ln-(intOf v4).toNat)
  case atStart=>exact ⟨0,by omega,by rw [hS0] <;> first | rfl | simp,rfl,HX0⟩
  case round =>
   obtain ⟨i,hi,rfl,rfl,HX⟩:=hrel
   clear HX0
   have hx4:wr.cell? ⟨w.heap.size,4,none⟩=some (.slice o ln cp):=by simp [World.cell?,HX.out.2]
   by_cases hil:i<ln
   ·have hti:(i:Int)<(ln:Int):=by omega
    have htw:IntKind.i64.wrap ((i:Int)+1)=((i+1:Nat):Int):=by rw [IntKind.wrap_i64];omega
    obtain ⟨gg,c0,c1,c2,c3,o4,n4,c4,z,rfl,hggl,q0,q1,q2,q3,q4,hst,hcall⟩:=HK.out i wr hil HX.out.1
    obtain ⟨hst,hsb⟩:=hst
    have hwadd:IntKind.i64.wrap (((S i:Nat):Int)+((z:Nat):Int))=((S (i+1):Nat):Int):=by rw [IntKind.wrap_i64];omega
    unfold rxV at hcall
    obtain ⟨s2,hs2⟩:∃ s2,s2=S (i+1):=⟨_,rfl⟩
    rw [←hs2] at hwadd
    have hst:=hide hs2
    clear hs2
    have HC:=hide (fun W' hb'=>(hcall W' hb'))
    have HN:Hid (∀ w5,Below wr.heap.size wr w5→Hid (Below w.heap.size w w5∧w5.heap[w.heap.size]?=some (.cells #[.int .i64 kind,.int .i64 n9,.int .i64 m9,.string ss,.slice (some ⟨gg,0,none⟩) ln cp] 25 (0,0)))):=hide fun w5 h5=>hide ⟨HX.out.1.trans (h5.mono HX.out.1.size),(h5.block _ (Array.getElem?_eq_some_iff.1 HX.out.2).1).trans HX.out.2⟩
    clear hcall HX
    go_wp2_with fail
    refine (HC.out _ (Below.refl _ _)).mono ?_
    rintro e w5 ⟨rfl,h5⟩
    have HX5:=HN.out w5 h5
    clear h5 HC HN q0 q1 q2 q3 q4 hx4
    go_wp2
    go_roundw
    case rel=>exact ⟨i+1,by omega,by rw [hst.out],by simp,HX5⟩
    case measure=>simp [intOf];omega
   ·obtain rfl:i=ln:=by omega
    have hnl:¬ (i:Int)<(i:Int):=by omega
    have HE:=hide HX.out.1
    rw [hSl]
    clear HX HK
    go_wp2
    go_ret
    exact ⟨rfl,HE.out⟩
theorem ngroups_any (T:Tr):ngroupsOf T:=by_kids (P:=ngroupsOf) ngroups_walk _ T (Nat.le_refl _)
def leftOf (T:Tr):Prop:=∀ (M:Fz) (w:World) (cs:Array Value) (l:Nat),In M w→RxAt M T cs→szT T≤l→l≤1000000→Calls Tryd.prog 53 #[.agg cs,.int .i64 (l:Int)] w fun e w'=>e=.returned (.int .i64 ((l-szT T:Nat):Int))∧Below w.heap.size w w'
set_option maxRecDepth 20000 in
set_option maxHeartbeats 4000000 in
theorem left_walk (T:Tr) (hkids:∀ (j:Nat) (k:Tr),(kidsOf T)[j]?=some k→leftOf k):leftOf T:=by
 intro M w cs l hIn hR hsz hl
 obtain ⟨kind,n9,m9,ss,o,ln,cp,rfl,hN⟩:=nd_of hR
 have hB:=(Below.refl w.heap.size w).alloc (Nat.le_refl _) (.cells (rxV kind n9 m9 ss (.slice o ln cp)) 25)
 have hln:=hN.len
 have hsk:=sz_kids T
 have hkl:=kids_len T
 obtain ⟨S,hS⟩:∃ S:Nat→Nat,S=fun i=>l-1-szK ((kidsOf T).take i):=⟨_,rfl⟩
 have hS0:S 0=l-1:=by rw [hS];simp [szK]
 have HK:Hid (∀ i W,i<ln→Below w.heap.size w W→∃ (gg:Nat) (c0 c1 c2:Int) (c3:ByteArray) (o4:Option Addr) (n4 c4 z:Nat),o=some ⟨gg,0,none⟩∧gg<W.heap.size∧W.cell? ⟨gg,i*5,none⟩=some (.int .i64 c0)∧W.cell? ⟨gg,i*5+1,none⟩=some (.int .i64 c1)∧W.cell? ⟨gg,i*5+2,none⟩=some (.int .i64 c2)∧W.cell? ⟨gg,i*5+3,none⟩=some (.string c3)∧W.cell? ⟨gg,i*5+4,none⟩=some (.slice o4 n4 c4)∧(S (i+1)=S i-z∧S i≤l)∧(∀ W',Below W.heap.size W W'→Calls Tryd.prog 53 #[.agg (rxV c0 c1 c2 c3 (.slice o4 n4 c4)),.int .i64 (S i:Nat)] W' fun e w'=>e=.returned (.int .i64 ((S i-z:Nat):Int))∧Below W.heap.size W w')):=by
  refine hide fun i W hi hb => ?_
  obtain ⟨gg,c0,c1,c2,c3,o4,n4,c4,k,h0,h1,h2,h3,h4,h5,h6,h7,h8⟩:=hN.kid hi (hIn.below hb)
  obtain ⟨e1,e2,e3⟩:=szK_take _ i k h7
  obtain ⟨l1,l2,l3⟩:=szK_le (kidsOf T) (i+1)
  have hS1:S (i+1)=S i-szT k:=by rw [hS];simp only [e1];omega
  have hSb:szT k≤S i:=by rw [hS];simp only;omega
  have hSc:S i≤l:=by rw [hS];simp only;omega
  refine ⟨gg,c0,c1,c2,c3,o4,n4,c4,szT k,h0,h1,h2,h3,h4,h5,h6,⟨hS1,hSc⟩,fun W' hb' => ?_⟩
  refine (hkids i k h7 M W' _ (S i) ((hIn.below hb).below hb') h8 (by omega) (by omega)).mono ?_
  rintro e w' ⟨r1,r2⟩
  exact ⟨r1,hb'.trans (r2.mono hb'.size)⟩
 have hb0:(w.alloc (.cells (rxV kind n9 m9 ss (.slice o ln cp)) 25)).heap[w.heap.size]?=some (.cells (rxV kind n9 m9 ss (.slice o ln cp)) 25 (0,0)):=heap_alloc_new w _
 have HX0:=hide (And.intro hB hb0)
 have hSl:S ln=l-szT T:=by rw [hS];simp only [hln,List.take_length];omega
 have hlw:IntKind.i64.wrap ((l:Int)-1)=((l-1:Nat):Int):=by rw [IntKind.wrap_i64];omega
 have hlnb:ln≤1000000:=by omega
 clear hIn hN hkids hB hb0 hsk hkl hln hS hsz
 generalize szT T=SZ at *
 unfold rxV at HX0 hR ⊢
 have HR9:=hide hR
 clear hR
 obtain ⟨l1,hl1⟩:∃ l1,l1=l-1:=⟨_,rfl⟩
 rw [←hl1] at hlw hS0
 clear hl1
 go_enter Tryd.func53,Tryd.ntmps53
 (try rw [World.cell?_alloc_same])
 go_wp2_with fail
 generalize w.alloc (.cells #[.int .i64 kind,.int .i64 n9,.int .i64 m9,.string ss,.slice o ln cp] 25)=W0 at HX0 ⊢
 go_loopw [1,5] (fun v1 v5 wr=>∃ i:Nat,i≤ln∧v1=.int .i64 ((S i:Nat):Int)∧v5=.int .i64 (i:Int)∧Hid (Below w.heap.size w wr∧wr.heap[w.heap.size]?=some (.cells #[.int .i64 kind,.int .i64 n9,.int .i64 m9,.string ss,.slice o ln cp] 25 (0,0)))) (fun _ v5 _=>ln-(intOf v5).toNat)
 case atStart=>exact ⟨0,by omega,by rw [hS0] <;> first | rfl | simp,rfl,HX0⟩
 case round =>
  obtain ⟨i,hi,rfl,rfl,HX⟩:=hrel
  clear HX0
  have hx4:wr.cell? ⟨w.heap.size,4,none⟩=some (.slice o ln cp):=by simp [World.cell?,HX.out.2]
  by_cases hil:i<ln
  ·have hti:(i:Int)<(ln:Int):=by omega
   have htw:IntKind.i64.wrap ((i:Int)+1)=((i+1:Nat):Int):=by rw [IntKind.wrap_i64];omega
   obtain ⟨gg,c0,c1,c2,c3,o4,n4,c4,z,rfl,hggl,q0,q1,q2,q3,q4,hst,hcall⟩:=HK.out i wr hil HX.out.1
   obtain ⟨hst,hsb⟩:=hst
   unfold rxV at hcall
   rw [←hst] at hcall
   obtain ⟨s2,hs2⟩:∃ s2,s2=S (i+1):=⟨_,rfl⟩
   rw [←hs2] at hcall
   have hst:=hide hs2
   clear hs2
   have hs0:(0:Int)≤((S i:Nat):Int):=by omega
   have HC:=hide (fun W' hb'=>(hcall W' hb'))
   have HN:Hid (∀ w5,Below wr.heap.size wr w5→Hid (Below w.heap.size w w5∧w5.heap[w.heap.size]?=some (.cells #[.int .i64 kind,.int .i64 n9,.int .i64 m9,.string ss,.slice (some ⟨gg,0,none⟩) ln cp] 25 (0,0)))):=hide fun w5 h5=>hide ⟨HX.out.1.trans (h5.mono HX.out.1.size),(h5.block _ (Array.getElem?_eq_some_iff.1 HX.out.2).1).trans HX.out.2⟩
   clear hcall HX
   go_wp2_with fail
   refine (HC.out _ (Below.refl _ _)).mono ?_
   rintro e w5 ⟨rfl,h5⟩
   have HX5:=HN.out w5 h5
   clear h5 HC HN q0 q1 q2 q3 q4 hx4
   go_wp2
   go_roundw
   case rel=>exact ⟨i+1,by omega,by rw [hst.out],by simp,HX5⟩
   case measure=>simp [intOf];omega
  ·obtain rfl:i=ln:=by omega
   have hnl:¬ (i:Int)<(i:Int):=by omega
   have HE:=hide HX.out.1
   rw [hSl]
   clear HX HK
   go_wp2
   go_ret
   exact ⟨rfl,HE.out⟩
theorem left_any (T:Tr):leftOf T:=by_kids (P:=leftOf) left_walk _ T (Nat.le_refl _)
end Go.Proofs.YtfhimmnoipfiaaaDoor.eng
namespace Go.Proofs.YtfhimmnoipfiaaaDoor.eng
open bytes places sets tz rex
structure Pq where
 ts:List Int
 at_:Nat
 ere:Bool
 code:Int
 place:Int
 groups:Nat
 open_:Nat
def PB (p:Pq) (b:Nat) (W:World):Prop:=W.heap[b]?=some (.cells #[.string (strOfNums p.ts),.int .i64 (p.at_:Int),.bool p.ere,.int .i64 p.code,.int .i64 p.place,.int .i64 (p.groups:Int),.int .i64 (p.open_:Int)] 84 (0,0))
def Pq.failed (p:Pq) (c q:Int):Pq:=if p.code=0 then { p with code:=c,place:=q } else p
section
variable {p:Pq} {b:Nat} {W W':World}
theorem PB.lt (h:PB p b W):b<W.heap.size:=(Array.getElem?_eq_some_iff.1 h).1
theorem PB.keep (h:PB p b W) (e:W'.heap[b]?=W.heap[b]?):PB p b W':=e.trans h
theorem PB.cells (h:PB p b W):W.cell? ⟨b,0,none⟩=some (.string (strOfNums p.ts))∧W.cell? ⟨b,1,none⟩=some (.int .i64 (p.at_:Int))∧W.cell? ⟨b,2,none⟩=some (.bool p.ere)∧W.cell? ⟨b,3,none⟩=some (.int .i64 p.code)∧W.cell? ⟨b,4,none⟩=some (.int .i64 p.place)∧W.cell? ⟨b,5,none⟩=some (.int .i64 (p.groups:Int))∧W.cell? ⟨b,6,none⟩=some (.int .i64 (p.open_:Int)):=by
 unfold PB at h
 refine ⟨?_,?_,?_,?_,?_,?_,?_⟩ <;> simp [World.cell?,h]
theorem PB.fz (h:PB p b W) (i:Nat):W.frozen? ⟨b,i,none⟩=false:=by unfold PB at h;simp [World.frozen?,h]
end
set_option maxHeartbeats 4000000 in
theorem fail_any (p:Pq) (b:Nat) (W:World) (h:PB p b W) (c q:Int) :
  Calls Tryd.prog 40 #[.pointer (some ⟨b,0,none⟩),.int .i64 c,.int .i64 q] W fun e w'=>e=.returned (.tuple #[])∧PB (p.failed c q) b w'∧W.grownBy w' (some b):=by
 obtain ⟨c0,c1,c2,c3,c4,c5,c6⟩:=h.cells
 have f3:=h.fz 3
 have f4:=h.fz 4
 by_cases h0:p.code=0
 ·rw [h0] at c3
  have hs:PB (p.failed c q) b ((W.setCell ⟨b,3,none⟩ (.int .i64 c)).setCell ⟨b,4,none⟩ (.int .i64 q)):=by
   have e1:=heap_setCell_same W b 3 _ 84 (.int .i64 c) h
   have e2:=heap_setCell_same _ b 4 _ 84 (.int .i64 q) e1
   unfold PB Pq.failed
   rw [if_pos h0]
   simpa using e2
  have hg:W.grownBy ((W.setCell ⟨b,3,none⟩ (.int .i64 c)).setCell ⟨b,4,none⟩ (.int .i64 q)) (some b):=⟨rfl,rfl,rfl,by simp,fun k hk hn=>(heap_setCell_other _ ⟨b,4,none⟩ k _ (fun e=>hn (by rw [e]))).trans (heap_setCell_other _ ⟨b,3,none⟩ k _ (fun e=>hn (by rw [e])))⟩
  have HE:=hide (And.intro hs hg)
  clear hs hg h h0 c0 c1 c2 c5 c6
  go_enter Tryd.func40,Tryd.ntmps40
  go_wp2
  go_end0
  exact ⟨rfl,HE.out⟩
 ·have h1:(p.code == 0)=false:=by simpa using h0
  have HE:Hid (PB (p.failed c q) b W):=hide (by unfold Pq.failed;rw [if_neg h0];exact h)
  clear h c0 c1 c2 c5 c6
  go_enter Tryd.func40,Tryd.ntmps40
  go_wp2
  go_end0
  exact ⟨rfl,HE.out,grown_of_below (Below.refl _ _)⟩
set_option maxHeartbeats 4000000 in
theorem digit_any (W:World) (c:Int):Calls Tryd.prog 106 #[.int .u8 c] W fun e w'=>e=.returned (.bool (decide (48≤c) && decide (c≤57)))∧w'=W:=by
 by_cases h:48≤c
 ·go_enter Tryd.func106,Tryd.ntmps106
  go_wp2
  go_ret
  exact ⟨by simp [h],rfl⟩
 ·go_enter Tryd.func106,Tryd.ntmps106
  go_wp2
  go_ret
  exact ⟨by simp;omega,rfl⟩
end Go.Proofs.YtfhimmnoipfiaaaDoor.eng
namespace Go.Proofs.YtfhimmnoipfiaaaDoor.eng
open bytes places sets tz rex
set_option maxHeartbeats 4000000 in
theorem node_any (W:World) (k n m:Int) (o:Option Addr) (ln cp:Nat) :
  Calls Tryd.prog 44 #[.int .i64 k,.int .i64 n,.int .i64 m,.slice o ln cp] W fun e w'=>e=.returned (.agg (rxV k n m mt0 (.slice o ln cp)))∧Below W.heap.size W w':=by
 obtain ⟨W1,hW1⟩:∃ W1,W.alloc (.cells #[.int .i64 k,.int .i64 n,.int .i64 m,.string ⟨#[]⟩,.slice o ln cp] 25)=W1:=⟨_,rfl⟩
 have hb:W1.heap[W.heap.size]?=some (.cells #[.int .i64 k,.int .i64 n,.int .i64 m,.string ⟨#[]⟩,.slice o ln cp] 25 (0,0)):=by rw [←hW1];exact heap_alloc_new W _
 obtain ⟨p0,p1,p2,p3,p4⟩:W1.cell? ⟨W.heap.size,0,none⟩=some (.int .i64 k)∧W1.cell? ⟨W.heap.size,1,none⟩=some (.int .i64 n)∧W1.cell? ⟨W.heap.size,2,none⟩=some (.int .i64 m)∧W1.cell? ⟨W.heap.size,3,none⟩=some (.string ⟨#[]⟩)∧W1.cell? ⟨W.heap.size,4,none⟩=some (.slice o ln cp):=by
  refine ⟨?_,?_,?_,?_,?_⟩ <;> simp [World.cell?,hb]
 have HE:Hid (Below W.heap.size W W1):=hide (by rw [←hW1];exact (Below.refl _ _).alloc (Nat.le_refl _) _)
 clear hb
 go_enter Tryd.func44,Tryd.ntmps44
 go_wp2
 (try rw [hW1])
 refine bodyPost_ret (v:=.agg #[.int .i64 k,.int .i64 n,.int .i64 m,.string ⟨#[]⟩,.slice o ln cp]) (by simp [results,Tryd.results44,go_sem,p0,p1,p2,p3,p4]) rfl ?_
 exact ⟨rfl,HE.out⟩
set_option maxHeartbeats 4000000 in
theorem char_any (W:World) (c:Int) (h0:0≤c) (h1:c≤255) :
  Calls Tryd.prog 28 #[.int .u8 c] W fun e w'=>e=.returned (.agg (rxV 1 c 0 mt0 nilV))∧Below W.heap.size W w':=by
 have hcv:IntKind.i64.wrap c=c:=by rw [IntKind.wrap_i64];omega
 obtain ⟨W1,hW1⟩:∃ W1,W.alloc (.cells #[.int .i64 0,.int .i64 0,.int .i64 0,.string ⟨#[]⟩,.slice none 0 0] 25)=W1:=⟨_,rfl⟩
 have hb:W1.heap[W.heap.size]?=some (.cells #[.int .i64 0,.int .i64 0,.int .i64 0,.string ⟨#[]⟩,.slice none 0 0] 25 (0,0)):=by rw [←hW1];exact heap_alloc_new W _
 have hB:Below W.heap.size W W1:=by rw [←hW1];exact (Below.refl _ _).alloc (Nat.le_refl _) _
 have hz:W1.heap.size=W.heap.size+1:=by rw [←hW1];simp
 have HC:=hide (node_any W1 1 c 0 none 0 0)
 have HX:Hid (∀ w2,Below W1.heap.size W1 w2→w2.heap[W.heap.size]?=some (.cells #[.int .i64 0,.int .i64 0,.int .i64 0,.string ⟨#[]⟩,.slice none 0 0] 25 (0,0))∧∀ v0 v1 v2 v3 v4,Below W.heap.size W (((((w2.setCell ⟨W.heap.size,0,none⟩ v0).setCell ⟨W.heap.size,1,none⟩ v1).setCell ⟨W.heap.size,2,none⟩ v2).setCell ⟨W.heap.size,3,none⟩ v3).setCell ⟨W.heap.size,4,none⟩ v4)∧(((((w2.setCell ⟨W.heap.size,0,none⟩ v0).setCell ⟨W.heap.size,1,none⟩ v1).setCell ⟨W.heap.size,2,none⟩ v2).setCell ⟨W.heap.size,3,none⟩ v3).setCell ⟨W.heap.size,4,none⟩ v4).heap[W.heap.size]?=some (.cells #[v0,v1,v2,v3,v4] 25 (0,0))):=by
  refine hide fun w2 h2 => ?_
  have k:=(h2.block W.heap.size (by omega)).trans hb
  have kb:=hB.trans (h2.mono hB.size)
  refine ⟨k,fun v0 v1 v2 v3 v4=>⟨((((kb.setCell (p:=⟨W.heap.size,0,none⟩) (Nat.le_refl _) v0).setCell (p:=⟨W.heap.size,1,none⟩) (Nat.le_refl _) v1).setCell (p:=⟨W.heap.size,2,none⟩) (Nat.le_refl _) v2).setCell (p:=⟨W.heap.size,3,none⟩) (Nat.le_refl _) v3).setCell (p:=⟨W.heap.size,4,none⟩) (Nat.le_refl _) v4,?_⟩⟩
  have e0:=heap_setCell_same w2 W.heap.size 0 _ 25 v0 k
  have e1:=heap_setCell_same _ W.heap.size 1 _ 25 v1 e0
  have e2:=heap_setCell_same _ W.heap.size 2 _ 25 v2 e1
  have e3:=heap_setCell_same _ W.heap.size 3 _ 25 v3 e2
  have e4:=heap_setCell_same _ W.heap.size 4 _ 25 v4 e3
  simpa using e4
 unfold rxV at HC ⊢
 clear hb hB hz
 go_enter Tryd.func28,Tryd.ntmps28
 go_wp2_with fail
 (try rw [hW1])
 clear hW1
 refine HC.out.mono ?_
 rintro e w2 ⟨rfl,h2⟩
 obtain ⟨k,hs⟩:=HX.out w2 h2
 obtain ⟨s1,s2⟩:=hs (.int .i64 1) (.int .i64 c) (.int .i64 0) (.string mt0) (.slice none 0 0)
 have y0:w2.cell? ⟨W.heap.size,0,none⟩=some (.int .i64 0):=by simp [World.cell?,k]
 have y1:w2.cell? ⟨W.heap.size,1,none⟩=some (.int .i64 0):=by simp [World.cell?,k]
 have y2:w2.cell? ⟨W.heap.size,2,none⟩=some (.int .i64 0):=by simp [World.cell?,k]
 have y3:w2.cell? ⟨W.heap.size,3,none⟩=some (.string ⟨#[]⟩):=by simp [World.cell?,k]
 have y4:w2.cell? ⟨W.heap.size,4,none⟩=some (.slice none 0 0):=by simp [World.cell?,k]
 have z0:w2.frozen? ⟨W.heap.size,0,none⟩=false:=by simp [World.frozen?,k]
 have z1:w2.frozen? ⟨W.heap.size,1,none⟩=false:=by simp [World.frozen?,k]
 have z2:w2.frozen? ⟨W.heap.size,2,none⟩=false:=by simp [World.frozen?,k]
 have z3:w2.frozen? ⟨W.heap.size,3,none⟩=false:=by simp [World.frozen?,k]
 have z4:w2.frozen? ⟨W.heap.size,4,none⟩=false:=by simp [World.frozen?,k]
 obtain ⟨W9,hW9⟩:∃ W9,((((w2.setCell ⟨W.heap.size,0,none⟩ (.int .i64 1)).setCell ⟨W.heap.size,1,none⟩ (.int .i64 c)).setCell ⟨W.heap.size,2,none⟩ (.int .i64 0)).setCell ⟨W.heap.size,3,none⟩ (.string mt0)).setCell ⟨W.heap.size,4,none⟩ (.slice none 0 0)=W9:=⟨_,rfl⟩
 rw [hW9] at s1 s2
 obtain ⟨x0,x1,x2,x3,x4⟩:W9.cell? ⟨W.heap.size,0,none⟩=some (.int .i64 1)∧W9.cell? ⟨W.heap.size,1,none⟩=some (.int .i64 c)∧W9.cell? ⟨W.heap.size,2,none⟩=some (.int .i64 0)∧W9.cell? ⟨W.heap.size,3,none⟩=some (.string mt0)∧W9.cell? ⟨W.heap.size,4,none⟩=some (.slice none 0 0):=by
  refine ⟨?_,?_,?_,?_,?_⟩ <;> simp [World.cell?,s2]
 have HE:=hide s1
 clear k hs s1 s2 HC HX h2
 go_wp2
 (try rw [hW9])
 refine bodyPost_ret (v:=.agg #[.int .i64 1,.int .i64 c,.int .i64 0,.string mt0,.slice none 0 0]) (by simp [results,Tryd.results28,go_sem,x0,x1,x2,x3,x4]) rfl ?_
 exact ⟨rfl,HE.out⟩
end Go.Proofs.YtfhimmnoipfiaaaDoor.eng
namespace Go.Proofs.YtfhimmnoipfiaaaDoor.eng
open bytes places sets tz rex
def Pq.is (p:Pq) (S:ByteArray):Bool:=decide (p.code=0) && (decide (p.at_+S.size≤p.ts.length) && ((strOfNums p.ts).extract p.at_ (p.at_+S.size)).toList == S.toList)
set_option maxHeartbeats 4000000 in
theorem is_any (p:Pq) (b:Nat) (W:World) (h:PB p b W) (hL:p.ts.length≤1000) (ha:p.at_≤2000) (S:ByteArray) (hS:S.size≤10) :
  Calls Tryd.prog 61 #[.pointer (some ⟨b,0,none⟩),.string S] W fun e w'=>e=.returned (.bool (p.is S))∧∃ n,w'=W.drewN n:=by
 obtain ⟨c0,c1,c2,c3,c4,c5,c6⟩:=h.cells
 have hT:=strOfNums_size p.ts
 obtain ⟨R,hR⟩:∃ R,R=p.is S:=⟨_,rfl⟩
 rw [←hR]
 unfold Pq.is at hR
 obtain ⟨T,eT⟩:∃ T,T=strOfNums p.ts:=⟨_,rfl⟩
 rw [←eT] at c0 hT hR
 obtain ⟨k,ek⟩:∃ k,k=p.at_:=⟨_,rfl⟩
 rw [←ek] at c1 hR ha
 rw [←hT] at hR hL
 clear h c2 c4 c5 c6 eT ek hT
 have hw:IntKind.i64.wrap ((k:Int)+(S.size:Int))=(k:Int)+(S.size:Int):=by rw [IntKind.wrap_i64];omega
 by_cases h0:p.code=0
 ·rw [h0] at c3
  by_cases hle:k+S.size≤T.size
  ·obtain ⟨X,eX⟩:∃ X,T.extract k (k+S.size)=X:=⟨_,rfl⟩
   rw [eX,h0] at hR
   have i1:(k:Int)+(S.size:Int)≤(T.size:Int):=by omega
   have i2:(k:Int)≤(k:Int)+(S.size:Int):=by omega
   have i3:decide ((k:Int)+(S.size:Int)≤(T.size:Int))=true:=decide_eq_true i1
   have eY:T.extract k ((k:Int)+(S.size:Int)).toNat=X:=by rw [←eX];congr 1
   have hR2:R=(X.toList == S.toList):=by rw [hR];simp [hle]
   have HR:=hide hR2
   clear hR hR2
   go_enter Tryd.func61,Tryd.ntmps61
   go_wp2
   go_quiet (fail)
   go_wp2
   go_ret
   exact ⟨by rw [HR.out];rfl,_,rfl⟩
  ·have i3:decide ((k:Int)+(S.size:Int)≤(T.size:Int))=false:=decide_eq_false (by omega)
   have hR2:R=false:=by rw [hR];simp;omega
   have HR:=hide hR2
   clear hR hR2
   go_enter Tryd.func61,Tryd.ntmps61
   go_wp2
   go_quiet (fail)
   go_wp2
   go_ret
   exact ⟨by rw [HR.out];rfl,_,rfl⟩
 ·have h1:(p.code == 0)=false:=by simpa using h0
  have h2:decide (p.code=0)=false:=by simpa using h0
  have hR2:R=false:=by rw [hR,h2];rfl
  have HR:=hide hR2
  clear hR hR2
  go_enter Tryd.func61,Tryd.ntmps61
  go_wp2
  go_quiet (fail)
  go_wp2
  go_ret
  exact ⟨by rw [HR.out];rfl,_,rfl⟩
end Go.Proofs.YtfhimmnoipfiaaaDoor.eng
namespace Go.Proofs.YtfhimmnoipfiaaaDoor.eng
open bytes places sets tz rex
def wcK:List Tr→Nat
 | []=>0
 | k::ks=>min (wtT k) 301+wcK ks
theorem wcK_take:∀ (ks:List Tr) (i:Nat) (k:Tr),ks[i]?=some k→wcK (ks.take (i+1))=wcK (ks.take i)+min (wtT k) 301
 | [],i,k,h=>by simp at h
 | a::ks,0,k,h=>by
  simp only [List.getElem?_cons_zero,Option.some.injEq] at h
  subst h
  simp [wcK]
 | a::ks,i+1,k,h=>by
  have h1:=wcK_take ks i k (by simpa using h)
  simp only [List.take_succ_cons,wcK,h1]
  omega
theorem wcK_le:∀ ks:List Tr,wcK ks≤301*ks.length
 | []=>by simp [wcK]
 | k::ks=>by have:=wcK_le ks;simp only [wcK,List.length_cons];omega
theorem wcK_eq:∀ ks:List Tr,wcK ks=wtK ks∨(301≤wcK ks∧301≤wtK ks)
 | []=>by simp [wcK,wtK]
 | k::ks=>by have:=wcK_eq ks;simp only [wcK,wtK];omega
theorem wc_fin (ks:List Tr):min (1+wcK ks) 301=min (1+wtK ks) 301:=by
 have:=wcK_eq ks
 omega
theorem wc_rep (ks:List Tr) (f:Nat):min ((1+wcK ks)*(f+1)) 301=min ((1+wtK ks)*(f+1)) 301:=by
 rcases wcK_eq ks with h | ⟨h1,h2⟩
 ·rw [h]
 ·have h3:301≤(1+wcK ks)*(f+1):=Nat.le_trans (by omega) (Nat.le_mul_of_pos_right _ (by omega))
  have h4:301≤(1+wtK ks)*(f+1):=Nat.le_trans (by omega) (Nat.le_mul_of_pos_right _ (by omega))
  omega
def sweightOf (T:Tr):Prop:=∀ (M:Fz) (w:World) (cs:Array Value) (l:Nat),(∃ N,OkT N T)→In M w→RxAt M T cs→szT T≤l→l≤1000000→Calls Tryd.prog 42 #[.agg cs] w fun e w'=>e=.returned (.int .i64 ((min (wtT T) 301:Nat):Int))∧Below w.heap.size w w'
set_option maxRecDepth 20000 in
set_option maxHeartbeats 4000000 in
theorem sweight_walk (T:Tr) (hkids:∀ (j:Nat) (k:Tr),(kidsOf T)[j]?=some k→sweightOf k):sweightOf T:=by
 intro M w cs l hok hIn hR hsz hl
 obtain ⟨kind,n9,m9,ss,o,ln,cp,rfl,hN⟩:=nd_of hR
 have hB:=(Below.refl w.heap.size w).alloc (Nat.le_refl _) (.cells (rxV kind n9 m9 ss (.slice o ln cp)) 25)
 have hln:=hN.len
 have hsk:=sz_kids T
 have hkl:=kids_len T
 obtain ⟨S,hS⟩:∃ S:Nat→Nat,S=fun i=>1+wcK ((kidsOf T).take i):=⟨_,rfl⟩
 have hS0:S 0=1:=by rw [hS];simp [wcK]
 have HK:Hid (∀ i W,i<ln→Below w.heap.size w W→∃ (gg:Nat) (c0 c1 c2:Int) (c3:ByteArray) (o4:Option Addr) (n4 c4 z:Nat),o=some ⟨gg,0,none⟩∧gg<W.heap.size∧W.cell? ⟨gg,i*5,none⟩=some (.int .i64 c0)∧W.cell? ⟨gg,i*5+1,none⟩=some (.int .i64 c1)∧W.cell? ⟨gg,i*5+2,none⟩=some (.int .i64 c2)∧W.cell? ⟨gg,i*5+3,none⟩=some (.string c3)∧W.cell? ⟨gg,i*5+4,none⟩=some (.slice o4 n4 c4)∧(S (i+1)=S i+z∧S (i+1)≤1+301*ln)∧(∀ W',Below W.heap.size W W'→Calls Tryd.prog 42 #[.agg (rxV c0 c1 c2 c3 (.slice o4 n4 c4))] W' fun e w'=>e=.returned (.int .i64 ((z:Nat):Int))∧Below W.heap.size W w')):=by
  refine hide fun i W hi hb => ?_
  obtain ⟨gg,c0,c1,c2,c3,o4,n4,c4,k,h0,h1,h2,h3,h4,h5,h6,h7,h8⟩:=hN.kid hi (hIn.below hb)
  obtain ⟨e1,e2,e3⟩:=szK_take _ i k h7
  obtain ⟨l1,l2,l3⟩:=szK_le (kidsOf T) (i+1)
  have hS1:S (i+1)=S i+min (wtT k) 301:=by rw [hS];simp only [wcK_take _ i k h7];omega
  have hSb:S (i+1)≤1+301*ln:=by have h9:=wcK_le ((kidsOf T).take (i+1));rw [List.length_take] at h9;rw [hS];simp only;omega
  refine ⟨gg,c0,c1,c2,c3,o4,n4,c4,(min (wtT k) 301),h0,h1,h2,h3,h4,h5,h6,⟨hS1,hSb⟩,fun W' hb' => ?_⟩
  refine (hkids i k h7 M W' _ l (hok.imp fun N h=>h.kids.2 h7) ((hIn.below hb).below hb') h8 (by omega) (by omega)).mono ?_
  rintro e w' ⟨r1,r2⟩
  exact ⟨r1,hb'.trans (r2.mono hb'.size)⟩
 have hb0:(w.alloc (.cells (rxV kind n9 m9 ss (.slice o ln cp)) 25)).heap[w.heap.size]?=some (.cells (rxV kind n9 m9 ss (.slice o ln cp)) 25 (0,0)):=heap_alloc_new w _
 have HX0:=hide (And.intro hB hb0)
 have hSl:S ln=1+wcK (kidsOf T):=by rw [hS];simp only [hln,List.take_length];skip
 have hkind:=hN.at_.kind
 have hwb:wcK (kidsOf T)≤301*ln:=by have:=wcK_le (kidsOf T);rw [hln];exact this
 have hok2:=hok
 obtain ⟨N,hok⟩:=hok2
 have hlnb:ln≤1000000:=by omega
 clear hIn hN hkids hB hb0 hsk hkl hln hS hsz
 obtain ⟨RW,hRW⟩:∃ RW,RW=min (wtT T) 301:=⟨_,rfl⟩
 rw [←hRW]
 obtain ⟨WK,hWK⟩:∃ WK,WK=wcK (kidsOf T):=⟨_,rfl⟩
 rw [←hWK] at hwb hSl
 have HT:=hide (And.intro hok (And.intro hkind (And.intro hRW hWK)))
 clear hok hkind hRW hWK
 unfold rxV at HX0 hR ⊢
 have HR9:=hide hR
 clear hR
 go_enter Tryd.func42,Tryd.ntmps42
 (try rw [World.cell?_alloc_same])
 go_wp2_with fail
 generalize w.alloc (.cells #[.int .i64 kind,.int .i64 n9,.int .i64 m9,.string ss,.slice o ln cp] 25)=W0 at HX0 ⊢
 go_loopw [3,4] (fun v3 v4 wr=>∃ i:Nat,i≤ln∧v3=.int .i64 ((S i:Nat):Int)∧v4=.int .i64 (i:Int)∧Hid (Below w.heap.size w wr∧wr.heap[w.heap.size]?=some (.cells #[.int .i64 kind,.int .i64 n9,.int .i64 m9,.string ss,.slice o ln cp] 25 (0,0)))) (fun _ v4 _=>ln-(intOf v4).toNat)
 case atStart=>exact ⟨0,by omega,by rw [hS0] <;> first | rfl | simp,rfl,HX0⟩
 case round =>
  obtain ⟨i,hi,rfl,rfl,HX⟩:=hrel
  clear HX0
  have hx4:wr.cell? ⟨w.heap.size,4,none⟩=some (.slice o ln cp):=by simp [World.cell?,HX.out.2]
  by_cases hil:i<ln
  ·have hti:(i:Int)<(ln:Int):=by omega
   have htw:IntKind.i64.wrap ((i:Int)+1)=((i+1:Nat):Int):=by rw [IntKind.wrap_i64];omega
   obtain ⟨gg,c0,c1,c2,c3,o4,n4,c4,z,rfl,hggl,q0,q1,q2,q3,q4,hst,hcall⟩:=HK.out i wr hil HX.out.1
   obtain ⟨hst,hsb⟩:=hst
   have hwadd:IntKind.i64.wrap (((S i:Nat):Int)+((z:Nat):Int))=((S (i+1):Nat):Int):=by rw [IntKind.wrap_i64];omega
   unfold rxV at hcall
   obtain ⟨s2,hs2⟩:∃ s2,s2=S (i+1):=⟨_,rfl⟩
   rw [←hs2] at hwadd
   have hst:=hide hs2
   clear hs2
   have HC:=hide (fun W' hb'=>(hcall W' hb'))
   have HN:Hid (∀ w5,Below wr.heap.size wr w5→Hid (Below w.heap.size w w5∧w5.heap[w.heap.size]?=some (.cells #[.int .i64 kind,.int .i64 n9,.int .i64 m9,.string ss,.slice (some ⟨gg,0,none⟩) ln cp] 25 (0,0)))):=hide fun w5 h5=>hide ⟨HX.out.1.trans (h5.mono HX.out.1.size),(h5.block _ (Array.getElem?_eq_some_iff.1 HX.out.2).1).trans HX.out.2⟩
   clear hcall HX
   go_wp2_with fail
   refine (HC.out _ (Below.refl _ _)).mono ?_
   rintro e w5 ⟨rfl,h5⟩
   have HX5:=HN.out w5 h5
   clear h5 HC HN q0 q1 q2 q3 q4 hx4
   go_wp2
   go_roundw
   case rel=>exact ⟨i+1,by omega,by rw [hst.out],by simp,HX5⟩
   case measure=>simp [intOf];omega
  ·obtain rfl:i=ln:=by omega
   have hnl:¬ (i:Int)<(i:Int):=by omega
   have HE:=hide HX.out.1
   have p0:wr.cell? ⟨w.heap.size,0,none⟩=some (.int .i64 kind):=by simp [World.cell?,HX.out.2]
   have p1:wr.cell? ⟨w.heap.size,1,none⟩=some (.int .i64 n9):=by simp [World.cell?,HX.out.2]
   have p2:wr.cell? ⟨w.heap.size,2,none⟩=some (.int .i64 m9):=by simp [World.cell?,HX.out.2]
   rw [hSl]
   obtain ⟨hok,hkind,hRW,hWK⟩:=HT.out
   clear HX HK HT
   rcases wt_kids T with ⟨a,b,kk,rfl,hwe⟩|⟨hnr,hwe⟩
   ·rcases hkind with ⟨_,_,_,h⟩|⟨_,_,h,_⟩|⟨_,h,_⟩|⟨_,h,_⟩|⟨a',b',k',h,rfl,rfl,rfl⟩
    ·simp [kidsOf] at h
    ·cases h
    ·cases h
    ·cases h
    ·simp only [Tr.rep.injEq] at h
     obtain ⟨rfl,rfl,rfl⟩:=h
     rw [OkT] at hok
     obtain ⟨mx,hmx⟩:∃ mx,mx=tmsT a b:=⟨_,rfl⟩
     have hmxI:max (a:Int) (unM b)=(mx:Int):=by
      rw [hmx]
      cases b with
      | none=>simp only [unM,tmsT];omega
      | some m=>simp only [unM,tmsT];omega
     have hmx1:(if (a:Int)<unM b then unM b else (a:Int))=(mx:Int):=by rw [←hmxI];split <;> omega
     have hmx2:(if unM b≤(a:Int) then (a:Int) else unM b)=(mx:Int):=by rw [←hmxI];split <;> omega
     have hmx3:(if (a:Int)≤unM b then unM b else (a:Int))=(mx:Int):=by rw [←hmxI];split <;> omega
     have hmx4:(if unM b<(a:Int) then (a:Int) else unM b)=(mx:Int):=by rw [←hmxI];split <;> omega
     have hmx20:mx≤20:=by
      rw [hmx]
      cases b with
      | none=>simp only [tmsT];omega
      | some m=>have:=hok.2.1 m rfl;simp only [tmsT];omega
     obtain ⟨M1,hM1⟩:∃ M1,M1=mx+1:=⟨_,rfl⟩
     have hwm1:IntKind.i64.wrap ((mx:Int)+1)=(M1:Int):=by rw [IntKind.wrap_i64];omega
     have hq1:¬ (M1:Int)≤1∨M1=1:=by omega
     have hq2:(if (1:Int)<(M1:Int) then (M1:Int) else 1)=(M1:Int):=by split <;> omega
     have hq3:(if (1:Int)≤(M1:Int) then (M1:Int) else 1)=(M1:Int):=by split <;> omega
     have hq4:(if (M1:Int)≤1 then 1 else (M1:Int))=(M1:Int):=by split <;> omega
     have hq5:(if (M1:Int)<1 then 1 else (M1:Int))=(M1:Int):=by split <;> omega
     obtain ⟨PR,hPR⟩:∃ PR,PR=(1+WK)*M1:=⟨_,rfl⟩
     have hPRb:PR≤(1+WK)*21:=by rw [hPR];exact Nat.mul_le_mul_left _ (by omega)
     have hmul:(((1+WK:Nat)):Int)*(M1:Int)=(PR:Int):=by rw [hPR];push_cast;rfl
     have hwR:IntKind.i64.wrap (PR:Int)=(PR:Int):=by rw [IntKind.wrap_i64];omega
     have hRW2:RW=min PR 301:=by
      rw [hRW,hwe,hPR,hM1,hmx,hWK]
      exact (wc_rep _ _).symm
     have hr1:(if (PR:Int)<301 then (PR:Int) else 301)=(RW:Int):=by rw [hRW2];split <;> omega
     have hr2:(if (PR:Int)≤301 then (PR:Int) else 301)=(RW:Int):=by rw [hRW2];split <;> omega
     have hr3:(if (301:Int)<(PR:Int) then 301 else (PR:Int))=(RW:Int):=by rw [hRW2];split <;> omega
     have hr4:(if (301:Int)≤(PR:Int) then 301 else (PR:Int))=(RW:Int):=by rw [hRW2];split <;> omega
     generalize 1+WK=W9 at *
     generalize unM b=um at *
     clear hwe hRW hWK hPR hM1 hmx hRW2 hPRb hS0 hSl hq1
     go_wp2
     go_ret
     exact ⟨rfl,HE.out⟩
   ·have hk9:¬ kind=9:=by
     rcases hkind with ⟨_,h,_⟩|⟨_,_,_,h,_⟩|⟨_,_,h⟩|⟨_,_,h⟩|⟨a',b',k',h,_⟩
     ·exact h.2.2.2
     ·omega
     ·omega
     ·omega
     ·exact absurd h (hnr a' b' k')
    have hk92:(kind == 9)=false:=by simp [hk9]
    have hRW2:RW=min (1+WK) 301:=by
     rw [hRW,hwe,hWK]
     exact (wc_fin _).symm
    generalize 1+WK=W9 at *
    have hr1:(if (W9:Int)<301 then (W9:Int) else 301)=(RW:Int):=by rw [hRW2];split <;> omega
    have hr2:(if (W9:Int)≤301 then (W9:Int) else 301)=(RW:Int):=by rw [hRW2];split <;> omega
    have hr3:(if (301:Int)<(W9:Int) then 301 else (W9:Int))=(RW:Int):=by rw [hRW2];split <;> omega
    have hr4:(if (301:Int)≤(W9:Int) then 301 else (W9:Int))=(RW:Int):=by rw [hRW2];split <;> omega
    clear hwe hRW hWK hRW2 hS0 hSl
    go_wp2
    go_ret
    exact ⟨rfl,HE.out⟩
theorem sweight_any (T:Tr):sweightOf T:=by_kids (P:=sweightOf) sweight_walk _ T (Nat.le_refl _)
end Go.Proofs.YtfhimmnoipfiaaaDoor.eng
