import Derived.Test.YtfhimmnoipfiaaaDoorRows
import Derived.WalkKit
import Derived.ProofKit
import Derived.WalkSpells
import Derived.Below
import Derived.WalkSmall
import Derived.Laws.OwnMore
import Derived.Deep.QuietTactic
import Derived.BigQuiet
import Derived.Outline
import Derived.Laws.Tables
import Derived.Laws.Rows
import Derived.BigRegion
import Derived.Deep.RegionLaw
import Derived.Deep.RegionHeldLaw
set_option linter.unusedVariables false
namespace Go.Proofs.YtfhimmnoipfiaaaDoor.bytes
open Go.ChangeShapes Go.WideShapes Go.ChangeAt Go.RowKit
theorem hide {p:Prop} (h:p):Hid p:=h
theorem ret_bool {a b:Bool} (h:a=b):Ending.returned (.bool a)=.returned (.bool b):=by rw [h]
theorem ret_int {k:IntKind} {a b:Int} (h:a=b):Ending.returned (.int k a)=.returned (.int k b):=by rw [h]
def Rd (w:World) (v:Value) (xs:List Int):Prop :=
 ∃ ao cap,v=.slice ao xs.length cap∧xs.length≤cap∧cap≤maxLen∧(∀ x∈xs,0≤x∧x≤255) ∧
  (0<xs.length→∃ b off,ao=some ⟨b,off,none⟩∧∀ i,i<xs.length→w.cell? ⟨b,off+i,none⟩=some (.int .u8 (xs.getD i 0)))
def Own (w:World) (base:Nat) (v:Value) (xs:List Int):Prop :=
 (∀ x∈xs,0≤x∧x≤255)∧w.ownsRow base 5 1 v xs.length (xs.map (Value.int .u8))
theorem Own.rd {w:World} {base:Nat} {v:Value} {xs:List Int} (h:Own w base v xs):Rd w v xs:=by
 obtain ⟨hx,h⟩:=h
 have h':=h
 obtain ⟨h1,⟨rfl,h2⟩|⟨g,cap,cur,rfl,hb,hg,hnc,hcm,hcs,htake⟩⟩:=h
 ·exact ⟨none,0,by rw [h2],by omega,by simp [maxLen],hx,fun hp=>by omega⟩
 ·refine ⟨_,cap,rfl,hnc,hcm,hx,fun hp=>⟨g,0,rfl,fun i hi => ?_⟩⟩
  have:=World.ownsRow.cellAt h' i (by omega)
  rw [Nat.zero_add,this]
  simp [hi]
theorem Own.lt {w:World} {base:Nat} {v:Value} {xs:List Int} (h:Own w base v xs):∀ k,v.ownBlock=some k→base≤k∧k<w.heap.size:=World.ownsRow.lt h.2
theorem Own.below {w w':World} {base B:Nat} {v:Value} {xs:List Int} (h:Own w base v xs) (hb:Below B w w') (hB:w.heap.size≤B):Own w' base v xs:=by
 refine ⟨h.1,?_⟩
 obtain ⟨h1,h2 | ⟨g,cap,cur,rfl,hbg,hg,hnc,hcm,hcs,htake⟩⟩:=h.2
 ·exact ⟨h1,.inl h2⟩
 ·have hlt:=(h.lt g rfl).2
  exact ⟨h1,.inr ⟨g,cap,cur,rfl,hbg,(hb.block g (by omega)).trans hg,hnc,hcm,hcs,htake⟩⟩
theorem Own.mono {w:World} {base base':Nat} {v:Value} {xs:List Int} (h:Own w base v xs) (hb:base'≤base):Own w base' v xs:=by
 refine ⟨h.1,?_⟩
 obtain ⟨h1,h2 | ⟨g,cap,cur,rfl,hbg,r⟩⟩:=h.2
 ·exact ⟨h1,.inl h2⟩
 ·exact ⟨h1,.inr ⟨g,cap,cur,rfl,by omega,r⟩⟩
theorem cell_lt {w:World} {a:Addr} {v:Value} (h:w.cell? a=some v):a.block<w.heap.size:=by
 simp only [World.cell?] at h
 cases e:w.heap[a.block]? with
 | none=>simp [e] at h
 | some o=>exact (Array.getElem?_eq_some_iff.1 e).1
theorem Rd.below {w w':World} {B:Nat} {v:Value} {xs:List Int} (h:Rd w v xs) (hb:Below B w w') (hB:w.heap.size≤B):Rd w' v xs:=by
 obtain ⟨ao,cap,rfl,h1,h2,h3,h4⟩:=h
 refine ⟨ao,cap,rfl,h1,h2,h3,fun hp => ?_⟩
 obtain ⟨b,off,rfl,hc⟩:=h4 hp
 exact ⟨b,off,rfl,fun i hi=>(hb.cell (by have:=cell_lt (hc i hi);simp at this ⊢;omega)).trans (hc i hi)⟩
theorem grown_trans {a b c:World} {row:Option Nat} (h:a.grownBy b row) (k:b.grownBy c row):a.grownBy c row :=
 ⟨k.os.trans h.os,k.tape.trans h.tape,k.output.trans h.output,Nat.le_trans h.size k.size,fun i hi hr=>(k.block i (by have:=h.size;omega) hr).trans (h.block i hi hr)⟩
theorem getD_bd {xs:List Int} (h:∀ x∈xs,0≤x∧x≤255) (k:Nat):0≤xs.getD k 0∧xs.getD k 0≤255:=by
 rw [List.getD_eq_getElem?_getD]
 by_cases hk:k<xs.length
 ·rw [List.getElem?_eq_getElem hk];exact h _ (List.getElem_mem hk)
 ·rw [List.getElem?_eq_none (by omega)];simp
def marks (k:Int) (n:Nat):List Int:=(List.range n).map fun (i:Nat)=>(k+(i:Int)) % 256
theorem marks_length (k:Int) (n:Nat):(marks k n).length=n:=by simp [marks]
theorem marks_getD (k:Int) (n i:Nat) (h:i<n):(marks k n).getD i 0=(k+(i:Int)) % 256:=by simp [marks,h]
theorem marks_bd (k:Int) (n:Nat):∀ x∈marks k n,0≤x∧x≤255:=by
 intro x hx
 simp only [marks,List.mem_map,List.mem_range] at hx
 obtain ⟨i,_,rfl⟩:=hx
 omega
theorem marks_set (q:Int) (xs:List Int) (k:Nat) (hk:k<xs.length) :
  (marks q k++xs.drop k).set k ((q+(k:Int)) % 256)=marks q (k+1)++xs.drop (k+1):=by
 have h1:marks q (k+1)=marks q k++[(q+(k:Int)) % 256]:=by simp [marks,List.range_succ]
 rw [List.set_append_right _ _ (by simp [marks_length]),marks_length,Nat.sub_self,List.drop_eq_getElem_cons hk,List.set_cons_zero,h1,List.append_assoc]
 rfl
theorem info5:(Tryd.prog.info? 5).map (fun i=>(i.zero,i.size,i.bytes))=some (some (.int .u8 0),1,1):=by kernel_rfl
theorem copy_set (xs:List Int) (k n:Nat) (hk:k<xs.length) (hn:xs.length=n) :
  (xs.take k++List.replicate (n-k) 0).set k (xs.getD k 0)=xs.take (k+1)++List.replicate (n-(k+1)) 0:=by
 have h2:n-k=(n-(k+1))+1:=by omega
 have hl:(xs.take k).length=k:=by simp;omega
 rw [List.set_append_right _ _ (by omega),hl,Nat.sub_self,h2,List.replicate_succ,List.set_cons_zero,List.take_succ_eq_append_getElem hk,List.append_assoc]
 simp [List.getD_eq_getElem?_getD,hk]
theorem made_list (n:Nat):(madeCells (Value.int .u8 0).cells (n*1)).toList=(List.replicate n (0:Int)).map (Value.int .u8):=by
 rw [Nat.mul_one]
 exact (toList_madeCells_one (.int .u8 0) n).trans (by simp)
end Go.Proofs.YtfhimmnoipfiaaaDoor.bytes
namespace Go.Proofs.YtfhimmnoipfiaaaDoor.places
open Go.ChangeShapes Go.WideShapes Go.ChangeAt Go.RowKit
open bytes
def psV (b:Nat):Value:=.agg #[.int .u64 (b:Nat),.int .u64 0]
theorem size62:(Tryd.prog.info? 62).map (·.size)=some 2:=by kernel_rfl
set_option maxHeartbeats 2000000 in
theorem only_any (w:World) (e:Nat) (he:e≤22) :
  Calls Tryd.prog 63 #[.int .i64 e] w fun r w'=>r=.returned (psV (2 ^ e))∧Below w.heap.size w w':=by
 have hq:e / 64=0:=by omega
 have hm:e % 64=e:=by omega
 have hqi:(e:Int) / 64=0:=by omega
 have hmi:(e:Int) % 64=e:=by omega
 have hlt:2 ^ e<18446744073709551616:=Nat.lt_of_le_of_lt (Nat.pow_le_pow_right (by decide) he) (by decide)
 have hw:IntKind.u64.wrap ((2:Int) ^ e)=((2 ^ e:Nat):Int):=by
  rw [show (2:Int) ^ e=((2 ^ e:Nat):Int) by rw [Int.natCast_pow];rfl]
  generalize 2 ^ e=b at hlt ⊢
  rw [IntKind.wrap_u64]
  omega
 unfold psV
 generalize 2 ^ e=b at hw hlt ⊢
 have HE:Hid (((w.alloc (.cells #[.int .u64 (b:Nat),.int .u64 0] 62)).alloc (.cells #[.int .u64 (b:Nat),.int .u64 0] 62)).heap[w.heap.size]?=some (.cells #[.int .u64 (b:Nat),.int .u64 0] 62 (0,0))):=by
  unfold Hid
  rw [Below.heap_alloc _ _ _ (by simp)]
  exact heap_alloc_new w _
 go_enter Tryd.func63,Tryd.ntmps63
 go_wp2
 exact bodyPost_ret (results_cell_row rfl _ _ w.heap.size 62 _ (0,0) _ rfl HE.out Tryd.underlying62 rfl (size62.trans (by simp))) rfl ⟨rfl,((Below.refl _ _).alloc (Nat.le_refl _) _).alloc (by simp) _⟩
theorem u64_and1 (x:Nat) (hx:x<18446744073709551616):bits .and .u64 (x:Int) 1=((x % 2:Nat):Int):=by
 have h1:(BitVec.ofInt 64 (x:Int)).toNat=x:=by rw [BitVec.toNat_ofInt];omega
 have h15:(BitVec.ofInt 64 1).toNat=2 ^ 1-1:=by decide
 have key:(BitVec.ofInt 64 (x:Int) &&& BitVec.ofInt 64 1).toNat=x % 2:=by rw [BitVec.toNat_and,h1,h15,Nat.and_two_pow_sub_one_eq_mod]
 show IntKind.u64.wrap ((BitVec.ofInt 64 (x:Int) &&& BitVec.ofInt 64 1).toNat:Nat)=_
 rw [key,IntKind.wrap_u64]
 omega
set_option maxHeartbeats 2000000 in
theorem has_any (w:World) (b e:Nat) (he:e≤22) (hb:b<18446744073709551616) :
  Calls Tryd.prog 23 #[psV b,.int .i64 e] w fun r w'=>r=.returned (.bool (b.testBit e))∧Below w.heap.size w w':=by
 have hq:e / 64=0:=by omega
 have hm:e % 64=e:=by omega
 have hqi:(e:Int) / 64=0:=by omega
 have hmi:(e:Int) % 64=e:=by omega
 unfold psV
 have hbt:(bits .and .u64 ((b:Int) / 2 ^ e) 1 == 1)=b.testBit e:=by
  have hx:b / 2 ^ e<18446744073709551616:=Nat.lt_of_le_of_lt (Nat.div_le_self _ _) hb
  rw [show (b:Int) / 2 ^ e=((b / 2 ^ e:Nat):Int) by rw [Int.natCast_ediv,Int.natCast_pow];rfl,u64_and1 _ hx,Nat.testBit_eq_decide_div_mod_eq]
  generalize b / 2 ^ e % 2=r
  by_cases h:r=1
  ·subst h;rfl
  ·have h2:¬ (r:Int)=1:=by omega
   simp [h,h2]
 go_enter Tryd.func23,Tryd.ntmps23
 go_wp2
 go_ret
 exact ⟨by rw [←hbt];rfl,(Below.refl _ _).alloc (Nat.le_refl _) _⟩
end Go.Proofs.YtfhimmnoipfiaaaDoor.places
namespace Go.Proofs.YtfhimmnoipfiaaaDoor.sets
open Go.ChangeShapes Go.WideShapes Go.ChangeAt Go.RowKit
open bytes places
theorem u64_or (a b:Nat) (ha:a<18446744073709551616) (hb:b<18446744073709551616):bits .or .u64 (a:Int) (b:Int)=((a ||| b:Nat):Int):=by
 have hlt:a ||| b<18446744073709551616:=Nat.or_lt_two_pow (n:=64) ha hb
 have h1:(BitVec.ofInt 64 (a:Int)).toNat=a:=by rw [BitVec.toNat_ofInt];omega
 have h2:(BitVec.ofInt 64 (b:Int)).toNat=b:=by rw [BitVec.toNat_ofInt];omega
 have key:(BitVec.ofInt 64 (a:Int) ||| BitVec.ofInt 64 (b:Int)).toNat=a ||| b:=by rw [BitVec.toNat_or,h1,h2]
 show IntKind.u64.wrap ((BitVec.ofInt 64 (a:Int) ||| BitVec.ofInt 64 (b:Int)).toNat:Nat)=_
 rw [key,IntKind.wrap_u64]
 omega
def C2 (w:World) (g:Nat) (a:Nat):Prop:=w.heap[g]?=some (.cells #[.int .u64 (a:Nat),.int .u64 0] 62 (0,0))
theorem C2.c0 {w:World} {g a:Nat} (h:C2 w g a):w.cell? ⟨g,0,none⟩=some (.int .u64 (a:Nat)):=by unfold C2 at h;simp [World.cell?,h]
theorem C2.c1 {w:World} {g a:Nat} (h:C2 w g a):w.cell? ⟨g,1,none⟩=some (.int .u64 0):=by unfold C2 at h;simp [World.cell?,h]
theorem C2.fz {w:World} {g a:Nat} (h:C2 w g a) (i:Nat):w.frozen? ⟨g,i,none⟩=false:=by unfold C2 at h;simp [World.frozen?,h]
theorem C2.set0 {w:World} {g a:Nat} (h:C2 w g a) (b:Nat):C2 (w.setCell ⟨g,0,none⟩ (.int .u64 (b:Nat))).drew g b:=by
 have h1:=heap_setCell_same w g 0 _ 62 (.int .u64 (b:Nat)) h
 simp at h1
 exact h1
theorem C2.set1 {w:World} {g a:Nat} (h:C2 w g a):C2 (w.setCell ⟨g,1,none⟩ (.int .u64 0)).drew g a:=by
 have h1:=heap_setCell_same w g 1 _ 62 (.int .u64 0) h
 simp at h1
 exact h1
theorem C2.ne {w:World} {g a k i:Nat} (h:C2 w g a) (hk:g≠k) (u:Value):C2 (w.setCell ⟨k,i,none⟩ u).drew g a:=by
 unfold C2 at h ⊢
 exact (heap_setCell_other w ⟨k,i,none⟩ g u hk).trans h
set_option maxHeartbeats 4000000 in
theorem with_any (w:World) (a b:Nat) (ha:a<18446744073709551616) (hb:b<18446744073709551616) :
  Calls Tryd.prog 70 #[psV a,psV b] w fun r w'=>r=.returned (psV (a ||| b))∧Below w.heap.size w w':=by
 unfold psV
 have hor:=u64_or a b ha hb
 have hor0:bits .or .u64 0 0=0:=by decide
 generalize a ||| b=c at hor ⊢
 obtain ⟨W3,hW3⟩:∃ W3,W3=((w.alloc (.cells #[.int .u64 (a:Nat),.int .u64 0] 62)).alloc (.cells #[.int .u64 (b:Nat),.int .u64 0] 62)).alloc (.cells #[.int .u64 0,.int .u64 0] 62):=⟨_,rfl⟩
 have HS:Hid (C2 W3 w.heap.size a∧C2 W3 (w.heap.size+1) b∧C2 W3 (w.heap.size+2) 0∧Below w.heap.size w W3):=by
  rw [hW3]
  refine hide ⟨?_,?_,?_,(((Below.refl _ _).alloc (Nat.le_refl _) _).alloc (by simp) _).alloc (by simp;omega) _⟩
  ·unfold C2
   rw [Below.heap_alloc _ _ _ (by simp;omega),Below.heap_alloc _ _ _ (by simp)]
   exact heap_alloc_new w _
  ·unfold C2
   rw [Below.heap_alloc _ _ _ (by simp)]
   have h:=heap_alloc_new (w.alloc (.cells #[.int .u64 (a:Nat),.int .u64 0] 62)) (.cells #[.int .u64 (b:Nat),.int .u64 0] 62)
   rw [show (w.alloc (.cells #[.int .u64 (a:Nat),.int .u64 0] 62)).heap.size=w.heap.size+1 by simp] at h
   exact h
  ·have h:=heap_alloc_new ((w.alloc (.cells #[.int .u64 (a:Nat),.int .u64 0] 62)).alloc (.cells #[.int .u64 (b:Nat),.int .u64 0] 62)) (.cells #[.int .u64 0,.int .u64 0] 62)
   rw [show ((w.alloc (.cells #[.int .u64 (a:Nat),.int .u64 0] 62)).alloc (.cells #[.int .u64 (b:Nat),.int .u64 0] 62)).heap.size=w.heap.size+2 by simp] at h
   exact h
 go_enter Tryd.func70,Tryd.ntmps70
 go_wp2
 rw [←hW3]
 clear hW3
 go_loopw [5,6] (fun k5 iv wr=>∃ i x:Nat,((i=0∧x=a)∨(i=1∧x=c)∨(i=2∧x=c))∧iv=.int .i64 i∧Hid (C2 wr w.heap.size x∧C2 wr (w.heap.size+1) b∧C2 wr (w.heap.size+2) 0∧Below w.heap.size w wr)) (fun _ iv _=>2-(intOf iv).toNat)
 case atStart=>exact ⟨0,a,.inl ⟨rfl,rfl⟩,rfl,HS⟩
 case round =>
  obtain ⟨i,x,hix,rfl,HX⟩:=hrel
  clear HS
  rcases hix with ⟨rfl,rfl⟩|⟨rfl,rfl⟩|⟨rfl,rfl⟩
  ·have p0:=HX.out.1.c0
   have q0:=HX.out.1.fz 0
   have m0:=HX.out.2.1.c0
   go_wp2
   go_region
   go_wp2
   go_roundw
   case rel=>exact ⟨0+1,c,.inr (.inl ⟨rfl,rfl⟩),by go_num,hide ⟨HX.out.1.set0 c,HX.out.2.1.ne (by omega) _,HX.out.2.2.1.ne (by omega) _,(HX.out.2.2.2.setCell (p:=⟨w.heap.size,0,none⟩) (Nat.le_refl _) _).drew⟩⟩
   case measure=>simp [intOf]
  ·have p1:=HX.out.1.c1
   have q1:=HX.out.1.fz 1
   have m1:=HX.out.2.1.c1
   go_wp2
   go_region
   go_wp2
   go_roundw
   case rel=>exact ⟨1+1,_,.inr (.inr ⟨rfl,rfl⟩),by go_num,hide ⟨HX.out.1.set1,HX.out.2.1.ne (by omega) _,HX.out.2.2.1.ne (by omega) _,(HX.out.2.2.2.setCell (p:=⟨w.heap.size,1,none⟩) (Nat.le_refl _) _).drew⟩⟩
   case measure=>simp [intOf]
  ·have p0:=HX.out.1.c0
   have p1:=HX.out.1.c1
   have r0:=HX.out.2.2.1.c0
   have r1:=HX.out.2.2.1.c1
   have s0:=HX.out.2.2.1.fz 0
   have s1:=HX.out.2.2.1.fz 1
   have HE:Hid (((wr.setCell ⟨w.heap.size+1+1,0,none⟩ (.int .u64 (x:Nat))).setCell ⟨w.heap.size+1+1,1,none⟩ (.int .u64 0)).heap[w.heap.size+1+1]?=some (.cells #[.int .u64 (x:Nat),.int .u64 0] 62 (0,0))∧Below w.heap.size w ((wr.setCell ⟨w.heap.size+1+1,0,none⟩ (.int .u64 (x:Nat))).setCell ⟨w.heap.size+1+1,1,none⟩ (.int .u64 0))):=by
    have h0:=heap_setCell_same wr (w.heap.size+1+1) 0 _ 62 (.int .u64 (x:Nat)) HX.out.2.2.1
    have h1:=heap_setCell_same _ (w.heap.size+1+1) 1 _ 62 (.int .u64 0) h0
    simp at h1
    exact hide ⟨h1,(HX.out.2.2.2.setCell (p:=⟨w.heap.size+1+1,0,none⟩) (by simp;omega) _).setCell (p:=⟨w.heap.size+1+1,1,none⟩) (by simp;omega) _⟩
   go_wp2
   exact bodyPost_ret (results_cell_row rfl _ _ (w.heap.size+1+1) 62 _ (0,0) _ rfl HE.out.1 Tryd.underlying62 rfl (size62.trans (by simp))) rfl ⟨rfl,HE.out.2⟩
set_option maxRecDepth 100000 in
set_option maxHeartbeats 4000000 in
theorem len_any (w:World) (e:Nat) (he:e≤22) :
  Calls Tryd.prog 52 #[.int .u64 ((2 ^ e:Nat):Int)] w fun r w'=>r=.returned (.int .i64 ((e:Int)+1))∧w'=w:=by
 rcases (show e=0∨e=1∨e=2∨e=3∨e=4∨e=5∨e=6∨e=7∨e=8∨e=9∨e=10∨e=11∨e=12∨e=13∨e=14∨e=15∨e=16∨e=17∨e=18∨e=19∨e=20∨e=21∨e=22 by omega) with rfl | rfl | rfl | rfl | rfl | rfl | rfl | rfl | rfl | rfl | rfl | rfl | rfl | rfl | rfl | rfl | rfl | rfl | rfl | rfl | rfl | rfl | rfl
 ·rw [show ((2 ^ 0:Nat):Int)=1 by decide]
  go_enter Tryd.func52,Tryd.ntmps52
  go_wp2
  go_ret
  refine ⟨?_,rfl⟩
  kernel_rfl
 ·rw [show ((2 ^ 1:Nat):Int)=2 by decide]
  go_enter Tryd.func52,Tryd.ntmps52
  go_wp2
  go_ret
  refine ⟨?_,rfl⟩
  kernel_rfl
 ·rw [show ((2 ^ 2:Nat):Int)=4 by decide]
  go_enter Tryd.func52,Tryd.ntmps52
  go_wp2
  go_ret
  refine ⟨?_,rfl⟩
  kernel_rfl
 ·rw [show ((2 ^ 3:Nat):Int)=8 by decide]
  go_enter Tryd.func52,Tryd.ntmps52
  go_wp2
  go_ret
  refine ⟨?_,rfl⟩
  kernel_rfl
 ·rw [show ((2 ^ 4:Nat):Int)=16 by decide]
  go_enter Tryd.func52,Tryd.ntmps52
  go_wp2
  go_ret
  refine ⟨?_,rfl⟩
  kernel_rfl
 ·rw [show ((2 ^ 5:Nat):Int)=32 by decide]
  go_enter Tryd.func52,Tryd.ntmps52
  go_wp2
  go_ret
  refine ⟨?_,rfl⟩
  kernel_rfl
 ·rw [show ((2 ^ 6:Nat):Int)=64 by decide]
  go_enter Tryd.func52,Tryd.ntmps52
  go_wp2
  go_ret
  refine ⟨?_,rfl⟩
  kernel_rfl
 ·rw [show ((2 ^ 7:Nat):Int)=128 by decide]
  go_enter Tryd.func52,Tryd.ntmps52
  go_wp2
  go_ret
  refine ⟨?_,rfl⟩
  kernel_rfl
 ·rw [show ((2 ^ 8:Nat):Int)=256 by decide]
  go_enter Tryd.func52,Tryd.ntmps52
  go_wp2
  go_ret
  refine ⟨?_,rfl⟩
  kernel_rfl
 ·rw [show ((2 ^ 9:Nat):Int)=512 by decide]
  go_enter Tryd.func52,Tryd.ntmps52
  go_wp2
  go_ret
  refine ⟨?_,rfl⟩
  kernel_rfl
 ·rw [show ((2 ^ 10:Nat):Int)=1024 by decide]
  go_enter Tryd.func52,Tryd.ntmps52
  go_wp2
  go_ret
  refine ⟨?_,rfl⟩
  kernel_rfl
 ·rw [show ((2 ^ 11:Nat):Int)=2048 by decide]
  go_enter Tryd.func52,Tryd.ntmps52
  go_wp2
  go_ret
  refine ⟨?_,rfl⟩
  kernel_rfl
 ·rw [show ((2 ^ 12:Nat):Int)=4096 by decide]
  go_enter Tryd.func52,Tryd.ntmps52
  go_wp2
  go_ret
  refine ⟨?_,rfl⟩
  kernel_rfl
 ·rw [show ((2 ^ 13:Nat):Int)=8192 by decide]
  go_enter Tryd.func52,Tryd.ntmps52
  go_wp2
  go_ret
  refine ⟨?_,rfl⟩
  kernel_rfl
 ·rw [show ((2 ^ 14:Nat):Int)=16384 by decide]
  go_enter Tryd.func52,Tryd.ntmps52
  go_wp2
  go_ret
  refine ⟨?_,rfl⟩
  kernel_rfl
 ·rw [show ((2 ^ 15:Nat):Int)=32768 by decide]
  go_enter Tryd.func52,Tryd.ntmps52
  go_wp2
  go_ret
  refine ⟨?_,rfl⟩
  kernel_rfl
 ·rw [show ((2 ^ 16:Nat):Int)=65536 by decide]
  go_enter Tryd.func52,Tryd.ntmps52
  go_wp2
  go_ret
  refine ⟨?_,rfl⟩
  kernel_rfl
 ·rw [show ((2 ^ 17:Nat):Int)=131072 by decide]
  go_enter Tryd.func52,Tryd.ntmps52
  go_wp2
  go_ret
  refine ⟨?_,rfl⟩
  kernel_rfl
 ·rw [show ((2 ^ 18:Nat):Int)=262144 by decide]
  go_enter Tryd.func52,Tryd.ntmps52
  go_wp2
  go_ret
  refine ⟨?_,rfl⟩
  kernel_rfl
 ·rw [show ((2 ^ 19:Nat):Int)=524288 by decide]
  go_enter Tryd.func52,Tryd.ntmps52
  go_wp2
  go_ret
  refine ⟨?_,rfl⟩
  kernel_rfl
 ·rw [show ((2 ^ 20:Nat):Int)=1048576 by decide]
  go_enter Tryd.func52,Tryd.ntmps52
  go_wp2
  go_ret
  refine ⟨?_,rfl⟩
  kernel_rfl
 ·rw [show ((2 ^ 21:Nat):Int)=2097152 by decide]
  go_enter Tryd.func52,Tryd.ntmps52
  go_wp2
  go_ret
  refine ⟨?_,rfl⟩
  kernel_rfl
 ·rw [show ((2 ^ 22:Nat):Int)=4194304 by decide]
  go_enter Tryd.func52,Tryd.ntmps52
  go_wp2
  go_ret
  refine ⟨?_,rfl⟩
  kernel_rfl
end Go.Proofs.YtfhimmnoipfiaaaDoor.sets
namespace Go.Proofs.YtfhimmnoipfiaaaDoor.lastp
open Go.ChangeShapes Go.WideShapes Go.ChangeAt Go.RowKit
open bytes places sets
set_option maxHeartbeats 2000000 in
theorem last_none (w:World) :
  Calls Tryd.prog 32 #[psV 0] w fun r w'=>r=.returned (.int .i64 (-1))∧Below w.heap.size w w':=by
 unfold psV
 go_enter Tryd.func32,Tryd.ntmps32
 go_wp2
 go_loop [3] (fun iv=>iv=.int .i64 1∨iv=.int .i64 0∨iv=.int .i64 (-1)) (fun iv=>(intOf iv+1).toNat)
 case atStart=>exact .inl rfl
 case round =>
  rcases hrel with rfl | rfl | rfl
  ·go_wp2
   go_round
   case rel=>exact .inr (.inl rfl)
   case measure=>simp [intOf]
  ·go_wp2
   go_round
   case rel=>exact .inr (.inr rfl)
   case measure=>simp [intOf]
  ·go_wp2
   go_ret
   exact ⟨rfl,(Below.refl _ _).alloc (Nat.le_refl _) _⟩
set_option maxHeartbeats 2000000 in
theorem last_one (w:World) (e:Nat) (he:e≤22) :
  Calls Tryd.prog 32 #[psV (2 ^ e)] w fun r w'=>r=.returned (.int .i64 (e:Int))∧Below w.heap.size w w':=by
 unfold psV
 have HL:=hide (fun W=>len_any W e he)
 have hp:0<2 ^ e:=Nat.pow_pos (by decide)
 generalize 2 ^ e=b at HL hp ⊢
 have hne:((b:Int) != 0)=true:=by simp;omega
 go_enter Tryd.func32,Tryd.ntmps32
 go_wp2
 go_loop [3] (fun iv=>iv=.int .i64 1∨iv=.int .i64 0) (fun iv=>(intOf iv+1).toNat)
 case atStart=>exact .inl rfl
 case round =>
  rcases hrel with rfl | rfl
  ·go_wp2
   go_round
   case rel=>exact .inr rfl
   case measure=>simp [intOf]
  ·go_wp2_with fail
   refine (HL.out _).mono ?_
   rintro r w1 ⟨rfl,hw1⟩
   replace hw1:=hw1.symm
   subst hw1
   clear HL
   go_wp2
   go_ret
   refine ⟨?_,(Below.refl _ _).alloc (Nat.le_refl _) _⟩
   exact ret_int (by omega)
end Go.Proofs.YtfhimmnoipfiaaaDoor.lastp
namespace Go.Proofs.YtfhimmnoipfiaaaDoor.rex
inductive Tr where
 | char (b:Int)
 | any
 | set (s:List Int)
 | beg
 | fin
 | group (n:Nat) (k:Tr)
 | cat (ks:List Tr)
 | alt (ks:List Tr)
 | rep (n:Nat) (m:Option Nat) (k:Tr)
abbrev B2:=Nat→Nat→Bool
abbrev Sp:=Nat→Nat→List Int→List Int
def exIn (lo hi:Nat) (f:Nat→Bool):Bool:=(List.range' lo (hi+1-lo)).any f
theorem exIn_iff {lo hi:Nat} {f:Nat→Bool}:exIn lo hi f=true↔∃ k,lo≤k∧k≤hi∧f k=true:=by
 simp only [exIn,List.any_eq_true,List.mem_range'_1]
 constructor
 ·rintro ⟨k,h,hf⟩;exact ⟨k,by omega,by omega,hf⟩
 ·rintro ⟨k,h1,h2,hf⟩;exact ⟨k,by omega,hf⟩
def far (lo:Nat) (f:Nat→Bool):Nat→Option Nat
 | 0=>if lo=0∧f 0=true then some 0 else none
 | h+1=>if h+1<lo then none else if f (h+1)=true then some (h+1) else far lo f h
theorem far_some {lo:Nat} {f:Nat→Bool}:∀ {hi k:Nat},far lo f hi=some k→lo≤k∧k≤hi∧f k=true∧∀ x,k<x→x≤hi→f x=false
 | 0,k,h=>by
  unfold far at h
  split at h
  ·next c =>
   obtain ⟨rfl,c2⟩:=c
   injection h with h;subst h
   exact ⟨Nat.le_refl _,Nat.le_refl _,c2,fun x h1 h2=>by omega⟩
  ·cases h
 | hi+1,k,h=>by
  unfold far at h
  split at h
  ·cases h
  ·split at h
   ·next c c2 =>
    injection h with h;subst h
    exact ⟨by omega,Nat.le_refl _,c2,fun x h1 h2=>by omega⟩
   ·next c c2 =>
    have:=far_some h
    refine ⟨this.1,by omega,this.2.2.1,fun x h1 h2 => ?_⟩
    by_cases e:x=hi+1
    ·subst e;simpa using c2
    ·exact this.2.2.2 x h1 (by omega)
theorem far_none {lo:Nat} {f:Nat→Bool}:∀ {hi:Nat},far lo f hi=none→∀ x,lo≤x→x≤hi→f x=false
 | 0,h,x,h1,h2=>by
  unfold far at h
  split at h
  ·cases h
  ·next c =>
   have:x=0:=by omega
   subst this
   cases hf:f 0
   ·rfl
   ·exact absurd ⟨by omega,hf⟩ c
 | hi+1,h,x,h1,h2=>by
  unfold far at h
  split at h
  ·omega
  ·split at h
   ·cases h
   ·next c c2 =>
    by_cases e:x=hi+1
    ·subst e;simpa using c2
    ·exact far_none h x h1 (by omega)
theorem far_eq_some {lo hi k:Nat} {f:Nat→Bool} (h1:lo≤k) (h2:k≤hi) (h3:f k=true) (h4:∀ x,k<x→x≤hi→f x=false):far lo f hi=some k:=by
 cases h:far lo f hi with
 | none=>rw [far_none h k h1 h2] at h3;cases h3
 | some y =>
  have:=far_some h
  by_cases c:y=k
  ·rw [c]
  ·by_cases d:y<k
   ·rw [this.2.2.2 k d h2] at h3;cases h3
   ·have:=this.2.2.1;rw [h4 y (by omega) (by omega)] at this;cases this
theorem far_exIn {lo hi:Nat} {f:Nat→Bool} (h:exIn lo hi f=true):∃ k,far lo f hi=some k:=by
 cases e:far lo f hi with
 | some k=>exact ⟨k,rfl⟩
 | none =>
  obtain ⟨k,h1,h2,h3⟩:=exIn_iff.1 h
  rw [far_none e k h1 h2] at h3;cases h3
def seqB (a b:B2):B2:=fun i j=>exIn i j fun x=>a i x && b x j
def seqS (a b:B2) (s t:Sp):Sp:=fun i j out=>match far i (fun x=>a i x && b x j) j with
 | some k=>t k j (s i k out)
 | none=>out
def emptyB:B2:=fun i j=>decide (i=j)
def idS:Sp:=fun _ _ out=>out
def upTo (a:B2):Nat→B2
 | 0=>emptyB
 | t+1=>fun i j=>decide (i=j) || exIn (i+1) j fun x=>a i x && upTo a t x j
def upToS (a:B2) (s:Sp):Nat→Sp
 | 0=>idS
 | t+1=>fun i j out=>if i<j then (match far (i+1) (fun x=>a i x && upTo a t x j) j with
  | some k=>upToS a s t k j (s i k out)
  | none=>out) else out
def pw (a b:B2):Nat→B2
 | 0=>b
 | n+1=>seqB a (pw a b n)
def pwS (a b:B2) (s t:Sp):Nat→Sp
 | 0=>t
 | n+1=>seqS a (pw a b n) s (pwS a b s t n)
def moreB (L:Nat) (n:Nat) (m:Option Nat) (a:B2):B2:=match m with
 | none=>upTo a L
 | some m=>upTo a (m-n)
def moreS (L:Nat) (n:Nat) (m:Option Nat) (a:B2) (s:Sp):Sp:=match m with
 | none=>upToS a s L
 | some m=>upToS a s (m-n)
mutual
def mt (ts:List Int):Tr→B2
 | .char b=>fun i j=>decide (j=i+1) && decide (ts[i]?=some b)
 | .any=>fun i j=>decide (j=i+1) && decide (i<ts.length)
 | .set s=>fun i j=>decide (j=i+1) && (match ts[i]? with | some c=>s.contains c | none=>false)
 | .beg=>fun i j=>decide (i=0) && decide (j=0)
 | .fin=>fun i j=>decide (i=ts.length) && decide (j=i)
 | .group _ k=>mt ts k
 | .cat ks=>mtC ts ks
 | .alt ks=>mtA ts ks
 | .rep n m k=>pw (mt ts k) (moreB ts.length n m (mt ts k)) n
def mtC (ts:List Int):List Tr→B2
 | []=>emptyB
 | k::ks=>seqB (mt ts k) (mtC ts ks)
def mtA (ts:List Int):List Tr→B2
 | []=>fun _ _=>false
 | k::ks=>fun i j=>mt ts k i j || mtA ts ks i j
end
mutual
def sp (ts:List Int):Tr→Sp
 | .group n k=>fun i j out=>sp ts k i j ((out.set (2*n) i).set (2*n+1) j)
 | .cat ks=>spC ts ks
 | .alt ks=>spA ts ks
 | .rep n m k=>pwS (mt ts k) (moreB ts.length n m (mt ts k)) (sp ts k) (moreS ts.length n m (mt ts k) (sp ts k)) n
 | _=>idS
def spC (ts:List Int):List Tr→Sp
 | []=>idS
 | k::ks=>seqS (mt ts k) (mtC ts ks) (sp ts k) (spC ts ks)
def spA (ts:List Int):List Tr→Sp
 | []=>idS
 | k::ks=>fun i j out=>if mt ts k i j=true then sp ts k i j out else spA ts ks i j out
end
theorem exIn_congr {lo hi:Nat} {f g:Nat→Bool} (h:∀ x,lo≤x→x≤hi→f x=g x):exIn lo hi f=exIn lo hi g:=by
 rw [Bool.eq_iff_iff,exIn_iff,exIn_iff]
 constructor
 ·rintro ⟨k,h1,h2,h3⟩;exact ⟨k,h1,h2,by rw [←h k h1 h2];exact h3⟩
 ·rintro ⟨k,h1,h2,h3⟩;exact ⟨k,h1,h2,by rw [h k h1 h2];exact h3⟩
theorem far_congr {lo:Nat} {f g:Nat→Bool}:∀ {hi:Nat},(∀ x,lo≤x→x≤hi→f x=g x)→far lo f hi=far lo g hi
 | 0,h=>by
  unfold far
  by_cases c:lo=0
  ·rw [h 0 (by omega) (by omega)]
  ·simp [c]
 | hi+1,h=>by
  unfold far
  by_cases c:hi+1<lo
  ·simp [c]
  ·rw [if_neg c,if_neg c,h (hi+1) (by omega) (by omega),far_congr (fun x h1 h2=>h x h1 (by omega))]
theorem upTo_le (a:B2):∀ (t i j:Nat),upTo a t i j=true→i≤j
 | 0,i,j,h=>by simp [upTo,emptyB] at h;omega
 | t+1,i,j,h=>by
  simp only [upTo,Bool.or_eq_true,decide_eq_true_eq,exIn_iff] at h
  rcases h with h | ⟨k,h1,h2,_⟩ <;> omega
theorem upTo_more (a:B2):∀ (t i j:Nat),j-i≤t→upTo a (t+1) i j=upTo a t i j
 | 0,i,j,h=>by
  simp only [upTo,emptyB]
  by_cases c:i=j
  ·simp [c]
  ·have:exIn (i+1) j (fun x=>a i x && decide (x=j))=false:=by
    rw [←Bool.not_eq_true,exIn_iff];rintro ⟨k,h1,h2,_⟩;omega
   rw [this];simp
 | t+1,i,j,h=>by
  show (decide (i=j) || exIn (i+1) j fun x=>a i x && upTo a (t+1) x j)=(decide (i=j) || exIn (i+1) j fun x=>a i x && upTo a t x j)
  rw [exIn_congr (f:=fun x=>a i x && upTo a (t+1) x j) (g:=fun x=>a i x && upTo a t x j) fun x h1 h2=>by rw [upTo_more a t x j (by omega)]]
theorem upTo_enough (a:B2) (i j:Nat):∀ (d t:Nat),j-i≤t→upTo a (t+d) i j=upTo a t i j
 | 0,t,h=>rfl
 | d+1,t,h=>by rw [←Nat.add_assoc,upTo_more a (t+d) i j (by omega),upTo_enough a i j d t h]
theorem upTo_same (a:B2) {i j t u:Nat} (h1:j-i≤t) (h2:j-i≤u):upTo a t i j=upTo a u i j:=by
 rcases Nat.le_total t u with h | h
 ·obtain ⟨d,rfl⟩:=Nat.le.dest h;exact (upTo_enough a i j d t h1).symm
 ·obtain ⟨d,rfl⟩:=Nat.le.dest h;exact upTo_enough a i j d u h2
theorem upToS_more (a:B2) (s:Sp):∀ (t i j:Nat) (out:List Int),j-i≤t→upToS a s (t+1) i j out=upToS a s t i j out
 | 0,i,j,out,h=>by
  simp only [upToS,idS]
  rw [if_neg (by omega)]
 | t+1,i,j,out,h=>by
  rw [upToS,upToS]
  by_cases c:i<j
  ·simp only [if_pos c]
   rw [far_congr (f:=fun x=>a i x && upTo a (t+1) x j) (g:=fun x=>a i x && upTo a t x j) (fun x h1 h2=>by rw [upTo_more a t x j (by omega)])]
   split
   ·next k hk=>exact upToS_more a s t k j _ (by have:=far_some hk;omega)
   ·rfl
  ·simp only [if_neg c]
theorem upToS_enough (a:B2) (s:Sp) (i j:Nat) (out:List Int):∀ (d t:Nat),j-i≤t→upToS a s (t+d) i j out=upToS a s t i j out
 | 0,t,h=>rfl
 | d+1,t,h=>by rw [←Nat.add_assoc,upToS_more a s (t+d) i j out (by omega),upToS_enough a s i j out d t h]
theorem upToS_same (a:B2) (s:Sp) {i j t u:Nat} (out:List Int) (h1:j-i≤t) (h2:j-i≤u):upToS a s t i j out=upToS a s u i j out:=by
 rcases Nat.le_total t u with h | h
 ·obtain ⟨d,rfl⟩:=Nat.le.dest h;exact (upToS_enough a s i j out d t h1).symm
 ·obtain ⟨d,rfl⟩:=Nat.le.dest h;exact upToS_enough a s i j out d u h2
theorem upTo_mono (a:B2):∀ (t i j:Nat),upTo a t i j=true→upTo a (t+1) i j=true
 | 0,i,j,h=>by
  simp only [upTo,emptyB,decide_eq_true_eq] at h ⊢
  simp [h]
 | t+1,i,j,h=>by
  rw [upTo] at h ⊢
  simp only [Bool.or_eq_true,decide_eq_true_eq,exIn_iff,Bool.and_eq_true] at h ⊢
  rcases h with h | ⟨k,h1,h2,h3,h4⟩
  ·exact .inl h
  ·exact .inr ⟨k,h1,h2,h3,upTo_mono a t k j h4⟩
def mayB (a:B2):Nat→B2
 | 0=>emptyB
 | t+1=>fun i j=>decide (i=j) || seqB a (mayB a t) i j
def mayS (a:B2) (s:Sp):Nat→Sp
 | 0=>idS
 | t+1=>fun i j out=>if i<j then seqS a (mayB a t) s (mayS a s t) i j out else out
theorem upTo_step (a:B2) {t i j:Nat} (h:i<j) (h2:upTo a t i j=true):∃ k,i<k∧k≤j∧a i k=true∧upTo a t k j=true:=by
 cases t with
 | zero=>simp only [upTo,emptyB,decide_eq_true_eq] at h2;omega
 | succ t =>
  rw [upTo] at h2
  simp only [Bool.or_eq_true,decide_eq_true_eq,exIn_iff,Bool.and_eq_true] at h2
  rcases h2 with h2 | ⟨k,h3,h4,h5,h6⟩
  ·omega
  ·exact ⟨k,h3,h4,h5,upTo_mono a t k j h6⟩
theorem mayB_eq (a:B2):∀ (t i j:Nat),mayB a t i j=upTo a t i j
 | 0,i,j=>rfl
 | t+1,i,j=>by
  rw [mayB,upTo,Bool.eq_iff_iff]
  simp only [Bool.or_eq_true,decide_eq_true_eq,seqB,exIn_iff,Bool.and_eq_true,mayB_eq a t]
  constructor
  ·rintro (h | ⟨k,h1,h2,h3,h4⟩)
   ·exact .inl h
   ·by_cases c:i=j
    ·exact .inl c
    ·by_cases d:k=i
     ·subst d
      obtain ⟨x,h5,h6,h7,h8⟩:=upTo_step a (by omega) h4
      exact .inr ⟨x,by omega,h6,h7,h8⟩
     ·exact .inr ⟨k,by omega,h2,h3,h4⟩
  ·rintro (h | ⟨k,h1,h2,h3,h4⟩)
   ·exact .inl h
   ·exact .inr ⟨k,by omega,h2,h3,h4⟩
theorem far_up {lo hi:Nat} {f:Nat→Bool} (h:∃ k,lo+1≤k∧k≤hi∧f k=true):far lo f hi=far (lo+1) f hi:=by
 obtain ⟨y,hy⟩:=far_exIn (lo:=lo+1) (hi:=hi) (f:=f) (exIn_iff.2 h)
 rw [hy]
 have:=far_some hy
 exact far_eq_some (by omega) this.2.1 this.2.2.1 this.2.2.2
theorem mayS_eq (a:B2) (s:Sp):∀ (t i j:Nat) (out:List Int),upTo a t i j=true→mayS a s t i j out=upToS a s t i j out
 | 0,i,j,out,_=>rfl
 | t+1,i,j,out,h=>by
  rw [mayS,upToS]
  by_cases c:i<j
  ·simp only [if_pos c,seqS]
   rw [far_congr (f:=fun x=>a i x && mayB a t x j) (g:=fun x=>a i x && upTo a t x j) (fun x _ _=>by rw [mayB_eq])]
   rw [upTo] at h
   simp only [Bool.or_eq_true,decide_eq_true_eq,exIn_iff] at h
   have h:∃ k,i+1≤k∧k≤j∧(a i k && upTo a t k j)=true:=by
    rcases h with h | h
    ·omega
    ·exact h
   rw [far_up h]
   obtain ⟨y,hy⟩:=far_exIn (exIn_iff.2 h)
   rw [hy]
   have:=(far_some hy).2.2.1
   simp only [Bool.and_eq_true] at this
   exact mayS_eq a s t y j _ this.2
  ·simp only [if_neg c]
theorem seqB_empty (a:B2) {i j:Nat} (h:i≤j):seqB a emptyB i j=a i j:=by
 rw [Bool.eq_iff_iff]
 simp only [seqB,emptyB,exIn_iff,Bool.and_eq_true,decide_eq_true_eq]
 constructor
 ·rintro ⟨k,_,_,h3,rfl⟩;exact h3
 ·intro h3;exact ⟨j,h,Nat.le_refl _,h3,rfl⟩
theorem seqS_empty (a:B2) (s:Sp) {i j:Nat} (out:List Int) (h:i≤j) (h2:a i j=true):seqS a emptyB s idS i j out=s i j out:=by
 have:far i (fun x=>a i x && emptyB x j) j=some j:=far_eq_some h (Nat.le_refl _) (by simp [emptyB,h2]) (fun x h3 h4=>by omega)
 simp only [seqS,this,idS]
def mask (L:Nat) (f:Nat→Bool):Nat:=((List.range (L+1)).map fun j=>if f j then 2 ^ j else 0).sum
end Go.Proofs.YtfhimmnoipfiaaaDoor.rex
namespace Go.Proofs.YtfhimmnoipfiaaaDoor.rex
def mk:Nat→(Nat→Bool)→Nat
 | 0,f=>(f 0).toNat
 | L+1,f=>mk L f+(f (L+1)).toNat*2 ^ (L+1)
theorem mk_lt:∀ (L:Nat) (f:Nat→Bool),mk L f<2 ^ (L+1)
 | 0,f=>by unfold mk;cases f 0 <;> decide
 | L+1,f=>by
  have:=mk_lt L f
  unfold mk
  rw [Nat.pow_succ 2 (L+1)]
  cases f (L+1) <;> simp <;> omega
theorem bit_mk:∀ (L:Nat) (f:Nat→Bool) (j:Nat),(mk L f).testBit j=(decide (j≤L) && f j)
 | 0,f,j=>by
  unfold mk
  cases j with
  | zero=>cases f 0 <;> simp
  | succ j=>cases f 0 <;> simp [Nat.testBit_succ]
 | L+1,f,j=>by
  have hl:=mk_lt L f
  unfold mk
  rw [Nat.add_comm,Nat.mul_comm,Nat.testBit_two_pow_mul_add _ hl]
  by_cases h:j<L+1
  ·rw [if_pos h,bit_mk L f j]
   have h1:j≤L:=by omega
   have h2:j≤L+1:=by omega
   simp [h1,h2]
  ·rw [if_neg h]
   by_cases e:j=L+1
   ·subst e
    simp
    cases f (L+1) <;> rfl
   ·have h3:¬ j≤L+1:=by omega
    obtain ⟨d,rfl⟩:∃ d,j=L+1+(d+1):=⟨j-(L+1)-1,by omega⟩
    rw [show L+1+(d+1)-(L+1)=d+1 by omega]
    cases f (L+1) <;> simp [Nat.testBit_succ,h3]
theorem mk_ext {L:Nat} {f g:Nat→Bool} (h:∀ j,j≤L→f j=g j):mk L f=mk L g:=by
 refine Nat.eq_of_testBit_eq fun j => ?_
 rw [bit_mk,bit_mk]
 by_cases c:j≤L
 ·rw [h j c]
 ·simp [c]
theorem mk_of {L x:Nat} (h:x<2 ^ (L+1)):mk L x.testBit=x:=by
 refine Nat.eq_of_testBit_eq fun j => ?_
 rw [bit_mk]
 by_cases c:j≤L
 ·simp [c]
 ·have:x.testBit j=false:=Nat.testBit_lt_two_pow (Nat.lt_of_lt_of_le h (Nat.pow_le_pow_right (by decide) (by omega)))
  simp [c,this]
theorem low:∀ (r:Nat),0<r→∃ e q,r=2 ^ e+2 ^ (e+1)*q:=by
 intro r
 induction r using Nat.strongRecOn with
 | ind r ih =>
  intro h
  by_cases c:r % 2=1
  ·exact ⟨0,r / 2,by simp;omega⟩
  ·obtain ⟨e,q,hq⟩:=ih (r / 2) (by omega) (by omega)
   refine ⟨e+1,q,?_⟩
   have:r=2*(r / 2):=by omega
   rw [this,hq,Nat.mul_add,←Nat.pow_succ',←Nat.mul_assoc,←Nat.pow_succ']
theorem bit_low (e q j:Nat):(2 ^ e+2 ^ (e+1)*q).testBit j=(decide (j=e) || (decide (e<j) && q.testBit (j-(e+1)))):=by
 rw [Nat.add_comm,Nat.testBit_two_pow_mul_add _ (Nat.pow_lt_pow_right (by decide) (Nat.lt_succ_self e))]
 by_cases h:j<e+1
 ·rw [if_pos h]
  by_cases c:j=e
  ·subst c;simp
  ·rw [Nat.testBit_two_pow_of_ne (fun x=>c x.symm)]
   have:¬ e<j:=by omega
   simp [c,this]
 ·rw [if_neg h]
  have h1:¬ j=e:=by omega
  have h2:e<j:=by omega
  simp [h1,h2]
theorem and_neg {r e q:Nat} (hr:r=2 ^ e+2 ^ (e+1)*q) (h64:r<2 ^ 64):r &&& (2 ^ 64-r)=2 ^ e:=by
 have he:e<64:=by
  rcases Nat.lt_or_ge e 64 with h | h
  ·exact h
  ·have:2 ^ 64≤2 ^ e:=Nat.pow_le_pow_right (by decide) h
   omega
 have hs:(2:Nat) ^ 64=2 ^ (e+1)*2 ^ (63-e):=by rw [←Nat.pow_add];congr 1;omega
 have hq:q<2 ^ (63-e):=by
  rcases Nat.lt_or_ge q (2 ^ (63-e)) with h | h
  ·exact h
  ·have:=Nat.mul_le_mul_left (2 ^ (e+1)) h
   have h0:0<2 ^ e:=Nat.pow_pos (by decide)
   omega
 have h2:2 ^ 64-r=2 ^ e+2 ^ (e+1)*(2 ^ (63-e)-(q+1)):=by
  rw [hr,Nat.mul_sub,←hs,Nat.mul_add,Nat.mul_one,Nat.pow_succ 2 e]
  rw [Nat.pow_succ 2 e] at hr
  have:2 ^ e*2*q+2 ^ e*2≤2 ^ 64:=by
   have:=Nat.mul_le_mul_left (2 ^ (e+1)) (Nat.succ_le_of_lt hq)
   rw [←hs,Nat.mul_succ,Nat.pow_succ 2 e] at this
   exact this
  omega
 rw [h2,hr]
 refine Nat.eq_of_testBit_eq fun j => ?_
 rw [Nat.testBit_and,bit_low,bit_low,Nat.testBit_two_pow]
 by_cases c:j=e
 ·subst c;simp
 ·have c':¬ e=j:=fun x=>c x.symm
  by_cases d:e<j
  ·rw [Nat.testBit_two_pow_sub_succ hq]
   cases q.testBit (j-(e+1)) <;> simp [c,c',d]
  ·simp [c,c',d]
theorem and_pred {r e q:Nat} (hr:r=2 ^ e+2 ^ (e+1)*q):r &&& (r-1)=2 ^ (e+1)*q:=by
 have h0:0<2 ^ e:=Nat.pow_pos (by decide)
 have h1:r-1=2 ^ (e+1)*q+(2 ^ e-1):=by omega
 rw [h1]
 refine Nat.eq_of_testBit_eq fun j => ?_
 have hl:2 ^ e-1<2 ^ (e+1):=by rw [Nat.pow_succ];omega
 rw [Nat.testBit_and,hr,bit_low,Nat.testBit_two_pow_mul_add _ hl,Nat.testBit_two_pow_mul]
 by_cases d:e<j
 ·have d1:¬ j<e+1:=by omega
  have d2:¬ j=e:=by omega
  have d3:e+1≤j:=by omega
  simp [d,d1,d2,d3]
 ·have d1:j<e+1:=by omega
  have d3:¬ e+1≤j:=by omega
  rw [if_pos d1,Nat.testBit_two_pow_sub_one]
  by_cases c:j=e
  ·subst c
   simp
   intro h
   omega
  ·simp [d,d3,c]
def un (A:Nat→Nat):Nat→Nat→Nat
 | 0,_=>0
 | L+1,X=>un A L X ||| (if X.testBit L then A L else 0)
theorem bit_un (A:Nat→Nat) (j:Nat):∀ (L X:Nat),(un A L X).testBit j=true↔∃ x,x<L∧X.testBit x=true∧(A x).testBit j=true
 | 0,X=>by simp [un]
 | L+1,X=>by
  unfold un
  rw [Nat.testBit_or,Bool.or_eq_true,bit_un A j L X]
  constructor
  ·rintro (⟨x,h1,h2,h3⟩|h)
   ·exact ⟨x,by omega,h2,h3⟩
   ·by_cases c:X.testBit L=true
    ·rw [if_pos c] at h;exact ⟨L,by omega,c,h⟩
    ·rw [if_neg c] at h;simp at h
  ·rintro ⟨x,h1,h2,h3⟩
   by_cases c:x=L
   ·subst c;right;rw [if_pos h2];exact h3
   ·left;exact ⟨x,by omega,h2,h3⟩
theorem un_step {A:Nat→Nat} {L r e q:Nat} (hr:r=2 ^ e+2 ^ (e+1)*q) (he:e<L):un A L r=A e ||| un A L (2 ^ (e+1)*q):=by
 refine Nat.eq_of_testBit_eq fun j => ?_
 rw [Bool.eq_iff_iff,Nat.testBit_or,Bool.or_eq_true,bit_un,bit_un]
 constructor
 ·rintro ⟨x,h1,h2,h3⟩
  rw [hr,bit_low] at h2
  by_cases c:x=e
  ·subst c;exact .inl h3
  ·right
   refine ⟨x,h1,?_,h3⟩
   rw [Nat.testBit_two_pow_mul]
   simp [c] at h2
   simp [h2.2,show e+1≤x by omega]
 ·rintro (h | ⟨x,h1,h2,h3⟩)
  ·exact ⟨e,he,by rw [hr,bit_low];simp,h⟩
  ·refine ⟨x,h1,?_,h3⟩
   rw [Nat.testBit_two_pow_mul] at h2
   simp at h2
   rw [hr,bit_low]
   simp [h2.2,show e<x by omega]
theorem un_lt {A:Nat→Nat} {N:Nat} (hA:∀ x,A x<2 ^ N):∀ (L X:Nat),un A L X<2 ^ N
 | 0,X=>by simp [un];exact Nat.pow_pos (by decide)
 | L+1,X=>by
  unfold un
  refine Nat.or_lt_two_pow (un_lt hA L X) ?_
  split
  ·exact hA L
  ·exact Nat.pow_pos (by decide)
theorem lowbit {r e q:Nat} (hr:r=2 ^ e+2 ^ (e+1)*q) {L:Nat} (h:r<2 ^ L):e<L:=by
 rcases Nat.lt_or_ge e L with h' | h'
 ·exact h'
 ·have:=Nat.pow_le_pow_right (n:=2) (by decide) h'
  omega
end Go.Proofs.YtfhimmnoipfiaaaDoor.rex
namespace Go.Proofs.YtfhimmnoipfiaaaDoor.rex
def Mono (a:B2):Prop:=∀ i j,a i j=true→i≤j
theorem mono_seq {a b:B2} (ha:Mono a) (hb:Mono b):Mono (seqB a b):=by
 intro i j h
 obtain ⟨k,h1,h2,_⟩:=exIn_iff.1 h
 omega
theorem mono_seq' (a b:B2):Mono (seqB a b):=by
 intro i j h
 obtain ⟨k,h1,h2,_⟩:=exIn_iff.1 h
 omega
theorem mono_empty:Mono emptyB:=by intro i j h;simp [emptyB] at h;omega
theorem mono_upTo (a:B2) (t:Nat):Mono (upTo a t):=fun i j h=>upTo_le a t i j h
def seqL:List B2→B2
 | []=>emptyB
 | a::r=>seqB a (seqL r)
def seqLS:List (B2×Sp)→Sp
 | []=>idS
 | (a,s)::r=>seqS a (seqL (r.map (·.1))) s (seqLS r)
theorem mono_seqL:∀ l,Mono (seqL l)
 | []=>mono_empty
 | a::r=>mono_seq' _ _
def pl (L:Nat) (a:B2) (p:Nat):Nat:=mk L (a p)
theorem pl_lt (L:Nat) (a:B2) (p:Nat):pl L a p<2 ^ (L+1):=mk_lt _ _
theorem bit_pl (L:Nat) (a:B2) (p j:Nat):(pl L a p).testBit j=(decide (j≤L) && a p j):=bit_mk _ _ _
theorem pl_empty {L p:Nat} (h:p≤L):pl L emptyB p=2 ^ p:=by
 refine Nat.eq_of_testBit_eq fun j => ?_
 rw [bit_pl,Nat.testBit_two_pow]
 unfold emptyB
 by_cases c:p=j
 ·subst c;simp [h]
 ·simp [c]
theorem pl_last {a:B2} (ha:Mono a) (L p:Nat):pl L (seqL [a]) p=pl L a p:=by
 refine mk_ext fun j hj => ?_
 by_cases c:p≤j
 ·exact seqB_empty a c
 ·show seqB a emptyB p j=a p j
  have h1:a p j=false:=by
   cases h:a p j with
   | false=>rfl
   | true=>exact absurd (ha _ _ h) c
  rw [h1,←Bool.not_eq_true]
  intro h
  exact c (mono_seq' _ _ _ _ h)
theorem pl_seq {a b:B2} (ha:Mono a) (hb:Mono b) {L p:Nat} (hp:p≤L):pl L (seqB a b) p=un (pl L b) (L+1) (pl L a p):=by
 refine Nat.eq_of_testBit_eq fun j => ?_
 rw [Bool.eq_iff_iff,bit_un,bit_pl]
 simp only [Bool.and_eq_true,decide_eq_true_eq,bit_pl,seqB,exIn_iff]
 constructor
 ·rintro ⟨h,x,h1,h2,h3,h4⟩
  exact ⟨x,by omega,⟨by omega,h3⟩,h,h4⟩
 ·rintro ⟨x,h1,⟨h2,h3⟩,h4,h5⟩
  exact ⟨h4,x,ha _ _ h3,hb _ _ h5,h3,h5⟩
def plx (L:Nat) (a:B2) (p:Nat):Nat:=mk L (fun j=>a p j && decide (j≠p))
theorem plx_lt (L:Nat) (a:B2) (p:Nat):plx L a p<2 ^ (L+1):=mk_lt _ _
theorem pl_once {a:B2} (ha:Mono a) (t:Nat) {L p:Nat} (hp:p≤L):pl L (upTo a (t+1)) p=2 ^ p ||| un (pl L (upTo a t)) (L+1) (plx L a p):=by
 refine Nat.eq_of_testBit_eq fun j => ?_
 rw [Bool.eq_iff_iff,Nat.testBit_or,Bool.or_eq_true,bit_un,bit_pl,Nat.testBit_two_pow]
 simp only [Bool.and_eq_true,decide_eq_true_eq,bit_pl,plx,bit_mk,upTo,Bool.or_eq_true,exIn_iff]
 constructor
 ·rintro ⟨h,rfl | ⟨x,h1,h2,h3,h4⟩⟩
  ·exact .inl rfl
  ·exact .inr ⟨x,by omega,⟨by omega,h3,by omega⟩,h,h4⟩
 ·rintro (rfl | ⟨x,h1,⟨h2,h3,h4⟩,h5,h6⟩)
  ·exact ⟨hp,.inl rfl⟩
  ·have:=ha _ _ h3
   have:=upTo_le a t _ _ h6
   exact ⟨h5,.inr ⟨x,by omega,by omega,h3,h6⟩⟩
theorem pl_upTo {a:B2} {L t u p:Nat} (ht:L-p≤t) (hu:L-p≤u):pl L (upTo a t) p=pl L (upTo a u) p:=by
 refine mk_ext fun j hj=>upTo_same a (by omega) (by omega)
theorem pl_or {a b:B2} (L p:Nat):pl L (fun i j=>a i j || b i j) p=pl L a p ||| pl L b p:=by
 refine Nat.eq_of_testBit_eq fun j => ?_
 rw [Nat.testBit_or,bit_pl,bit_pl,bit_pl]
 cases decide (j≤L) <;> simp
def orL:List B2→B2
 | []=>fun _ _=>false
 | a::r=>fun i j=>a i j || orL r i j
theorem mono_orL:∀ l:List B2,(∀ a∈l,Mono a)→Mono (orL l)
 | [],_=>by intro i j h;cases h
 | a::r,h=>by
  intro i j hh
  simp only [orL,Bool.or_eq_true] at hh
  rcases hh with hh | hh
  ·exact h a (by simp) _ _ hh
  ·exact mono_orL r (fun b hb=>h b (by simp [hb])) _ _ hh
def orLS:List (B2×Sp)→Sp
 | []=>idS
 | (a,s)::r=>fun i j out=>if a i j=true then s i j out else orLS r i j out
theorem mtC_eq (ts:List Int):∀ ks,mtC ts ks=seqL (ks.map (mt ts))
 | []=>by simp [mtC,seqL]
 | k::ks=>by simp [mtC,seqL,mtC_eq ts ks]
theorem mtA_eq (ts:List Int):∀ ks,mtA ts ks=orL (ks.map (mt ts))
 | []=>by simp [mtA,orL]
 | k::ks=>by simp [mtA,orL,mtA_eq ts ks]
theorem spC_eq (ts:List Int):∀ ks,spC ts ks=seqLS (ks.map fun k=>(mt ts k,sp ts k))
 | []=>by simp [spC,seqLS]
 | k::ks=>by simp [spC,seqLS,spC_eq ts ks,mtC_eq];rfl
theorem spA_eq (ts:List Int):∀ ks,spA ts ks=orLS (ks.map fun k=>(mt ts k,sp ts k))
 | []=>by simp [spA,orLS]
 | k::ks=>by simp [spA,orLS,spA_eq ts ks]
theorem pw_eq {a b:B2} (hb:Mono b):∀ (n i j:Nat),pw a b n i j=seqL (List.replicate n a++[b]) i j
 | 0,i,j=>by
  show b i j=seqB b emptyB i j
  by_cases c:i≤j
  ·exact (seqB_empty b c).symm
  ·have h1:b i j=false:=by
    cases h:b i j with
    | false=>rfl
    | true=>exact absurd (hb _ _ h) c
   have h2:seqB b emptyB i j=false:=by
    cases h:seqB b emptyB i j with
    | false=>rfl
    | true=>exact absurd (mono_seq' _ _ _ _ h) c
   rw [h1,h2]
 | n+1,i,j=>by
  show seqB a (pw a b n) i j=seqB a (seqL (List.replicate n a++[b])) i j
  exact exIn_congr fun x _ _=>by rw [pw_eq hb n x j]
theorem map_rep {α β:Type} (f:α→β) (x:α) (y:α) (n:Nat):(List.replicate n x++[y]).map f=List.replicate n (f x)++[f y]:=by simp
theorem pwS_eq {a b:B2} {s t:Sp} (hb:Mono b):∀ (n i j:Nat) (out:List Int),i≤j→pw a b n i j=true→pwS a b s t n i j out=seqLS (List.replicate n (a,s)++[(b,t)]) i j out
 | 0,i,j,out,hij,h=>(seqS_empty b t out hij h).symm
 | n+1,i,j,out,hij,h=>by
  show seqS a (pw a b n) s (pwS a b s t n) i j out=seqS a (seqL ((List.replicate n (a,s)++[(b,t)]).map (·.1))) s (seqLS (List.replicate n (a,s)++[(b,t)])) i j out
  rw [map_rep]
  unfold seqS
  rw [far_congr (f:=fun x=>a i x && pw a b n x j) (g:=fun x=>a i x && seqL (List.replicate n a++[b]) x j) (fun x _ _=>by rw [pw_eq hb n x j])]
  have hf:exIn i j (fun x=>a i x && seqL (List.replicate n a++[b]) x j)=true:=by
   rw [←exIn_congr (f:=fun x=>a i x && pw a b n x j) (fun x _ _=>by rw [pw_eq hb n x j])]
   exact h
  obtain ⟨k,hk⟩:=far_exIn hf
  have h3:=far_some hk
  simp only [Bool.and_eq_true] at h3
  simp only [hk]
  exact pwS_eq hb n k j _ h3.2.1 (by rw [pw_eq hb];exact h3.2.2.1.2)
mutual
theorem mono_mt (ts:List Int):∀ t,Mono (mt ts t)
 | .char b=>by intro i j h;simp [mt] at h;omega
 | .any=>by intro i j h;simp [mt] at h;omega
 | .set s=>by intro i j h;simp only [mt,Bool.and_eq_true,decide_eq_true_eq] at h;omega
 | .beg=>by intro i j h;simp [mt] at h;omega
 | .fin=>by intro i j h;simp [mt] at h;omega
 | .group n k=>by intro i j h;exact mono_mt ts k i j (by simpa [mt] using h)
 | .cat ks=>by
  intro i j h
  rw [mt,mtC_eq] at h
  exact mono_seqL _ i j h
 | .alt ks=>by
  intro i j h
  rw [mt] at h
  exact mono_mtA ts ks i j h
 | .rep n m k=>by
  intro i j h
  rw [mt] at h
  cases n with
  | zero =>
   simp only [pw,moreB] at h
   cases m with
   | none=>exact upTo_le _ _ _ _ h
   | some m=>exact upTo_le _ _ _ _ h
  | succ n=>exact mono_seq' _ _ i j h
theorem mono_mtA (ts:List Int):∀ ks,Mono (mtA ts ks)
 | []=>by intro i j h;simp [mtA] at h
 | k::ks=>by
  intro i j h
  simp only [mtA,Bool.or_eq_true] at h
  rcases h with h | h
  ·exact mono_mt ts k i j h
  ·exact mono_mtA ts ks i j h
end
theorem mono_moreB (L n:Nat) (m:Option Nat) (a:B2):Mono (moreB L n m a):=by
 cases m with
 | none=>exact mono_upTo _ _
 | some m=>exact mono_upTo _ _
end Go.Proofs.YtfhimmnoipfiaaaDoor.rex
namespace Go.Proofs.YtfhimmnoipfiaaaDoor.tz
open Go.ChangeShapes Go.WideShapes Go.ChangeAt Go.RowKit
open bytes places sets rex
def tabL:List Nat:=[0,1,56,2,57,49,28,3,61,58,42,50,38,29,17,4,62,47,59,36,45,43,51,22,53,39,33,30,24,18,12,5,63,55,48,27,60,41,37,16,46,35,44,21,52,32,23,11,54,26,40,15,34,20,31,10,25,14,19,9,13,8,7,6]
def TabIn (w:World):Prop:=∀ j,j<64→w.cell? ⟨0,j,none⟩=some (.int .u8 (tabL.getD j 0:Nat))
theorem TabIn.below {w w':World} {B:Nat} (h:TabIn w) (hb:Below B w w') (hB:0<B):TabIn w':=fun j hj=>(hb.cell hB).trans (h j hj)
theorem wrap_neg (r:Nat) (h0:0<r) (h:r<18446744073709551616):IntKind.u64.wrap (-(r:Int))=((18446744073709551616-r:Nat):Int):=by rw [IntKind.wrap_u64];omega
theorem u64_and (a b:Nat) (ha:a<18446744073709551616) (hb:b<18446744073709551616):bits .and .u64 (a:Int) (b:Int)=((a &&& b:Nat):Int):=by
 have hlt:a &&& b<18446744073709551616:=Nat.and_lt_two_pow (n:=64) a hb
 have h1:(BitVec.ofInt 64 (a:Int)).toNat=a:=by rw [BitVec.toNat_ofInt];omega
 have h2:(BitVec.ofInt 64 (b:Int)).toNat=b:=by rw [BitVec.toNat_ofInt];omega
 have key:(BitVec.ofInt 64 (a:Int) &&& BitVec.ofInt 64 (b:Int)).toNat=a &&& b:=by rw [BitVec.toNat_and,h1,h2]
 show IntKind.u64.wrap ((BitVec.ofInt 64 (a:Int) &&& BitVec.ofInt 64 (b:Int)).toNat:Nat)=_
 rw [key,IntKind.wrap_u64]
 omega
theorem neg_and {r e q:Nat} (hr:r=2 ^ e+2 ^ (e+1)*q) (h:r<18446744073709551616):bits .and .u64 (r:Int) (IntKind.u64.wrap (-(r:Int)))=((2 ^ e:Nat):Int):=by
 have h0:0<r:=by have:0<2 ^ e:=Nat.pow_pos (by decide);omega
 rw [wrap_neg r h0 h,u64_and r _ h (by omega)]
 congr 1
 exact and_neg hr h
set_option maxRecDepth 20000 in
set_option maxHeartbeats 8000000 in
theorem tz_any (w:World) (r e q:Nat) (hr:r=2 ^ e+2 ^ (e+1)*q) (hlt:r<2 ^ 23) (hT:TabIn w) :
  Calls Tryd.prog 87 #[.int .u64 (r:Nat)] w fun v w'=>v=.returned (.int .i64 (e:Int))∧w'=w:=by
 have hx:=neg_and hr (by omega)
 have he:e<23:=lowbit hr hlt
 have hne:((r:Int) == 0)=false:=by have:0<2 ^ e:=Nat.pow_pos (by decide);simp;omega
 have hne2:¬ (r:Int)=0:=by simpa using hne
 clear hr hlt
 rcases (show e=0∨e=1∨e=2∨e=3∨e=4∨e=5∨e=6∨e=7∨e=8∨e=9∨e=10∨e=11∨e=12∨e=13∨e=14∨e=15∨e=16∨e=17∨e=18∨e=19∨e=20∨e=21∨e=22 by omega) with rfl | rfl | rfl | rfl | rfl | rfl | rfl | rfl | rfl | rfl | rfl | rfl | rfl | rfl | rfl | rfl | rfl | rfl | rfl | rfl | rfl | rfl | rfl
 ·have hc:w.cell? ⟨0,0,none⟩=some (.int .u8 0):=hT 0 (by decide)
  have hv:bits .and .u64 (r:Int) (IntKind.u64.wrap (-(r:Int)))=1:=hx
  have hw:IntKind.u64.wrap 285870213051353865=285870213051353865:=by decide +kernel
  clear hT hx
  go_enter Tryd.func87,Tryd.ntmps87
  go_wp2
  go_ret
  exact ⟨rfl,rfl⟩
 ·have hc:w.cell? ⟨0,1,none⟩=some (.int .u8 1):=hT 1 (by decide)
  have hv:bits .and .u64 (r:Int) (IntKind.u64.wrap (-(r:Int)))=2:=hx
  have hw:IntKind.u64.wrap 571740426102707730=571740426102707730:=by decide +kernel
  clear hT hx
  go_enter Tryd.func87,Tryd.ntmps87
  go_wp2
  go_ret
  exact ⟨rfl,rfl⟩
 ·have hc:w.cell? ⟨0,3,none⟩=some (.int .u8 2):=hT 3 (by decide)
  have hv:bits .and .u64 (r:Int) (IntKind.u64.wrap (-(r:Int)))=4:=hx
  have hw:IntKind.u64.wrap 1143480852205415460=1143480852205415460:=by decide +kernel
  clear hT hx
  go_enter Tryd.func87,Tryd.ntmps87
  go_wp2
  go_ret
  exact ⟨rfl,rfl⟩
 ·have hc:w.cell? ⟨0,7,none⟩=some (.int .u8 3):=hT 7 (by decide)
  have hv:bits .and .u64 (r:Int) (IntKind.u64.wrap (-(r:Int)))=8:=hx
  have hw:IntKind.u64.wrap 2286961704410830920=2286961704410830920:=by decide +kernel
  clear hT hx
  go_enter Tryd.func87,Tryd.ntmps87
  go_wp2
  go_ret
  exact ⟨rfl,rfl⟩
 ·have hc:w.cell? ⟨0,15,none⟩=some (.int .u8 4):=hT 15 (by decide)
  have hv:bits .and .u64 (r:Int) (IntKind.u64.wrap (-(r:Int)))=16:=hx
  have hw:IntKind.u64.wrap 4573923408821661840=4573923408821661840:=by decide +kernel
  clear hT hx
  go_enter Tryd.func87,Tryd.ntmps87
  go_wp2
  go_ret
  exact ⟨rfl,rfl⟩
 ·have hc:w.cell? ⟨0,31,none⟩=some (.int .u8 5):=hT 31 (by decide)
  have hv:bits .and .u64 (r:Int) (IntKind.u64.wrap (-(r:Int)))=32:=hx
  have hw:IntKind.u64.wrap 9147846817643323680=9147846817643323680:=by decide +kernel
  clear hT hx
  go_enter Tryd.func87,Tryd.ntmps87
  go_wp2
  go_ret
  exact ⟨rfl,rfl⟩
 ·have hc:w.cell? ⟨0,63,none⟩=some (.int .u8 6):=hT 63 (by decide)
  have hv:bits .and .u64 (r:Int) (IntKind.u64.wrap (-(r:Int)))=64:=hx
  have hw:IntKind.u64.wrap 18295693635286647360=18295693635286647360:=by decide +kernel
  clear hT hx
  go_enter Tryd.func87,Tryd.ntmps87
  go_wp2
  go_ret
  exact ⟨rfl,rfl⟩
 ·have hc:w.cell? ⟨0,62,none⟩=some (.int .u8 7):=hT 62 (by decide)
  have hv:bits .and .u64 (r:Int) (IntKind.u64.wrap (-(r:Int)))=128:=hx
  have hw:IntKind.u64.wrap 36591387270573294720=18144643196863743104:=by decide +kernel
  clear hT hx
  go_enter Tryd.func87,Tryd.ntmps87
  go_wp2
  go_ret
  exact ⟨rfl,rfl⟩
 ·have hc:w.cell? ⟨0,61,none⟩=some (.int .u8 8):=hT 61 (by decide)
  have hv:bits .and .u64 (r:Int) (IntKind.u64.wrap (-(r:Int)))=256:=hx
  have hw:IntKind.u64.wrap 73182774541146589440=17842542320017934592:=by decide +kernel
  clear hT hx
  go_enter Tryd.func87,Tryd.ntmps87
  go_wp2
  go_ret
  exact ⟨rfl,rfl⟩
 ·have hc:w.cell? ⟨0,59,none⟩=some (.int .u8 9):=hT 59 (by decide)
  have hv:bits .and .u64 (r:Int) (IntKind.u64.wrap (-(r:Int)))=512:=hx
  have hw:IntKind.u64.wrap 146365549082293178880=17238340566326317568:=by decide +kernel
  clear hT hx
  go_enter Tryd.func87,Tryd.ntmps87
  go_wp2
  go_ret
  exact ⟨rfl,rfl⟩
 ·have hc:w.cell? ⟨0,55,none⟩=some (.int .u8 10):=hT 55 (by decide)
  have hv:bits .and .u64 (r:Int) (IntKind.u64.wrap (-(r:Int)))=1024:=hx
  have hw:IntKind.u64.wrap 292731098164586357760=16029937058943083520:=by decide +kernel
  clear hT hx
  go_enter Tryd.func87,Tryd.ntmps87
  go_wp2
  go_ret
  exact ⟨rfl,rfl⟩
 ·have hc:w.cell? ⟨0,47,none⟩=some (.int .u8 11):=hT 47 (by decide)
  have hv:bits .and .u64 (r:Int) (IntKind.u64.wrap (-(r:Int)))=2048:=hx
  have hw:IntKind.u64.wrap 585462196329172715520=13613130044176615424:=by decide +kernel
  clear hT hx
  go_enter Tryd.func87,Tryd.ntmps87
  go_wp2
  go_ret
  exact ⟨rfl,rfl⟩
 ·have hc:w.cell? ⟨0,30,none⟩=some (.int .u8 12):=hT 30 (by decide)
  have hv:bits .and .u64 (r:Int) (IntKind.u64.wrap (-(r:Int)))=4096:=hx
  have hw:IntKind.u64.wrap 1170924392658345431040=8779516014643679232:=by decide +kernel
  clear hT hx
  go_enter Tryd.func87,Tryd.ntmps87
  go_wp2
  go_ret
  exact ⟨rfl,rfl⟩
 ·have hc:w.cell? ⟨0,60,none⟩=some (.int .u8 13):=hT 60 (by decide)
  have hv:bits .and .u64 (r:Int) (IntKind.u64.wrap (-(r:Int)))=8192:=hx
  have hw:IntKind.u64.wrap 2341848785316690862080=17559032029287358464:=by decide +kernel
  clear hT hx
  go_enter Tryd.func87,Tryd.ntmps87
  go_wp2
  go_ret
  exact ⟨rfl,rfl⟩
 ·have hc:w.cell? ⟨0,57,none⟩=some (.int .u8 14):=hT 57 (by decide)
  have hv:bits .and .u64 (r:Int) (IntKind.u64.wrap (-(r:Int)))=16384:=hx
  have hw:IntKind.u64.wrap 4683697570633381724160=16671319984865165312:=by decide +kernel
  clear hT hx
  go_enter Tryd.func87,Tryd.ntmps87
  go_wp2
  go_ret
  exact ⟨rfl,rfl⟩
 ·have hc:w.cell? ⟨0,51,none⟩=some (.int .u8 15):=hT 51 (by decide)
  have hv:bits .and .u64 (r:Int) (IntKind.u64.wrap (-(r:Int)))=32768:=hx
  have hw:IntKind.u64.wrap 9367395141266763448320=14895895896020779008:=by decide +kernel
  clear hT hx
  go_enter Tryd.func87,Tryd.ntmps87
  go_wp2
  go_ret
  exact ⟨rfl,rfl⟩
 ·have hc:w.cell? ⟨0,39,none⟩=some (.int .u8 16):=hT 39 (by decide)
  have hv:bits .and .u64 (r:Int) (IntKind.u64.wrap (-(r:Int)))=65536:=hx
  have hw:IntKind.u64.wrap 18734790282533526896640=11345047718332006400:=by decide +kernel
  clear hT hx
  go_enter Tryd.func87,Tryd.ntmps87
  go_wp2
  go_ret
  exact ⟨rfl,rfl⟩
 ·have hc:w.cell? ⟨0,14,none⟩=some (.int .u8 17):=hT 14 (by decide)
  have hv:bits .and .u64 (r:Int) (IntKind.u64.wrap (-(r:Int)))=131072:=hx
  have hw:IntKind.u64.wrap 37469580565067053793280=4243351362954461184:=by decide +kernel
  clear hT hx
  go_enter Tryd.func87,Tryd.ntmps87
  go_wp2
  go_ret
  exact ⟨rfl,rfl⟩
 ·have hc:w.cell? ⟨0,29,none⟩=some (.int .u8 18):=hT 29 (by decide)
  have hv:bits .and .u64 (r:Int) (IntKind.u64.wrap (-(r:Int)))=262144:=hx
  have hw:IntKind.u64.wrap 74939161130134107586560=8486702725908922368:=by decide +kernel
  clear hT hx
  go_enter Tryd.func87,Tryd.ntmps87
  go_wp2
  go_ret
  exact ⟨rfl,rfl⟩
 ·have hc:w.cell? ⟨0,58,none⟩=some (.int .u8 19):=hT 58 (by decide)
  have hv:bits .and .u64 (r:Int) (IntKind.u64.wrap (-(r:Int)))=524288:=hx
  have hw:IntKind.u64.wrap 149878322260268215173120=16973405451817844736:=by decide +kernel
  clear hT hx
  go_enter Tryd.func87,Tryd.ntmps87
  go_wp2
  go_ret
  exact ⟨rfl,rfl⟩
 ·have hc:w.cell? ⟨0,53,none⟩=some (.int .u8 20):=hT 53 (by decide)
  have hv:bits .and .u64 (r:Int) (IntKind.u64.wrap (-(r:Int)))=1048576:=hx
  have hw:IntKind.u64.wrap 299756644520536430346240=15500066829926137856:=by decide +kernel
  clear hT hx
  go_enter Tryd.func87,Tryd.ntmps87
  go_wp2
  go_ret
  exact ⟨rfl,rfl⟩
 ·have hc:w.cell? ⟨0,43,none⟩=some (.int .u8 21):=hT 43 (by decide)
  have hv:bits .and .u64 (r:Int) (IntKind.u64.wrap (-(r:Int)))=2097152:=hx
  have hw:IntKind.u64.wrap 599513289041072860692480=12553389586142724096:=by decide +kernel
  clear hT hx
  go_enter Tryd.func87,Tryd.ntmps87
  go_wp2
  go_ret
  exact ⟨rfl,rfl⟩
 ·have hc:w.cell? ⟨0,23,none⟩=some (.int .u8 22):=hT 23 (by decide)
  have hv:bits .and .u64 (r:Int) (IntKind.u64.wrap (-(r:Int)))=4194304:=hx
  have hw:IntKind.u64.wrap 1199026578082145721384960=6660035098575896576:=by decide +kernel
  clear hT hx
  go_enter Tryd.func87,Tryd.ntmps87
  go_wp2
  go_ret
  exact ⟨rfl,rfl⟩
end Go.Proofs.YtfhimmnoipfiaaaDoor.tz
namespace Go.Proofs.YtfhimmnoipfiaaaDoor.tz
open Go.ChangeShapes Go.WideShapes Go.ChangeAt Go.RowKit
open bytes places sets rex
theorem tabAll (T:ByteArray) (hs:256≤T.size) (hT:∀ (y:Fin 256) (k:Fin 8),2 ^ k.1≤y.1→y.1<2 ^ (k.1+1)→(T[y.1]'(Nat.lt_of_lt_of_le y.2 hs)).toNat=k.1+1) (x h:Nat) (hx:x<256) (h1:2 ^ h≤x) (h2:x<2 ^ (h+1)) (hp:x<T.size):((T[x]'hp).toNat:Int)=h+1:=by
 have h8:h<8:=by
  rcases Nat.lt_or_ge h 8 with c | c
  ·exact c
  ·have:=Nat.pow_le_pow_right (n:=2) (by decide) c
   omega
 have:=hT ⟨x,hx⟩ ⟨h,h8⟩ h1 h2
 simp only at this
 omega
theorem wr (n:Int) (h0:0≤n) (h:n≤300):wrap64 n=n:=by unfold wrap64;omega
set_option maxRecDepth 20000 in
set_option maxHeartbeats 8000000 in
theorem len_any (w:World) (x h:Nat) (hx:x<2 ^ 23) (h1:2 ^ h≤x) (h2:x<2 ^ (h+1)) :
  Calls Tryd.prog 52 #[.int .u64 (x:Nat)] w fun r w'=>r=.returned (.int .i64 ((h:Int)+1))∧w'=w:=by
 have g1:¬ (4294967296:Int)≤(x:Int):=by omega
 by_cases c1:x<256
 ·have g2:¬ (65536:Int)≤(x:Int):=by omega
  have g3:¬ (256:Int)≤(x:Int):=by omega
  have h4:IntKind.u8.wrap (x:Int)=x:=by rw [IntKind.wrap_u8];omega
  have HH:=hide (And.intro c1 (And.intro h1 h2))
  clear hx h1 h2
  go_enter Tryd.func52,Tryd.ntmps52
  go_wp2
  go_ret
  refine ⟨congrArg Ending.returned (congrArg (Value.int .i64) ?_),rfl⟩
  obtain ⟨c,hc1,hc2⟩:=HH.out
  rw [tabAll _ (by decide) (by decide +kernel) x h c hc1 hc2]
  have h8:h<8:=by
   rcases Nat.lt_or_ge h 8 with d | d
   ·exact d
   ·have:=Nat.pow_le_pow_right (n:=2) (by decide) d
    omega
  rw [wr ((h:Int)+1) (by omega) (by omega),wr ((h:Int)+1) (by omega) (by omega)]
 ·by_cases c2:x<65536
  ·obtain ⟨k,rfl⟩:∃ k,h=k+8:=by
    refine ⟨h-8,?_⟩
    rcases Nat.lt_or_ge h 8 with d | d
    ·have:=Nat.pow_le_pow_right (n:=2) (by decide) (show h+1≤8 by omega)
     omega
    ·omega
   have g2:¬ (65536:Int)≤(x:Int):=by omega
   have g3:decide ((256:Int)≤(x:Int))=true:=by simp;omega
   have g5:decide ((65536:Int)≤(x:Int))=false:=by simp;omega
   have g6:decide ((4294967296:Int)≤(x:Int))=false:=by simp;omega
   have hd:(x:Int) / 256=((x / 256:Nat):Int):=by omega
   have hy:x / 256<256:=by omega
   have p1:2 ^ k≤x / 256:=by
    rw [Nat.le_div_iff_mul_le (by decide)]
    rw [Nat.pow_add] at h1
    exact h1
   have p2:x / 256<2 ^ (k+1):=by
    rw [Nat.div_lt_iff_lt_mul (by decide)]
    rw [show k+8+1=k+1+8 by omega,Nat.pow_add] at h2
    exact h2
   generalize x / 256=y at hd hy p1 p2
   have h4:IntKind.u8.wrap (y:Int)=y:=by rw [IntKind.wrap_u8];omega
   have HH:=hide (And.intro hy (And.intro p1 p2))
   have hyI:(y:Int)<256:=by omega
   clear hx h1 h2 c1 c2 p1 p2 g1 g2
   go_enter Tryd.func52,Tryd.ntmps52
   go_wp2
   go_ret
   refine ⟨congrArg Ending.returned (congrArg (Value.int .i64) ?_),rfl⟩
   obtain ⟨c,hc1,hc2⟩:=HH.out
   rw [tabAll _ (by decide) (by decide +kernel) y k c hc1 hc2]
   have h8:k<8:=by
    rcases Nat.lt_or_ge k 8 with d | d
    ·exact d
    ·have:=Nat.pow_le_pow_right (n:=2) (by decide) d
     omega
   rw [wr ((k:Int)+1) (by omega) (by omega)]
   rw [wr _ (by omega) (by omega)]
   omega
  ·obtain ⟨k,rfl⟩:∃ k,h=k+16:=by
    refine ⟨h-16,?_⟩
    rcases Nat.lt_or_ge h 16 with d | d
    ·have:=Nat.pow_le_pow_right (n:=2) (by decide) (show h+1≤16 by omega)
     omega
    ·omega
   have g2:(65536:Int)≤(x:Int):=by omega
   have hd:(x:Int) / 65536=((x / 65536:Nat):Int):=by omega
   have hy:x / 65536<128:=by omega
   have p1:2 ^ k≤x / 65536:=by
    rw [Nat.le_div_iff_mul_le (by decide)]
    rw [Nat.pow_add] at h1
    exact h1
   have p2:x / 65536<2 ^ (k+1):=by
    rw [Nat.div_lt_iff_lt_mul (by decide)]
    rw [show k+16+1=k+1+16 by omega,Nat.pow_add] at h2
    exact h2
   generalize x / 65536=y at hd hy p1 p2
   have g3:¬ (256:Int)≤(y:Int):=by omega
   have h4:IntKind.u8.wrap (y:Int)=y:=by rw [IntKind.wrap_u8];omega
   have HH:=hide (And.intro hy (And.intro p1 p2))
   clear hx h1 h2 c1 c2 hy p1 p2
   go_enter Tryd.func52,Tryd.ntmps52
   go_wp2
   go_ret
   refine ⟨congrArg Ending.returned (congrArg (Value.int .i64) ?_),rfl⟩
   obtain ⟨c,hc1,hc2⟩:=HH.out
   rw [tabAll _ (by decide) (by decide +kernel) y k (by omega) hc1 hc2]
   have h8:k<8:=by
    rcases Nat.lt_or_ge k 8 with d | d
    ·exact d
    ·have:=Nat.pow_le_pow_right (n:=2) (by decide) d
     omega
   rw [wr ((k:Int)+1) (by omega) (by omega)]
   rw [wr _ (by omega) (by omega)]
   omega
end Go.Proofs.YtfhimmnoipfiaaaDoor.tz
namespace Go.Proofs.YtfhimmnoipfiaaaDoor.tz
open Go.ChangeShapes Go.WideShapes Go.ChangeAt Go.RowKit
open bytes places sets rex
set_option maxHeartbeats 2000000 in
theorem last_hi (w:World) (x h:Nat) (hx:x<2 ^ 23) (h1:2 ^ h≤x) (h2:x<2 ^ (h+1)) :
  Calls Tryd.prog 32 #[psV x] w fun r w'=>r=.returned (.int .i64 (h:Int))∧Below w.heap.size w w':=by
 unfold psV
 have HL:=hide (fun W=>len_any W x h hx h1 h2)
 have hp:0<2 ^ h:=Nat.pow_pos (by decide)
 have hne:((x:Int) != 0)=true:=by simp;omega
 have hh:(h:Int)≤22:=by
  rcases Nat.lt_or_ge h 23 with d | d
  ·omega
  ·have:=Nat.pow_le_pow_right (n:=2) (by decide) d
   omega
 clear hx h1 h2 hp
 go_enter Tryd.func32,Tryd.ntmps32
 go_wp2
 go_loop [3] (fun iv=>iv=.int .i64 1∨iv=.int .i64 0) (fun iv=>(intOf iv+1).toNat)
 case atStart=>exact .inl rfl
 case round =>
  rcases hrel with rfl | rfl
  ·go_wp2
   go_round
   case rel=>exact .inr rfl
   case measure=>simp [intOf]
  ·go_wp2_with fail
   refine (HL.out _).mono ?_
   rintro r w1 ⟨rfl,hw1⟩
   replace hw1:=hw1.symm
   subst hw1
   clear HL
   go_wp2
   go_ret
   refine ⟨?_,(Below.refl _ _).alloc (Nat.le_refl _) _⟩
   exact ret_int (by omega)
theorem u64_andNot (a b:Nat) (ha:a<18446744073709551616) (hb:b<18446744073709551616):bits .andNot .u64 (a:Int) (b:Int)=((a &&& (18446744073709551615-b):Nat):Int):=by
 have h1:(BitVec.ofInt 64 (a:Int)).toNat=a:=by rw [BitVec.toNat_ofInt];omega
 have h2:(BitVec.ofInt 64 (b:Int)).toNat=b:=by rw [BitVec.toNat_ofInt];omega
 have hlt:a &&& (18446744073709551615-b)<18446744073709551616:=Nat.and_lt_two_pow (n:=64) a (by omega)
 have key:(BitVec.ofInt 64 (a:Int) &&& ~~~ BitVec.ofInt 64 (b:Int)).toNat=a &&& (18446744073709551615-b):=by
  rw [BitVec.toNat_and,BitVec.toNat_not,h1,h2]
 show IntKind.u64.wrap ((BitVec.ofInt 64 (a:Int) &&& ~~~ BitVec.ofInt 64 (b:Int)).toNat:Nat)=_
 rw [key,IntKind.wrap_u64]
 omega
theorem not_pow (a p:Nat) (ha:a<2 ^ 64) (hp:p<64) (j:Nat):(a &&& (18446744073709551615-2 ^ p)).testBit j=(a.testBit j && decide (j≠p)):=by
 have hq:2 ^ p<2 ^ 64:=Nat.pow_lt_pow_right (by decide) hp
 rw [show 18446744073709551615-2 ^ p=2 ^ 64-(2 ^ p+1) by omega,Nat.testBit_and,Nat.testBit_two_pow_sub_succ hq,Nat.testBit_two_pow]
 by_cases c:j<64
 ·by_cases d:p=j
  ·subst d;simp
  ·have d':¬ j=p:=fun e=>d e.symm
   simp [c,d,d']
 ·have:a.testBit j=false:=Nat.testBit_lt_two_pow (Nat.lt_of_lt_of_le ha (Nat.pow_le_pow_right (by decide) (by omega)))
  simp [this]
end Go.Proofs.YtfhimmnoipfiaaaDoor.tz
namespace Go.Proofs.YtfhimmnoipfiaaaDoor.tz
open Go.ChangeShapes Go.WideShapes Go.ChangeAt Go.RowKit
open bytes places sets rex
set_option maxHeartbeats 4000000 in
theorem without_any (w:World) (a b:Nat) (ha:a<18446744073709551616) (hb:b<18446744073709551616) :
  Calls Tryd.prog 99 #[psV a,psV b] w fun r w'=>r=.returned (psV (a &&& (18446744073709551615-b)))∧Below w.heap.size w w':=by
 unfold psV
 have hor:=u64_andNot a b ha hb
 have hor0:bits .andNot .u64 0 0=0:=by decide
 generalize a &&& (18446744073709551615-b)=c at hor ⊢
 obtain ⟨W3,hW3⟩:∃ W3,W3=((w.alloc (.cells #[.int .u64 (a:Nat),.int .u64 0] 62)).alloc (.cells #[.int .u64 (b:Nat),.int .u64 0] 62)).alloc (.cells #[.int .u64 0,.int .u64 0] 62):=⟨_,rfl⟩
 have HS:Hid (C2 W3 w.heap.size a∧C2 W3 (w.heap.size+1) b∧C2 W3 (w.heap.size+2) 0∧Below w.heap.size w W3):=by
  rw [hW3]
  refine hide ⟨?_,?_,?_,(((Below.refl _ _).alloc (Nat.le_refl _) _).alloc (by simp) _).alloc (by simp;omega) _⟩
  ·unfold C2
   rw [Below.heap_alloc _ _ _ (by simp;omega),Below.heap_alloc _ _ _ (by simp)]
   exact heap_alloc_new w _
  ·unfold C2
   rw [Below.heap_alloc _ _ _ (by simp)]
   have h:=heap_alloc_new (w.alloc (.cells #[.int .u64 (a:Nat),.int .u64 0] 62)) (.cells #[.int .u64 (b:Nat),.int .u64 0] 62)
   rw [show (w.alloc (.cells #[.int .u64 (a:Nat),.int .u64 0] 62)).heap.size=w.heap.size+1 by simp] at h
   exact h
  ·have h:=heap_alloc_new ((w.alloc (.cells #[.int .u64 (a:Nat),.int .u64 0] 62)).alloc (.cells #[.int .u64 (b:Nat),.int .u64 0] 62)) (.cells #[.int .u64 0,.int .u64 0] 62)
   rw [show ((w.alloc (.cells #[.int .u64 (a:Nat),.int .u64 0] 62)).alloc (.cells #[.int .u64 (b:Nat),.int .u64 0] 62)).heap.size=w.heap.size+2 by simp] at h
   exact h
 go_enter Tryd.func99,Tryd.ntmps99
 go_wp2
 rw [←hW3]
 clear hW3
 go_loopw [5,6] (fun k5 iv wr=>∃ i x:Nat,((i=0∧x=a)∨(i=1∧x=c)∨(i=2∧x=c))∧iv=.int .i64 i∧Hid (C2 wr w.heap.size x∧C2 wr (w.heap.size+1) b∧C2 wr (w.heap.size+2) 0∧Below w.heap.size w wr)) (fun _ iv _=>2-(intOf iv).toNat)
 case atStart=>exact ⟨0,a,.inl ⟨rfl,rfl⟩,rfl,HS⟩
 case round =>
  obtain ⟨i,x,hix,rfl,HX⟩:=hrel
  clear HS
  rcases hix with ⟨rfl,rfl⟩|⟨rfl,rfl⟩|⟨rfl,rfl⟩
  ·have p0:=HX.out.1.c0
   have q0:=HX.out.1.fz 0
   have m0:=HX.out.2.1.c0
   go_wp2
   go_region
   go_wp2
   go_roundw
   case rel=>exact ⟨0+1,c,.inr (.inl ⟨rfl,rfl⟩),by go_num,hide ⟨HX.out.1.set0 c,HX.out.2.1.ne (by omega) _,HX.out.2.2.1.ne (by omega) _,(HX.out.2.2.2.setCell (p:=⟨w.heap.size,0,none⟩) (Nat.le_refl _) _).drew⟩⟩
   case measure=>simp [intOf]
  ·have p1:=HX.out.1.c1
   have q1:=HX.out.1.fz 1
   have m1:=HX.out.2.1.c1
   go_wp2
   go_region
   go_wp2
   go_roundw
   case rel=>exact ⟨1+1,_,.inr (.inr ⟨rfl,rfl⟩),by go_num,hide ⟨HX.out.1.set1,HX.out.2.1.ne (by omega) _,HX.out.2.2.1.ne (by omega) _,(HX.out.2.2.2.setCell (p:=⟨w.heap.size,1,none⟩) (Nat.le_refl _) _).drew⟩⟩
   case measure=>simp [intOf]
  ·have p0:=HX.out.1.c0
   have p1:=HX.out.1.c1
   have r0:=HX.out.2.2.1.c0
   have r1:=HX.out.2.2.1.c1
   have s0:=HX.out.2.2.1.fz 0
   have s1:=HX.out.2.2.1.fz 1
   have HE:Hid (((wr.setCell ⟨w.heap.size+1+1,0,none⟩ (.int .u64 (x:Nat))).setCell ⟨w.heap.size+1+1,1,none⟩ (.int .u64 0)).heap[w.heap.size+1+1]?=some (.cells #[.int .u64 (x:Nat),.int .u64 0] 62 (0,0))∧Below w.heap.size w ((wr.setCell ⟨w.heap.size+1+1,0,none⟩ (.int .u64 (x:Nat))).setCell ⟨w.heap.size+1+1,1,none⟩ (.int .u64 0))):=by
    have h0:=heap_setCell_same wr (w.heap.size+1+1) 0 _ 62 (.int .u64 (x:Nat)) HX.out.2.2.1
    have h1:=heap_setCell_same _ (w.heap.size+1+1) 1 _ 62 (.int .u64 0) h0
    simp at h1
    exact hide ⟨h1,(HX.out.2.2.2.setCell (p:=⟨w.heap.size+1+1,0,none⟩) (by simp;omega) _).setCell (p:=⟨w.heap.size+1+1,1,none⟩) (by simp;omega) _⟩
   go_wp2
   exact bodyPost_ret (results_cell_row rfl _ _ (w.heap.size+1+1) 62 _ (0,0) _ rfl HE.out.1 Tryd.underlying62 rfl (size62.trans (by simp))) rfl ⟨rfl,HE.out.2⟩
end Go.Proofs.YtfhimmnoipfiaaaDoor.tz
namespace Go.Proofs.YtfhimmnoipfiaaaDoor.eng
open Go.ChangeShapes Go.WideShapes Go.ChangeAt Go.RowKit
open bytes places sets tz rex
abbrev Fz:=Nat→Option Obj
def In (M:Fz) (w:World):Prop:=∀ b o,M b=some o→w.heap[b]?=some o
def FLe (M M':Fz):Prop:=∀ b o,M b=some o→M' b=some o
structure Mk where
 b:Nat
 d:Nat
 A:Nat→Nat
abbrev Ks:=Nat→Option Mk
def KLe (K K':Ks):Prop:=∀ k m,K k=some m→K' k=some m
abbrev Rs:=Nat→Option (Nat×Nat)
abbrev Lb:=Nat→Option (Nat×Nat)
def C1 (w:World) (b:Nat) (v:Value) (t:TypeId):Prop:=w.heap[b]?=some (.cells #[v] t (0,0))
theorem C1.c {w:World} {b:Nat} {v:Value} {t:TypeId} (h:C1 w b v t):w.cell? ⟨b,0,none⟩=some v:=by unfold C1 at h;simp [World.cell?,h]
theorem C1.fz {w:World} {b:Nat} {v:Value} {t:TypeId} (h:C1 w b v t) (i:Nat):w.frozen? ⟨b,i,none⟩=false:=by unfold C1 at h;simp [World.frozen?,h]
theorem C1.set {w:World} {b:Nat} {v:Value} {t:TypeId} (h:C1 w b v t) (u:Value):C1 (w.setCell ⟨b,0,none⟩ u) b u t:=by
 have h1:=heap_setCell_same w b 0 _ t u h
 simp at h1
 exact h1
theorem C1.lt {w:World} {b:Nat} {v:Value} {t:TypeId} (h:C1 w b v t):b<w.heap.size:=(Array.getElem?_eq_some_iff.1 h).1
structure Row (L:Nat) (A:Nat→Nat) (w:World) (a d:Nat) (X:Nat→Nat) (q:Nat→Bool):Prop where
 lo:∀ p,p≤L→w.cell? ⟨a,p*2,none⟩=some (.int .u64 (X p:Nat))
 hi:∀ p,p≤L→w.cell? ⟨a,p*2+1,none⟩=some (.int .u64 0)
 was:∀ p,p≤L→w.cell? ⟨d,p,none⟩=some (.bool (q p))
 fa:∀ i,w.frozen? ⟨a,i,none⟩=false
 fd:∀ i,w.frozen? ⟨d,i,none⟩=false
 right:∀ p,p≤L→q p=true→X p=A p
theorem Row.same {L:Nat} {A:Nat→Nat} {w w':World} {a d:Nat} {X:Nat→Nat} {q:Nat→Bool} (h:Row L A w a d X q) (ha:w'.heap[a]?=w.heap[a]?) (hd:w'.heap[d]?=w.heap[d]?):Row L A w' a d X q where
 lo:=fun p hp=>(World.cell?_of_block ha).trans (h.lo p hp)
 hi:=fun p hp=>(World.cell?_of_block ha).trans (h.hi p hp)
 was:=fun p hp=>(World.cell?_of_block hd).trans (h.was p hp)
 fa:=fun i=>(World.frozen?_of_block ha).trans (h.fa i)
 fd:=fun i=>(World.frozen?_of_block hd).trans (h.fd i)
 right:=h.right
theorem Row.lta {L:Nat} {A:Nat→Nat} {w:World} {a d:Nat} {X:Nat→Nat} {q:Nat→Bool} (h:Row L A w a d X q):a<w.heap.size:=cell_lt (h.lo 0 (Nat.zero_le _))
theorem Row.ltd {L:Nat} {A:Nat→Nat} {w:World} {a d:Nat} {X:Nat→Nat} {q:Nat→Bool} (h:Row L A w a d X q):d<w.heap.size:=cell_lt (h.was 0 (Nat.zero_le _))
def Memo (L:Nat) (R:Rs) (w:World) (k:Nat) (m:Mk):Prop :=
 (R k=none∧C1 w m.b (.slice none 0 0) 124∧C1 w m.d (.slice none 0 0) 125) ∨
 (∃ a d,R k=some (a,d)∧C1 w m.b (.slice (some ⟨a,0,none⟩) (L+1) (L+1)) 124∧C1 w m.d (.slice (some ⟨d,0,none⟩) (L+1) (L+1)) 125∧∃ X q,Row L m.A w a d X q)
structure Inv (L:Nat) (M:Fz) (K:Ks) (R:Rs) (O:Lb) (w:World):Prop where
 fz:In M w
 tab:TabIn w
 l0:∀ b,M b≠none→O b=some (0,0)
 z0:O 0=some (0,0)
 lk:∀ k m,K k=some m→O m.b=some (1,k)∧O m.d=some (2,k)
 lr:∀ k a d,R k=some (a,d)→O a=some (3,k)∧O d=some (4,k)
 lt:∀ b,O b≠none→b<w.heap.size
 memo:∀ k m,K k=some m→Memo L R w k m
structure Frm (R:Rs) (O:Lb) (w:World) (R':Rs) (O':Lb) (w':World):Prop where
 os:w'.os=w.os
 tape:w'.tape=w.tape
 output:w'.output=w.output
 size:w.heap.size≤w'.heap.size
 same:∀ b,b<w.heap.size→(O b=none∨O b=some (0,0))→w'.heap[b]?=w.heap[b]?
 lab:∀ b,b<w.heap.size→O' b=O b
 rows:∀ k,R k≠none→R' k=R k
theorem Frm.refl (R:Rs) (O:Lb) (w:World):Frm R O w R O w:=⟨rfl,rfl,rfl,Nat.le_refl _,fun _ _ _=>rfl,fun _ _=>rfl,fun _ _=>rfl⟩
theorem Frm.trans {R R1 R2:Rs} {O O1 O2:Lb} {w w1 w2:World} (h:Frm R O w R1 O1 w1) (g:Frm R1 O1 w1 R2 O2 w2):Frm R O w R2 O2 w2 where
 os:=g.os.trans h.os
 tape:=g.tape.trans h.tape
 output:=g.output.trans h.output
 size:=Nat.le_trans h.size g.size
 same:=fun b hb ho=>(g.same b (Nat.lt_of_lt_of_le hb h.size) (by rw [h.lab b hb];exact ho)).trans (h.same b hb ho)
 lab:=fun b hb=>(g.lab b (Nat.lt_of_lt_of_le hb h.size)).trans (h.lab b hb)
 rows:=fun k hk=>(g.rows k (by rw [h.rows k hk];exact hk)).trans (h.rows k hk)
theorem Frm.below {R:Rs} {O:Lb} {w w':World} (h:Below w.heap.size w w'):Frm R O w R O w':=⟨h.os,h.tape,h.output,h.size,fun b hb _=>h.block b hb,fun _ _=>rfl,fun _ _=>rfl⟩
theorem Frm.own {R R':Rs} {O O':Lb} {w w':World} (h:Frm R O w R' O' w') {b:Nat} (hb:b<w.heap.size) (ho:O b=none):w'.heap[b]?=w.heap[b]? := h.same b hb (.inl ho)
variable {L:Nat} {M:Fz} {K:Ks} {R:Rs} {O:Lb} {w w':World}
theorem Memo.same {k:Nat} {m:Mk} (h:Memo L R w k m) (h1:w'.heap[m.b]?=w.heap[m.b]?) (h2:w'.heap[m.d]?=w.heap[m.d]?) (hr:∀ a d,R k=some (a,d)→w'.heap[a]?=w.heap[a]? ∧ w'.heap[d]?=w.heap[d]?):Memo L R w' k m:=by
 rcases h with ⟨h0,h3,h4⟩|⟨a,d,h0,h3,h4,X,q,h5⟩
 ·exact .inl ⟨h0,h1.trans h3,h2.trans h4⟩
 ·exact .inr ⟨a,d,h0,h1.trans h3,h2.trans h4,X,q,h5.same (hr a d h0).1 (hr a d h0).2⟩
theorem Inv.keep (h:Inv L M K R O w) (hz:w.heap.size≤w'.heap.size) (hs:∀ b,O b≠none→w'.heap[b]?=w.heap[b]?):Inv L M K R O w' where
 fz:=fun b o hb=>(hs b (by rw [h.l0 b (by rw [hb];simp)];simp)).trans (h.fz b o hb)
 tab:=fun j hj=>(World.cell?_of_block (a:=⟨0,j,none⟩) (hs 0 (by rw [h.z0];simp))).trans (h.tab j hj)
 l0:=h.l0
 z0:=h.z0
 lk:=h.lk
 lr:=h.lr
 lt:=fun b hb=>Nat.lt_of_lt_of_le (h.lt b hb) hz
 memo:=fun k m hk=>(h.memo k m hk).same (hs _ (by rw [(h.lk k m hk).1];simp)) (hs _ (by rw [(h.lk k m hk).2];simp)) (fun a d hr=>⟨hs _ (by rw [(h.lr k a d hr).1];simp),hs _ (by rw [(h.lr k a d hr).2];simp)⟩)
theorem Inv.below (h:Inv L M K R O w) (hb:Below w.heap.size w w'):Inv L M K R O w':=h.keep hb.size fun b hb'=>hb.block b (h.lt b hb')
theorem Inv.fresh (h:Inv L M K R O w) {b:Nat} (hb:w.heap.size≤b):O b=none:=by
 cases e:O b with
 | none=>rfl
 | some x=>have:=h.lt b (by rw [e];simp);omega
theorem Inv.mem (h:Inv L M K R O w) {b:Nat} {o:Obj} (hb:M b=some o):O b=some (0,0):=h.l0 b (by rw [hb];simp)
theorem Inv.set (h:Inv L M K R O w) {a:Addr} (ha:O a.block=none) (v:Value):Inv L M K R O (w.setCell a v):=h.keep (by simp) fun b hb=>Below.heap_setCell w a v b (fun e=>hb (by rw [e,ha]))
structure St (L:Nat) (M:Fz) (K:Ks) (R0:Rs) (O0:Lb) (w0:World) (R:Rs) (O:Lb) (w:World):Prop where
 inv:Inv L M K R O w
 os:w.os=w0.os
 tape:w.tape=w0.tape
 output:w.output=w0.output
 size:w0.heap.size≤w.heap.size
 same:∀ b,b<w0.heap.size→(O0 b=none∨O0 b=some (0,0))→w.heap[b]?=w0.heap[b]?
 lab:∀ b,b<w0.heap.size→O b=O0 b
 rows:∀ k,R0 k≠none→R k=R0 k
variable {R0 R1:Rs} {O0 O1:Lb} {w0 w1:World}
theorem St.frm (h:St L M K R0 O0 w0 R O w):Frm R0 O0 w0 R O w:=⟨h.os,h.tape,h.output,h.size,h.same,h.lab,h.rows⟩
theorem St.of (h:Inv L M K R O w) (f:Frm R0 O0 w0 R O w):St L M K R0 O0 w0 R O w:=⟨h,f.os,f.tape,f.output,f.size,f.same,f.lab,f.rows⟩
theorem St.refl (h:Inv L M K R O w):St L M K R O w R O w:=St.of h (Frm.refl _ _ _)
theorem St.trans (h:St L M K R0 O0 w0 R O w) (g:St L M K R O w R1 O1 w1):St L M K R0 O0 w0 R1 O1 w1:=St.of g.inv (h.frm.trans g.frm)
theorem St.below (h:St L M K R0 O0 w0 R O w) (hb:Below w.heap.size w w'):St L M K R0 O0 w0 R O w':=St.of (h.inv.below hb) (h.frm.trans (Frm.below hb))
theorem St.set (h:St L M K R0 O0 w0 R O w) {a:Addr} (h1:w0.heap.size≤a.block) (ha:O a.block=none) (v:Value):St L M K R0 O0 w0 R O (w.setCell a v) :=
 St.of (h.inv.set ha v) ⟨(Below.setCell (Below.refl 0 w) (p:=a) (Nat.zero_le _) v).os.trans h.os,(Below.setCell (Below.refl 0 w) (p:=a) (Nat.zero_le _) v).tape.trans h.tape,(Below.setCell (Below.refl 0 w) (p:=a) (Nat.zero_le _) v).output.trans h.output,by simpa using h.size,fun b hb ho=>(Below.heap_setCell w a v b (by omega)).trans (h.same b hb ho),h.lab,h.rows⟩
theorem St.drew (h:St L M K R0 O0 w0 R O w):St L M K R0 O0 w0 R O w.drew:=h.below (Below.refl _ _).drew
theorem St.alloc (h:St L M K R0 O0 w0 R O w) (o:Obj):St L M K R0 O0 w0 R O (w.alloc o):=h.below ((Below.refl _ _).alloc (Nat.le_refl _) _)
theorem St.fresh (h:St L M K R0 O0 w0 R O w) {b:Nat} (hb:w.heap.size≤b):O b=none:=h.inv.fresh hb
def OkF (f : Nat) : Prop := ∃ fn, Tryd.prog.funcs[f]? = some fn ∧ (fn.name == "runtime.NumGoroutine") = false ∧ fn.body.isNone = false
def At (L:Nat) (M:Fz) (K:Ks) (f:Nat) (cs:Array Value) (p:Nat) (X:Nat):Prop :=
 ∀ M' K' R O w,FLe M M'→KLe K K'→Inv L M' K' R O w→Calls Tryd.prog f (#[.int .i64 (p:Int)]++cs) w fun e w'=>e=.returned (psV X)∧∃ R' O',St L M' K' R O w R' O' w'
theorem FLe.refl (M:Fz):FLe M M:=fun _ _ h=>h
theorem FLe.trans {A B C:Fz} (h:FLe A B) (k:FLe B C):FLe A C:=fun b o hb=>k b o (h b o hb)
theorem KLe.refl (M:Ks):KLe M M:=fun _ _ h=>h
theorem KLe.trans {A B C:Ks} (h:KLe A B) (k:KLe B C):KLe A C:=fun b o hb=>k b o (h b o hb)
theorem At.up {M':Fz} {K':Ks} {f:Nat} {cs:Array Value} {p X:Nat} (h:At L M K f cs p X) (hM:FLe M M') (hK:KLe K K'):At L M' K' f cs p X:=fun M2 K2 R O w h1 h2=>h M2 K2 R O w (hM.trans h1) (hK.trans h2)
structure Rch (L:Nat) (M:Fz) (K:Ks) (v:Value) (A:Nat→Nat):Prop where
 ok:∃ f cs,v=.func (.func f) #[] cs∧OkF f∧∀ p,p≤L→At L M K f cs p (A p)
theorem Rch.up {M':Fz} {K':Ks} {v:Value} {A:Nat→Nat} (h:Rch L M K v A) (hM:FLe M M') (hK:KLe K K'):Rch L M' K' v A:=by
 obtain ⟨f,cs,e,ho,hp⟩:=h.ok
 exact ⟨f,cs,e,ho,fun p h=>(hp p h).up hM hK⟩
theorem Rch.congr {v:Value} {A B:Nat→Nat} (h:Rch L M K v A) (e:∀ p,p≤L→A p=B p):Rch L M K v B:=by
 obtain ⟨f,cs,e1,ho,hp⟩:=h.ok
 exact ⟨f,cs,e1,ho,fun p h=>by rw [←e p h];exact hp p h⟩
end Go.Proofs.YtfhimmnoipfiaaaDoor.eng
namespace Go.Proofs.YtfhimmnoipfiaaaDoor.eng
open Go.ChangeShapes Go.WideShapes Go.ChangeAt Go.RowKit
open bytes places sets tz rex
theorem two_end {W:World} {H a:Nat} (h:C2 W H a) (x:Nat):((W.setCell ⟨H,0,none⟩ (.int .u64 (x:Nat))).setCell ⟨H,1,none⟩ (.int .u64 0)).heap[H]?=some (.cells #[.int .u64 (x:Nat),.int .u64 0] 62 (0,0)):=by
 have h0:=heap_setCell_same W H 0 _ 62 (.int .u64 (x:Nat)) h
 have h1:=heap_setCell_same _ H 1 _ 62 (.int .u64 0) h0
 simp at h1
 exact h1
theorem callF {f:Nat} (h:OkF f) (args:Array Value) (w:World):Sem.run Tryd.prog (callFunc f args) w=.ok (.enter f args) w:=by
 obtain ⟨fn,k1,k2,k3⟩:=h
 have k2' : ¬ fn.name = "runtime.NumGoroutine" := by simpa using k2
 have k3':¬ fn.body=none:=by intro e;rw [e] at k3;cases k3
 simp [callFunc,go_sem,k1,k2',k3']
structure Sl (L:Nat) (M:Fz) (K:Ks) (R0:Rs) (O0:Lb) (w0:World) (n:Nat) (W:World):Prop where
 ex:∃ R O,St L M K R0 O0 w0 R O W∧w0.heap.size+n≤W.heap.size∧∀ b,w0.heap.size≤b→b<w0.heap.size+n→O b=none
section
variable {L:Nat} {M:Fz} {K:Ks} {R0:Rs} {O0:Lb} {w0 W W':World} {n:Nat}
theorem Sl.start (h:Inv L M K R0 O0 w0) (hb:Below w0.heap.size w0 W) (hn:w0.heap.size+n≤W.heap.size):Sl L M K R0 O0 w0 n W:=⟨R0,O0,(St.refl h).below hb,hn,fun b h1 _=>h.fresh h1⟩
theorem Sl.size (h:Sl L M K R0 O0 w0 n W):w0.heap.size+n≤W.heap.size:=h.ex.choose_spec.choose_spec.2.1
theorem Sl.below (h:Sl L M K R0 O0 w0 n W) (hb:Below W.heap.size W W'):Sl L M K R0 O0 w0 n W':=by
 obtain ⟨R,O,h1,h2,h3⟩:=h.ex
 exact ⟨R,O,h1.below hb,by have:=hb.size;omega,h3⟩
theorem Sl.drew (h:Sl L M K R0 O0 w0 n W):Sl L M K R0 O0 w0 n W.drew:=h.below (Below.refl _ _).drew
theorem Sl.dn (h:Sl L M K R0 O0 w0 n W) (m:Nat):Sl L M K R0 O0 w0 n (W.drewN m):=h.below ⟨rfl,rfl,rfl,Nat.le_refl _,fun _ _=>rfl⟩
theorem Sl.set (h:Sl L M K R0 O0 w0 n W) {a:Addr} (h1:w0.heap.size≤a.block) (h2:a.block<w0.heap.size+n) (v:Value):Sl L M K R0 O0 w0 n (W.setCell a v):=by
 obtain ⟨R,O,g1,g2,g3⟩:=h.ex
 exact ⟨R,O,g1.set h1 (g3 _ h1 h2) v,by simpa using g2,g3⟩
theorem Sl.more (h:Sl L M K R0 O0 w0 n W) (o:Obj) (hz:W.heap.size=w0.heap.size+n):Sl L M K R0 O0 w0 (n+1) (W.alloc o):=by
 obtain ⟨R,O,g1,g2,g3⟩:=h.ex
 exact ⟨R,O,g1.alloc o,by simp;omega,fun b h1 h2=>by
  by_cases c:b<w0.heap.size+n
  ·exact g3 b h1 c
  ·exact g1.fresh (by omega)⟩
theorem Sl.less (h:Sl L M K R0 O0 w0 n W) {m:Nat} (hm:m≤n):Sl L M K R0 O0 w0 m W:=by
 obtain ⟨R,O,g1,g2,g3⟩:=h.ex
 exact ⟨R,O,g1,by omega,fun b h1 h2=>g3 b h1 (by omega)⟩
theorem Sl.st (h:Sl L M K R0 O0 w0 n W):∃ R O,St L M K R0 O0 w0 R O W:=let ⟨R,O,g,_⟩:=h.ex;⟨R,O,g⟩
theorem Sl.tab (h:Sl L M K R0 O0 w0 n W):TabIn W:=let ⟨R,O,g,_⟩:=h.ex;g.inv.tab
theorem Sl.fz (h:Sl L M K R0 O0 w0 n W):In M W:=let ⟨R,O,g,_⟩:=h.ex;g.inv.fz
theorem Sl.ask (h:Sl L M K R0 O0 w0 n W) {M0:Fz} {K0:Ks} {f:Nat} {cs:Array Value} {p X:Nat} (ha:At L M0 K0 f cs p X) (hM:FLe M0 M) (hK:KLe K0 K) :
  Calls Tryd.prog f (#[.int .i64 (p:Int)]++cs) W fun e w'=>e=.returned (psV X)∧Sl L M K R0 O0 w0 n w'∧(∀ b,w0.heap.size≤b→b<w0.heap.size+n→w'.heap[b]?=W.heap[b]?)∧W.heap.size≤w'.heap.size:=by
 obtain ⟨R,O,g1,g2,g3⟩:=h.ex
 refine (ha M K R O W hM hK g1.inv).mono ?_
 rintro e w' ⟨he,R',O',hs⟩
 refine ⟨he,⟨R',O',g1.trans hs,by have:=hs.size;omega,fun b h1 h2=>(hs.lab b (by omega)).trans (g3 b h1 h2)⟩,fun b h1 h2=>hs.same b (by omega) (.inl (g3 b h1 h2)),hs.size⟩
end
end Go.Proofs.YtfhimmnoipfiaaaDoor.eng
namespace Go.Proofs.YtfhimmnoipfiaaaDoor.eng
open Go.ChangeShapes Go.WideShapes Go.ChangeAt Go.RowKit
open bytes places sets tz rex
structure TL (L:Nat) (M:Fz) (K:Ks) (R0:Rs) (O0:Lb) (w0:World) (x:Nat) (W:World):Prop where
 sl:Sl L M K R0 O0 w0 3 W
 res:C2 W (w0.heap.size+1) 0
 out:C2 W (w0.heap.size+2) x
section
variable {L:Nat} {M:Fz} {K:Ks} {R0:Rs} {O0:Lb} {w0 W W':World} {x:Nat}
theorem TL.drew (h:TL L M K R0 O0 w0 x W):TL L M K R0 O0 w0 x W.drew:=⟨h.sl.drew,h.res,h.out⟩
theorem TL.below (h:TL L M K R0 O0 w0 x W) (hb:Below W.heap.size W W'):TL L M K R0 O0 w0 x W':=by
 have:=h.sl.size
 exact ⟨h.sl.below hb,(hb.block _ (by omega)).trans h.res,(hb.block _ (by omega)).trans h.out⟩
theorem TL.put (h:TL L M K R0 O0 w0 x W) (X:Nat):TL L M K R0 O0 w0 X ((W.setCell ⟨w0.heap.size+1+1,0,none⟩ (.int .u64 (X:Nat))).setCell ⟨w0.heap.size+1+1,1,none⟩ (.int .u64 0)):=by
 refine ⟨(h.sl.set (by simp;omega) (by simp) _).set (by simp;omega) (by simp) _,?_,two_end h.out X⟩
 unfold C2
 rw [Below.heap_setCell _ _ _ _ (by simp),Below.heap_setCell _ _ _ _ (by simp)]
 exact h.res
theorem TL.done (h:TL L M K R0 O0 w0 x W) (X:Nat):C2 ((W.setCell ⟨w0.heap.size+1,0,none⟩ (.int .u64 (X:Nat))).setCell ⟨w0.heap.size+1,1,none⟩ (.int .u64 0)) (w0.heap.size+1) X∧∃ R O,St L M K R0 O0 w0 R O ((W.setCell ⟨w0.heap.size+1,0,none⟩ (.int .u64 (X:Nat))).setCell ⟨w0.heap.size+1,1,none⟩ (.int .u64 0)) :=
 ⟨two_end h.res X,((h.sl.set (by simp) (by simp) _).set (by simp) (by simp) _).st⟩
end
theorem ix0 (x y:Int) (W:World):Sem.run Tryd.prog (Instr.index 62 (.agg #[.int .u64 x,.int .u64 y]) (.int .i64 0)) W=.ok (.int .u64 x) W:=by kernel_rfl
theorem ix1 (x y:Int) (W:World):Sem.run Tryd.prog (Instr.index 62 (.agg #[.int .u64 x,.int .u64 y]) (.int .i64 1)) W=.ok (.int .u64 y) W:=by kernel_rfl
theorem or_assoc3 (a b c:Nat):(a ||| b) ||| c=a ||| (b ||| c):=Nat.or_assoc a b c
theorem un_zero (A:Nat→Nat):∀ L,un A L 0=0
 | 0=>rfl
 | L+1=>by rw [un,un_zero A L];simp
set_option maxRecDepth 20000 in
set_option maxHeartbeats 8000000 in
theorem through_any (L:Nat) (M:Fz) (K:Ks) (f:Nat) (cs:Array Value) (hF:OkF f) (A:Nat→Nat) (X:Nat) (hL:L≤22) (hX:X<2 ^ (L+1)) (hA:∀ p,A p<2 ^ (L+1)) (h:∀ p,p≤L→X.testBit p=true→At L M K f cs p (A p))
  (M':Fz) (K':Ks) (R:Rs) (O:Lb) (w:World) (hM:FLe M M') (hK:KLe K K') (hI:Inv L M' K' R O w) :
  Calls Tryd.prog 67 #[psV X,.func (.func f) #[] cs] w fun e w'=>e=.returned (psV (un A (L+1) X))∧∃ R' O',St L M' K' R O w R' O' w':=by
 have hcf:=callF hF
 have hp23:2 ^ (L+1)≤2 ^ 23:=Nat.pow_le_pow_right (by decide) (by omega)
 obtain ⟨U,hU⟩:∃ U,U=un A (L+1):=⟨_,rfl⟩
 have hUl:∀ r,U r<2 ^ (L+1):=by rw [hU];exact un_lt hA (L+1)
 obtain ⟨W3,hW3⟩:∃ W3,W3=((w.alloc (.cells #[.int .u64 (X:Nat),.int .u64 0] 62)).alloc (.cells #[.int .u64 0,.int .u64 0] 62)).alloc (.cells #[.int .u64 0,.int .u64 0] 62):=⟨_,rfl⟩
 have HS:Hid (TL L M' K' R O w 0 W3∧C2 W3 w.heap.size X):=by
  have hz:W3.heap.size=w.heap.size+3:=by rw [hW3];simp
  refine hide ⟨⟨?_,?_,?_⟩,?_⟩
  ·refine Sl.start hI ?_ (by omega)
   rw [hW3]
   exact (((Below.refl _ _).alloc (Nat.le_refl _) _).alloc (by simp) _).alloc (by simp;omega) _
  ·rw [hW3]
   unfold C2
   rw [Below.heap_alloc _ _ _ (by simp)]
   have h:=heap_alloc_new (w.alloc (.cells #[.int .u64 (X:Nat),.int .u64 0] 62)) (.cells #[.int .u64 0,.int .u64 0] 62)
   rw [show (w.alloc (.cells #[.int .u64 (X:Nat),.int .u64 0] 62)).heap.size=w.heap.size+1 by simp] at h
   exact h
  ·rw [hW3]
   have h:=heap_alloc_new ((w.alloc (.cells #[.int .u64 (X:Nat),.int .u64 0] 62)).alloc (.cells #[.int .u64 0,.int .u64 0] 62)) (.cells #[.int .u64 0,.int .u64 0] 62)
   rw [show ((w.alloc (.cells #[.int .u64 (X:Nat),.int .u64 0] 62)).alloc (.cells #[.int .u64 0,.int .u64 0] 62)).heap.size=w.heap.size+2 by simp] at h
   exact h
  ·rw [hW3]
   unfold C2
   rw [Below.heap_alloc _ _ _ (by simp;omega),Below.heap_alloc _ _ _ (by simp)]
   exact heap_alloc_new w _
 have HT:Hid (∀ (W:World) (x r e q:Nat),r=2 ^ e+2 ^ (e+1)*q→r<2 ^ 23→TL L M' K' R O w x W→Calls Tryd.prog 87 #[.int .u64 (r:Nat)] W fun v w'=>v=.returned (.int .i64 (e:Int))∧TL L M' K' R O w x w'):=hide (fun W x r e q hr hl h=>(tz_any W r e q hr hl h.sl.tab).mono (by rintro r w' ⟨h1,rfl⟩;exact ⟨h1,h⟩))
 have HA:Hid (∀ (W:World) (x e:Nat),e≤L→X.testBit e=true→TL L M' K' R O w x W→Calls Tryd.prog f (#[.int .i64 (e:Int)]++cs) W fun r w'=>r=.returned (psV (A e))∧TL L M' K' R O w x w'):=by
  refine hide (fun W x e he hb h9=>(h9.sl.ask (h e he hb) hM hK).mono ?_)
  rintro r w' ⟨h1,h2,h3,h4⟩
  exact ⟨h1,h2,(h3 _ (by omega) (by omega)).trans h9.res,(h3 _ (by omega) (by omega)).trans h9.out⟩
 have HW:Hid (∀ (W:World) (x a b:Nat),a<2 ^ (L+1)→b<2 ^ (L+1)→TL L M' K' R O w x W→Calls Tryd.prog 70 #[psV a,psV b] W fun r w'=>r=.returned (psV (a ||| b))∧TL L M' K' R O w x w'):=by
  refine hide (fun W x a b ha hb h9=>(with_any W a b (by omega) (by omega)).mono ?_)
  rintro r w' ⟨h1,h2⟩
  exact ⟨h1,h9.below h2⟩
 have HPut:Hid (∀ (W:World) (x X:Nat),TL L M' K' R O w x W→TL L M' K' R O w X ((W.setCell ⟨w.heap.size+1+1,0,none⟩ (.int .u64 (X:Nat))).setCell ⟨w.heap.size+1+1,1,none⟩ (.int .u64 0))):=hide (fun W x X h=>h.put X)
 have HD:Hid (∀ x W,TL L M' K' R O w x W→TL L M' K' R O w x W.drew):=hide (fun x W h=>h.drew)
 have HX:Hid (X<2 ^ (L+1)∧L≤22∧(2 ^ (L+1)≤2 ^ 23)):=⟨hX,hL,hp23⟩
 have HU:Hid (U=un A (L+1)∧(∀ r,U r<2 ^ (L+1))∧∀ p,A p<2 ^ (L+1)):=⟨hU,hUl,hA⟩
 rw [←hU]
 clear h hU hUl hA hX hL hp23 hM hK hI hF
 unfold psV at HA HW ⊢
 have hw0:IntKind.i64.wrap 0=0:=by decide
 have hi0:=ix0
 have hi1:=ix1
 have q0:=HS.out.2.c0
 have q1:=HS.out.2.c1
 go_enter Tryd.func67,Tryd.ntmps67
 go_wp2
 rw [←hW3]
 clear hW3
 go_loopw [6,7,9] (fun v6 v7 iv wr=>∃ x:Nat,((iv=.int .i64 0∧x=0)∨(iv=.int .i64 1∧x=U X)∨(iv=.int .i64 2∧x=U X))∧Hid (TL L M' K' R O w x wr)) (fun _ _ iv _=>2-(intOf iv).toNat)
 case atStart=>exact ⟨0,.inl ⟨rfl,rfl⟩,hide HS.out.1⟩
 case round =>
  obtain ⟨x,hix,HY⟩:=hrel
  clear HS
  rcases hix with ⟨rfl,rfl⟩|⟨rfl,rfl⟩|⟨rfl,rfl⟩
  ·go_wp2
   go_loopw [7] (fun v7 wr=>∃ r x:Nat,v7=.int .u64 (r:Nat)∧Hid (TL L M' K' R O w x wr∧x<2 ^ (L+1)∧r<2 ^ (L+1)∧(∀ j,r.testBit j=true→X.testBit j=true)∧U X=x ||| U r)) (fun v7 _=>(intOf v7).toNat)
   case atStart=>exact ⟨X,0,rfl,hide ⟨HY.out,Nat.pow_pos (by decide),HX.out.1,fun _ h=>h,by simp⟩⟩
   case round =>
    obtain ⟨r,x,rfl,HZ⟩:=hrel
    clear HY
    by_cases hr0:r=0
    ·subst hr0
     have HB:Hid (TL L M' K' R O w (U X) wr):=by
      have h9:=HZ.out.2.2.2.2
      rw [HU.out.1,un_zero,Nat.or_zero,←HU.out.1] at h9
      rw [h9]
      exact HZ.out.1
     clear HZ HA HW HT HPut
     go_wp2
     go_roundw
     case rel=>exact ⟨U X,.inr (.inl ⟨rfl,rfl⟩),HB⟩
     case measure=>simp [intOf]
    ·obtain ⟨e,q,hr⟩:=low r (by omega)
     obtain ⟨r2,hr2⟩:∃ r2,r2=2 ^ (e+1)*q:=⟨_,rfl⟩
     have h24:=HX.out.2.2
     have hrl:=HZ.out.2.2.1
     have heL:=lowbit hr hrl
     have hp2:0<2 ^ e:=Nat.pow_pos (by decide)
     have hand:bits .and .u64 (r:Int) ((r:Int)-1)=((r2:Nat):Int):=by
      rw [show (r:Int)-1=((r-1:Nat):Int) by omega,tz.u64_and r (r-1) (by omega) (by omega),rex.and_pred hr,hr2]
     have hsub:IntKind.u64.wrap ((r:Int)-1)=(r:Int)-1:=by rw [IntKind.wrap_u64];omega
     have hne:((r:Int) != 0)=true:=by simp;omega
     have hne':¬ (r:Int)=0:=by omega
     have hbit:∀ j,r2.testBit j=true→r.testBit j=true:=by
      intro j hj
      rw [hr2,Nat.testBit_two_pow_mul] at hj
      simp only [Bool.and_eq_true,decide_eq_true_eq] at hj
      rw [hr,bit_low]
      simp [hj.2,show e<j by omega]
     have hsplit:U r=A e ||| U r2:=by rw [HU.out.1,un_step hr heL,hr2]
     have HQ:Hid (TL L M' K' R O w (x ||| A e) wr→True):=fun _=>trivial
     have hT:=hide (fun W h=>HT.out W x r e q hr (by omega) h)
     have hA:=hide (fun W h=>HA.out W x e (by omega) (HZ.out.2.2.2.1 e (by rw [hr,bit_low];simp)) h)
     have hW:=hide (fun W h=>HW.out W x x (A e) HZ.out.2.1 (HU.out.2.2 e) h)
     have hP:=hide (fun W h=>HPut.out W x (x ||| A e) h)
     have HN:Hid (∀ wx,TL L M' K' R O w (x ||| A e) wx→Hid (TL L M' K' R O w (x ||| A e) wx∧(x ||| A e)<2 ^ (L+1)∧r2<2 ^ (L+1)∧(∀ j,r2.testBit j=true→X.testBit j=true)∧U X=(x ||| A e) ||| U r2)):=by
      intro wx h
      refine ⟨h,Nat.or_lt_two_pow HZ.out.2.1 (HU.out.2.2 e),by omega,fun j hj=>HZ.out.2.2.2.1 j (hbit j hj),?_⟩
      rw [HZ.out.2.2.2.2,hsplit,Nat.or_assoc]
     have hlt:r2<r:=by omega
     have hwe:IntKind.i64.wrap (e:Int)=e:=by rw [IntKind.wrap_i64];have:=HX.out.2.1;omega
     have hS0:=HZ.out.1
     have o0:=hS0.out.c0
     have o1:=hS0.out.c1
     have f0:=hS0.out.fz 0
     have f1:=hS0.out.fz 1
     generalize x ||| A e=y at *
     generalize A e=ae at *
     clear HZ HA HW HT HPut HQ hr hr2 hbit hsplit hrl heL hp2 h24 HU
     go_wp2
     go_region_law (first | (go_simp;go_at_call 87;with_reducible (refine (hT.out _ ?_).mono ?_);(first | exact hS0 | exact HD.out _ _ hS0 | assumption);rintro v w1 ⟨rfl,hS1⟩;have a0:=hS1.out.c0;have a1:=hS1.out.c1;have b0:=hS1.out.fz 0;have b1:=hS1.out.fz 1) | (go_simp;go_at_call 70;with_reducible (refine (hW.out _ ?_).mono ?_);(first | exact hS2 | exact HD.out _ _ hS2 | assumption);rintro v w3 ⟨rfl,hS3⟩;have e0:=hS3.out.c0;have e1:=hS3.out.c1;have h0:=hS3.out.fz 0;have h1:=hS3.out.fz 1) | (go_simp;with_reducible (refine (hA.out _ ?_).mono ?_);(first | exact hS1 | exact HD.out _ _ hS1 | assumption);rintro v w2 ⟨rfl,hS2⟩;have c0:=hS2.out.c0;have c1:=hS2.out.c1;have d0:=hS2.out.fz 0;have d1:=hS2.out.fz 1))
     all_goals
      have hS4:=HN.out _ (hP.out w3 hS3)
      generalize (w3.setCell ⟨w.heap.size+1+1,0,none⟩ (.int .u64 (y:Nat))).setCell ⟨w.heap.size+1+1,1,none⟩ (.int .u64 0)=w4 at hS4 ⊢
      clear hS3 hS2 hS1 hS0 hA hW hT HN hP
      go_wp2
      go_roundw
      case rel=>exact ⟨r2,y,rfl,hS4⟩
      case measure=>simp [intOf];omega
  ·go_wp2
   go_loopw [7] (fun v7 wr=>(v7=.int .u64 0∧Hid (TL L M' K' R O w (U X) wr))) (fun v7 _=>0)
   case atStart=>exact ⟨rfl,HY⟩
   case round =>
    obtain ⟨rfl,HZ⟩:=hrel
    go_wp2
    go_roundw
    case rel=>exact ⟨U X,.inr (.inr ⟨rfl,rfl⟩),HZ⟩
    case measure=>simp [intOf]
  ·have o0:=HY.out.out.c0
   have o1:=HY.out.out.c1
   have f0:=HY.out.res.fz 0
   have f1:=HY.out.res.fz 1
   have g0:=HY.out.res.c0
   have g1:=HY.out.res.c1
   have HE:=hide (TL.done HY.out (U X))
   clear HY HA HW HT HPut
   go_wp2
   exact bodyPost_ret (results_cell_row rfl _ _ (w.heap.size+1) 62 _ (0,0) _ rfl HE.out.1 Tryd.underlying62 rfl (size62.trans (by simp))) rfl ⟨rfl,HE.out.2⟩
end Go.Proofs.YtfhimmnoipfiaaaDoor.eng
namespace Go.Proofs.YtfhimmnoipfiaaaDoor.eng
open Go.ChangeShapes Go.WideShapes Go.ChangeAt Go.RowKit
open bytes places sets tz rex
structure Sq (L:Nat) (M:Fz) (K:Ks) (R0:Rs) (O0:Lb) (w0:World) (P:Nat→Prop) (W:World):Prop where
 ex:∃ R O,St L M K R0 O0 w0 R O W∧∀ b,P b→w0.heap.size≤b∧b<W.heap.size∧O b=none
theorem In.at {M:Fz} {w:World} (h:In M w) {b:Nat} {cs:Array Value} {t:TypeId} {fr:Nat×Nat} (hb:M b=some (.cells cs t fr)) {i:Nat} {v:Value} (hi:cs[i]?=some v):w.cell? ⟨b,i,none⟩=some v:=by
 simp [World.cell?,h b _ hb,hi]
section
variable {L:Nat} {M:Fz} {K:Ks} {R0:Rs} {O0:Lb} {w0 W W':World} {P Q:Nat→Prop}
theorem Sq.start (h:Inv L M K R0 O0 w0) (hb:Below w0.heap.size w0 W) (hP:∀ b,P b→w0.heap.size≤b∧b<W.heap.size):Sq L M K R0 O0 w0 P W:=⟨R0,O0,(St.refl h).below hb,fun b h1=>⟨(hP b h1).1,(hP b h1).2,h.fresh (hP b h1).1⟩⟩
theorem Sq.less (h:Sq L M K R0 O0 w0 P W) (hq:∀ b,Q b→P b):Sq L M K R0 O0 w0 Q W:=by
 obtain ⟨R,O,g1,g2⟩:=h.ex
 exact ⟨R,O,g1,fun b hb=>g2 b (hq b hb)⟩
theorem Sq.lt (h:Sq L M K R0 O0 w0 P W) {b:Nat} (hb:P b):w0.heap.size≤b∧b<W.heap.size:=let ⟨R,O,g1,g2⟩:=h.ex;⟨(g2 b hb).1,(g2 b hb).2.1⟩
theorem Sq.below (h:Sq L M K R0 O0 w0 P W) (hb:Below W.heap.size W W'):Sq L M K R0 O0 w0 P W':=by
 obtain ⟨R,O,g1,g2⟩:=h.ex
 exact ⟨R,O,g1.below hb,fun b h1=>⟨(g2 b h1).1,by have:=(g2 b h1).2.1;have:=hb.size;omega,(g2 b h1).2.2⟩⟩
theorem Sq.drew (h:Sq L M K R0 O0 w0 P W):Sq L M K R0 O0 w0 P W.drew:=h.below (Below.refl _ _).drew
theorem Sq.dn (h:Sq L M K R0 O0 w0 P W) (m:Nat):Sq L M K R0 O0 w0 P (W.drewN m):=h.below ⟨rfl,rfl,rfl,Nat.le_refl _,fun _ _=>rfl⟩
theorem Sq.join (h:Sq L M K R0 O0 w0 P W) (hb:Below W.heap.size W W') (hq:∀ b,Q b→P b∨(W.heap.size≤b∧b<W'.heap.size)):Sq L M K R0 O0 w0 Q W':=by
 obtain ⟨R,O,g1,g2⟩:=h.ex
 refine ⟨R,O,g1.below hb,fun b h1 => ?_⟩
 have hz:=hb.size
 have hs:=g1.size
 rcases hq b h1 with h1 | ⟨h1,h2⟩
 ·exact ⟨(g2 b h1).1,by have:=(g2 b h1).2.1;omega,(g2 b h1).2.2⟩
 ·exact ⟨by omega,h2,g1.fresh h1⟩
theorem Sq.set (h:Sq L M K R0 O0 w0 P W) {a:Addr} (h1:P a.block) (v:Value):Sq L M K R0 O0 w0 P (W.setCell a v):=by
 obtain ⟨R,O,g1,g2⟩:=h.ex
 exact ⟨R,O,g1.set (g2 _ h1).1 (g2 _ h1).2.2 v,fun b hb=>⟨(g2 b hb).1,by simpa using (g2 b hb).2.1,(g2 b hb).2.2⟩⟩
theorem Sq.st (h:Sq L M K R0 O0 w0 P W):∃ R O,St L M K R0 O0 w0 R O W:=let ⟨R,O,g,_⟩:=h.ex;⟨R,O,g⟩
theorem Sq.fz (h:Sq L M K R0 O0 w0 P W):In M W:=let ⟨R,O,g,_⟩:=h.ex;g.inv.fz
theorem Sq.size (h:Sq L M K R0 O0 w0 P W):w0.heap.size≤W.heap.size:=let ⟨R,O,g,_⟩:=h.ex;g.size
theorem Sq.ask (h:Sq L M K R0 O0 w0 P W) {M0:Fz} {K0:Ks} {f:Nat} {cs:Array Value} {p X:Nat} (ha:At L M0 K0 f cs p X) (hM:FLe M0 M) (hK:KLe K0 K) :
  Calls Tryd.prog f (#[.int .i64 (p:Int)]++cs) W fun e w'=>e=.returned (psV X)∧Sq L M K R0 O0 w0 P w'∧(∀ b,P b→w'.heap[b]?=W.heap[b]?)∧W.heap.size≤w'.heap.size:=by
 obtain ⟨R,O,g1,g2⟩:=h.ex
 refine (ha M K R O W hM hK g1.inv).mono ?_
 rintro e w' ⟨he,R',O',hs⟩
 refine ⟨he,⟨R',O',g1.trans hs,fun b h1=>⟨(g2 b h1).1,by have:=hs.size;have:=(g2 b h1).2.1;omega,(hs.lab b (g2 b h1).2.1).trans (g2 b h1).2.2⟩⟩,fun b h1=>hs.same b (g2 b h1).2.1 (.inl (g2 b h1).2.2),hs.size⟩
end
end Go.Proofs.YtfhimmnoipfiaaaDoor.eng
namespace Go.Proofs.YtfhimmnoipfiaaaDoor.eng
open Go.ChangeShapes Go.WideShapes Go.ChangeAt Go.RowKit
open bytes places sets tz rex
structure Kd where
 ve:Value
 vp:Value
 a:B2
 s:Sp
def Kd.cells (k:Kd):List Value:=[k.ve,k.vp]
def rowOf (ks:List Kd):List Value:=ks.flatMap Kd.cells
theorem rowOf_len:∀ ks:List Kd,(rowOf ks).length=ks.length*2
 | []=>rfl
 | k::ks=>by
  have:=rowOf_len ks
  simp only [rowOf,List.flatMap_cons,List.length_append,List.length_cons] at this ⊢
  simp only [Kd.cells,List.length_cons,List.length_nil]
  omega
theorem rowOf_get:∀ (ks:List Kd) (i:Nat) (k:Kd),ks[i]?=some k→(rowOf ks)[i*2]?=some k.ve∧(rowOf ks)[i*2+1]?=some k.vp
 | [],i,k,h=>by simp at h
 | x::ks,0,k,h=>by
  simp only [List.getElem?_cons_zero,Option.some.injEq] at h
  subst h
  exact ⟨rfl,rfl⟩
 | x::ks,i+1,k,h=>by
  rw [List.getElem?_cons_succ] at h
  have:=rowOf_get ks i k h
  have e:(rowOf (x::ks))=x.ve::x.vp::rowOf ks:=rfl
  rw [e,show (i+1)*2=i*2+1+1 by omega]
  simp only [List.getElem?_cons_succ]
  exact this
structure Spn (w:World) (g:Nat) (out:List Int):Prop where
 ex:∃ cur:Array Value,w.heap[g]?=some (.cells cur 3 (0,0))∧∀ (x:Nat) (v:Int),out[x]?=some v→cur[x]?=some (Value.int .i64 v)
theorem Spn.same {w w':World} {g:Nat} {out:List Int} (h:Spn w g out) (e:w'.heap[g]?=w.heap[g]?):Spn w' g out:=by
 obtain ⟨cur,h1,h2⟩:=h.ex
 exact ⟨cur,e.trans h1,h2⟩
theorem Spn.cell {w:World} {g:Nat} {out:List Int} (h:Spn w g out) {x:Nat} {v:Int} (hx:out[x]?=some v):w.cell? ⟨g,x,none⟩=some (.int .i64 v):=by
 obtain ⟨cur,h1,h2⟩:=h.ex
 simp [World.cell?,h1,h2 x v hx]
theorem Spn.fr {w:World} {g:Nat} {out:List Int} (h:Spn w g out) (i:Nat):w.frozen? ⟨g,i,none⟩=false:=by
 obtain ⟨cur,h1,h2⟩:=h.ex
 simp [World.frozen?,h1]
theorem Spn.lt {w:World} {g:Nat} {out:List Int} (h:Spn w g out):g<w.heap.size:=by
 obtain ⟨cur,h1,h2⟩:=h.ex
 exact (Array.getElem?_eq_some_iff.1 h1).1
theorem Spn.set {w:World} {g:Nat} {out:List Int} (h:Spn w g out) (x:Nat) (hx:x<out.length) (v:Int):Spn (w.setCell ⟨g,x,none⟩ (.int .i64 v)) g (out.set x v):=by
 obtain ⟨cur,h1,h2⟩:=h.ex
 have h3:=heap_setCell_same w g x cur 3 (.int .i64 v) h1
 refine ⟨_,h3,fun y u hy => ?_⟩
 have hc:x<cur.size:=by
  have:=h2 x (out[x]'hx) (List.getElem?_eq_getElem hx)
  exact (Array.getElem?_eq_some_iff.1 this).1
 by_cases e:x=y
 ·subst e
  rw [List.getElem?_set_self hx] at hy
  simp only [Option.some.injEq] at hy
  subst hy
  simp [hc]
 ·rw [List.getElem?_set_ne e] at hy
  have:=h2 y u hy
  simp only [Array.getElem?_setIfInBounds_ne e]
  exact this
structure Sx (L:Nat) (M:Fz) (K:Ks) (R0:Rs) (O0:Lb) (w0:World) (g:Nat) (P:Nat→Prop) (W:World):Prop where
 ex:∃ R O,Inv L M K R O W∧(W.os=w0.os∧W.tape=w0.tape∧W.output=w0.output)∧w0.heap.size≤W.heap.size∧(∀ b,b<w0.heap.size→b≠g→(O0 b=none∨O0 b=some (0,0))→W.heap[b]?=w0.heap[b]?)∧(∀ b,b<w0.heap.size→O b=O0 b)∧(∀ k,R0 k≠none→R k=R0 k)∧O g=none∧∀ b,P b→w0.heap.size≤b∧b<W.heap.size∧O b=none∧b≠g
section
variable {L:Nat} {M:Fz} {K:Ks} {R0:Rs} {O0:Lb} {w0 W W':World} {P Q:Nat→Prop} {g:Nat}
theorem Sx.start (h:Inv L M K R0 O0 w0) (hg:O0 g=none) (hl:g<w0.heap.size) (hb:Below w0.heap.size w0 W) (hP:∀ b,P b→w0.heap.size≤b∧b<W.heap.size):Sx L M K R0 O0 w0 g P W :=
 ⟨R0,O0,h.below hb,⟨hb.os,hb.tape,hb.output⟩,hb.size,fun b h1 _ _=>hb.block b h1,fun _ _=>rfl,fun _ _=>rfl,hg,fun b h1=>⟨(hP b h1).1,(hP b h1).2,h.fresh (hP b h1).1,by have:=(hP b h1).1;omega⟩⟩
theorem Sx.less (h:Sx L M K R0 O0 w0 g P W) (hq:∀ b,Q b→P b):Sx L M K R0 O0 w0 g Q W:=by
 obtain ⟨R,O,g1,g2,g3,g4,g5,g6,g7,g8⟩:=h.ex
 exact ⟨R,O,g1,g2,g3,g4,g5,g6,g7,fun b hb=>g8 b (hq b hb)⟩
theorem Sx.lt (h:Sx L M K R0 O0 w0 g P W) {b:Nat} (hb:P b):w0.heap.size≤b∧b<W.heap.size∧b≠g:=by
 obtain ⟨R,O,g1,g2,g3,g4,g5,g6,g7,g8⟩:=h.ex
 exact ⟨(g8 b hb).1,(g8 b hb).2.1,(g8 b hb).2.2.2⟩
theorem Sx.join (h:Sx L M K R0 O0 w0 g P W) (hl:g<W.heap.size) (hb:Below W.heap.size W W') (hq:∀ b,Q b→P b∨(W.heap.size≤b∧b<W'.heap.size)):Sx L M K R0 O0 w0 g Q W':=by
 obtain ⟨R,O,g1,g2,g3,g4,g5,g6,g7,g8⟩:=h.ex
 have hz:=hb.size
 refine ⟨R,O,g1.below hb,⟨hb.os.trans g2.1,hb.tape.trans g2.2.1,hb.output.trans g2.2.2⟩,by omega,fun b h1 h2 h3=>(hb.block b (by omega)).trans (g4 b h1 h2 h3),g5,g6,g7,fun b h1 => ?_⟩
 rcases hq b h1 with h1 | ⟨h1,h2⟩
 ·exact ⟨(g8 b h1).1,by have:=(g8 b h1).2.1;omega,(g8 b h1).2.2.1,(g8 b h1).2.2.2⟩
 ·exact ⟨by omega,h2,g1.fresh h1,by omega⟩
theorem Sx.below (h:Sx L M K R0 O0 w0 g P W) (hl:g<W.heap.size) (hb:Below W.heap.size W W'):Sx L M K R0 O0 w0 g P W':=h.join hl hb fun b h1=>.inl h1
theorem Sx.set (h:Sx L M K R0 O0 w0 g P W) {a:Addr} (h1:P a.block∨a.block=g) (v:Value):Sx L M K R0 O0 w0 g P (W.setCell a v):=by
 obtain ⟨R,O,g1,g2,g3,g4,g5,g6,g7,g8⟩:=h.ex
 have ho:O a.block=none:=by
  rcases h1 with h1 | h1
  ·exact (g8 _ h1).2.2.1
  ·rw [h1];exact g7
 have hne:∀ b,b<w0.heap.size→b≠g→b≠a.block:=by
  intro b hb hg e
  rcases h1 with h1 | h1
  ·have:=(g8 _ h1).1;omega
  ·omega
 refine ⟨R,O,g1.set ho v,⟨(Below.setCell (Below.refl 0 W) (p:=a) (Nat.zero_le _) v).os.trans g2.1,(Below.setCell (Below.refl 0 W) (p:=a) (Nat.zero_le _) v).tape.trans g2.2.1,(Below.setCell (Below.refl 0 W) (p:=a) (Nat.zero_le _) v).output.trans g2.2.2⟩,by simpa using g3,fun b h2 h3 h4=>(Below.heap_setCell W a v b (hne b h2 h3)).trans (g4 b h2 h3 h4),g5,g6,g7,fun b hb=>⟨(g8 b hb).1,by simpa using (g8 b hb).2.1,(g8 b hb).2.2⟩⟩
theorem Sx.fz (h:Sx L M K R0 O0 w0 g P W):In M W:=by
 obtain ⟨R,O,g1,_⟩:=h.ex
 exact g1.fz
theorem Sx.ask (h:Sx L M K R0 O0 w0 g P W) (hl:g<W.heap.size) {M0:Fz} {K0:Ks} {f:Nat} {cs:Array Value} {p X:Nat} (ha:At L M0 K0 f cs p X) (hM:FLe M0 M) (hK:KLe K0 K) :
  Calls Tryd.prog f (#[.int .i64 (p:Int)]++cs) W fun e w'=>e=.returned (psV X)∧Sx L M K R0 O0 w0 g P w'∧(∀ b,P b∨b=g→w'.heap[b]?=W.heap[b]?)∧W.heap.size≤w'.heap.size:=by
 obtain ⟨R,O,g1,g2,g3,g4,g5,g6,g7,g8⟩:=h.ex
 refine (ha M K R O W hM hK g1).mono ?_
 rintro e w' ⟨he,R',O',hs⟩
 refine ⟨he,⟨R',O',hs.inv,⟨hs.os.trans g2.1,hs.tape.trans g2.2.1,hs.output.trans g2.2.2⟩,by have:=hs.size;omega,fun b h1 h2 h3=>(hs.same b (by omega) (by rw [g5 b h1];exact h3)).trans (g4 b h1 h2 h3),fun b h1=>(hs.lab b (by omega)).trans (g5 b h1),fun k hk=>(hs.rows k (by rw [g6 k hk];exact hk)).trans (g6 k hk),(hs.lab g hl).trans g7,fun b h1=>⟨(g8 b h1).1,by have:=hs.size;have:=(g8 b h1).2.1;omega,(hs.lab b (g8 b h1).2.1).trans (g8 b h1).2.2.1,(g8 b h1).2.2.2⟩⟩,fun b h1 => ?_,hs.size⟩
 rcases h1 with h1 | h1
 ·exact hs.same b (g8 b h1).2.1 (.inl (g8 b h1).2.2.1)
 ·rw [h1];exact hs.same g hl (.inl g7)
end
def Pt (L:Nat) (M:Fz) (K:Ks) (f:Nat) (cs:Array Value) (a:B2) (s:Sp) (N:Nat):Prop :=
 ∀ M' K' R O w,FLe M M'→KLe K K'→Inv L M' K' R O w→∀ (i j g n c:Nat) (out:List Int),i≤j→j≤L→a i j=true→O g=none→Spn w g out→out.length=n→N≤n→n≤c→n≤100 →
  Calls Tryd.prog f (#[.int .i64 (i:Int),.int .i64 (j:Int),.slice (some ⟨g,0,none⟩) n c]++cs) w fun e w'=>e=.returned (.tuple #[])∧Spn w' g (s i j out)∧(s i j out).length=n∧Sx L M' K' R O w g (fun _=>False) w'
theorem Pt.up {L:Nat} {M M':Fz} {K K':Ks} {f:Nat} {cs:Array Value} {a:B2} {s:Sp} {N:Nat} (h:Pt L M K f cs a s N) (hM:FLe M M') (hK:KLe K K'):Pt L M' K' f cs a s N:=fun M2 K2 R O w h1 h2=>h M2 K2 R O w (hM.trans h1) (hK.trans h2)
structure KdOK (L:Nat) (M:Fz) (K:Ks) (N:Nat) (k:Kd):Prop where
 e:∃ f cs,k.ve=.func (.func f) #[] cs∧OkF f∧∀ p,p≤L→At L M K f cs p (pl L k.a p)
 p:∃ f cs,k.vp=.func (.func f) #[] cs∧OkF f∧Pt L M K f cs k.a k.s N
 mono:Mono k.a
theorem KdOK.up {L:Nat} {M M':Fz} {K K':Ks} {N:Nat} {k:Kd} (h:KdOK L M K N k) (hM:FLe M M') (hK:KLe K K'):KdOK L M' K' N k:=by
 obtain ⟨f,cs,e1,o1,h1⟩:=h.e
 obtain ⟨f2,cs2,e2,o2,h2⟩:=h.p
 exact ⟨⟨f,cs,e1,o1,fun p hp=>(h1 p hp).up hM hK⟩,⟨f2,cs2,e2,o2,h2.up hM hK⟩,h.mono⟩
section
variable {L:Nat} {M:Fz} {K:Ks} {R0:Rs} {O0:Lb} {w0 W W':World} {P Q:Nat→Prop} {g:Nat}
theorem Sx.part (h:Sx L M K R0 O0 w0 g P W) {M0:Fz} {K0:Ks} {f:Nat} {cs:Array Value} {a:B2} {s:Sp} {N:Nat} (ha:Pt L M0 K0 f cs a s N) (hM:FLe M0 M) (hK:KLe K0 K) {i j n c:Nat} {out:List Int} (hij:i≤j) (hj:j≤L) (hm:a i j=true) (hs:Spn W g out) (hn:out.length=n) (hN:N≤n) (hc:n≤c) (hn1:n≤100) :
  Calls Tryd.prog f (#[.int .i64 (i:Int),.int .i64 (j:Int),.slice (some ⟨g,0,none⟩) n c]++cs) W fun e w'=>e=.returned (.tuple #[])∧Spn w' g (s i j out)∧(s i j out).length=n∧Sx L M K R0 O0 w0 g P w'∧(∀ b,P b→w'.heap[b]?=W.heap[b]?)∧W.heap.size≤w'.heap.size:=by
 obtain ⟨R,O,g1,g2,g3,g4,g5,g6,g7,g8⟩:=h.ex
 refine (ha M K R O W hM hK g1 i j g n c out hij hj hm g7 hs hn hN hc hn1).mono ?_
 rintro e w' ⟨he,h1,h2,h3⟩
 obtain ⟨R',O',k1,k2,k3,k4,k5,k6,k7,k8⟩:=h3.ex
 refine ⟨he,h1,h2,⟨R',O',k1,⟨k2.1.trans g2.1,k2.2.1.trans g2.2.1,k2.2.2.trans g2.2.2⟩,by omega,fun b h1 h2 h3=>(k4 b (by omega) h2 (by rw [g5 b h1];exact h3)).trans (g4 b h1 h2 h3),fun b h1=>(k5 b (by omega)).trans (g5 b h1),fun k hk=>(k6 k (by rw [g6 k hk];exact hk)).trans (g6 k hk),k7,fun b h1=>⟨(g8 b h1).1,by have:=(g8 b h1).2.1;omega,(k5 b (g8 b h1).2.1).trans (g8 b h1).2.2.1,(g8 b h1).2.2.2⟩⟩,fun b h1=>k4 b (g8 b h1).2.1 (g8 b h1).2.2.2 (.inl (g8 b h1).2.2.1),k3⟩
end
end Go.Proofs.YtfhimmnoipfiaaaDoor.eng
namespace Go.Proofs.YtfhimmnoipfiaaaDoor.eng
open Go.ChangeShapes Go.WideShapes Go.ChangeAt Go.RowKit
open bytes places sets tz rex
def up {α:Type} (X:Nat→α) (p:Nat) (x:α):Nat→α:=fun i=>if i=p then x else X i
theorem up_same {α:Type} (X:Nat→α) (p:Nat) (x:α):up X p x p=x:=by simp [up]
theorem up_ne {α:Type} (X:Nat→α) {p i:Nat} (x:α) (h:i≠p):up X p x i=X i:=by simp [up,h]
section
variable {L:Nat} {M:Fz} {K:Ks} {R0 R:Rs} {O0 O:Lb} {w0 W W':World}
theorem M_none (h:Inv L M K R O W) {b:Nat} (ho:O b=none):M b=none:=by
 cases e:M b with
 | none=>rfl
 | some o=>have:=h.l0 b (by rw [e];simp);rw [ho] at this;cases this
theorem FLe.up {b:Nat} (h:M b=none) (o:Obj):FLe M (up M b (some o)):=by
 intro i x hi
 by_cases e:i=b
 ·subst e;rw [h] at hi;cases hi
 ·rw [up_ne _ _ e];exact hi
theorem KLe.up {k:Nat} (h:K k=none) (m:Mk):KLe K (up K k (some m)):=by
 intro i x hi
 by_cases e:i=k
 ·subst e;rw [h] at hi;cases hi
 ·rw [up_ne _ _ e];exact hi
theorem Inv.freeze (h:Inv L M K R O W) {b:Nat} {o:Obj} (hb:W.heap[b]?=some o) (ho:O b=none):Inv L (up M b (some o)) K R (up O b (some (0,0))) W where
 fz:=fun i x hi=>by
  by_cases e:i=b
  ·subst e;rw [up_same] at hi;rw [hb,hi]
  ·rw [up_ne _ _ e] at hi;exact h.fz i x hi
 tab:=h.tab
 l0:=fun i hi=>by
  by_cases e:i=b
  ·subst e;rw [up_same]
  ·rw [up_ne _ _ e] at hi ⊢;exact h.l0 i hi
 z0:=by rw [up_ne _ _ (fun e=>by have:=h.z0;rw [e,ho] at this;cases this)];exact h.z0
 lk:=fun k m hk=>by
  have:=h.lk k m hk
  rw [up_ne _ _ (fun e=>by rw [e,ho] at this;cases this.1),up_ne _ _ (fun e=>by rw [e,ho] at this;cases this.2)]
  exact this
 lr:=fun k a d hk=>by
  have:=h.lr k a d hk
  rw [up_ne _ _ (fun e=>by rw [e,ho] at this;cases this.1),up_ne _ _ (fun e=>by rw [e,ho] at this;cases this.2)]
  exact this
 lt:=fun i hi=>by
  by_cases e:i=b
  ·subst e;exact (Array.getElem?_eq_some_iff.1 hb).1
  ·rw [up_ne _ _ e] at hi;exact h.lt i hi
 memo:=h.memo
theorem St.freeze (h:St L M K R0 O0 w0 R O W) {b:Nat} {o:Obj} (hl:w0.heap.size≤b) (hb:W.heap[b]?=some o) (ho:O b=none):St L (up M b (some o)) K R0 O0 w0 R (up O b (some (0,0))) W :=
 St.of (h.inv.freeze hb ho) ⟨h.os,h.tape,h.output,h.size,h.same,fun i hi=>by rw [up_ne _ _ (by omega)];exact h.lab i hi,h.rows⟩
theorem Inv.memoed (h:Inv L M K R O W) {k b d:Nat} (A:Nat→Nat) (hk:K k=none) (hr:R k=none) (hob:O b=none) (hod:O d=none) (hbd:b≠d) (hb:C1 W b (.slice none 0 0) 124) (hd:C1 W d (.slice none 0 0) 125) :
  Inv L M (up K k (some ⟨b,d,A⟩)) R (up (up O b (some (1,k))) d (some (2,k))) W where
 fz:=h.fz
 tab:=h.tab
 l0:=fun i hi=>by
  have:=h.l0 i hi
  rw [up_ne _ _ (fun e=>by rw [e,hod] at this;cases this),up_ne _ _ (fun e=>by rw [e,hob] at this;cases this)]
  exact this
 z0:=by
  have:=h.z0
  rw [up_ne _ _ (fun e=>by rw [e,hod] at this;cases this),up_ne _ _ (fun e=>by rw [e,hob] at this;cases this)]
  exact this
 lk:=fun i m hi=>by
  by_cases e:i=k
  ·subst e
   rw [up_same] at hi
   simp only [Option.some.injEq] at hi
   subst hi
   show up (up O b (some (1,i))) d (some (2,i)) b=_∧up (up O b (some (1,i))) d (some (2,i)) d=_
   rw [up_same,up_ne _ _ hbd,up_same]
   exact ⟨rfl,rfl⟩
  ·rw [up_ne _ _ e] at hi
   have:=h.lk i m hi
   rw [up_ne _ _ (fun e=>by rw [e,hod] at this;cases this.1),up_ne _ _ (fun e=>by rw [e,hob] at this;cases this.1),up_ne _ _ (fun e=>by rw [e,hod] at this;cases this.2),up_ne _ _ (fun e=>by rw [e,hob] at this;cases this.2)]
   exact this
 lr:=fun i a c hi=>by
  have:=h.lr i a c hi
  rw [up_ne _ _ (fun e=>by rw [e,hod] at this;cases this.1),up_ne _ _ (fun e=>by rw [e,hob] at this;cases this.1),up_ne _ _ (fun e=>by rw [e,hod] at this;cases this.2),up_ne _ _ (fun e=>by rw [e,hob] at this;cases this.2)]
  exact this
 lt:=fun i hi=>by
  by_cases e:i=d
  ·subst e;exact hd.lt
  ·rw [up_ne _ _ e] at hi
   by_cases e2:i=b
   ·subst e2;exact hb.lt
   ·rw [up_ne _ _ e2] at hi;exact h.lt i hi
 memo:=fun i m hi=>by
  by_cases e:i=k
  ·subst e
   rw [up_same] at hi
   simp only [Option.some.injEq] at hi
   subst hi
   exact .inl ⟨hr,hb,hd⟩
  ·rw [up_ne _ _ e] at hi;exact h.memo i m hi
theorem St.memoed (h:St L M K R0 O0 w0 R O W) {k b d:Nat} (A:Nat→Nat) (hlb:w0.heap.size≤b) (hld:w0.heap.size≤d) (hk:K k=none) (hr:R k=none) (hob:O b=none) (hod:O d=none) (hbd:b≠d) (hb:C1 W b (.slice none 0 0) 124) (hd:C1 W d (.slice none 0 0) 125) :
  St L M (up K k (some ⟨b,d,A⟩)) R0 O0 w0 R (up (up O b (some (1,k))) d (some (2,k))) W :=
 St.of (h.inv.memoed A hk hr hob hod hbd hb hd) ⟨h.os,h.tape,h.output,h.size,h.same,fun i hi=>by rw [up_ne _ _ (by omega),up_ne _ _ (by omega)];exact h.lab i hi,h.rows⟩
def Few (K:Ks) (R:Rs):Prop:=∃ k0,∀ k,k0≤k→K k=none∧R k=none
theorem Few.up {k:Nat} {m:Mk} (h:Few K R):Few (up K k (some m)) R:=by
 obtain ⟨k0,h⟩:=h
 exact ⟨k0+k+1,fun i hi=>⟨by rw [up_ne _ _ (by omega)];exact (h i (by omega)).1,(h i (by omega)).2⟩⟩
def Made (L:Nat) (M:Fz) (K:Ks) (R0:Rs) (O0:Lb) (w0 W:World) (G:Fz→Ks→Prop):Prop:=∃ M' K' R O,FLe M M'∧KLe K K'∧St L M' K' R0 O0 w0 R O W∧Few K' R∧G M' K'
theorem Made.mono {G H:Fz→Ks→Prop} (h:Made L M K R0 O0 w0 W G) (g:∀ M' K',FLe M M'→KLe K K'→G M' K'→H M' K'):Made L M K R0 O0 w0 W H:=by
 obtain ⟨M',K',R,O,h1,h2,h3,h4,h5⟩:=h
 exact ⟨M',K',R,O,h1,h2,h3,h4,g M' K' h1 h2 h5⟩
structure KL (L:Nat) (M:Fz) (K:Ks) (R0:Rs) (O0:Lb) (w0:World) (k a d:Nat) (W:World):Prop where
 ex:∃ R O,St L M K R0 O0 w0 R O W∧R k=some (a,d)∧O w0.heap.size=none∧w0.heap.size<W.heap.size
 out:C2 W w0.heap.size 0
variable {k a d:Nat} {m:Mk}
theorem KL.row (h:KL L M K R0 O0 w0 k a d W) (hk:K k=some m):C1 W m.b (.slice (some ⟨a,0,none⟩) (L+1) (L+1)) 124∧C1 W m.d (.slice (some ⟨d,0,none⟩) (L+1) (L+1)) 125∧∃ X q,Row L m.A W a d X q:=by
 obtain ⟨R,O,h1,h2,h3,h4⟩:=h.ex
 rcases h1.inv.memo k m hk with ⟨h0,_⟩|⟨a',d',h0,g1,g2,X,q,g3⟩
 ·rw [h0] at h2;cases h2
 ·rw [h0] at h2
  simp only [Option.some.injEq,Prod.mk.injEq] at h2
  obtain ⟨rfl,rfl⟩:=h2
  exact ⟨g1,g2,X,q,g3⟩
theorem KL.ne (h:KL L M K R0 O0 w0 k a d W) (hk:K k=some m):a≠d∧a≠m.b∧a≠m.d∧d≠m.b∧d≠m.d:=by
 obtain ⟨R,O,h1,h2,h3,h4⟩:=h.ex
 have x:=h1.inv.lr k a d h2
 have y:=h1.inv.lk k m hk
 refine ⟨?_,?_,?_,?_,?_⟩
 ·intro e;have:=x.1;rw [e,x.2] at this;simp at this
 ·intro e;have:=x.1;rw [e,y.1] at this;simp at this
 ·intro e;have:=x.1;rw [e,y.2] at this;simp at this
 ·intro e;have:=x.2;rw [e,y.1] at this;simp at this
 ·intro e;have:=x.2;rw [e,y.2] at this;simp at this
theorem KL.below (h:KL L M K R0 O0 w0 k a d W) (hb:Below W.heap.size W W'):KL L M K R0 O0 w0 k a d W':=by
 obtain ⟨R,O,h1,h2,h3,h4⟩:=h.ex
 exact ⟨⟨R,O,h1.below hb,h2,h3,by have:=hb.size;omega⟩,(hb.block _ h4).trans h.out⟩
theorem KL.drew (h:KL L M K R0 O0 w0 k a d W):KL L M K R0 O0 w0 k a d W.drew:=h.below (Below.refl _ _).drew
theorem KL.fz (h:KL L M K R0 O0 w0 k a d W):In M W:=let ⟨R,O,h1,_⟩:=h.ex;h1.inv.fz
theorem KL.use (h:KL L M K R0 O0 w0 k a d W) {M0:Fz} {K0:Ks} {f:Nat} {cs:Array Value} {p X:Nat} (ha:At L M0 K0 f cs p X) (hM:FLe M0 M) (hK:KLe K0 K) :
  Calls Tryd.prog f (#[.int .i64 (p:Int)]++cs) W fun e w'=>e=.returned (psV X)∧KL L M K R0 O0 w0 k a d w':=by
 obtain ⟨R,O,h1,h2,h3,h4⟩:=h.ex
 refine (ha M K R O W hM hK h1.inv).mono ?_
 rintro e w' ⟨he,R',O',hs⟩
 exact ⟨he,⟨R',O',h1.trans hs,(hs.rows k (by rw [h2];simp)).trans h2,(hs.lab _ h4).trans h3,by have:=hs.size;omega⟩,(hs.same _ h4 (.inl h3)).trans h.out⟩
theorem St.write (h:St L M K R0 O0 w0 R O W) (hk:K k=some m) (hr:R k=some (a,d)) (hz:W'.heap.size=W.heap.size) (ho:W'.os=W.os∧W'.tape=W.tape∧W'.output=W.output) (hs:∀ b,b≠a→b≠d→W'.heap[b]?=W.heap[b]?) (hrow:∃ X q,Row L m.A W' a d X q):St L M K R0 O0 w0 R O W':=by
 have x:=h.inv.lr k a d hr
 have y:=h.inv.lk k m hk
 have ne:∀ {b:Nat} {l:Nat×Nat},O b=some l→l≠(3,k)→l≠(4,k)→b≠a∧b≠d:=by
  intro b l hb h1 h2
  constructor
  ·intro e;rw [e,x.1] at hb;simp at hb;exact h1 hb.symm
  ·intro e;rw [e,x.2] at hb;simp at hb;exact h2 hb.symm
 have keep:∀ {b:Nat} {l:Nat×Nat},O b=some l→l≠(3,k)→l≠(4,k)→W'.heap[b]?=W.heap[b]? := fun hb h1 h2=>hs _ (ne hb h1 h2).1 (ne hb h1 h2).2
 refine St.of ⟨?_,?_,h.inv.l0,h.inv.z0,h.inv.lk,h.inv.lr,fun b hb=>by rw [hz];exact h.inv.lt b hb,?_⟩ ⟨ho.1.trans h.os,ho.2.1.trans h.tape,ho.2.2.trans h.output,by rw [hz];exact h.size,?_,h.lab,h.rows⟩
 ·intro b o hb
  exact (keep (h.inv.mem hb) (by simp) (by simp)).trans (h.inv.fz b o hb)
 ·intro j hj
  exact (World.cell?_of_block (a:=⟨0,j,none⟩) (keep h.inv.z0 (by simp) (by simp))).trans (h.inv.tab j hj)
 ·intro i n hi
  by_cases e:i=k
  ·subst e
   rw [hk] at hi
   simp only [Option.some.injEq] at hi
   subst hi
   rcases h.inv.memo i m hk with ⟨h0,_⟩|⟨a',d',h0,g1,g2,_⟩
   ·rw [h0] at hr;cases hr
   ·rw [h0] at hr
    simp only [Option.some.injEq,Prod.mk.injEq] at hr
    obtain ⟨rfl,rfl⟩:=hr
    exact .inr ⟨a',d',h0,(keep y.1 (by simp) (by simp)).trans g1,(keep y.2 (by simp) (by simp)).trans g2,hrow⟩
  ·have z:=h.inv.lk i n hi
   refine (h.inv.memo i n hi).same (keep z.1 (by simp) (by simp)) (keep z.2 (by simp) (by simp)) (fun a' d' hr' => ?_)
   have v:=h.inv.lr i a' d' hr'
   exact ⟨keep v.1 (by simp;exact e) (by simp),keep v.2 (by simp) (by simp;exact e)⟩
 ·intro b hb hO
  refine (hs b ?_ ?_).trans (h.same b hb hO)
  ·intro e
   have:=h.lab b hb
   rw [e,x.1] at this
   rw [←e] at this
   rcases hO with hO | hO
   ·rw [hO] at this;cases this
   ·rw [hO] at this;simp at this
  ·intro e
   have:=h.lab b hb
   rw [e,x.2] at this
   rw [←e] at this
   rcases hO with hO | hO
   ·rw [hO] at this;cases this
   ·rw [hO] at this;simp at this
theorem Row.put {A:Nat→Nat} {X:Nat→Nat} {q:Nat→Bool} {p E:Nat} (r:Row L A W a d X q) (hne:a≠d) (hp:p≤L) (hE:E=A p) :
  Row L A (((W.setCell ⟨a,p*2,none⟩ (.int .u64 (E:Nat))).setCell ⟨a,p*2+1,none⟩ (.int .u64 0)).setCell ⟨d,p,none⟩ (.bool true)) a d (up X p E) (up q p true):=by
 refine ⟨?_,?_,?_,?_,?_,?_⟩
 ·intro i hi
  rw [World.cell?_setCell_other _ _ _ _ (by intro e;simp at e <;> omega),World.cell?_setCell_other _ _ _ _ (by intro e;simp at e <;> omega)]
  by_cases e:i=p
  ·subst e
   rw [World.cell?_setCell_same' _ _ _ (by rw [r.lo i hi];rfl)]
   simp [up]
  ·rw [World.cell?_setCell_other _ _ _ _ (by intro e';simp at e' <;> omega),r.lo i hi]
   simp [up,e]
 ·intro i hi
  rw [World.cell?_setCell_other _ _ _ _ (by intro e;simp at e <;> omega)]
  by_cases e:i=p
  ·subst e
   rw [World.cell?_setCell_same' _ _ _ (by rw [World.cell?_setCell_other _ _ _ _ (by intro e;simp at e),r.hi i hi];rfl)]
  ·rw [World.cell?_setCell_other _ _ _ _ (by intro e';simp at e' <;> omega),World.cell?_setCell_other _ _ _ _ (by intro e';simp at e' <;> omega),r.hi i hi]
 ·intro i hi
  by_cases e:i=p
  ·subst e
   rw [World.cell?_setCell_same' _ _ _ (by rw [World.cell?_setCell_other _ _ _ _ (by intro e;simp at e <;> omega),World.cell?_setCell_other _ _ _ _ (by intro e;simp at e <;> omega),r.was i hi];rfl)]
   simp [up]
  ·rw [World.cell?_setCell_other _ _ _ _ (by intro e';simp at e' <;> omega),World.cell?_setCell_other _ _ _ _ (by intro e;simp at e <;> omega),World.cell?_setCell_other _ _ _ _ (by intro e;simp at e <;> omega),r.was i hi]
   simp [up,e]
 ·intro i
  simp [r.fa]
 ·intro i
  simp [r.fd]
 ·intro i hi hq
  by_cases e:i=p
  ·subst e
   simp [up,hE]
  ·simp [up,e] at hq ⊢
   exact r.right i hi hq
theorem KL.put (h:KL L M K R0 O0 w0 k a d W) (hk:K k=some m) {p E:Nat} (hp:p≤L) (hE:E=m.A p) :
  KL L M K R0 O0 w0 k a d (((W.setCell ⟨a,p*2,none⟩ (.int .u64 (E:Nat))).setCell ⟨a,p*2+1,none⟩ (.int .u64 0)).setCell ⟨d,p,none⟩ (.bool true))∧(((W.setCell ⟨a,p*2,none⟩ (.int .u64 (E:Nat))).setCell ⟨a,p*2+1,none⟩ (.int .u64 0)).setCell ⟨d,p,none⟩ (.bool true)).cell? ⟨a,p*2,none⟩=some (.int .u64 (E:Nat)):=by
 obtain ⟨hne,_⟩:=h.ne hk
 obtain ⟨_,_,X,q,hr⟩:=h.row hk
 have hR:=hr.put hne hp hE
 have hs:∀ b,b≠a→b≠d→(((W.setCell ⟨a,p*2,none⟩ (.int .u64 (E:Nat))).setCell ⟨a,p*2+1,none⟩ (.int .u64 0)).setCell ⟨d,p,none⟩ (.bool true)).heap[b]?=W.heap[b]? := by
  intro b h1 h2
  rw [Below.heap_setCell _ _ _ _ (by simpa using h2),Below.heap_setCell _ _ _ _ (by simpa using h1),Below.heap_setCell _ _ _ _ (by simpa using h1)]
 have hB:=((Below.setCell (Below.setCell (Below.setCell (Below.refl 0 W) (p:=⟨a,p*2,none⟩) (Nat.zero_le _) (.int .u64 (E:Nat))) (p:=⟨a,p*2+1,none⟩) (Nat.zero_le _) (.int .u64 0)) (p:=⟨d,p,none⟩) (Nat.zero_le _) (.bool true)))
 have hz:(((W.setCell ⟨a,p*2,none⟩ (.int .u64 (E:Nat))).setCell ⟨a,p*2+1,none⟩ (.int .u64 0)).setCell ⟨d,p,none⟩ (.bool true)).heap.size=W.heap.size:=by simp
 have hlo:=hR.lo p hp
 rw [up_same] at hlo
 refine ⟨?_,hlo⟩
 generalize ((W.setCell ⟨a,p*2,none⟩ (.int .u64 (E:Nat))).setCell ⟨a,p*2+1,none⟩ (.int .u64 0)).setCell ⟨d,p,none⟩ (.bool true)=W' at *
 obtain ⟨R,O,h1,h2,h3,h4⟩:=h.ex
 have x:=h1.inv.lr k a d h2
 refine ⟨⟨R,O,h1.write hk h2 hz ⟨hB.os,hB.tape,hB.output⟩ hs ⟨_,_,hR⟩,h2,h3,by omega⟩,(hs _ ?_ ?_).trans h.out⟩
 ·intro e;rw [e,x.1] at h3;cases h3
 ·intro e;rw [e,x.2] at h3;cases h3
theorem KL.done (h:KL L M K R0 O0 w0 k a d W) (X:Nat):C2 ((W.setCell ⟨w0.heap.size,0,none⟩ (.int .u64 (X:Nat))).setCell ⟨w0.heap.size,1,none⟩ (.int .u64 0)) w0.heap.size X∧∃ R O,St L M K R0 O0 w0 R O ((W.setCell ⟨w0.heap.size,0,none⟩ (.int .u64 (X:Nat))).setCell ⟨w0.heap.size,1,none⟩ (.int .u64 0)):=by
 obtain ⟨R,O,h1,h2,h3,h4⟩:=h.ex
 exact ⟨two_end h.out X,R,O,(h1.set (a:=⟨w0.heap.size,0,none⟩) (Nat.le_refl _) h3 _).set (a:=⟨w0.heap.size,1,none⟩) (Nat.le_refl _) h3 _⟩
theorem KL.old (h:Inv L M K R0 O0 w0) (hr:R0 k=some (a,d)):KL L M K R0 O0 w0 k a d (w0.alloc (.cells #[.int .u64 0,.int .u64 0] 62)) :=
 ⟨⟨R0,O0,(St.refl h).alloc _,hr,h.fresh (Nat.le_refl _),by simp⟩,heap_alloc_new w0 _⟩
theorem KL.made (h:Inv L M K R0 O0 w0) (hk:K k=some m) (hr:R0 k=none) (W':World) (a d:Nat) (hos:W'.os=w0.os∧W'.tape=w0.tape∧W'.output=w0.output) (hz:W'.heap.size=w0.heap.size+3)
  (hs:∀ b,b<w0.heap.size→b≠m.b→b≠m.d→W'.heap[b]?=w0.heap[b]?) (h4:C1 W' m.b (.slice (some ⟨a,0,none⟩) (L+1) (L+1)) 124) (h5:C1 W' m.d (.slice (some ⟨d,0,none⟩) (L+1) (L+1)) 125)
  (had:(a=w0.heap.size+1∧d=w0.heap.size+2)∨(a=w0.heap.size+2∧d=w0.heap.size+1)) (hrow:∃ X q,Row L m.A W' a d X q) (ho:C2 W' w0.heap.size 0):KL L M K R0 O0 w0 k a d W':=by
 have y:=h.lk k m hk
 have ne:∀ {b:Nat} {l:Nat×Nat},O0 b=some l→l≠(1,k)→l≠(2,k)→b≠m.b∧b≠m.d:=by
  intro b l hb h1 h2
  constructor
  ·intro e;rw [e,y.1] at hb;simp at hb;exact h1 hb.symm
  ·intro e;rw [e,y.2] at hb;simp at hb;exact h2 hb.symm
 have keep:∀ {b:Nat} {l:Nat×Nat},O0 b=some l→l≠(1,k)→l≠(2,k)→W'.heap[b]?=w0.heap[b]? := fun {b} {l} hb h1 h2=>hs _ (h.lt b (by rw [hb];simp)) (ne hb h1 h2).1 (ne hb h1 h2).2
 have old:∀ {b:Nat},O0 b≠none→up (up O0 a (some (3,k))) d (some (4,k)) b=O0 b:=by
  intro b hb
  have:=h.lt b hb
  rw [up_ne _ _ (by omega),up_ne _ _ (by omega)]
 refine ⟨⟨up R0 k (some (a,d)),up (up O0 a (some (3,k))) d (some (4,k)),St.of ⟨?_,?_,?_,?_,?_,?_,?_,?_⟩ ⟨hos.1,hos.2.1,hos.2.2,by omega,?_,?_,?_⟩,up_same _ _ _,?_,by omega⟩,ho⟩
 ·intro b o hb
  exact (keep (h.mem hb) (by simp) (by simp)).trans (h.fz b o hb)
 ·intro j hj
  exact (World.cell?_of_block (a:=⟨0,j,none⟩) (keep h.z0 (by simp) (by simp))).trans (h.tab j hj)
 ·intro b hb
  have:=h.l0 b hb
  rw [old (by rw [this];simp)];exact this
 ·rw [old (by rw [h.z0];simp)];exact h.z0
 ·intro i n hi
  have:=h.lk i n hi
  rw [old (by rw [this.1];simp),old (by rw [this.2];simp)];exact this
 ·intro i x z hi
  by_cases e:i=k
  ·subst e
   rw [up_same] at hi
   simp only [Option.some.injEq,Prod.mk.injEq] at hi
   obtain ⟨rfl,rfl⟩:=hi
   rw [up_ne _ _ (by omega),up_same,up_same]
   exact ⟨rfl,rfl⟩
  ·rw [up_ne _ _ e] at hi
   have:=h.lr i x z hi
   rw [old (by rw [this.1];simp),old (by rw [this.2];simp)];exact this
 ·intro b hb
  by_cases e:b=d
  ·omega
  ·rw [up_ne _ _ e] at hb
   by_cases e2:b=a
   ·omega
   ·rw [up_ne _ _ e2] at hb
    have:=h.lt b hb
    omega
 ·intro i n hi
  by_cases e:i=k
  ·subst e
   rw [hk] at hi
   simp only [Option.some.injEq] at hi
   subst hi
   exact .inr ⟨a,d,up_same _ _ _,h4,h5,hrow⟩
  ·have z:=h.lk i n hi
   have:=(h.memo i n hi).same (w':=W') (keep z.1 (by simp;exact e) (by simp)) (keep z.2 (by simp) (by simp;exact e)) (fun a' d' hr'=>by
    have v:=h.lr i a' d' hr'
    exact ⟨keep v.1 (by simp) (by simp),keep v.2 (by simp) (by simp)⟩)
   rcases this with ⟨h0,h1⟩|⟨x,z,h0,h1⟩
   ·exact .inl ⟨by rw [up_ne _ _ e];exact h0,h1⟩
   ·exact .inr ⟨x,z,by rw [up_ne _ _ e];exact h0,h1⟩
 ·intro b hb hO
  refine hs b hb ?_ ?_
  ·intro e
   rw [e,y.1] at hO
   rcases hO with hO | hO
   ·cases hO
   ·simp at hO
  ·intro e
   rw [e,y.2] at hO
   rcases hO with hO | hO
   ·cases hO
   ·simp at hO
 ·intro b hb
  rw [up_ne _ _ (by omega),up_ne _ _ (by omega)]
 ·intro i hi
  by_cases e:i=k
  ·subst e;exact absurd hr hi
  ·rw [up_ne _ _ e]
 ·rw [up_ne _ _ (by omega),up_ne _ _ (by omega)]
  exact h.fresh (Nat.le_refl _)
end
end Go.Proofs.YtfhimmnoipfiaaaDoor.eng
