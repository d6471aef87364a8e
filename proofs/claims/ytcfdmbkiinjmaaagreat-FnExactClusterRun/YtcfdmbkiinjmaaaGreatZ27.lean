import Derived.Test.YtcfdmbkiinjmaaaGreatZ10
import Derived.Maps.AppendAt
import Derived.Deep.AppendLies
import Derived.Test.YtcfdmbkiinjmaaaGreatZ03
import Derived.Test.YtcfdmbkiinjmaaaGreatZ05
import Derived.Test.YtcfdmbkiinjmaaaGreatZ17
import Derived.Test.YtcfdmbkiinjmaaaGreatZ23
import Derived.WalkMore
import Derived.Deep.Cut
import Derived.Deep.CutRange
import Derived.Deep.DeepCutAuto
import Derived.Deep.QuietTactic
import Derived.BigQuiet
import Derived.Deep.RegionLaw
import Derived.Deep.RegionHeldLaw
import Derived.Test.YtcfdmbkiinjmaaaGreatZ02
set_option linter.unusedVariables false
open Go.ChangeShapes Go.WideShapes Go.ChangeAt Go.RowKit
namespace Go.Proofs.YtcfdmbkiinjmaaaGreat.scl
open Raft mem srun ssend sdown ssmall scopy srecs sapp ssame schos schosen scom sgrow sin sel stk slog sap0
variable {F:Nat→Option Obj}
theorem info36:(Tryz.prog.info? 66).map (fun i=>(i.zero,i.size,i.bytes))=some (some (.agg #[.bool false,.int .i64 0,.int .i64 0,.int .i64 0,.int .i64 0,.slice none 0 0,.slice none 0 0,.slice none 0 0,.slice none 0 0]),9,136):=by kernel_rfl
def upP:Peer:={ Peer.zero with up:=true }
def upV:PV:=⟨upP,.slice none 0 0,.slice none 0 0,.slice none 0 0,.slice none 0 0⟩
def peersN (k:Nat):List Value:=(List.replicate k upV).flatMap peerCells
theorem peersN_succ (k:Nat):peersN (k+1)=peersN k++[.bool true,.int .i64 0,.int .i64 0,.int .i64 0,.int .i64 0,.slice none 0 0,.slice none 0 0,.slice none 0 0,.slice none 0 0]:=by
 unfold peersN
 rw [List.replicate_succ',List.flatMap_append]
 rfl
theorem own_eq {g n c q z:Nat} (hq:(Value.slice (some ⟨g,0,none⟩) n c).ownBlock=some q) (e:q=z):g=z:=by
 simp [Value.ownBlock] at hq
 omega
def Begun (F:Nat→Option Obj) (w:World) (M:Fz) (n:Nat) (r:Ending) (w':World):Prop:=∃ d P pc us,r=.returned (.pointer (some ⟨d,0,none⟩))∧Run (TS F) w' M w.heap.size d P pc (Cl.begin n) us [] (.slice none 0 0) [] (.slice none 0 0)∧Below w.heap.size w w'
def CL (w:World) (d k:Nat) (v:Value) (wr:World):Prop:=wr.heap[d]?=some (.cells #[v,.slice none 0 0,.slice none 0 0,.bool false] 51 (0,0))∧wr.ownsRow w.heap.size 66 9 v k (peersN k)∧Below w.heap.size w wr∧w.heap.size≤d∧(∀ g,v.ownBlock=some g→g≠d)
theorem CL.run {w wr:World} {M:Fz} {d k:Nat} {v:Value} (h:CL w d k v wr) (hI:In M w) (hk:1≤k) (hF:∀ b o,F b=some o→(w.heap[b]?=some o∧M b=none)∧b<w.heap.size):∃ P pc us,Run (TS F) wr M w.heap.size d P pc (Cl.begin k) us [] (.slice none 0 0) [] (.slice none 0 0):=by
 obtain ⟨h1,h2,h3,h4,h5⟩:=h
 obtain ⟨q0,⟨q1,q2⟩|⟨P,pc,cur,q1,q2,q3,q4,q5,q6,q7⟩⟩:=h2
 ·omega
 ·subst q1
  have hnr:∀ b,¬ IsRow (List.replicate k upV) b:=fun b ⟨k1,y,j,u,e1,e2,e3⟩=>by
   have hy:y=upV:=List.eq_of_mem_replicate (List.mem_of_getElem? e1)
   subst hy
   have:u=.slice none 0 0:=by
    rcases j with _ | _ | _ | j <;> simp [rows,upV] at e2 <;> exact e2.symm
   subst this
   simp [Value.ownBlock] at e3
  have hPd:P≠d:=h5 P rfl
  have hmem:∀ y∈List.replicate k upV,y=upV:=fun y hy=>List.eq_of_mem_replicate hy
  refine ⟨P,pc,List.replicate k upV,?_⟩
  exact {
   inn:=hI.below h3
   blk:=by rw [List.length_replicate];exact h1
   row:=⟨cur,q3,q6,by rw [List.length_replicate];exact q7⟩
   cap:=by rw [List.length_replicate];exact ⟨q4,q5⟩
   peers:=by rw [List.map_replicate];rfl
   logs:=fun y hy=>by rw [hmem y hy];exact RecsM.nil M
   votes:=fun y hy=>by rw [hmem y hy];exact World.ownsRow_nil _ _ _ _
   next:=fun y hy=>by rw [hmem y hy];exact World.ownsRow_nil _ _ _ _
   mat:=fun y hy=>by rw [hmem y hy];exact World.ownsRow_nil _ _ _ _
   lone:=fun k1 k2 y1 y2 i1 i2 u1 u2 b g1 g2 g3 g4 g5 g6=>absurd ⟨k1,y1,i1,u1,g1,g3,g5⟩ (hnr b)
   free:=fun b hb=>by
    rcases hb with rfl | rfl | hb | hb
    ·exact hI.fresh h4
    ·exact hI.fresh q2
    ·exact absurd hb (hnr b)
    ·simp [Value.ownBlock] at hb
   net:=⟨RowM.nil M 9,by simp⟩
   nets:=rfl
   chos:=World.ownsRow_nil _ _ _ _
   chosen:=rfl
   data:=by simp
   low:=⟨h4,q2⟩
   apart:=⟨Ne.symm hPd,hnr d,hnr P,by simp [Value.ownBlock],by simp [Value.ownBlock],fun b hb=>absurd hb (hnr b)⟩
   far:=fun b o e=>⟨(h3.block b (hF b o e).2).trans (hF b o e).1.1,(hF b o e).1.2,fun hm=>by
    have hbl:=(hF b o e).2
    rcases hm with hm | hm | hm | hm
    ·omega
    ·omega
    ·exact absurd hm (hnr b)
    ·simp [Value.ownBlock] at hm⟩ }
set_option maxRecDepth 20000 in
set_option maxHeartbeats 1000000 in
theorem cluster_any (w:World) (M:Fz) (hI:In M w) (n:Nat) (h1:1≤n) (h7:n≤7) (hF:∀ b o,F b=some o→(w.heap[b]?=some o∧M b=none)∧b<w.heap.size) :
  Calls Tryz.prog 17 #[.int .i64 n] w fun r w'=>Begun F w M n r w':=by
 obtain ⟨W,hW⟩:∃ W,w.alloc (.cells #[.slice none 0 0,.slice none 0 0,.slice none 0 0,.bool false] 51)=W:=⟨_,rfl⟩
 have H0:Hid (CL w w.heap.size 0 (.slice none 0 0) W):=by
  refine ⟨by rw [←hW];exact heap_alloc_new w _,World.ownsRow_nil _ _ _ _,by rw [←hW];exact more (Below.refl _ _) _,Nat.le_refl _,by simp [Value.ownBlock]⟩
 obtain ⟨i0,hii,hz0,hz1,hz2⟩:=info_parts info36
 have HI:Hid (Tryz.prog.info? 66=some i0∧i0.zero=some (.agg #[.bool false,.int .i64 0,.int .i64 0,.int .i64 0,.int .i64 0,.slice none 0 0,.slice none 0 0,.slice none 0 0,.slice none 0 0])∧i0.size=9∧i0.bytes=136):=⟨hii,hz0,hz1,hz2⟩
 have HEnd:Hid (∀ v wr,CL w w.heap.size n v wr→Begun F w M n (.returned (.pointer (some ⟨w.heap.size,0,none⟩))) wr):=fun v wr h=>by
  obtain ⟨P,pc,us,hr⟩:=h.run hI h1 hF
  exact ⟨_,P,pc,us,rfl,hr,h.2.2.1⟩
 have HSt:Hid (∀ k o m c wr,CL w w.heap.size k (.slice o m c) wr→wr.cell? ⟨w.heap.size,0,none⟩=some (.slice o m c)∧wr.frozen? ⟨w.heap.size,0,none⟩=false):=fun k o m c wr h=>⟨cell_of h.1 rfl,frozen_of h.1 0⟩
 have HAp:Hid (∀ k o m c wr,CL w w.heap.size k (.slice o m c) wr→∃ Y,wr.alloc (.cells #[.bool true,.int .i64 0,.int .i64 0,.int .i64 0,.int .i64 0,.slice none 0 0,.slice none 0 0,.slice none 0 0,.slice none 0 0] 66)=Y∧Y.ownsRow w.heap.size 66 9 (.slice o m c) k (peersN k)∧(∀ j u,([.bool true,.int .i64 0,.int .i64 0,.int .i64 0,.int .i64 0,.slice none 0 0,.slice none 0 0,.slice none 0 0,.slice none 0 0]:List Value)[j]?=some u→Y.cell? ((⟨wr.heap.size,0,none⟩:Addr).add j)=some u)∧w.heap.size≤Y.heap.size∧∀ g cp w',w'.ownsRow w.heap.size 66 9 (.slice (some ⟨g,0,none⟩) (k+1) cp) (k+1) (peersN k++[.bool true,.int .i64 0,.int .i64 0,.int .i64 0,.int .i64 0,.slice none 0 0,.slice none 0 0,.slice none 0 0,.slice none 0 0])→Y.grownBy w' (Value.slice o m c).ownBlock→((Value.slice o m c).ownBlock=some g∨g=Y.heap.size)→(w'.cell? ⟨w.heap.size,0,none⟩=some (.slice o m c)∧w'.frozen? ⟨w.heap.size,0,none⟩=false)∧Hid (CL w w.heap.size (k+1) (.slice (some ⟨g,0,none⟩) (k+1) cp) (w'.setCell ⟨w.heap.size,0,none⟩ (.slice (some ⟨g,0,none⟩) (k+1) cp)))):=fun k o m c wr h=>by
  obtain ⟨a1,a2,a3,a4,a5⟩:=h
  obtain ⟨Y,hY⟩:∃ Y,wr.alloc (.cells #[.bool true,.int .i64 0,.int .i64 0,.int .i64 0,.int .i64 0,.slice none 0 0,.slice none 0 0,.slice none 0 0,.slice none 0 0] 66)=Y:=⟨_,rfl⟩
  have bY:Below wr.heap.size wr Y:=by rw [←hY];exact more (Below.refl _ _) _
  have hbx:Y.heap[wr.heap.size]?=some (.cells #[.bool true,.int .i64 0,.int .i64 0,.int .i64 0,.int .i64 0,.slice none 0 0,.slice none 0 0,.slice none 0 0,.slice none 0 0] 66 (0,0)):=by rw [←hY];exact heap_alloc_new wr _
  have hlt:w.heap.size<wr.heap.size:=(Array.getElem?_eq_some_iff.1 a1).1
  refine ⟨Y,hY,row_kept a2 (fun g hg=>bY.block g (row_lt a2 hg).2),fun j u hu => ?_,by have:=bY.size;omega,fun g cp w' p1 p2 p3 => ?_⟩
  ·rw [addr_add,Nat.zero_add]
   exact cell_of hbx (by simpa using hu)
  ·have hdY:=kept bY a1 (Nat.le_refl _)
   have hd':w'.heap[w.heap.size]?=some (.cells #[.slice o m c,.slice none 0 0,.slice none 0 0,.bool false] 51 (0,0)):=(p2.block _ (by have:=bY.size;omega) (fun e=>a5 _ e.symm rfl)).trans hdY
   have hgd:g≠w.heap.size:=by
    rcases p3 with p3 | p3
    ·exact a5 g p3
    ·have:=bY.size;omega
   refine ⟨⟨cell_of hd' rfl,frozen_of hd' 0⟩,?_⟩
   have hb':Below w.heap.size w w':=(a3.trans (bY.mono a3.size)).grown p2 (by have:=bY.size;omega) (fun q hq=>(row_lt a2 hq).1)
   refine ⟨?_,?_,hb'.setCell (Nat.le_refl _) _,Nat.le_refl _,fun q hq e=>hgd (own_eq hq e)⟩
   ·have:=heap_setCell_same w' w.heap.size 0 _ 51 (.slice (some ⟨g,0,none⟩) (k+1) cp) hd'
    simpa using this
   ·rw [peersN_succ]
    exact row_kept p1 (fun q hq=>Below.heap_setCell w' ⟨w.heap.size,0,none⟩ _ q (fun e=>hgd (by
     have e2:g=q:=by simpa [Value.ownBlock] using hq
     have e3:q=w.heap.size:=e
     omega)))
 clear hii hz0 hz1 hz2 hF
 go_enter Tryz.func17,Tryz.ntmps17
 go_wp2
 (try rw [hW])
 clear hW
 go_loopw [4] (fun a wr=>∃ (k:Nat) (o:Option Addr) (m c:Nat),k≤n∧a=.int .i64 k∧Hid (CL w w.heap.size k (.slice o m c) wr)) (fun a _=>n-(intOf a).toNat)
 case atStart=>exact ⟨0,none,0,0,Nat.zero_le _,rfl,H0⟩
 case round =>
  clear H0
  obtain ⟨k,o,m,c,hk,rfl,HQ⟩:=hrel
  by_cases hkn:k<n
  ·have hknI:(k:Int)<n:=by omega
   obtain ⟨s1,s2⟩:=HSt.out k o m c wr HQ.out
   obtain ⟨Y,hY,y1,y2,y3,y4⟩:=HAp.out k o m c wr HQ.out
   have HY1:=hide y1
   have HY2:=hide y2
   have HY4:=hide y4
   have hYz:Y.heap.size=wr.heap.size+1:=by rw [←hY];simp [World.size_alloc]
   clear y1 y2 y4 HQ HAp HSt
   go_wp2_with (at_builtin;(try rw [hY]);refine wpList_append_lies _ rfl _ _ _ rfl w.heap.size 66 i0 (.agg #[.bool false,.int .i64 0,.int .i64 0,.int .i64 0,.int .i64 0,.slice none 0 0,.slice none 0 0,.slice none 0 0,.slice none 0 0]) 9 136 Tryz.underlying24 HI.out.1 HI.out.2.1 HI.out.2.2.1 HI.out.2.2.2 rfl (by omega) _ k (peersN k) rfl HY1.out ⟨wr.heap.size,0,none⟩ 1 1 [.bool true,.int .i64 0,.int .i64 0,.int .i64 0,.int .i64 0,.slice none 0 0,.slice none 0 0,.slice none 0 0,.slice none 0 0] rfl rfl HY2.out (by intro u hu;simp only [List.mem_cons,List.not_mem_nil,or_false] at hu;rcases hu with rfl | rfl | rfl | rfl | rfl | rfl | rfl | rfl | rfl <;> rfl) (by omega) (by unfold maxLen;omega) (by omega) y3 Y.heap.size rfl ?_;intro g cp w1 p1 p2 p3 p4;obtain ⟨⟨z1,z2⟩,HN⟩:=HY4.out g cp w1 p1 p2 p3;clear p1 p2 p3 p4)
   go_roundw
   case rel=>exact ⟨k+1,_,_,_,by omega,by go_num,HN⟩
   case measure=>simp [intOf];omega
  ·have hknI:¬ (k:Int)<n:=by omega
   obtain rfl:k=n:=by omega
   have HZ:=hide (HEnd.out _ wr HQ.out)
   clear HQ HEnd HAp HSt
   go_wp2
   go_ret
   exact HZ.out
end Go.Proofs.YtcfdmbkiinjmaaaGreat.scl
namespace Go.Proofs.YtcfdmbkiinjmaaaGreat.slg
open Raft mem srun ssend sdown ssmall scopy srecs sapp ssame schos schosen scom sgrow sin sel stk slog sap0
variable {F:Nat→Option Obj}
def LogE (w:World) (M:Fz) (l:List Rc) (r:Ending) (w':World):Prop:=∃ o c M',r=.returned (.slice o l.length c)∧ntold.FP w M w' M'∧RecsM M' (.slice o l.length c) l
set_option maxRecDepth 20000 in
set_option maxHeartbeats 1000000 in
theorem log_any (w:World) (M:Fz) (hI:In M w) (l:List Rc) (lo:Option Addr) (L lc:Nat) (hl:RecsM M (.slice lo L lc) l) (hlen:l.length≤1000) :
  Calls Tryz.prog 41 #[.slice lo L lc] w fun r w'=>LogE w M l r w':=by
 obtain ⟨hLn,hlcm,hLc⟩:=recs_len hl
 have HR:Hid (In M w∧L=l.length):=⟨hI,hLn⟩
 have hLI:L≤1000:=by omega
 obtain ⟨W0,hW0⟩:∃ W0,w.alloc (.cells #[] 74)=W0:=⟨_,rfl⟩
 have HLog0:Hid (Log w W0 M (.slice (some ⟨w.heap.size,0,none⟩) 0 0) (l.take 0) M []):=by
  rw [←hW0]
  exact ⟨Le.refl M,hI.below (more (Below.refl _ _) _),lit75 (heap_alloc_new w _) (Nat.le_refl _),by simp,by simp,more (Below.refl _ _) _,fun b ob hb=>.inl hb⟩
 have HRec:Hid (∀ (M':Fz) (wx:World) (j:Nat),Le M M'→In M' wx→j<L→∃ b off r o n c,lo=some ⟨b,off,none⟩∧l[j]?=some r∧wx.cell? ⟨b,off+j*3,none⟩=some (.int .i64 r.term)∧wx.cell? ⟨b,off+j*3+1,none⟩=some (.int .i64 r.index)∧wx.cell? ⟨b,off+j*3+2,none⟩=some (.slice o n c)∧BytesM M' (.slice o n c) r.data∧r.data.length≤1000):=fun M' wx j hle hIn hj=>by
  obtain ⟨r,hr⟩:∃ r,l[j]?=some r:=⟨_,List.getElem?_eq_getElem (by omega)⟩
  obtain ⟨b,off,dv,q1,q2,q3,q4,q5,q6⟩:=recs_cell (hl.le hle) hIn hr
  obtain ⟨o,n,c,q7⟩:=bytes_slice q5
  subst q7
  exact ⟨b,off,r,o,n,c,q1,hr,q2,q3,q4,q5,q6⟩
 have HDone:Hid (∀ wr o n c M' ls,Log w wr M (.slice o n c) (l.take L) M' ls→LogE w M l (.returned (.slice o n c)) wr):=fun wr o n c M' ls h=>by
  rw [HR.out.2,List.take_length] at h
  obtain ⟨M2,g1,g2,g3,g4⟩:=h.done HR.out.1
  have hn:=(slog.Log.len h).1
  subst hn
  exact ⟨o,c,M2,rfl,⟨g1,g2,h.bel,g4⟩,g3⟩
 obtain ⟨i0,hi,hz0,hz1,hz2⟩:=info_parts info75
 have HI:Hid (Tryz.prog.info? 74=some i0∧i0.zero=some (.agg #[.int .i64 0,.int .i64 0,.slice none 0 0])∧i0.size=3∧i0.bytes=40):=⟨hi,hz0,hz1,hz2⟩
 unfold maxLen at hlcm
 clear hi hz0 hz1 hz2 hl hI hLn hlen
 go_enter Tryz.func41,Tryz.ntmps41
 go_wp2
 (try rw [hW0])
 clear hW0
 go_loopw [3,4] (fun lv i wr=>∃ (j:Nat) (o:Option Addr) (n c:Nat),j≤L∧i=.int .i64 j∧lv=.slice o n c∧Hid (∃ M' ls,Log w wr M (.slice o n c) (l.take j) M' ls∧ls.length=j)) (fun _ i _=>L-(intOf i).toNat)
 case atStart=>exact ⟨0,_,0,0,by omega,by simp,rfl,hide ⟨M,[],HLog0.out,rfl⟩⟩
 case round =>
  obtain ⟨j,o,n,c',hj,rfl,rfl,HJ⟩:=hrel
  obtain ⟨M',ls,hLg,hlsj⟩:=HJ.out
  by_cases hlt:j<L
  ·obtain ⟨b,off,r,ro,rn,rc,rfl,hr,q0,q1,q2,qb,qd⟩:=HRec.out M' wr j hLg.le hLg.inn hlt
   have HC:=copy_any wr M' hLg.inn r.term r.index r.data qd ro rn rc qb
   have hlI:(j:Int)<L:=by omega
   have hsz:=hLg.bel.size
   have HLg:Hid (Log w wr M (.slice o n c') (l.take j) M' ls∧ls.length=j∧l[j]?=some r∧r.data.length≤1000):=⟨hLg,hlsj,hr,qd⟩
   have HWI:Hid (In M w):=HR.out.1
   clear hLg hlsj HJ HLog0 hr qb qd HDone
   go_wp2_with fail
   refine HC.mono ?_
   rintro rr w1 ⟨M'',do_,dn,dc,rfl,l1,in1,by1,bel1,dom1⟩
   clear HC
   have s1:=bel1.size
   have hO1:w1.ownsRow w.heap.size 74 3 (.slice o n c') ls.length (ls.flatMap recCells):=row_kept HLg.out.1.row (fun g' hg'=>bel1.block g' (row_lt HLg.out.1.row hg').2)
   have HO1:Hid ((w1.alloc (.cells #[.int .i64 r.term,.int .i64 r.index,.slice do_ dn dc] 74)).ownsRow w.heap.size 74 3 (.slice o n c') ls.length (ls.flatMap recCells)):=row_kept hO1 (fun g' hg'=>Below.heap_alloc _ _ _ (row_lt hO1 hg').2)
   have HD:Hid (Le M' M''∧In M'' w1∧BytesM M'' (.slice do_ dn dc) r.data∧Below wr.heap.size wr w1∧∀ b ob,M'' b=some ob→M' b=some ob∨(wr.heap.size≤b∧∃ cur fr,ob=.cells cur 5 fr)):=⟨l1,in1,by1,bel1,dom1⟩
   have HLJ:Hid (ls.length≤1000):=by have:=HLg.out.2.1;show _≤_;omega
   clear hO1 l1 in1 by1 bel1 dom1 q0 q1 q2
   go_wp2_with (at_builtin;refine wpList_append_own _ rfl _ _ 26 rfl w.heap.size 74 i0 (.agg #[.int .i64 0,.int .i64 0,.slice none 0 0]) 3 40 Tryz.underlying26 HI.out.1 HI.out.2.1 HI.out.2.2.1 HI.out.2.2.2 rfl (by decide) _ ls.length (ls.flatMap recCells) rfl HO1.out ⟨w1.heap.size,0,none⟩ 1 1 [.int .i64 r.term,.int .i64 r.index,.slice do_ dn dc] rfl rfl ?c1 ?c2 ?c3 ?c4 ?c5 ?_)
   case c1 =>
    intro i' u' hu'
    have hnw:(w1.alloc (.cells #[.int .i64 r.term,.int .i64 r.index,.slice do_ dn dc] 74)).heap[w1.heap.size]?=some (.cells #[.int .i64 r.term,.int .i64 r.index,.slice do_ dn dc] 74 (0,0)):=heap_alloc_new w1 _
    rw [addr_add,Nat.zero_add]
    refine cell_of hnw ?_
    simpa using hu'
   case c2 =>
    intro u' hu'
    simp only [List.mem_cons,List.not_mem_nil,or_false] at hu'
    rcases hu' with rfl | rfl | rfl <;> rfl
   case c3=>have:=HLJ.out;unfold maxLen;omega
   case c4=>have:=HLJ.out;omega
   case c5=>first | omega | (simp;omega)
   intro v2 w2 O2 G2 _
   obtain ⟨o2,n2,c2,ev2⟩:=own_slice O2
   subst ev2
   have HN:Hid (∃ M' ls,Log w w2 M (.slice o2 n2 c2) (l.take (j+1)) M' ls∧ls.length=j+1):=by
    have hD:=HD.out
    have hBa:Below wr.heap.size wr (w1.alloc (.cells #[.int .i64 r.term,.int .i64 r.index,.slice do_ dn dc] 74)):=hD.2.2.2.1.alloc hD.2.2.2.1.size _
    have hmore:=HLg.out.1.more (dv:=.slice do_ dn dc) hD.1 (hD.2.1.below (more (Below.refl _ _) _)) hBa hD.2.2.2.2 hD.2.2.1 HLg.out.2.2.2 HWI.out O2 G2
    refine hide ⟨M'',ls++[⟨r,.slice do_ dn dc⟩],?_,by rw [List.length_append,HLg.out.2.1];rfl⟩
    rw [schos.take_snoc HLg.out.2.2.1]
    exact hmore
   clear O2 G2 HO1 HD HLg
   go_wp2
   go_roundw
   case rel=>exact ⟨j+1,o2,n2,c2,by omega,by go_num,rfl,HN⟩
   case measure=>simp [intOf];omega
  ·have hlI:¬ (j:Int)<L:=by omega
   obtain rfl:j=L:=by omega
   have HZ:=hide (HDone.out wr o n c' M' ls hLg)
   clear hLg HJ HLog0 HDone
   go_wp2
   go_ret
   exact HZ.out
end Go.Proofs.YtcfdmbkiinjmaaaGreat.slg
namespace Go.Proofs.YtcfdmbkiinjmaaaGreat.sow0
open Raft mem srun ssend sdown ssmall scopy srecs sapp ssame schos schosen scom sgrow sin sel stk slog sap0
variable {F:Nat→Option Obj}
theorem row_of_own {w:World} {M:Fz} {base e sz n:Nat} {v:Value} {xs:List Value} (h:w.ownsRow base e sz v n xs) (hM:∀ g,v.ownBlock=some g→M g=w.heap[g]?):RowM M v n sz xs:=by
 obtain ⟨h1,⟨rfl,rfl⟩|⟨g,cap,cur,rfl,hb,hg,hnc,hcm,hcs,ht⟩⟩:=h
 ·obtain rfl:xs=[]:=List.length_eq_zero_iff.1 (by omega)
  exact RowM.nil M sz
 ·refine ⟨_,cap,rfl,hnc,hcm,h1,(fun h=>by cases h),fun hp=>⟨g,0,rfl,fun i v hv => ?_⟩⟩
  have hi:i<n*sz:=by rw [←h1];exact (List.getElem?_eq_some_iff.1 hv).1
  rw [←ht,List.getElem?_take_of_lt hi] at hv
  simp only [cellM,hM g rfl,hg,Nat.zero_add]
  simpa using hv
theorem cellM_at {M:Fz} {b i t:Nat} {cur:Array Value} {fr:Nat×Nat} (h:M b=some (.cells cur t fr)):cellM M b i=cur[i]? := by
 unfold cellM
 rw [h]
def toV (x:PV):gtold.PV:=⟨x.p,x.lv,x.vv,x.nv,x.mv⟩
theorem flat_toV (us:List PV):(us.map toV).flatMap gtold.peerCells=us.flatMap peerCells:=by
 rw [List.flatMap_map]
 rfl
open Classical in
theorem Run.frozen {w:World} {M:Fz} {base d P pc:Nat} {c:Cl} {us:List PV} {ns:List MV} {nv:Value} {cs:List RV} {cv:Value} (h:Run (TS F) w M base d P pc c us ns nv cs cv) :
  ∃ M',Le M M'∧In M' w∧gt8.CluV M' c (.slice (some ⟨P,0,none⟩) us.length pc) nv cv∧(∀ b,M' b≠none→M b≠none∨base≤b)∧(∀ b,M b=none→¬ (b=P∨IsRow us b∨cv.ownBlock=some b)→M' b=none):=by
 refine ⟨fun b=>if b=P∨IsRow us b∨cv.ownBlock=some b then w.heap[b]? else M b,?_,?_,?_,?_,?_⟩
 ·intro b o hb
  show (if _ then _ else _)=_
  split
  ·next q =>
   have:=h.free b (.inr q)
   rw [hb] at this
   cases this
  ·exact hb
 ·intro b o hb
  have hb:(if b=P∨IsRow us b∨cv.ownBlock=some b then w.heap[b]? else M b)=some o:=hb
  split at hb
  ·exact hb
  ·exact h.inn b o hb
 ·have hle:Le M (fun b=>if b=P∨IsRow us b∨cv.ownBlock=some b then w.heap[b]? else M b):=fun b o hb=>by
   show (if _ then _ else _)=_
   split
   ·next q =>
    have:=h.free b (.inr q)
    rw [hb] at this
    cases this
   ·exact hb
  have hrow:∀ x∈us,∀ v∈rows x,∀ g,v.ownBlock=some g→(if g=P∨IsRow us g∨cv.ownBlock=some g then w.heap[g]? else M g)=w.heap[g]? := fun x hx v hv g hg=>if_pos (.inr (.inl (mem_blocks hx hv hg)))
  refine ⟨us.map toV,ns,by rw [List.map_map];exact h.peers,⟨?_,fun y hy => ?_⟩,h.nets,h.net.le hle,cs,h.chosen,row_of_own h.chos (fun g hg=>if_pos (.inr (.inr hg))),fun y hy=>⟨(h.data y hy).1.le hle,(h.data y hy).2⟩⟩
  ·rw [List.length_map,flat_toV]
   obtain ⟨cur,q1,q2,q3⟩:=h.row
   refine ⟨_,pc,rfl,h.cap.1,h.cap.2,by rw [flat_len peerCells 9 peerCells_len],(fun h=>by cases h),fun hp=>⟨P,0,rfl,fun i v hv => ?_⟩⟩
   have hi:i<us.length*9:=by rw [←flat_len peerCells 9 peerCells_len];exact (List.getElem?_eq_some_iff.1 hv).1
   rw [←q3,List.getElem?_take_of_lt hi] at hv
   have e:(if P=P∨IsRow us P∨cv.ownBlock=some P then w.heap[P]? else M P)=some (.cells cur 66 (0,0)):=by rw [if_pos (.inl rfl)];exact q1
   refine (cellM_at e).trans ?_
   rw [Nat.zero_add]
   simpa using hv
  ·obtain ⟨x,hx,rfl⟩:=List.mem_map.1 hy
   exact ⟨(h.logs x hx).le hle,row_of_own (h.votes x hx) (hrow x hx x.vv (by simp [rows])),row_of_own (h.next x hx) (hrow x hx x.nv (by simp [rows])),row_of_own (h.mat x hx) (hrow x hx x.mv (by simp [rows]))⟩
 ·intro b hb
  have hb:(if b=P∨IsRow us b∨cv.ownBlock=some b then w.heap[b]? else M b)≠none:=hb
  split at hb
  ·next q =>
   rcases q with rfl | q | q
   ·exact .inr h.low.2
   ·exact .inr (h.blocks_lt q).1
   ·exact .inr (row_lt h.chos q).1
  ·exact .inl hb
 ·intro b hb hn
  show (if _ then _ else _)=_
  rw [if_neg hn]
  exact hb
structure OI (w:World) (M M1:Fz) (t sz bx:Nat) (bc:Array Value) (ic:Array Value) (k:Nat) (v:Value) (cells:List Value) (M':Fz) (wr:World):Prop where
 fp:ntold.FP w M wr M'
 row:wr.ownsRow w.heap.size t sz v k cells
 free:∀ g,v.ownBlock=some g→M' g=none
 le:Le M1 M'
 box:M' bx=none∧w.heap.size+1<bx
 blk:wr.heap[bx]?=some (.cells bc 28 (0,0))
 b0:wr.heap[w.heap.size]?=some (.cells ic 28 (0,0))
 b1:wr.heap[w.heap.size+1]?=some (.cells #[.slice none 0 0,.slice none 0 0,.slice none 0 0,.bool false] 28 (0,0))
 fz:M' w.heap.size=none∧M' (w.heap.size+1)=none
section
variable {w:World} {M M1:Fz} {t sz bx:Nat} {bc ic:Array Value} {k:Nat} {v:Value} {cells:List Value} {M':Fz} {wr:World}
theorem OI.below (h:OI w M M1 t sz bx bc ic k v cells M' wr) {wx:World} (hb:Below wr.heap.size wr wx):OI w M M1 t sz bx bc ic k v cells M' wx :=
 ⟨h.fp.more hb,row_kept h.row (fun g hg=>hb.block g (row_lt h.row hg).2),h.free,h.le,h.box,kept hb h.blk (Nat.le_refl _),kept hb h.b0 (Nat.le_refl _),kept hb h.b1 (Nat.le_refl _),h.fz⟩
theorem OI.freeze (h:OI w M M1 t sz bx bc ic k v cells M' wr) {wx:World} {M2:Fz} (f:ntold.FP wr M' wx M2):OI w M M1 t sz bx bc ic k v cells M2 wx:=by
 have hf:∀ b,M' b=none→b<wr.heap.size→M2 b=none:=fun b e hlt=>by
  cases e2:M2 b with
  | none=>rfl
  | some o =>
   rcases f.new b (by rw [e2];simp) with g | g
   ·exact absurd e g
   ·omega
 have l0:=(Array.getElem?_eq_some_iff.1 h.b0).1
 have l1:=(Array.getElem?_eq_some_iff.1 h.b1).1
 have l2:=(Array.getElem?_eq_some_iff.1 h.blk).1
 exact ⟨h.fp.trans f,row_kept h.row (fun g hg=>f.below.block g (row_lt h.row hg).2),fun g hg=>hf g (h.free g hg) (row_lt h.row hg).2,h.le.trans f.le,⟨hf _ h.box.1 l2,h.box.2⟩,kept f.below h.blk (Nat.le_refl _),kept f.below h.b0 (Nat.le_refl _),kept f.below h.b1 (Nat.le_refl _),hf _ h.fz.1 l0,hf _ h.fz.2 l1⟩
theorem OI.other (h:OI w M M1 t sz bx bc ic k v cells M' wr) {g i:Nat} {u:Value} (hg:w.heap.size≤g) (hM:M' g=none) (h1:g≠bx) (h2:g≠w.heap.size) (h3:g≠w.heap.size+1) (h4:v.ownBlock≠some g):OI w M M1 t sz bx bc ic k v cells M' (wr.setCell ⟨g,i,none⟩ u):=by
 have hne:∀ b,b≠g→(wr.setCell ⟨g,i,none⟩ u).heap[b]?=wr.heap[b]? := fun b hb=>Below.heap_setCell wr ⟨g,i,none⟩ u b hb
 exact ⟨⟨h.fp.le,h.fp.inn.set hM u,h.fp.below.setCell hg u,h.fp.new⟩,row_kept h.row (fun q hq=>hne q (fun e=>h4 (e ▸ hq))),h.free,h.le,h.box,(hne _ (Ne.symm h1)).trans h.blk,(hne _ (Ne.symm h2)).trans h.b0,(hne _ (Ne.symm h3)).trans h.b1,h.fz⟩
theorem OI.push (h:OI w M M1 t sz bx bc ic k v cells M' wr) {w':World} {g cp j:Nat} {more_:List Value} (p1:w'.ownsRow w.heap.size t sz (.slice (some ⟨g,0,none⟩) (k+1) cp) (k+1) (cells++more_)) (p2:wr.grownBy w' v.ownBlock) (p3:v.ownBlock=some g∨g=wr.heap.size) (hbv:v.ownBlock≠some bx) (hv0:v.ownBlock≠some w.heap.size) (hv1:v.ownBlock≠some (w.heap.size+1)) :
  (w'.heap[bx]?=some (.cells bc 28 (0,0)))∧OI w M M1 t sz bx (bc.setIfInBounds j (.slice (some ⟨g,0,none⟩) (k+1) cp)) ic (k+1) (.slice (some ⟨g,0,none⟩) (k+1) cp) (cells++more_) M' (w'.setCell ⟨bx,j,none⟩ (.slice (some ⟨g,0,none⟩) (k+1) cp)):=by
 have l0:=(Array.getElem?_eq_some_iff.1 h.b0).1
 have l1:=(Array.getElem?_eq_some_iff.1 h.b1).1
 have l2:=(Array.getElem?_eq_some_iff.1 h.blk).1
 have hblk:w'.heap[bx]?=some (.cells bc 28 (0,0)):=(p2.block bx l2 (fun e=>hbv e.symm)).trans h.blk
 have hne:∀ b,b≠bx→(w'.setCell ⟨bx,j,none⟩ (.slice (some ⟨g,0,none⟩) (k+1) cp)).heap[b]?=w'.heap[b]? := fun b hb=>Below.heap_setCell w' ⟨bx,j,none⟩ _ b hb
 have hgb:g≠bx:=by
  rcases p3 with p3 | p3
  ·exact fun e=>hbv (e ▸ p3)
  ·omega
 have hgM:M' g=none:=by
  rcases p3 with p3 | p3
  ·exact h.free g p3
  ·exact h.fp.inn.fresh (by omega)
 have hbl:Below w.heap.size w w':=h.fp.below.grown p2 h.fp.below.size (fun q hq=>(row_lt h.row hq).1)
 have hbx:=h.box.2
 refine ⟨hblk,⟨h.fp.le,(h.fp.inn.grown p2 h.free).set h.box.1 _,hbl.setCell (by show w.heap.size≤bx;omega) _,h.fp.new⟩,row_kept p1 (fun q hq=>hne q (fun e=>hgb (scl.own_eq hq e))),fun q hq=>by rw [←scl.own_eq hq rfl];exact hgM,h.le,h.box,heap_setCell_same w' bx j bc 28 _ hblk,(hne _ (by omega)).trans ((p2.block _ l0 (fun e=>hv0 e.symm)).trans h.b0),(hne _ (by omega)).trans ((p2.block _ l1 (fun e=>hv1 e.symm)).trans h.b1),h.fz⟩
end
end Go.Proofs.YtcfdmbkiinjmaaaGreat.sow0
namespace Go.Proofs.YtcfdmbkiinjmaaaGreat.sow1
open Raft mem srun ssend sdown ssmall scopy srecs sapp ssame schos schosen scom sgrow sin sel stk slog sap0 sow0 slg
variable {F:Nat→Option Obj}
structure RD (w:World) (M M1:Fz) (t sz bx:Nat) (bc ic:Array Value) (k:Nat) (v:Value) (cells:List Value) (b5:Nat) (c5:Array Value) (M':Fz) (wr:World):Prop where
 oi:OI w M M1 t sz bx bc ic k v cells M' wr
 blk:wr.heap[b5]?=some (.cells c5 t (0,0))
 fz:M' b5=none
 ne:w.heap.size+1<b5∧b5≠bx∧v.ownBlock≠some b5
section
variable {w:World} {M M1:Fz} {t sz bx:Nat} {bc ic:Array Value} {k:Nat} {v:Value} {cells:List Value} {b5:Nat} {c5:Array Value} {M':Fz} {wr:World}
theorem RD.begin (h:OI w M M1 t sz bx bc ic k v cells M' wr) {W1:World} (e:wr.alloc (.cells c5 t)=W1):RD w M M1 t sz bx bc ic k v cells wr.heap.size c5 M' W1:=by
 have bW:Below wr.heap.size wr W1:=by rw [←e];exact more (Below.refl _ _) _
 have l1:=(Array.getElem?_eq_some_iff.1 h.b1).1
 have l2:=(Array.getElem?_eq_some_iff.1 h.blk).1
 exact ⟨h.below bW,by rw [←e];exact heap_alloc_new wr _,h.fp.inn.fresh (Nat.le_refl _),l1,by omega,fun e'=>by have:=(row_lt h.row e').2;omega⟩
theorem RD.below (h:RD w M M1 t sz bx bc ic k v cells b5 c5 M' wr) {wx:World} (hb:Below wr.heap.size wr wx):RD w M M1 t sz bx bc ic k v cells b5 c5 M' wx:=⟨h.oi.below hb,kept hb h.blk (Nat.le_refl _),h.fz,h.ne⟩
theorem RD.freeze (h:RD w M M1 t sz bx bc ic k v cells b5 c5 M' wr) {wx:World} {M2:Fz} (f:ntold.FP wr M' wx M2):RD w M M1 t sz bx bc ic k v cells b5 c5 M2 wx:=by
 have l:=(Array.getElem?_eq_some_iff.1 h.blk).1
 refine ⟨h.oi.freeze f,kept f.below h.blk (Nat.le_refl _),?_,h.ne⟩
 cases e2:M2 b5 with
 | none=>rfl
 | some o =>
  rcases f.new b5 (by rw [e2];simp) with g | g
  ·exact absurd h.fz g
  ·omega
theorem RD.set (h:RD w M M1 t sz bx bc ic k v cells b5 c5 M' wr) (j:Nat) (u:Value):RD w M M1 t sz bx bc ic k v cells b5 (c5.setIfInBounds j u) M' (wr.setCell ⟨b5,j,none⟩ u):=by
 have hn:=h.ne
 exact ⟨h.oi.other (by omega) h.fz hn.2.1 (by omega) (by omega) hn.2.2,heap_setCell_same wr b5 j c5 t u h.blk,h.fz,h.ne⟩
theorem RD.cell (h:RD w M M1 t sz bx bc ic k v cells b5 c5 M' wr) {j:Nat} {u:Value} (hj:c5[j]?=some u):wr.cell? ⟨b5,j,none⟩=some u∧wr.frozen? ⟨b5,j,none⟩=false:=⟨cell_of h.blk hj,frozen_of h.blk j⟩
theorem RD.log (h:RD w M M1 t sz bx bc ic k v cells b5 c5 M' wr) (l:List Rc) (lo:Option Addr) (L lc:Nat) (hl:RecsM M' (.slice lo L lc) l) (hlen:l.length≤1000) :
  Calls Tryz.prog 41 #[.slice lo L lc] wr fun r w2=>∃ o cp M2,r=.returned (.slice o l.length cp)∧RecsM M2 (.slice o l.length cp) l∧Le M' M2∧RD w M M1 t sz bx bc ic k v cells b5 c5 M2 w2:=by
 refine (log_any wr M' h.oi.fp.inn l lo L lc hl hlen).mono ?_
 rintro r w2 ⟨o,cp,M2,rfl,f,hr⟩
 exact ⟨o,cp,M2,rfl,hr,f.le,h.freeze f⟩
theorem RD.row (h:RD w M M1 t sz bx bc ic k v cells b5 c5 M' wr) (T:Nat) (sv:Value) (n:Nat) (xs:List Value) (hs:RowM M' sv n 1 xs) {Wa:World} (ea:wr.alloc (.cells #[] T)=Wa) :
  Wa.ownsRow wr.heap.size T 1 (.slice (some ⟨wr.heap.size,0,none⟩) 0 0) 0 []∧RowW Wa sv n 1 xs∧wr.heap.size≤Wa.heap.size∧RD w M M1 t sz bx bc ic k v cells b5 c5 M' Wa∧∀ v6 w4,w4.ownsRow wr.heap.size T 1 v6 (0+n) ([]++xs)→Wa.grownBy w4 (Value.slice (some ⟨wr.heap.size,0,none⟩) 0 0).ownBlock→∃ o6 c6 M2,v6=.slice o6 n c6∧RowM M2 (.slice o6 n c6) n 1 xs∧Le M' M2∧RD w M M1 t sz bx bc ic k v cells b5 c5 M2 w4:=by
 have bW:Below wr.heap.size wr Wa:=by rw [←ea];exact more (Below.refl _ _) _
 refine ⟨⟨rfl,.inr ⟨wr.heap.size,0,#[],rfl,Nat.le_refl _,by rw [←ea];exact heap_alloc_new wr _,Nat.le_refl _,by simp [maxLen],by simp,by simp⟩⟩,(RowM.world hs h.oi.fp.inn).below bW,bW.size,h.below bW,fun v6 w4 hO hG => ?_⟩
 rw [Nat.zero_add,List.nil_append] at hO
 have hb4:Below wr.heap.size wr w4:=bW.grown hG bW.size (fun q hq=>own_ge hq (Nat.le_refl _))
 obtain ⟨M2,l2,i2,r2,d2⟩:=RowM.freeze hO (h.oi.fp.inn.below hb4) (fun g hg=>h.oi.fp.inn.fresh (row_lt hO hg).1)
 obtain ⟨o6,n6,c6,e6⟩:=own_slice hO
 subst e6
 have:=own_len hO
 subst this
 exact ⟨o6,c6,M2,rfl,r2,l2,h.freeze ⟨l2,i2,hb4,fun b hb=>(d2 b hb).imp id (fun g=>(row_lt hO g).1)⟩⟩
theorem RD.push (h:RD w M M1 t sz bx bc ic k v cells b5 c5 M' wr) (ht:t≠28) {Y:World} {pc:List Value} (ey:wr.alloc (.cells pc.toArray t)=Y) :
  Y.ownsRow w.heap.size t sz v k cells∧(∀ j u,pc[j]?=some u→Y.cell? ((⟨wr.heap.size,0,none⟩:Addr).add j)=some u)∧w.heap.size≤Y.heap.size∧∀ g cp w',w'.ownsRow w.heap.size t sz (.slice (some ⟨g,0,none⟩) (k+1) cp) (k+1) (cells++pc)→Y.grownBy w' v.ownBlock→(v.ownBlock=some g∨g=Y.heap.size)→w'.heap[bx]?=some (.cells bc 28 (0,0))∧∀ j,OI w M M1 t sz bx (bc.setIfInBounds j (.slice (some ⟨g,0,none⟩) (k+1) cp)) ic (k+1) (.slice (some ⟨g,0,none⟩) (k+1) cp) (cells++pc) M' (w'.setCell ⟨bx,j,none⟩ (.slice (some ⟨g,0,none⟩) (k+1) cp)):=by
 have bY:Below wr.heap.size wr Y:=by rw [←ey];exact more (Below.refl _ _) _
 have hY:=h.oi.below bY
 have hbx:Y.heap[wr.heap.size]?=some (.cells pc.toArray t (0,0)):=by rw [←ey];exact heap_alloc_new wr _
 have hne:∀ g,v.ownBlock=some g→∀ (cur:Array Value),Y.heap[g]? ≠ some (.cells cur 28 (0,0)):=fun g hg cur e=>by
  obtain ⟨_,⟨e1,_⟩|⟨g',cap,cur',e1,_,hh,_⟩⟩:=hY.row
  ·rw [e1] at hg;simp [Value.ownBlock] at hg
  ·rw [e1] at hg
   simp only [Value.ownBlock,Option.some.injEq] at hg
   subst hg
   rw [e] at hh
   simp at hh
   exact ht hh.2.symm
 refine ⟨hY.row,fun j u hu => ?_,hY.fp.below.size,fun g cp w' p1 p2 p3 => ?_⟩
 ·rw [addr_add,Nat.zero_add]
  exact cell_of hbx (by simpa using hu)
 ·have hp:=fun j=>hY.push (j:=j) p1 p2 p3 (fun e=>hne _ e _ hY.blk) (fun e=>hne _ e _ hY.b0) (fun e=>hne _ e _ hY.b1)
  exact ⟨(hp 0).1,fun j=>(hp j).2⟩
end
end Go.Proofs.YtcfdmbkiinjmaaaGreat.sow1
namespace Go.Proofs.YtcfdmbkiinjmaaaGreat.sow
open Raft mem srun ssend sdown ssmall scopy srecs sapp ssame schos schosen scom sgrow sin sel stk slog sap0 sow0 slg sow1
variable {F:Nat→Option Obj}
def LM (w:World) (M:Fz) (c:Cl) (ic:Array Value) (bx:Nat) (pv:Value) (o:Option Addr) (cc:Nat) (M1:Fz) (k:Nat) (v:Value) (wr:World):Prop:=∃ (M':Fz) (us:List MV),OI w M M1 69 9 bx #[pv,v,.slice o c.chosen.length cc,.bool c.conflict] ic k v (us.flatMap msgCells) M' wr∧us.map (·.m)=c.net.take k∧∀ x∈us,RecsM M' x.lv x.m.log
def LP (w:World) (M:Fz) (c:Cl) (ic:Array Value) (bx:Nat) (o:Option Addr) (cc:Nat) (M1:Fz) (k:Nat) (v:Value) (wr:World):Prop:=∃ (M':Fz) (us:List gtold.PV),OI w M M1 66 9 bx #[v,.slice none 0 0,.slice o c.chosen.length cc,.bool c.conflict] ic k v (us.flatMap gtold.peerCells) M' wr∧us.map (·.p)=c.peers.take k∧∀ x∈us,ntold.PeerM M' x.p x.lv x.vv x.nv x.mv
theorem take_snocP {l:List Peer} {i:Nat} {r:Peer} (h:l[i]?=some r):l.take (i+1)=l.take i++[r]:=by
 rw [List.take_add_one,h];rfl
theorem bools_one (xs:List Bool):∀ y∈xs.map Value.bool,y.oneCell'=true:=by
 intro y hy
 obtain ⟨z,_,rfl⟩:=List.mem_map.1 hy
 rfl
theorem nats_one (xs:List Nat):∀ y∈xs.map (fun (n:Nat)=>Value.int .i64 (n:Int)),y.oneCell'=true:=by
 intro y hy
 obtain ⟨z,_,rfl⟩:=List.mem_map.1 hy
 rfl
def Beg (w:World) (M:Fz) (c:Cl) (ic:Array Value) (bx:Nat) (o:Option Addr) (cc:Nat) (wr:World):Prop:=∃ M1,OI w M M1 66 9 bx #[.slice none 0 0,.slice none 0 0,.slice o c.chosen.length cc,.bool c.conflict] ic 0 (.slice none 0 0) [] M1 wr∧RecsM M1 (.slice o c.chosen.length cc) c.chosen
theorem Beg.mk {w W wx w2 w3:World} {M M2:Fz} {c:Cl} {ic:Array Value} {bx:Nat} {o:Option Addr} {cc:Nat} (hI:In M w) (bW:Below w.heap.size w W) (h0:W.heap[w.heap.size]?=some (.cells ic 28 (0,0))) (h1:W.heap[w.heap.size+1]?=some (.cells #[.slice none 0 0,.slice none 0 0,.slice none 0 0,.bool false] 28 (0,0))) (hx:Below W.heap.size W wx) (f:ntold.FP wx M w2 M2) (hr:RecsM M2 (.slice o c.chosen.length cc) c.chosen)
  (h3:∀ b,b<w2.heap.size→b≠bx→w3.heap[b]?=w2.heap[b]?) (hos:w3.os=w2.os∧w3.tape=w2.tape∧w3.output=w2.output∧w2.heap.size≤w3.heap.size) (hb:w3.heap[bx]?=some (.cells #[.slice none 0 0,.slice none 0 0,.slice o c.chosen.length cc,.bool c.conflict] 28 (0,0))) (hbx:W.heap.size≤bx) (hM:M2 bx=none):Beg w M c ic bx o cc w3:=by
 have l0:=(Array.getElem?_eq_some_iff.1 h0).1
 have l1:=(Array.getElem?_eq_some_iff.1 h1).1
 have sx:=hx.size
 have s2:=f.below.size
 have hold:∀ b,b<W.heap.size→w3.heap[b]?=W.heap[b]? := fun b hb'=>by
  rw [h3 b (by omega) (by omega),f.below.block b (by omega),hx.block b hb']
 have hfz:∀ b,w.heap.size≤b→b<W.heap.size→M2 b=none:=fun b g1 g2=>by
  cases e:M2 b with
  | none=>rfl
  | some q =>
   rcases f.new b (by rw [e];simp) with g | g
   ·exact absurd (hI.fresh g1) g
   ·omega
 refine ⟨M2,⟨⟨f.le,fun b q hq => ?_,⟨hos.1.trans (f.below.os.trans (hx.os.trans bW.os)),hos.2.1.trans (f.below.tape.trans (hx.tape.trans bW.tape)),hos.2.2.1.trans (f.below.output.trans (hx.output.trans bW.output)),by have:=bW.size;have:=hos.2.2.2;omega,fun b hb'=>by rw [hold b (by have:=bW.size;omega),bW.block b hb']⟩,fun b hb'=>(f.new b hb').imp id (fun g=>by have:=bW.size;omega)⟩,World.ownsRow_nil _ _ _ _,by simp [Value.ownBlock],Le.refl _,⟨hM,by omega⟩,hb,(hold _ l0).trans h0,(hold _ l1).trans h1,hfz _ (Nat.le_refl _) l0,hfz _ (by omega) l1⟩,hr⟩
 have hq2:=f.inn b q hq
 rw [h3 b (Array.getElem?_eq_some_iff.1 hq2).1 (fun e=>by rw [e,hM] at hq;cases hq)]
 exact hq2
set_option maxRecDepth 20000 in
set_option maxHeartbeats 4000000 in
theorem own_any (w:World) (M:Fz) (hI:In M w) (c:Cl) (po:Option Addr) (pn px:Nat) (no:Option Addr) (nn nx:Nat) (co:Option Addr) (cn cx:Nat) (h:gt8.CluV M c (.slice po pn px) (.slice no nn nx) (.slice co cn cx))
  (hp7:c.peers.length≤7) (hn200:c.net.length≤200) (hcl:c.chosen.length≤1000) (hpl:∀ p∈c.peers,p.log.length≤1000∧p.votes.length≤1000∧p.next.length≤1000∧p.mat.length≤1000) (hml:∀ m∈c.net,m.log.length≤1000) :
  Calls Tryz.prog 19 #[.agg #[.slice po pn px,.slice no nn nx,.slice co cn cx,.bool c.conflict]] w fun r w'=>gt8.CluE w M c r w':=by
 obtain ⟨ps,ms,eps,hpv,ems,hmv,hch⟩:=h
 obtain ⟨W,hW⟩:∃ W,(w.alloc (.cells #[.slice po pn px,.slice no nn nx,.slice co cn cx,.bool c.conflict] 28)).alloc (.cells #[.slice none 0 0,.slice none 0 0,.slice none 0 0,.bool false] 28)=W:=⟨_,rfl⟩
 have bW:Below w.heap.size w W:=by rw [←hW];exact more (more (Below.refl _ _) _) _
 have sW:W.heap.size=w.heap.size+2:=by rw [←hW];simp [World.size_alloc]
 have hb0:W.heap[w.heap.size]?=some (.cells #[.slice po pn px,.slice no nn nx,.slice co cn cx,.bool c.conflict] 28 (0,0)):=by
  rw [←hW]
  exact kept (more (Below.refl _ _) _) (heap_alloc_new w _) (Nat.le_refl _)
 have hb1:W.heap[w.heap.size+1]?=some (.cells #[.slice none 0 0,.slice none 0 0,.slice none 0 0,.bool false] 28 (0,0)):=by
  rw [←hW]
  exact new_at (by simp [World.size_alloc])
 have HS:Hid (∀ wx,Below W.heap.size W wx→wx.cell? ⟨w.heap.size,3,none⟩=some (.bool c.conflict)∧wx.cell? ⟨w.heap.size,2,none⟩=some (.slice co cn cx)):=fun wx hx=>⟨cell_of (kept hx hb0 (Nat.le_refl _)) rfl,cell_of (kept hx hb0 (Nat.le_refl _)) rfl⟩
 have HLg:Hid (∀ wx,Below W.heap.size W wx→Calls Tryz.prog 41 #[.slice co cn cx] wx fun r w'=>LogE wx M c.chosen r w'):=fun wx hx=>log_any wx M ((hI.below bW).below hx) c.chosen co cn cx hch hcl
 have HBg:Hid (∀ wx w2 M2 o cc w3 bx,Below W.heap.size W wx→ntold.FP wx M w2 M2→RecsM M2 (.slice o c.chosen.length cc) c.chosen→(∀ b,b<w2.heap.size→b≠bx→w3.heap[b]?=w2.heap[b]?)→(w3.os=w2.os∧w3.tape=w2.tape∧w3.output=w2.output∧w2.heap.size≤w3.heap.size)→w3.heap[bx]?=some (.cells #[.slice none 0 0,.slice none 0 0,.slice o c.chosen.length cc,.bool c.conflict] 28 (0,0))→W.heap.size≤bx→M2 bx=none→Beg w M c #[.slice po pn px,.slice no nn nx,.slice co cn cx,.bool c.conflict] bx o cc w3):=fun wx w2 M2 o cc w3 bx hx f hr h3 hos hb hbx hM=>Beg.mk hI bW hb0 hb1 hx f hr h3 hos hb hbx hM
 have hB0:=hide (Below.refl W.heap.size W)
 have HsW:=hide sW
 clear sW
 have HInW:Hid (In M W):=hI.below bW
 obtain ⟨CL,eCL⟩:∃ n,c.chosen.length=n:=⟨_,rfl⟩
 go_enter Tryz.func19,Tryz.ntmps19
 go_wp2
 (try rw [hW])
 go_cut [3] from 8 to 13 (fun v wx=>∃ bx o cc,v=.pointer (some ⟨bx,0,none⟩)∧Hid (Beg w M c #[.slice po pn px,.slice no nn nx,.slice co cn cx,.bool c.conflict] bx o cc wx))
 case first =>
  clear hpv hmv hch hW hb0 hb1 bW
  go_region_held_law (fun wx=>wx.cell? ⟨w.heap.size,3,none⟩=some (.bool c.conflict)∧wx.cell? ⟨w.heap.size,2,none⟩=some (.slice co cn cx)) ((refine HS.out _ ?_;first | exact hB0.out | exact hB0.out.drew | exact (more hB0.out _).drew | exact hBx.out | exact more hBx.out _ | exact (((hBx.out.setCell (Nat.le_refl _) _).setCell (Nat.le_refl _) _).setCell (Nat.le_refl _) _).setCell (Nat.le_refl _) _)) (first | (go_at_call 41;refine (HLg.out _ (by first | exact hB0.out.drew | exact (more hB0.out _).drew)).mono ?_;rintro rr w2 ⟨o,cc,M2,rfl,fp2,hr2⟩;have HF2:=hide fp2;have HR2:=hide hr2;first | (have hBx:Hid (Below W.heap.size W w2):=hB0.out.drew.trans (fp2.below.mono (by first | exact Nat.le_refl _ | simp))) | (have hBx:Hid (Below W.heap.size W w2):=(more hB0.out _).drew.trans (fp2.below.mono (by simp [World.size_alloc])));first | (have hz2:w2.heap[W.heap.size]?=some (.cells #[.slice none 0 0,.slice none 0 0,.slice none 0 0,.bool false] 28 (0,0)):=kept fp2.below (show ((W.alloc (.cells #[.slice none 0 0,.slice none 0 0,.slice none 0 0,.bool false] 28)).drew).heap[W.heap.size]?=some (.cells #[.slice none 0 0,.slice none 0 0,.slice none 0 0,.bool false] 28 (0,0)) from heap_alloc_new W _) (Nat.le_refl _);have zz0:=cell_of (i:=0) hz2 (v:=.slice none 0 0) rfl;have zf0:=frozen_of hz2 0;have zz1:=cell_of (i:=1) hz2 (v:=.slice none 0 0) rfl;have zf1:=frozen_of hz2 1;have zz2:=cell_of (i:=2) hz2 (v:=.slice none 0 0) rfl;have zf2:=frozen_of hz2 2;have zz3:=cell_of (i:=3) hz2 (v:=.bool false) rfl;have zf3:=frozen_of hz2 3) | skip;clear fp2 hr2))
  all_goals (go_wp2_with fail)
  ·go_meet
   exact ⟨w2.heap.size,o,cc,rfl,HBg.out _ w2 M2 o cc _ w2.heap.size hB0.out.drew HF2.out HR2.out (fun b hb _=>Below.heap_alloc _ _ _ hb) ⟨rfl,rfl,rfl,by simp [World.size_alloc]⟩ (by rw [eCL];exact heap_alloc_new w2 _) hBx.out.size (HF2.out.inn.fresh (Nat.le_refl _))⟩
  ·have hMb:M2 W.heap.size=none:=by
    cases em:M2 W.heap.size with
    | none=>rfl
    | some q =>
     rcases HF2.out.new _ (by rw [em];simp) with g | g
     ·exact absurd (HInW.out.fresh (Nat.le_refl _)) g
     ·exfalso
      have g:(W.alloc (.cells #[.slice none 0 0,.slice none 0 0,.slice none 0 0,.bool false] 28)).heap.size≤W.heap.size:=g
      rw [World.size_alloc] at g
      omega
   go_meet
   refine ⟨W.heap.size,o,cc,rfl,HBg.out _ w2 M2 o cc _ W.heap.size (more hB0.out _).drew HF2.out HR2.out (fun b hb hne => ?_) ⟨rfl,rfl,rfl,by simp⟩ ?_ (Nat.le_refl _) hMb⟩
   ·rw [Below.heap_setCell _ ⟨W.heap.size,3,none⟩ _ b hne,Below.heap_setCell _ ⟨W.heap.size,2,none⟩ _ b hne,Below.heap_setCell _ ⟨W.heap.size,1,none⟩ _ b hne,Below.heap_setCell _ ⟨W.heap.size,0,none⟩ _ b hne]
   ·rw [eCL]
    have g1:=heap_setCell_same w2 W.heap.size 0 _ 28 (.slice none 0 0) hz2
    have g2:=heap_setCell_same _ W.heap.size 1 _ 28 (.slice none 0 0) g1
    have g3:=heap_setCell_same _ W.heap.size 2 _ 28 (.slice o CL cc) g2
    have g4:=heap_setCell_same _ W.heap.size 3 _ 28 (.bool c.conflict) g3
    simpa using g4
 case rest =>
  obtain ⟨bx,o,cc,rfl,HBeg⟩:=hcut
  obtain ⟨M1,hoi0,hrc⟩:=HBeg.out
  have HRC:=hide hrc
  have H0:Hid (LP w M c #[.slice po pn px,.slice no nn nx,.slice co cn cx,.bool c.conflict] bx o cc M1 0 (.slice none 0 0) wc):=⟨M1,[],hoi0,by simp,by simp⟩
  have HPn:Hid (pn=ps.length∧px≤maxLen∧pn≤px):=by
   obtain ⟨⟨ao,cap,e1,e2,e3,_⟩,_⟩:=hpv
   simp only [Value.slice.injEq] at e1
   obtain ⟨_,rfl,rfl⟩:=e1
   exact ⟨rfl,e3,e2⟩
  have hpn7:pn≤7:=by rw [HPn.out.1,←List.length_map (f:=(·.p)),eps];exact hp7
  have hpx:=HPn.out.2.1
  have hpx2:=HPn.out.2.2
  unfold maxLen at hpx
  have HPc:Hid (∀ k,k<pn→∃ x pb off lo L lc ao VL ac eo NL ec fo ML fc,ps[k]?=some x∧po=some ⟨pb,off,none⟩∧x.lv=.slice lo L lc∧x.vv=.slice ao VL ac∧x.nv=.slice eo NL ec∧x.mv=.slice fo ML fc∧(L=x.p.log.length∧VL=x.p.votes.length∧NL=x.p.next.length∧ML=x.p.mat.length)∧(L≤1000∧VL≤1000∧NL≤1000∧ML≤1000)∧(∀ M' wx,Le M M'→In M' wx→∀ j v,([.bool x.p.up,.int .i64 x.p.term,.int .i64 x.p.vote,.int .i64 x.p.commit,.int .i64 x.p.role,.slice lo L lc,.slice ao VL ac,.slice eo NL ec,.slice fo ML fc]:List Value)[j]?=some v→wx.cell? ⟨pb,off+k*9+j,none⟩=some v)):=fun k hk=>by
   obtain ⟨x,hx⟩:∃ x,ps[k]?=some x:=⟨_,List.getElem?_eq_getElem (by have:=HPn.out.1;omega)⟩
   have hxm:x∈ps:=List.mem_iff_getElem?.2 ⟨k,hx⟩
   obtain ⟨hp1,hp2⟩:=hpv
   obtain ⟨q1,q2,q3,q4⟩:=hp2 x hxm
   have hpx:=hpl x.p (by rw [←eps];exact List.mem_map.2 ⟨x,hxm,rfl⟩)
   obtain ⟨lo,lc,e1⟩:=recsM_slice q1
   obtain ⟨ao,ac,e2,_⟩:=slice_one q2
   obtain ⟨eo,ec,e3,_⟩:=slice_one q3
   obtain ⟨fo,fc,e4,_⟩:=slice_one q4
   obtain ⟨pao,cap,e5,g1,g2,g3,g4,g5⟩:=hp1
   obtain ⟨pb,off,e6,hc⟩:=g5 (by have:=HPn.out.1;omega)
   simp only [Value.slice.injEq] at e5
   refine ⟨x,pb,off,lo,_,lc,ao,_,ac,eo,_,ec,fo,_,fc,hx,e5.1.trans e6,e1,e2,e3,e4,⟨rfl,rfl,rfl,rfl⟩,hpx,fun M' wx hle hIn j v hj => ?_⟩
   have hj':(gtold.peerCells x)[j]?=some v:=by
    unfold gtold.peerCells
    rw [e1,e2,e3,e4]
    exact hj
   have hj9:j<9:=(List.getElem?_eq_some_iff.1 hj').1
   have e7:=flat_get gtold.peerCells 9 gtold.peerCells_len ps k j x hx hj9
   have:=hc _ v (e7.trans hj')
   rw [←Nat.add_assoc] at this
   exact hIn.cell (hle.cell this)
  have HSrc:Hid (∀ (k:Nat) (x:gtold.PV),ps[k]?=some x→ntold.PeerM M x.p x.lv x.vv x.nv x.mv∧c.peers[k]?=some x.p):=fun k x hx=>⟨hpv.2 x (List.mem_iff_getElem?.2 ⟨k,hx⟩),by rw [←eps,List.getElem?_map,hx];rfl⟩
  obtain ⟨i36,g1,g2,g3,g4⟩:=info_parts scl.info36
  have HI36:Hid (Tryz.prog.info? 66=some i36∧i36.zero=some (.agg #[.bool false,.int .i64 0,.int .i64 0,.int .i64 0,.int .i64 0,.slice none 0 0,.slice none 0 0,.slice none 0 0,.slice none 0 0])∧i36.size=9∧i36.bytes=136):=⟨g1,g2,g3,g4⟩
  clear g1 g2 g3 g4 hoi0 hrc HBeg HS HLg HBg hB0 hW hb0 hb1 bW hpv
  go_wp2
  go_loopw [4] (fun a wr=>∃ (k:Nat) (vo:Option Addr) (vc:Nat),k≤pn∧a=.int .i64 k∧Hid (LP w M c #[.slice po pn px,.slice no nn nx,.slice co cn cx,.bool c.conflict] bx o cc M1 k (.slice vo k vc) wr)) (fun a _=>pn-(intOf a).toNat)
  case atStart=>exact ⟨0,none,0,Nat.zero_le _,rfl,H0⟩
  case round =>
   clear H0
   obtain ⟨k,vo,vc,hk,rfl,HQ⟩:=hrel
   obtain ⟨M',us,hoi,hus,hok⟩:=HQ.out
   have b00:wr.cell? ⟨w.heap.size,0,none⟩=some (.slice po pn px):=cell_of hoi.b0 rfl
   by_cases hkn:k<pn
   ·have hknI:(k:Int)<pn:=by omega
    obtain ⟨x,pb,off,lo,L,lc,ao,VL,ac,eo,NL,ec,fo,ML,fc,hx,rfl,elv,evv,env,emv,⟨eL,eV,eN,eM⟩,⟨bL,bV,bN,bM⟩,hcs⟩:=HPc.out k hkn
    obtain ⟨⟨s1,s2,s3,s4⟩,hcp⟩:=HSrc.out k x hx
    rw [elv] at s1
    rw [evv,←eV] at s2
    rw [env,←eN] at s3
    rw [emv,←eM] at s4
    have hM':=hoi.fp.le
    have y0:=hcs M' wr hM' hoi.fp.inn 0 _ rfl
    have y1:=hcs M' wr hM' hoi.fp.inn 1 _ rfl
    have y2:=hcs M' wr hM' hoi.fp.inn 2 _ rfl
    have y3:=hcs M' wr hM' hoi.fp.inn 3 _ rfl
    have y4:=hcs M' wr hM' hoi.fp.inn 4 _ rfl
    have y5:=hcs M' wr hM' hoi.fp.inn 5 _ rfl
    have y6:=hcs M' wr hM' hoi.fp.inn 6 _ rfl
    have y7:=hcs M' wr hM' hoi.fp.inn 7 _ rfl
    have y8:=hcs M' wr hM' hoi.fp.inn 8 _ rfl
    rw [Nat.add_zero] at y0
    obtain ⟨W1,hW1⟩:∃ X,wr.alloc (.cells #[.bool x.p.up,.int .i64 x.p.term,.int .i64 x.p.vote,.int .i64 x.p.commit,.int .i64 x.p.role,.slice lo L lc,.slice ao VL ac,.slice eo NL ec,.slice fo ML fc] 66)=X:=⟨_,rfl⟩
    have rd1:=RD.begin hoi hW1
    obtain ⟨b5,eb5⟩:∃ b,wr.heap.size=b:=⟨_,rfl⟩
    rw [eb5] at rd1
    have HA:=hide (rd1.log x.p.log lo L lc (s1.le hM') (by omega))
    rw [←eL] at HA
    have t5:=(rd1.cell (j:=5) (u:=.slice lo L lc) rfl).1
    have HOk:Hid ((∀ y∈us,ntold.PeerM M' y.p y.lv y.vv y.nv y.mv)∧us.map (·.p)=c.peers.take k∧c.peers[k]?=some x.p∧Le M M'∧L=x.p.log.length∧VL=x.p.votes.length∧NL=x.p.next.length∧ML=x.p.mat.length):=⟨hok,hus,hcp,hM',eL,eV,eN,eM⟩
    have HS2:=hide s2
    have HS3:=hide s3
    have HS4:=hide s4
    clear hoi hus hok HQ hcs hx hcp s1 s2 s3 s4 hM' rd1 eL eV eN eM elv evv env emv HPc HSrc
    go_wp2_with fail
    refine HA.out.mono ?_
    rintro rr w2 ⟨o5,c5,M2,rfl,hr5,le2,rd2⟩
    obtain ⟨q5,f5⟩:=rd2.cell (j:=5) (u:=.slice lo L lc) rfl
    obtain ⟨W3,hW3⟩:∃ X,w2.setCell ⟨b5,5,none⟩ (.slice o5 L c5)=X:=⟨_,rfl⟩
    have rd3:RD w M M1 66 9 bx #[.slice vo k vc,.slice none 0 0,.slice o c.chosen.length cc,.bool c.conflict] #[.slice (some ⟨pb,off,none⟩) pn px,.slice no nn nx,.slice co cn cx,.bool c.conflict] k (.slice vo k vc) (us.flatMap gtold.peerCells) b5 #[.bool x.p.up,.int .i64 x.p.term,.int .i64 x.p.vote,.int .i64 x.p.commit,.int .i64 x.p.role,.slice o5 L c5,.slice ao VL ac,.slice eo NL ec,.slice fo ML fc] M2 W3:=(by have:=rd2.set 5 (.slice o5 L c5);rw [hW3] at this;exact this)
    obtain ⟨Wa,hWa⟩:∃ X,W3.alloc (.cells #[] 4)=X:=⟨_,rfl⟩
    obtain ⟨a1,a2,a3,a4,a5⟩:=rd3.row 4 (.slice ao VL ac) VL (x.p.votes.map Value.bool) (HS2.out.le (HOk.out.2.2.2.1.trans le2)) hWa
    have HA1:=hide a1
    have HA2:=hide a2
    have HA5:=hide a5
    have q6:=(a4.cell (j:=6) (u:=.slice ao VL ac) rfl).1
    have HR5:=hide hr5
    have HL2:=hide le2
    clear a1 a2 a4 a5 rd2 rd3 hr5 le2
    go_wp2_with (first | (at_builtin;have _h:=HZ4;refine wpList_append_lies _ rfl _ _ _ rfl w.heap.size 66 i36 (.agg #[.bool false,.int .i64 0,.int .i64 0,.int .i64 0,.int .i64 0,.slice none 0 0,.slice none 0 0,.slice none 0 0,.slice none 0 0]) 9 136 Tryz.underlying24 HI36.out.1 HI36.out.2.1 HI36.out.2.2.1 HI36.out.2.2.2 rfl (by omega) _ k (us.flatMap gtold.peerCells) rfl HZ1.out ⟨W9.heap.size,0,none⟩ 1 1 [.bool x.p.up,.int .i64 x.p.term,.int .i64 x.p.vote,.int .i64 x.p.commit,.int .i64 x.p.role,.slice o5 L c5,.slice o6 VL c6,.slice o7 NL c7,.slice o8 ML c8] rfl rfl HZ2.out (by intro u hu;simp only [List.mem_cons,List.not_mem_nil,or_false] at hu;rcases hu with rfl | rfl | rfl | rfl | rfl | rfl | rfl | rfl | rfl <;> rfl) (by omega) (by unfold maxLen;omega) (by omega) z3 Y.heap.size rfl ?_;intro g cp w10 p1 p2 p3 p4;obtain ⟨n1,n2⟩:=HZ4.out g cp w10 p1 p2 p3;have n3:=cell_of (i:=0) n1 (v:=.slice vo k vc) rfl;have n4:=frozen_of n1 0;have HN:=hide (n2 0);clear _h p1 p2 p3 p4 n1 n2 HZ1 HZ2 HZ4 hY q0 u0 u1 u2 u3 u4 u5 u6 u7 u8) | (at_builtin;have _h:=HM5;refine wpList_append_row _ rfl _ _ 29 rfl 3 1 8 _ Tryz.underlying29 sel.info3 rfl (by decide) W7.heap.size _ 0 [] rfl HM1.out _ ML (x.p.mat.map fun (n:Nat)=>Value.int .i64 (n:Int)) rfl HM2.out (nats_one _) (by omega) (by decide) m3 ?_;intro v8 w8 O8 G8;obtain ⟨o8,c8,M8,e8,hr8,le8,rd8⟩:=HM5.out v8 w8 O8 G8;subst e8;obtain ⟨q8',f8⟩:=rd8.cell (j:=8) (u:=.slice fo ML fc) rfl;obtain ⟨W9,hW9⟩:∃ X,w8.setCell ⟨b5,8,none⟩ (.slice o8 ML c8)=X:=⟨_,rfl⟩;have rd9:RD w M M1 66 9 bx #[.slice vo k vc,.slice none 0 0,.slice o c.chosen.length cc,.bool c.conflict] #[.slice (some ⟨pb,off,none⟩) pn px,.slice no nn nx,.slice co cn cx,.bool c.conflict] k (.slice vo k vc) (us.flatMap gtold.peerCells) b5 #[.bool x.p.up,.int .i64 x.p.term,.int .i64 x.p.vote,.int .i64 x.p.commit,.int .i64 x.p.role,.slice o5 L c5,.slice o6 VL c6,.slice o7 NL c7,.slice o8 ML c8] M8 W9:=(by have:=rd8.set 8 (.slice o8 ML c8);rw [hW9] at this;exact this);have q0:=cell_of (i:=0) rd9.oi.blk (v:=.slice vo k vc) rfl;have u0:=(rd9.cell (j:=0) (u:=.bool x.p.up) rfl).1;have u1:=(rd9.cell (j:=1) (u:=.int .i64 x.p.term) rfl).1;have u2:=(rd9.cell (j:=2) (u:=.int .i64 x.p.vote) rfl).1;have u3:=(rd9.cell (j:=3) (u:=.int .i64 x.p.commit) rfl).1;have u4:=(rd9.cell (j:=4) (u:=.int .i64 x.p.role) rfl).1;have u5:=(rd9.cell (j:=5) (u:=.slice o5 L c5) rfl).1;have u6:=(rd9.cell (j:=6) (u:=.slice o6 VL c6) rfl).1;have u7:=(rd9.cell (j:=7) (u:=.slice o7 NL c7) rfl).1;have u8:=(rd9.cell (j:=8) (u:=.slice o8 ML c8) rfl).1;obtain ⟨Y,hY⟩:∃ X,W9.alloc (.cells #[.bool x.p.up,.int .i64 x.p.term,.int .i64 x.p.vote,.int .i64 x.p.commit,.int .i64 x.p.role,.slice o5 L c5,.slice o6 VL c6,.slice o7 NL c7,.slice o8 ML c8] 66)=X:=⟨_,rfl⟩;obtain ⟨z1,z2,z3,z4⟩:=rd9.push (by decide) (pc:=[.bool x.p.up,.int .i64 x.p.term,.int .i64 x.p.vote,.int .i64 x.p.commit,.int .i64 x.p.role,.slice o5 L c5,.slice o6 VL c6,.slice o7 NL c7,.slice o8 ML c8]) hY;have HZ1:=hide z1;have HZ2:=hide z2;have HZ4:=hide z4;have HR8:=hide hr8;have HL8:=hide le8;have HOI:=hide rd9.oi;clear _h z1 z2 z4 rd8 rd9 hr8 le8 O8 G8 HM1 HM2 HM5 hWc q7' f7 q8) | (at_builtin;have _h:=HD5;refine wpList_append_row _ rfl _ _ 29 rfl 3 1 8 _ Tryz.underlying29 sel.info3 rfl (by decide) W5.heap.size _ 0 [] rfl HD1.out _ NL (x.p.next.map fun (n:Nat)=>Value.int .i64 (n:Int)) rfl HD2.out (nats_one _) (by omega) (by decide) d3 ?_;intro v7 w6 O6 G6;obtain ⟨o7,c7,M6,e7,hr7,le6,rd6⟩:=HD5.out v7 w6 O6 G6;subst e7;obtain ⟨q7',f7⟩:=rd6.cell (j:=7) (u:=.slice eo NL ec) rfl;obtain ⟨W7,hW7⟩:∃ X,w6.setCell ⟨b5,7,none⟩ (.slice o7 NL c7)=X:=⟨_,rfl⟩;have rd7:RD w M M1 66 9 bx #[.slice vo k vc,.slice none 0 0,.slice o c.chosen.length cc,.bool c.conflict] #[.slice (some ⟨pb,off,none⟩) pn px,.slice no nn nx,.slice co cn cx,.bool c.conflict] k (.slice vo k vc) (us.flatMap gtold.peerCells) b5 #[.bool x.p.up,.int .i64 x.p.term,.int .i64 x.p.vote,.int .i64 x.p.commit,.int .i64 x.p.role,.slice o5 L c5,.slice o6 VL c6,.slice o7 NL c7,.slice fo ML fc] M6 W7:=(by have:=rd6.set 7 (.slice o7 NL c7);rw [hW7] at this;exact this);obtain ⟨Wc,hWc⟩:∃ X,W7.alloc (.cells #[] 3)=X:=⟨_,rfl⟩;obtain ⟨m1,m2,m3,m4,m5⟩:=rd7.row 3 (.slice fo ML fc) ML (x.p.mat.map fun (n:Nat)=>Value.int .i64 (n:Int)) (HS4.out.le (HOk.out.2.2.2.1.trans (HL2.out.trans (HL4.out.trans le6)))) hWc;have HM1:=hide m1;have HM2:=hide m2;have HM5:=hide m5;have q8:=(m4.cell (j:=8) (u:=.slice fo ML fc) rfl).1;have HR7:=hide hr7;have HL6:=hide le6;clear _h m1 m2 m4 m5 rd6 rd7 hr7 le6 O6 G6 HD1 HD2 HD5 hWb q6' f6 q7) | (at_builtin;have _h:=HA5;refine wpList_append_row _ rfl _ _ 64 rfl 4 1 1 _ Tryz.underlying64 stk2.info4 rfl (by decide) W3.heap.size _ 0 [] rfl HA1.out _ VL (x.p.votes.map Value.bool) rfl HA2.out (bools_one _) (by omega) (by decide) a3 ?_;intro v6 w4 O4 G4;obtain ⟨o6,c6,M4,e6,hr6,le4,rd4⟩:=HA5.out v6 w4 O4 G4;subst e6;obtain ⟨q6',f6⟩:=rd4.cell (j:=6) (u:=.slice ao VL ac) rfl;obtain ⟨W5,hW5⟩:∃ X,w4.setCell ⟨b5,6,none⟩ (.slice o6 VL c6)=X:=⟨_,rfl⟩;have rd5:RD w M M1 66 9 bx #[.slice vo k vc,.slice none 0 0,.slice o c.chosen.length cc,.bool c.conflict] #[.slice (some ⟨pb,off,none⟩) pn px,.slice no nn nx,.slice co cn cx,.bool c.conflict] k (.slice vo k vc) (us.flatMap gtold.peerCells) b5 #[.bool x.p.up,.int .i64 x.p.term,.int .i64 x.p.vote,.int .i64 x.p.commit,.int .i64 x.p.role,.slice o5 L c5,.slice o6 VL c6,.slice eo NL ec,.slice fo ML fc] M4 W5:=(by have:=rd4.set 6 (.slice o6 VL c6);rw [hW5] at this;exact this);obtain ⟨Wb,hWb⟩:∃ X,W5.alloc (.cells #[] 3)=X:=⟨_,rfl⟩;obtain ⟨d1,d2,d3,d4,d5⟩:=rd5.row 3 (.slice eo NL ec) NL (x.p.next.map fun (n:Nat)=>Value.int .i64 (n:Int)) (HS3.out.le (HOk.out.2.2.2.1.trans (HL2.out.trans le4))) hWb;have HD1:=hide d1;have HD2:=hide d2;have HD5:=hide d5;have q7:=(d4.cell (j:=7) (u:=.slice eo NL ec) rfl).1;have HR6:=hide hr6;have HL4:=hide le4;clear _h d1 d2 d4 d5 rd4 rd5 hr6 le4 O4 G4 HA1 HA2 HA5 HA hWa q5 f5 t5 q6))
    have HF:Hid (LP w M c #[.slice (some ⟨pb,off,none⟩) pn px,.slice no nn nx,.slice co cn cx,.bool c.conflict] bx o cc M1 (k+1) (.slice (some ⟨g,0,none⟩) (k+1) cp) (w10.setCell ⟨bx,0,none⟩ (.slice (some ⟨g,0,none⟩) (k+1) cp))):=by
     obtain ⟨k1,k2,k3,k4,k5,k6,k7,k8⟩:=HOk.out
     have l48:=HL4.out.trans (HL6.out.trans HL8.out)
     refine ⟨M8,us++[⟨x.p,.slice o5 L c5,.slice o6 VL c6,.slice o7 NL c7,.slice o8 ML c8⟩],?_,?_,?_⟩
     ·have e9:(us++[(⟨x.p,.slice o5 L c5,.slice o6 VL c6,.slice o7 NL c7,.slice o8 ML c8⟩:gtold.PV)]).flatMap gtold.peerCells=us.flatMap gtold.peerCells++[.bool x.p.up,.int .i64 x.p.term,.int .i64 x.p.vote,.int .i64 x.p.commit,.int .i64 x.p.role,.slice o5 L c5,.slice o6 VL c6,.slice o7 NL c7,.slice o8 ML c8]:=by rw [List.flatMap_append];rfl
      rw [e9]
      exact HN.out
     ·rw [List.map_append,k2,take_snocP k3]
      rfl
     ·intro y hy
      rcases List.mem_append.1 hy with hy | hy
      ·exact gtold.PeerM.le (k1 y hy) (HL2.out.trans l48)
      ·simp only [List.mem_singleton] at hy
       subst hy
       refine ⟨?_,?_,?_,?_⟩
       ·exact HR5.out.le l48
       ·show RowM M8 _ x.p.votes.length 1 _
        rw [←k6]
        exact HR6.out.le (HL6.out.trans HL8.out)
       ·show RowM M8 _ x.p.next.length 1 _
        rw [←k7]
        exact HR7.out.le HL8.out
       ·show RowM M8 _ x.p.mat.length 1 _
        rw [←k8]
        exact HR8.out
    clear HN HR5 HR6 HR7 HR8 HL2 HL4 HL6 HL8 HOI HOk
    go_roundw
    case rel=>exact ⟨k+1,_,cp,by omega,by go_num,HF⟩
    case measure=>simp [intOf];omega
   ·have hknI:¬ (k:Int)<pn:=by omega
    obtain rfl:k=pn:=by omega
    have H1:Hid (∃ M2,OI w M M2 69 9 bx #[.slice vo k vc,.slice none 0 0,.slice o c.chosen.length cc,.bool c.conflict] #[.slice po k px,.slice no nn nx,.slice co cn cx,.bool c.conflict] 0 (.slice none 0 0) [] M2 wr∧Le M1 M2∧∃ us2:List gtold.PV,us2.map (·.p)=c.peers∧gtold.PeersV M2 (.slice vo k vc) us2):=by
     obtain ⟨M2,q1,q2,q3,q4⟩:=RowM.freeze hoi.row hoi.fp.inn (fun g hg=>hoi.free g hg)
     have hlk:us.length=k:=by
      have:=congrArg List.length hus
      rw [List.length_map,List.length_take,←eps,List.length_map,←HPn.out.1] at this
      omega
     have hfz:∀ b,M' b=none→(.slice vo k vc:Value).ownBlock≠some b→M2 b=none:=fun b hb hn=>by
      cases e2:M2 b with
      | none=>rfl
      | some q =>
       rcases q4 b (by rw [e2];simp) with g | g
       ·exact absurd hb g
       ·exact absurd g hn
     have hne:∀ b (cur:Array Value),wr.heap[b]?=some (.cells cur 28 (0,0))→(.slice vo k vc:Value).ownBlock≠some b:=fun b cur hb e=>by
      obtain ⟨_,⟨e1,_⟩|⟨g',cap,cur',e1,_,hh,_⟩⟩:=hoi.row
      ·rw [e1] at e;simp [Value.ownBlock] at e
      ·rw [e1] at e
       simp only [Value.ownBlock,Option.some.injEq] at e
       subst e
       rw [hb] at hh
       simp at hh
     refine ⟨M2,⟨⟨hoi.fp.le.trans q1,q2,hoi.fp.below,fun b hb=>(q4 b hb).elim (hoi.fp.new b) (fun g=>.inr (row_lt hoi.row g).1)⟩,World.ownsRow_nil _ _ _ _,by simp [Value.ownBlock],Le.refl _,⟨hfz _ hoi.box.1 (hne _ _ hoi.blk),hoi.box.2⟩,hoi.blk,hoi.b0,hoi.b1,hfz _ hoi.fz.1 (hne _ _ hoi.b0),hfz _ hoi.fz.2 (hne _ _ hoi.b1)⟩,hoi.le.trans q1,us,?_,?_,fun y hy=>gtold.PeerM.le (hok y hy) q1⟩
     ·rw [hus,HPn.out.1,←List.length_map (f:=(·.p)),eps,List.take_length]
     ·rw [hlk];exact q3
    clear hoi hus hok HQ HPc HSrc HI36
    obtain ⟨M2,hoi2,hle12,us2,hus2,hpv2⟩:=H1.out
    have HP2:Hid (Le M1 M2∧us2.map (·.p)=c.peers∧gtold.PeersV M2 (.slice vo k vc) us2):=⟨hle12,hus2,hpv2⟩
    have H20:Hid (LM w M c #[.slice po k px,.slice no nn nx,.slice co cn cx,.bool c.conflict] bx (.slice vo k vc) o cc M2 0 (.slice none 0 0) wr):=⟨M2,[],hoi2,by simp,by simp⟩
    have HNn:Hid (nn=ms.length∧nx≤maxLen∧nn≤nx):=by
     obtain ⟨⟨ao,cap,e1,e2,e3,_⟩,_⟩:=hmv
     simp only [Value.slice.injEq] at e1
     obtain ⟨_,rfl,rfl⟩:=e1
     exact ⟨rfl,e3,e2⟩
    have hnn2:nn≤200:=by rw [HNn.out.1,←List.length_map (f:=(·.m)),ems];exact hn200
    have hnx:=HNn.out.2.1
    have hnx2:=HNn.out.2.2
    unfold maxLen at hnx
    have HMc:Hid (∀ q,q<nn→∃ (x:MV) (pb off:Nat) (lo:Option Addr) (L lc:Nat),ms[q]?=some x∧no=some ⟨pb,off,none⟩∧x.lv=.slice lo L lc∧L=x.m.log.length∧L≤1000∧RecsM M (.slice lo L lc) x.m.log∧c.net[q]?=some x.m∧(∀ M' wx,Le M M'→In M' wx→∀ j v,([.int .i64 x.m.kind,.int .i64 x.m.frm,.int .i64 x.m.to,.int .i64 x.m.term,.int .i64 x.m.a,.int .i64 x.m.b,.int .i64 x.m.c,.bool x.m.ok,.slice lo L lc]:List Value)[j]?=some v→wx.cell? ⟨pb,off+q*9+j,none⟩=some v)):=fun q hq=>by
     obtain ⟨x,hx⟩:∃ x,ms[q]?=some x:=⟨_,List.getElem?_eq_getElem (by have:=HNn.out.1;omega)⟩
     have hxm:x∈ms:=List.mem_iff_getElem?.2 ⟨q,hx⟩
     obtain ⟨hp1,hp2⟩:=hmv
     have q1:=hp2 x hxm
     have hlx:=hml x.m (by rw [←ems];exact List.mem_map.2 ⟨x,hxm,rfl⟩)
     obtain ⟨lo,lc,e1⟩:=recsM_slice q1
     obtain ⟨pao,cap,e5,g1,g2,g3,g4,g5⟩:=hp1
     obtain ⟨pb,off,e6,hc⟩:=g5 (by have:=HNn.out.1;omega)
     simp only [Value.slice.injEq] at e5
     refine ⟨x,pb,off,lo,_,lc,hx,e5.1.trans e6,e1,rfl,hlx,by rw [←e1];exact q1,by rw [←ems,List.getElem?_map,hx];rfl,fun M' wx hle hIn j v hj => ?_⟩
     have hj':(msgCells x)[j]?=some v:=by
      unfold msgCells
      rw [e1]
      exact hj
     have hj9:j<9:=(List.getElem?_eq_some_iff.1 hj').1
     have e7:=flat_get msgCells 9 msgCells_len ms q j x hx hj9
     have:=hc _ v (e7.trans hj')
     rw [←Nat.add_assoc] at this
     exact hIn.cell (hle.cell this)
    obtain ⟨i98,g1,g2,g3,g4⟩:=info_parts info70
    have HI98:Hid (Tryz.prog.info? 69=some i98∧i98.zero=some (.agg #[.int .i64 0,.int .i64 0,.int .i64 0,.int .i64 0,.int .i64 0,.int .i64 0,.int .i64 0,.bool false,.slice none 0 0])∧i98.size=9∧i98.bytes=88):=⟨g1,g2,g3,g4⟩
    clear g1 g2 g3 g4 hoi2 hle12 hus2 hpv2 H1 hmv
    go_wp2
    go_loopw [6] (fun a wr=>∃ (q:Nat) (uo:Option Addr) (uc:Nat),q≤nn∧a=.int .i64 q∧Hid (LM w M c #[.slice po k px,.slice no nn nx,.slice co cn cx,.bool c.conflict] bx (.slice vo k vc) o cc M2 q (.slice uo q uc) wr)) (fun a _=>nn-(intOf a).toNat)
    case atStart=>exact ⟨0,none,0,Nat.zero_le _,rfl,H20⟩
    case round =>
     clear H20
     obtain ⟨q,uo,uc,hq,rfl,HQ⟩:=hrel
     obtain ⟨M',us,hoi,hus,hok⟩:=HQ.out
     have b01:wr.cell? ⟨w.heap.size,1,none⟩=some (.slice no nn nx):=cell_of hoi.b0 rfl
     by_cases hqn:q<nn
     ·have hqnI:(q:Int)<nn:=by omega
      obtain ⟨x,pb,off,lo,L,lc,hx,rfl,elv,eL,bL,s1,hcp,hcs⟩:=HMc.out q hqn
      have hM':=hoi.fp.le
      have y0:=hcs M' wr hM' hoi.fp.inn 0 _ rfl
      have y1:=hcs M' wr hM' hoi.fp.inn 1 _ rfl
      have y2:=hcs M' wr hM' hoi.fp.inn 2 _ rfl
      have y3:=hcs M' wr hM' hoi.fp.inn 3 _ rfl
      have y4:=hcs M' wr hM' hoi.fp.inn 4 _ rfl
      have y5:=hcs M' wr hM' hoi.fp.inn 5 _ rfl
      have y6:=hcs M' wr hM' hoi.fp.inn 6 _ rfl
      have y7:=hcs M' wr hM' hoi.fp.inn 7 _ rfl
      have y8:=hcs M' wr hM' hoi.fp.inn 8 _ rfl
      rw [Nat.add_zero] at y0
      obtain ⟨W1,hW1⟩:∃ X,wr.alloc (.cells #[.int .i64 x.m.kind,.int .i64 x.m.frm,.int .i64 x.m.to,.int .i64 x.m.term,.int .i64 x.m.a,.int .i64 x.m.b,.int .i64 x.m.c,.bool x.m.ok,.slice lo L lc] 69)=X:=⟨_,rfl⟩
      have rd1:=RD.begin hoi hW1
      obtain ⟨b5,eb5⟩:∃ b,wr.heap.size=b:=⟨_,rfl⟩
      rw [eb5] at rd1
      have HA:=hide (rd1.log x.m.log lo L lc (s1.le hM') (by omega))
      rw [←eL] at HA
      have t5:=(rd1.cell (j:=8) (u:=.slice lo L lc) rfl).1
      have HOk:Hid ((∀ y∈us,RecsM M' y.lv y.m.log)∧us.map (·.m)=c.net.take q∧c.net[q]?=some x.m):=⟨hok,hus,hcp⟩
      clear hoi hus hok HQ hcs hx hcp s1 hM' rd1 eL elv HMc
      go_wp2_with fail
      refine HA.out.mono ?_
      rintro rr w2 ⟨o5,c5,M4,rfl,hr5,le2,rd2⟩
      obtain ⟨q5,f5⟩:=rd2.cell (j:=8) (u:=.slice lo L lc) rfl
      obtain ⟨W3,hW3⟩:∃ X,w2.setCell ⟨b5,8,none⟩ (.slice o5 L c5)=X:=⟨_,rfl⟩
      have rd3:RD w M M2 69 9 bx #[.slice vo k vc,.slice uo q uc,.slice o c.chosen.length cc,.bool c.conflict] #[.slice po k px,.slice (some ⟨pb,off,none⟩) nn nx,.slice co cn cx,.bool c.conflict] q (.slice uo q uc) (us.flatMap msgCells) b5 #[.int .i64 x.m.kind,.int .i64 x.m.frm,.int .i64 x.m.to,.int .i64 x.m.term,.int .i64 x.m.a,.int .i64 x.m.b,.int .i64 x.m.c,.bool x.m.ok,.slice o5 L c5] M4 W3:=(by have:=rd2.set 8 (.slice o5 L c5);rw [hW3] at this;exact this)
      have qb1:=cell_of (i:=1) rd3.oi.blk (v:=.slice uo q uc) rfl
      have u0:=(rd3.cell (j:=0) (u:=.int .i64 x.m.kind) rfl).1;have u1:=(rd3.cell (j:=1) (u:=.int .i64 x.m.frm) rfl).1;have u2:=(rd3.cell (j:=2) (u:=.int .i64 x.m.to) rfl).1;have u3:=(rd3.cell (j:=3) (u:=.int .i64 x.m.term) rfl).1;have u4:=(rd3.cell (j:=4) (u:=.int .i64 x.m.a) rfl).1;have u5:=(rd3.cell (j:=5) (u:=.int .i64 x.m.b) rfl).1;have u6:=(rd3.cell (j:=6) (u:=.int .i64 x.m.c) rfl).1;have u7:=(rd3.cell (j:=7) (u:=.bool x.m.ok) rfl).1;have u8:=(rd3.cell (j:=8) (u:=.slice o5 L c5) rfl).1
      obtain ⟨Y,hY⟩:∃ X,W3.alloc (.cells #[.int .i64 x.m.kind,.int .i64 x.m.frm,.int .i64 x.m.to,.int .i64 x.m.term,.int .i64 x.m.a,.int .i64 x.m.b,.int .i64 x.m.c,.bool x.m.ok,.slice o5 L c5] 69)=X:=⟨_,rfl⟩
      obtain ⟨z1,z2,z3,z4⟩:=rd3.push (by decide) (pc:=[.int .i64 x.m.kind,.int .i64 x.m.frm,.int .i64 x.m.to,.int .i64 x.m.term,.int .i64 x.m.a,.int .i64 x.m.b,.int .i64 x.m.c,.bool x.m.ok,.slice o5 L c5]) hY
      have HZ1:=hide z1
      have HZ2:=hide z2
      have HZ4:=hide z4
      have HR5:=hide hr5
      have HL2:=hide le2
      clear z1 z2 z4 rd2 rd3 hr5 le2
      go_wp2_with (at_builtin;have _h:=HZ4;refine wpList_append_lies _ rfl _ _ _ rfl w.heap.size 69 i98 (.agg #[.int .i64 0,.int .i64 0,.int .i64 0,.int .i64 0,.int .i64 0,.int .i64 0,.int .i64 0,.bool false,.slice none 0 0]) 9 88 Tryz.underlying25 HI98.out.1 HI98.out.2.1 HI98.out.2.2.1 HI98.out.2.2.2 rfl (by omega) _ q (us.flatMap msgCells) rfl HZ1.out ⟨W3.heap.size,0,none⟩ 1 1 [.int .i64 x.m.kind,.int .i64 x.m.frm,.int .i64 x.m.to,.int .i64 x.m.term,.int .i64 x.m.a,.int .i64 x.m.b,.int .i64 x.m.c,.bool x.m.ok,.slice o5 L c5] rfl rfl HZ2.out (by intro u hu;simp only [List.mem_cons,List.not_mem_nil,or_false] at hu;rcases hu with rfl | rfl | rfl | rfl | rfl | rfl | rfl | rfl | rfl <;> rfl) (by omega) (by unfold maxLen;omega) (by omega) z3 Y.heap.size rfl ?_;intro g cp w10 p1 p2 p3 p4;obtain ⟨n1,n2⟩:=HZ4.out g cp w10 p1 p2 p3;have n3:=cell_of (i:=1) n1 (v:=.slice uo q uc) rfl;have n4:=frozen_of n1 1;have HN:=hide (n2 1);clear _h p1 p2 p3 p4 n1 n2 HZ1 HZ2 HZ4 hY qb1 u0 u1 u2 u3 u4 u5 u6 u7 u8)
      have HF:Hid (LM w M c #[.slice po k px,.slice (some ⟨pb,off,none⟩) nn nx,.slice co cn cx,.bool c.conflict] bx (.slice vo k vc) o cc M2 (q+1) (.slice (some ⟨g,0,none⟩) (q+1) cp) (w10.setCell ⟨bx,1,none⟩ (.slice (some ⟨g,0,none⟩) (q+1) cp))):=by
       obtain ⟨k1,k2,k3⟩:=HOk.out
       refine ⟨M4,us++[⟨x.m,.slice o5 L c5⟩],?_,?_,?_⟩
       ·have e9:(us++[(⟨x.m,.slice o5 L c5⟩:MV)]).flatMap msgCells=us.flatMap msgCells++[.int .i64 x.m.kind,.int .i64 x.m.frm,.int .i64 x.m.to,.int .i64 x.m.term,.int .i64 x.m.a,.int .i64 x.m.b,.int .i64 x.m.c,.bool x.m.ok,.slice o5 L c5]:=by rw [List.flatMap_append];rfl
        rw [e9]
        exact HN.out
       ·rw [List.map_append,k2,List.take_add_one,k3]
        rfl
       ·intro y hy
        rcases List.mem_append.1 hy with hy | hy
        ·exact (k1 y hy).le HL2.out
        ·simp only [List.mem_singleton] at hy
         subst hy
         exact HR5.out
      clear HN HR5 HL2 HOk
      go_roundw
      case rel=>exact ⟨q+1,_,cp,by omega,by go_num,HF⟩
      case measure=>simp [intOf];omega
     ·have hqnI:¬ (q:Int)<nn:=by omega
      obtain rfl:q=nn:=by omega
      have HFin:Hid (∀ wf,Chg (fun b=>b=w.heap.size+1) wr wf→gt8.CluE w M c (.returned (.agg #[.slice vo k vc,.slice uo q uc,.slice o c.chosen.length cc,.bool c.conflict])) wf):=fun wf hch2=>by
       obtain ⟨M3,q1,q2,q3,q4⟩:=RowM.freeze hoi.row hoi.fp.inn (fun g hg=>hoi.free g hg)
       have hlk:us.length=q:=by
        have:=congrArg List.length hus
        rw [List.length_map,List.length_take,←ems,List.length_map,←HNn.out.1] at this
        omega
       have hb1M:M3 (w.heap.size+1)=none:=by
        cases e2:M3 (w.heap.size+1) with
        | none=>rfl
        | some z =>
         rcases q4 _ (by rw [e2];simp) with g | g
         ·exact absurd hoi.fz.2 g
         ·exfalso
          obtain ⟨_,⟨e1,_⟩|⟨g',cap,cur',e1,_,hh,_⟩⟩:=hoi.row
          ·rw [e1] at g;simp [Value.ownBlock] at g
          ·rw [e1] at g
           simp only [Value.ownBlock,Option.some.injEq] at g
           subst g
           rw [hoi.b1] at hh
           simp at hh
       refine ⟨_,_,_,_,_,_,_,_,_,rfl,M3,⟨hoi.fp.le.trans q1,fun b z hz => ?_,hoi.fp.below.trans ⟨hch2.os,hch2.tape,hch2.output,hch2.size,fun b hb=>hch2.block b (by have:=hoi.fp.below.size;omega) (by omega)⟩,fun b hb=>(q4 b hb).elim (hoi.fp.new b) (fun g=>.inr (row_lt hoi.row g).1)⟩,us2,us,HP2.out.2.1,⟨HP2.out.2.2.1.le (hoi.le.trans q1),fun y hy=>gtold.PeerM.le (HP2.out.2.2.2 y hy) (hoi.le.trans q1)⟩,?_,⟨by rw [hlk];exact q3,fun y hy=>(hok y hy).le q1⟩,HRC.out.le (HP2.out.1.trans (hoi.le.trans q1))⟩
       ·have hz2:=q2 b z hz
        rw [hch2.block b (Array.getElem?_eq_some_iff.1 hz2).1 (fun e=>by rw [e,hb1M] at hz;cases hz)]
        exact hz2
       ·rw [hus,HNn.out.1,←List.length_map (f:=(·.m)),ems,List.take_length]
      have x0:=cell_of (i:=0) hoi.blk (v:=.slice vo k vc) rfl
      have x1:=cell_of (i:=1) hoi.blk (v:=.slice uo q uc) rfl
      have x2:=cell_of (i:=2) hoi.blk (v:=.slice o c.chosen.length cc) rfl
      have x3:=cell_of (i:=3) hoi.blk (v:=.bool c.conflict) rfl
      have z0:=cell_of (i:=0) hoi.b1 (v:=.slice none 0 0) rfl
      have z1:=cell_of (i:=1) hoi.b1 (v:=.slice none 0 0) rfl
      have z2:=cell_of (i:=2) hoi.b1 (v:=.slice none 0 0) rfl
      have z3:=cell_of (i:=3) hoi.b1 (v:=.bool false) rfl
      have y0:=frozen_of hoi.b1 0
      have y1:=frozen_of hoi.b1 1
      have y2:=frozen_of hoi.b1 2
      have y3:=frozen_of hoi.b1 3
      clear hoi hus hok HQ HMc HI98 HP2
      go_wp2
      refine bodyPost_ret (v:=.agg #[.slice vo k vc,.slice uo q uc,.slice o c.chosen.length cc,.bool c.conflict]) (by simp [results,Tryz.results19,go_sem,z0,z1,z2,z3,eCL]) rfl (HFin.out _ ?_)
      exact (((stake.chgS _).trans (stake.chgS _)).trans (stake.chgS _)).trans (stake.chgS _)
end Go.Proofs.YtcfdmbkiinjmaaaGreat.sow
namespace Go.Proofs.YtcfdmbkiinjmaaaGreat.new
open Raft mem grp YtcfdmbkiinjmaaaGreat.look ndw grant stand rows2 clone behind post postb copy
theorem info52:(Tryz.prog.info? 85).map (fun i=>(i.zero,i.size,i.bytes))=some (some (.pointer none),1,8):=by kernel_rfl
theorem Aft.grownNew {S:Nat→Prop} {M M':Fz} {O O':Lb} {w w' w'':World} (h:Aft S M O w M' O' w') {row:Option Nat} (g:w'.grownBy w'' row) (hr:∀ b,row=some b→w.heap.size≤b∧M' b=none):Aft S M O w M' O' w'' where
 os:=g.os.trans h.os
 tape:=g.tape.trans h.tape
 output:=g.output.trans h.output
 size:=Nat.le_trans h.size g.size
 le:=h.le
 inn:=h.inn.grown g (fun k hk=>(hr k hk).2)
 lab:=h.lab
 ok:=fun b l hl=>⟨(h.ok b l hl).1,Nat.lt_of_lt_of_le (h.ok b l hl).2 g.size⟩
 newM:=h.newM
 newL:=h.newL
 keep:=fun b hb hk=>(g.block b (Nat.lt_of_lt_of_le hb h.size) (fun e=>by have:=(hr b e.symm).1;omega)).trans (h.keep b hb hk)
def NI (w:World) (M:Fz) (O:Lb) (H d k:Nat) (pv:Value) (wr:World):Prop:=∃ (O':Lb) (nb:List Nat),nb.length=k∧Aft (fun _=>True) M O w M O' wr∧(wr.heap[d]?=some (.cells #[.pointer (some ⟨H,0,none⟩),.int .i64 0,pv,.slice none 0 0,.bool false] 84 (0,0))∧O' d=some 0)∧(wr.heap[H]?=some (.cells #[.int .i64 0,.int .i64 0,.int .i64 0,.int .i64 0,.int .i64 0,.int .i64 0,.int .i64 0,.bool false,.slice none 0 0,.pointer none] 79 (0,0))∧O' H=some 2)∧wr.ownsRow w.heap.size 85 1 pv k (nb.map (fun b=>Value.pointer (some ⟨b,0,none⟩)))∧(∀ j b,nb[j]?=some b→wr.heap[b]?=some (.cells #[.int .i64 0,.int .i64 0,.slice none 0 0,.int .i64 (j:Nat),.bool true,.int .i64 0,.int .i64 0,.slice none 0 0,.slice none 0 0,.slice none 0 0] 89 (0,0))∧O' b=some (3+j))∧(∀ g,pv.ownBlock=some g→O' g=none∧M g=none)
theorem NI.fin {w wr:World} {M:Fz} {O:Lb} {H d n:Nat} {pv:Value} (h:NI w M O H d n pv wr):∃ nb M' O',Aft (fun _=>True) M O w M' O' wr∧G wr M' O' d nb (Cl.begin n):=by
 obtain ⟨O',nb,hl,a,⟨hd,od⟩,⟨hH,oH⟩,hr,hn,hg⟩:=h
 obtain ⟨M2,q1,q2,q3,q4⟩:=RowM.freeze hr a.inn (fun g hg'=>(hg g hg').2)
 have a2:Aft (fun _=>True) M O w M2 O' wr:=a.freezes q1 q2 (fun b hb=>(q4 b hb).imp id (fun h=>(row_lt hr h).1)) (fun b l hbl=>by
  cases e:M2 b with
  | none=>rfl
  | some o =>
   rcases q4 b (by rw [e];simp) with h1 | h1
   ·exact absurd (a.ok b l hbl).1 h1
   ·have:=(hg b h1).1;rw [this] at hbl;cases hbl)
 refine ⟨nb,M2,O',a2,H,pv,.slice none 0 0,[],[],[],?_⟩
 subst hl
 exact
  { st:=a2.sta
    blk:=hd
    own:=od
    peers:=q3
    len:=by simp [Cl.begin]
    nodes:=fun k b p hb hp=>by
     have hk:k<nb.length:=(List.getElem?_eq_some_iff.1 hb).1
     have e:p={ Peer.zero with up:=true }:=by
      have:=(List.getElem?_eq_some_iff.1 hp).2
      rw [←this]
      simp [Cl.begin]
     subst e
     exact ⟨[],.slice none 0 0,.slice none 0 0,.slice none 0 0,.slice none 0 0,
      { blk:=(hn k b hb).1
        own:=(hn k b hb).2
        log:=World.ownsRow_nil _ _ _ _
        recs:=rfl
        data:=by simp
        votes:=World.ownsRow_nil _ _ _ _
        next:=World.ownsRow_nil _ _ _ _
        mat:=World.ownsRow_nil _ _ _ _
        lab:=by intro v hv g hg';simp at hv;subst hv;simp [Value.ownBlock] at hg'
        apart:=by simp [Value.ownBlock] }⟩
    post :=
     { len:=rfl
       nodup:=by simp
       lab:=by intro b hb;simp at hb;subst hb;exact oH
       blk:=fun i b x hb hx=>by
        cases i with
        | zero =>
         obtain rfl:H=b:=by simpa using hb
         obtain rfl:mv0=x:=by simpa using hx
         exact hH
        | succ i=>simp at hb
       logs:=by simp }
    nets:=rfl
    chos:=⟨World.ownsRow_nil _ _ _ _,by simp [Value.ownBlock],by simp⟩
    chosen:=rfl }
theorem NI.step {w wr:World} {M:Fz} {O:Lb} {H d k:Nat} {po:Option Addr} {pn pc:Nat} (h:NI w M O H d k (.slice po pn pc) wr) {V1 V2:World} (hV1:wr.alloc (.cells #[.int .i64 0,.int .i64 0,.slice none 0 0,.int .i64 (k:Nat),.bool true,.int .i64 0,.int .i64 0,.slice none 0 0,.slice none 0 0,.slice none 0 0] 89)=V1) (hV2:V1.alloc (.cells #[.pointer (some ⟨wr.heap.size,0,none⟩)] 85)=V2) :
  ∃ ys,V2.ownsRow w.heap.size 85 1 (.slice po pn pc) k ys∧(∀ j u,([.pointer (some ⟨wr.heap.size,0,none⟩)]:List Value)[j]?=some u→V2.cell? ((⟨V1.heap.size,0,none⟩:Addr).add j)=some u)∧w.heap.size≤V2.heap.size ∧
   ∀ g cap w2,w2.ownsRow w.heap.size 85 1 (.slice (some ⟨g,0,none⟩) (k+1) cap) (k+1) (ys++[.pointer (some ⟨wr.heap.size,0,none⟩)])→V2.grownBy w2 (Value.slice po pn pc).ownBlock→((Value.slice po pn pc).ownBlock=some g∨g=V2.heap.size)→w2.heap[d]?=some (.cells #[.pointer (some ⟨H,0,none⟩),.int .i64 0,.slice po pn pc,.slice none 0 0,.bool false] 84 (0,0))∧NI w M O H d (k+1) (.slice (some ⟨g,0,none⟩) (k+1) cap) (w2.setCell ⟨d,2,none⟩ (.slice (some ⟨g,0,none⟩) (k+1) cap)):=by
 obtain ⟨O',nb,hl,a,⟨hd,od⟩,⟨hH,oH⟩,hr,hn,hg⟩:=h
 have e1:V1.heap.size=wr.heap.size+1:=by rw [←hV1];exact World.size_alloc ..
 have e2:V2.heap.size=wr.heap.size+2:=by rw [←hV2,World.size_alloc,e1]
 have b1:Below wr.heap.size wr V1:=by rw [←hV1];exact more (Below.refl _ _) _
 have b2:Below V1.heap.size V1 V2:=by rw [←hV2];exact more (Below.refl _ _) _
 have b12:Below wr.heap.size wr V2:=b1.trans (b2.mono (by omega))
 have hB1:V1.heap[wr.heap.size]?=some (.cells #[.int .i64 0,.int .i64 0,.slice none 0 0,.int .i64 (k:Nat),.bool true,.int .i64 0,.int .i64 0,.slice none 0 0,.slice none 0 0,.slice none 0 0] 89 (0,0)):=by rw [←hV1];exact heap_alloc_new wr _
 have hB2:V2.heap[wr.heap.size]?=some (.cells #[.int .i64 0,.int .i64 0,.slice none 0 0,.int .i64 (k:Nat),.bool true,.int .i64 0,.int .i64 0,.slice none 0 0,.slice none 0 0,.slice none 0 0] 89 (0,0)):=(b2.block _ (by omega)).trans hB1
 have hA2:V2.heap[V1.heap.size]?=some (.cells #[.pointer (some ⟨wr.heap.size,0,none⟩)] 85 (0,0)):=by rw [←hV2];exact heap_alloc_new V1 _
 refine ⟨nb.map (fun b=>Value.pointer (some ⟨b,0,none⟩)),row_kept hr (fun g hg'=>b12.block g (row_lt hr hg').2),?_,by have:=a.size;omega,?_⟩
 ·intro j u hu
  rw [pile.add_at,Nat.zero_add]
  exact cell_of hA2 (by simpa using hu)
 intro g cap w2 p1 p2 p3
 have dlt:=(a.ok d 0 od).2
 have Hlt:=(a.ok H 2 oH).2
 have key:∀ (x:Nat) (o:Obj),V2.heap[x]?=some o→(∀ cur t,o=.cells cur t (0,0)→t≠85)→(∃ cur t,o=.cells cur t (0,0))→w2.heap[x]?=some o:=fun x o hx ht ⟨cur,t,ho⟩=>by
  refine (p2.block x (Array.getElem?_eq_some_iff.1 hx).1 (fun e => ?_)).trans hx
  subst ho
  have hlt:x<wr.heap.size:=(row_lt hr e.symm).2
  exact type_ne hr ((b12.block x hlt).symm.trans hx) (ht cur t rfl) e.symm
 have hd2:w2.heap[d]?=some (.cells #[.pointer (some ⟨H,0,none⟩),.int .i64 0,.slice po pn pc,.slice none 0 0,.bool false] 84 (0,0)):=key d _ ((b12.block d dlt).trans hd) (fun cur t e=>by simp only [Obj.cells.injEq] at e;rw [←e.2.1];decide) ⟨_,_,rfl⟩
 refine ⟨hd2,?_⟩
 have a1:=a.below b12
 have hMB:M wr.heap.size=none:=a.inn.fresh (Nat.le_refl _)
 have hsz:=a.size
 have aL:=Aft.label a1 (b:=wr.heap.size) (l:=3+k) hsz (by omega) hMB trivial
 have oLne:∀ x,x≠wr.heap.size→grp.lab O' wr.heap.size (3+k) x=O' x:=fun x hx=>by simp [grp.lab,hx]
 have oLeq:grp.lab O' wr.heap.size (3+k) wr.heap.size=some (3+k):=by simp [grp.lab]
 have aG:=Aft.grownNew aL p2 (fun x hx=>⟨(row_lt hr hx).1,(hg x hx).2⟩)
 have odL:grp.lab O' wr.heap.size (3+k) d=some 0:=by rw [oLne d (by omega)];exact od
 have aS:=aG.set odL trivial 2 (.slice (some ⟨g,0,none⟩) (k+1) cap)
 have other:∀ (x:Nat) (o:Obj),w2.heap[x]?=some o→x≠d→(w2.setCell ⟨d,2,none⟩ (.slice (some ⟨g,0,none⟩) (k+1) cap)).heap[x]?=some o:=fun x o hx hne=>(Below.heap_setCell w2 ⟨d,2,none⟩ _ x hne).trans hx
 refine ⟨grp.lab O' wr.heap.size (3+k),nb++[wr.heap.size],by simp [hl],aS,⟨set_at hd2 2 _ (by simp),odL⟩,⟨other H _ (key H _ ((b12.block H Hlt).trans hH) (fun cur t e=>by simp only [Obj.cells.injEq] at e;rw [←e.2.1];decide) ⟨_,_,rfl⟩) (fun e=>by rw [e] at oH;rw [oH] at od;cases od),by rw [oLne H (by omega)];exact oH⟩,?_,?_,?_⟩
 ·refine row_kept (by rw [List.map_append];exact p1) (fun g' hg' => ?_)
  refine Below.heap_setCell w2 ⟨d,2,none⟩ _ g' (fun e => ?_)
  rw [show g'=d from e] at hg'
  exact type_ne p1 hd2 (by decide) hg'
 ·intro j b hb
  rcases Nat.lt_trichotomy j nb.length with hj | hj | hj
  ·rw [List.getElem?_append_left hj] at hb
   obtain ⟨hb1,hb2⟩:=hn j b hb
   have blt:=(a.ok b _ hb2).2
   refine ⟨other b _ (key b _ ((b12.block b blt).trans hb1) (fun cur t e=>by simp only [Obj.cells.injEq] at e;rw [←e.2.1];decide) ⟨_,_,rfl⟩) (fun e=>by rw [e] at hb2;rw [hb2] at od;simp at od),by rw [oLne b (by omega)];exact hb2⟩
  ·subst hj
   obtain rfl:wr.heap.size=b:=by simpa using hb
   rw [hl]
   exact ⟨other _ _ (key _ _ hB2 (fun cur t e=>by simp only [Obj.cells.injEq] at e;rw [←e.2.1];decide) ⟨_,_,rfl⟩) (by omega),oLeq⟩
  ·rw [List.getElem?_eq_none_iff.2 (by simp;omega)] at hb
   cases hb
 ·intro g' hg'
  obtain rfl:g=g':=by simpa [Value.ownBlock] using hg'
  rcases p3 with p3 | p3
  ·have:=(row_lt hr p3).2
   exact ⟨by rw [oLne g (by omega)];exact (hg g p3).1,(hg g p3).2⟩
  ·refine ⟨?_,a1.inn.fresh (by omega)⟩
   cases e:grp.lab O' wr.heap.size (3+k) g with
   | none=>rfl
   | some l=>have:=(aL.ok g l e).2;omega
set_option maxRecDepth 20000 in
set_option maxHeartbeats 2000000 in
theorem newGroup_any (w:World) (M:Fz) (O:Lb) (st:Sta M O w) (n:Nat) (hn7:n≤7) :
  Calls Tryz.prog 21 #[.int .i64 n] w fun r w'=>∃ d nb M' O',r=.returned (.pointer (some ⟨d,0,none⟩))∧Aft (fun _=>True) M O w M' O' w'∧G w' M' O' d nb (Cl.begin n):=by
 obtain ⟨H,hH⟩:∃ H,H=w.heap.size:=⟨_,rfl⟩
 obtain ⟨W1,hW1⟩:∃ W,w.alloc (.cells #[.int .i64 0,.int .i64 0,.int .i64 0,.int .i64 0,.int .i64 0,.int .i64 0,.int .i64 0,.bool false,.slice none 0 0,.pointer none] 79)=W:=⟨_,rfl⟩
 obtain ⟨W2,hW2⟩:∃ W,W1.alloc (.cells #[.pointer (some ⟨w.heap.size,0,none⟩),.int .i64 0,.slice none 0 0,.slice none 0 0,.bool false] 84)=W:=⟨_,rfl⟩
 have e1:W1.heap.size=w.heap.size+1:=by rw [←hW1];exact World.size_alloc ..
 have e2:W2.heap.size=w.heap.size+2:=by rw [←hW2,World.size_alloc,e1]
 have H0:Hid (NI w M O H W1.heap.size 0 (.slice none 0 0) W2):=by
  have b1:Below w.heap.size w W1:=by rw [←hW1];exact more (Below.refl _ _) _
  have b2:Below W1.heap.size W1 W2:=by rw [←hW2];exact more (Below.refl _ _) _
  have a0:Aft (fun _=>True) M O w M O W2:=(Aft.refl _ st).below (b1.trans (b2.mono (by omega)))
  have aL:=Aft.label (Aft.label a0 (b:=H) (l:=2) (by omega) (by omega) (st.inn.fresh (by omega)) trivial) (b:=W1.heap.size) (l:=0) (by omega) (by omega) (st.inn.fresh (by omega)) trivial
  refine ⟨_,[],rfl,aL,⟨?_,by simp [grp.lab]⟩,⟨?_,?_⟩,World.ownsRow_nil _ _ _ _,by simp,by simp [Value.ownBlock]⟩
  ·rw [←hW2,hH];exact heap_alloc_new W1 _
  ·rw [hH]
   refine (b2.block _ (by omega)).trans ?_
   rw [←hW1];exact heap_alloc_new w _
  ·have:H≠W1.heap.size:=by omega
   simp [grp.lab,this]
 have HE:Hid (∀ v wr,NI w M O H W1.heap.size n v wr→∃ nb M' O',Aft (fun _=>True) M O w M' O' wr∧G wr M' O' W1.heap.size nb (Cl.begin n)):=fun v wr h=>h.fin
 obtain ⟨i0,hii,hz0,hz1,hz2⟩:=info_parts info52
 have HI3:Hid (Tryz.prog.info? 85=some i0∧i0.zero=some (.pointer none)∧i0.size=1∧i0.bytes=8):=⟨hii,hz0,hz1,hz2⟩
 obtain ⟨D,hD⟩:∃ D,W1.heap.size=D:=⟨_,rfl⟩
 rw [hD] at H0 HE
 have HS:Hid (∀ k v wr,NI w M O H D k v wr→(∃ po pc,v=.slice po k pc)∧wr.heap[D]?=some (.cells #[.pointer (some ⟨H,0,none⟩),.int .i64 0,v,.slice none 0 0,.bool false] 84 (0,0))):=fun k v wr h=>by
  obtain ⟨O',nb,hl,a,⟨hd,od⟩,_,hr,_⟩:=h
  exact ⟨own_slice hr,hd⟩
 clear st hii hz0 hz1 hz2 e1 e2
 go_enter Tryz.func21,Tryz.ntmps21
 go_wp2
 go_loopw [11] (fun i wr=>∃ (k:Nat) (v:Value),k≤n∧i=.int .i64 k∧Hid (NI w M O H D k v wr)) (fun i _=>n-(intOf i).toNat)
 case atStart=>exact ⟨0,_,Nat.zero_le _,rfl,H0⟩
 case round =>
  clear hW1 hW2 hH
  obtain ⟨k,v,hk,rfl,HR⟩:=hrel
  by_cases hlt:k<n
  ·have hltI:(k:Int)<n:=by omega
   obtain ⟨⟨po,pc,rfl⟩,hd⟩:=HS.out _ _ _ HR.out
   have c2:=cell_of (i:=2) hd (v:=.slice po k pc) rfl
   obtain ⟨V1,hV1⟩:∃ V,wr.alloc (.cells #[.int .i64 0,.int .i64 0,.slice none 0 0,.int .i64 (k:Nat),.bool true,.int .i64 0,.int .i64 0,.slice none 0 0,.slice none 0 0,.slice none 0 0] 89)=V:=⟨_,rfl⟩
   obtain ⟨V2,hV2⟩:∃ V,V1.alloc (.cells #[.pointer (some ⟨wr.heap.size,0,none⟩)] 85)=V:=⟨_,rfl⟩
   have HJ:=hide (HR.out.step hV1 hV2)
   clear hd
   go_wp2_with (at_builtin;obtain ⟨ys,y1,y2,y3,y4⟩:=HJ.out;refine wpList_append_lies _ rfl _ _ 82 rfl w.heap.size 85 i0 (.pointer none) 1 8 Tryz.underlying82 HI3.out.1 HI3.out.2.1 HI3.out.2.2.1 HI3.out.2.2.2 rfl (by decide) _ k ys rfl y1 ⟨V1.heap.size,0,none⟩ 1 1 [.pointer (some ⟨wr.heap.size,0,none⟩)] rfl rfl y2 (fun u' hu'=>by simp only [List.mem_cons,List.not_mem_nil,or_false] at hu';rcases hu' with rfl;rfl) (by decide) (by unfold maxLen;omega) (by omega) y3 _ rfl ?_;intro g2 cap2 w2 z1 z2 z3 z4;obtain ⟨hd2,hN⟩:=y4 g2 cap2 w2 z1 z2 z3;have HN:=hide hN;have t0:=cell_of (i:=2) hd2 (v:=.slice po k pc) rfl;have t1:=frozen_of hd2 2;clear z1 z2 z3 z4 y1 y2 y3 y4 hd2 hN)
   go_roundw
   case rel=>exact ⟨k+1,_,by omega,by go_num,HN⟩
   case measure=>simp [intOf];omega
  ·have hlt2:¬ (k:Int)<n:=by omega
   obtain rfl:k=n:=by omega
   go_wp2
   go_ret
   obtain ⟨nb,M',O',h1,h2⟩:=HE.out _ _ HR.out
   exact ⟨D,rfl,nb,M',O',h1,h2⟩
end Go.Proofs.YtcfdmbkiinjmaaaGreat.new
