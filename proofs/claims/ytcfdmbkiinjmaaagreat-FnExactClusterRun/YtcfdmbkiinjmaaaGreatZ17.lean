import Derived.Test.YtcfdmbkiinjmaaaGreatZ10
import Derived.OwnWalk
import Derived.Test.YtcfdmbkiinjmaaaGreatZ16
import Derived.WalkMore
import Derived.Deep.Cut
import Derived.Test.YtcfdmbkiinjmaaaGreatZ15
import Derived.Deep.CutBlock
import Derived.Deep.CutRange
import Derived.Deep.DeepCutAuto
import Derived.Deep.QuietTactic
import Derived.BigQuiet
import Derived.Deep.RegionLaw
import Derived.Deep.RegionHeldLaw
set_option linter.unusedVariables false
open Go.ChangeShapes Go.WideShapes Go.ChangeAt Go.RowKit
namespace Go.Proofs.YtcfdmbkiinjmaaaGreat.stk2
open Raft mem srun ssend sdown ssmall scopy srecs sapp ssame schos schosen scom sgrow sin sel stk
variable {F:Nat→Option Obj}
theorem info4:(Tryz.prog.info? 4).map (fun i=>(i.zero,i.size,i.bytes))=some (some (.bool false),1,1):=by kernel_rfl
theorem made_false (n:Nat):(madeCells (Value.bool false).cells (n*1)).toList=(List.replicate n false).map Value.bool:=by
 rw [List.map_replicate,Nat.mul_one]
 exact (toList_madeCells_one (.bool false) n).trans (by simp)
def stP (p:Peer) (k:Nat):Peer:={ p with term:=p.term+1,vote:=k+1,role:=1 }
section
variable {w:World} {M:Fz} {base d P pc:Nat} {c:Cl} {us:List PV} {ns:List MV} {nv:Value} {cs:List RV} {cv:Value}
theorem stood3 (h:Run (TS F) w M base d P pc c us ns nv cs cv) {k:Nat} {x:PV} (hk:us[k]?=some x) :
  Run (TS F) (((w.setCell ⟨P,k*9+1,none⟩ (.int .i64 ((x.p.term:Int)+1))).setCell ⟨P,k*9+2,none⟩ (.int .i64 ((k:Int)+1))).setCell ⟨P,k*9+4,none⟩ (.int .i64 1)) M base d P pc (c.put k (stP x.p k)) (us.set k { x with p:=stP x.p k }) ns nv cs cv:=by
 have h1:=sdown.Run.setScalar h (j:=1) (v:=.int .i64 ((x.p.term:Int)+1)) { x.p with term:=x.p.term+1 } hk (by decide) rfl rfl rfl rfl rfl
 have g1:=got_set (x':={ x with p:={ x.p with term:=x.p.term+1 } }) hk
 have h2:=sdown.Run.setScalar h1 (j:=2) (v:=.int .i64 ((k:Int)+1)) { x.p with term:=x.p.term+1,vote:=k+1 } g1 (by decide) rfl rfl rfl rfl rfl
 have g2:=got_set (x':={ x with p:={ x.p with term:=x.p.term+1,vote:=k+1 } }) g1
 have h3:=sdown.Run.setScalar h2 (j:=4) (v:=.int .i64 1) (stP x.p k) g2 (by decide) rfl rfl rfl rfl rfl
 simp only [List.set_set] at h3
 exact h3
theorem stood {W:World} (h:Run (TS F) W M base d P pc c us ns nv cs cv) {k:Nat} {x:PV} (hk:us[k]?=some x) (n:Nat) (hn:k<n) (w4:World) (hO:w4.ownsRow base 4 1 (.slice (some ⟨W.heap.size,0,none⟩) n n) n (madeCells (Value.bool false).cells (n*1)).toList) (hG:W.grownBy w4 none) :
  (¬ P=W.heap.size∧(∀ j v,(peerCells x)[j]?=some v→w4.cell? ⟨P,k*9+j,none⟩=some v)∧w4.frozen? ⟨P,k*9+6,none⟩=false∧w4.cell? ⟨W.heap.size,k,none⟩=some (.bool false)∧w4.frozen? ⟨W.heap.size,k,none⟩=false) ∧
  Run (TS F) ((w4.setCell ⟨P,k*9+6,none⟩ (.slice (some ⟨W.heap.size,0,none⟩) n n)).setCell ⟨W.heap.size,k,none⟩ (.bool true)) M base d P pc (c.put k { x.p with votes:=(List.replicate n false).set k true }) (us.set k { x with p:={ x.p with votes:=(List.replicate n false).set k true },vv:=.slice (some ⟨W.heap.size,0,none⟩) n n }) ns nv cs cv:=by
 rw [made_false] at hO
 have hPl:=h.lt.2
 have hP2:w4.heap[P]?=W.heap[P]? := hG.block P hPl (by simp)
 have el:(List.replicate n false).length=n:=by simp
 have r1:=stk.Run.newVotes h hk (List.replicate n false) (w2:=w4) (g:=W.heap.size) (cap:=n) (by rw [el];exact hO) hG rfl
 rw [el] at r1
 have g1:=got_set (x':={ x with p:={ x.p with votes:=List.replicate n false },vv:=.slice (some ⟨W.heap.size,0,none⟩) n n }) hk
 have r2:=sin.Run.setVotes r1 g1 (g:=W.heap.size) (n:=n) (cap:=n) rfl k true
 simp only [List.set_set] at r2
 refine ⟨⟨fun e=>by omega,fun j v hj => ?_,?_,?_,?_⟩,r2⟩
 ·rw [World.cell?_of_block hP2];exact (h.peerCell hk hj).1
 ·rw [World.frozen?_of_block hP2];exact (h.peerCell hk (j:=6) (v:=x.vv) rfl).2
 ·have:=World.ownsRow.cells hO rfl k (.bool false) (by simp [hn])
  rw [ssend.addr_add,Nat.zero_add] at this
  exact this
 ·obtain ⟨h1,⟨e1,e2⟩|⟨g,cap,cur,e1,hb',hg',hnc,hcm',hcs,ht⟩⟩:=id hO
  ·omega
  ·simp only [Value.slice.injEq,Option.some.injEq,Addr.mk.injEq,true_and,and_true] at e1
   obtain ⟨rfl,rfl⟩:=e1
   exact ssend.frozen_of hg' _
end
end Go.Proofs.YtcfdmbkiinjmaaaGreat.stk2
namespace Go.Proofs.YtcfdmbkiinjmaaaGreat.stick
open Raft mem srun ssend sdown ssmall scopy srecs sapp ssame schos schosen scom sgrow sin sel sel2 stk stk2
variable {F:Nat→Option Obj}
theorem last_eq (l:List Rc):termAt l l.length=lastTerm l:=by
 unfold termAt lastTerm
 rw [List.getLast?_eq_getElem?]
 split
 ·have:l=[]:=List.length_eq_zero_iff.1 ‹_›
  subst this
  rfl
 ·rfl
def asks (p:Peer) (k i:Nat):Msg:=⟨1,k,i,p.term+1,p.log.length,lastTerm p.log,0,false,[]⟩
def stV (p:Peer) (n k:Nat):Peer:={ stP p k with votes:=(List.replicate n false).set k true }
set_option maxRecDepth 20000 in
set_option maxHeartbeats 2000000 in
theorem tick_any (w:World) (M:Fz) (base d P pc:Nat) (c:Cl) (us:List PV) (ns:List MV) (nv:Value) (cs:List RV) (cv:Value) (h:Run (TS F) w M base d P pc c us ns nv cs cv) (k:Nat) (x:PV) (hk:us[k]?=some x)
  (hU1:1≤us.length) (hU7:us.length≤7) (hcm:x.p.commit≤x.p.log.length) (hlen:x.p.log.length≤1000) (hcl:c.chosen.length≤1000) (hT:x.p.term≤1000000)
  (hnx:x.p.role=2→∀ i,i<us.length→∃ f,x.p.next[i]?=some f∧1≤f∧f≤x.p.log.length+1) :
  Calls Tryz.prog 39 #[.pointer (some ⟨d,0,none⟩),.int .i64 k] w fun r w'=>r=.returned (.tuple #[])∧SD F w M base d P pc (c.tick k) w':=by
 have hxm:x∈us:=List.mem_iff_getElem?.2 ⟨k,hk⟩
 have hlt:k<us.length:=(List.getElem?_eq_some_iff.1 hk).1
 obtain ⟨hat,hat2⟩:=sdown.Run.at h hk
 have hul:us.length=c.peers.length:=by rw [←h.peers,List.length_map]
 have hcap:=h.cap
 have hbs:=scom.Run.base_le h
 unfold maxLen at hcap
 obtain ⟨lo,lc,elv⟩:=recsM_slice (h.logs x hxm)
 have hlog:=h.logs x hxm
 rw [elv] at hlog
 have c0:w.cell? ⟨d,0,none⟩=some (.slice (some ⟨P,0,none⟩) us.length pc):=ssend.cell_of h.blk rfl
 obtain ⟨p1,f1⟩:=(h.peerCell hk (j:=1) (v:=.int .i64 x.p.term) rfl)
 obtain ⟨p2,f2⟩:=(h.peerCell hk (j:=2) (v:=.int .i64 x.p.vote) rfl)
 obtain ⟨p4,f4⟩:=(h.peerCell hk (j:=4) (v:=.int .i64 x.p.role) rfl)
 have HL0:Hid (L3 F w M base d P pc c k 0 w):=⟨M,us,ns,nv,cs,cv,Le.refl _,Below.refl _ _,h,fun b hb=>.inl hb⟩
 have HLead:Hid (x.p.role=2→∀ wr,L3 F w M base d P pc c k us.length wr→SD F w M base d P pc (c.tick k) wr):=fun e wr hl=>by
  have e2:c.tick k=tl c k us.length:=by
   unfold Cl.tick
   dsimp only
   rw [hat,if_pos e]
   unfold Cl.toAll tl others
   rw [hul]
  rw [e2]
  exact hl
 have HMaxE:Hid (¬ x.p.role=2→x.p.term=1000000→SD F w M base d P pc (c.tick k) w):=fun e1 e2=>by
  have e:c.tick k=c:=by
   unfold Cl.tick
   dsimp only
   rw [hat,if_neg e1,if_pos e2]
  rw [e]
  exact ⟨M,us,ns,nv,cs,cv,Le.refl _,Below.refl _ _,h,fun b hb=>.inl hb⟩
 have HStep:Hid (x.p.role=2→∀ i wr,i<us.length→i≠k→L3 F w M base d P pc c k i wr→Calls Tryz.prog 59 #[.pointer (some ⟨d,0,none⟩),.int .i64 k,.int .i64 ((i:Nat):Int)] wr fun r w'=>r=.returned (.tuple #[])∧L3 F w M base d P pc c k (i+1) w'):=fun e i wr hi hik hl3=>by
  obtain ⟨f,q1,q2,q3⟩:=hnx e i hi
  exact stk.L3.stepG hl3 hik (by omega) (f:=f) (by rw [hat];exact q1) q2 (by rw [hat];exact q3) (by rw [hat];exact hlen)
 obtain ⟨W3,hW3⟩:∃ W,(((w.setCell ⟨P,k*9+1,none⟩ (.int .i64 ((x.p.term:Int)+1))).setCell ⟨P,k*9+2,none⟩ (.int .i64 ((k:Int)+1))).setCell ⟨P,k*9+4,none⟩ (.int .i64 1))=W:=⟨_,rfl⟩
 have h3:=stood3 h hk
 rw [hW3] at h3
 have g3:=got_set (x':={ x with p:=stP x.p k }) hk
 have b3:Below base w W3:=by
  rw [←hW3]
  exact (((Below.refl _ _).setCell h.low.2 _).setCell h.low.2 _).setCell h.low.2 _
 have HB3:Hid (base≤W3.heap.size):=scom.Run.base_le h3
 have HMk:Hid (∀ w4,w4.ownsRow base 4 1 (.slice (some ⟨W3.heap.size,0,none⟩) us.length us.length) us.length (madeCells (Value.bool false).cells (us.length*1)).toList→W3.grownBy w4 none →
   (¬ P=W3.heap.size∧w4.cell? ⟨P,k*9,none⟩=some (.bool x.p.up)∧w4.cell? ⟨P,k*9+1,none⟩=some (.int .i64 ((x.p.term:Int)+1))∧w4.cell? ⟨P,k*9+2,none⟩=some (.int .i64 ((k:Int)+1))∧w4.cell? ⟨P,k*9+3,none⟩=some (.int .i64 x.p.commit)∧w4.cell? ⟨P,k*9+4,none⟩=some (.int .i64 1)∧w4.cell? ⟨P,k*9+5,none⟩=some (.slice lo x.p.log.length lc)∧w4.cell? ⟨P,k*9+6,none⟩=some x.vv∧w4.cell? ⟨P,k*9+7,none⟩=some x.nv∧w4.cell? ⟨P,k*9+8,none⟩=some x.mv∧w4.frozen? ⟨P,k*9+6,none⟩=false∧w4.cell? ⟨W3.heap.size,k,none⟩=some (.bool false)∧w4.frozen? ⟨W3.heap.size,k,none⟩=false) ∧
   ∀ R,(w4.setCell ⟨P,k*9+6,none⟩ (.slice (some ⟨W3.heap.size,0,none⟩) us.length us.length)).setCell ⟨W3.heap.size,k,none⟩ (.bool true)=R→Calls Tryz.prog 56 #[.agg #[.bool x.p.up,.int .i64 ((x.p.term:Int)+1),.int .i64 ((k:Int)+1),.int .i64 x.p.commit,.int .i64 1,.slice lo x.p.log.length lc,.slice (some ⟨W3.heap.size,0,none⟩) us.length us.length,x.nv,x.mv]] R fun r w'=>r=.returned (.tuple #[.int .i64 x.p.log.length,.int .i64 (lastTerm x.p.log)])∧stk.V3 F w M base d P pc (c.put k (stV x.p us.length k)) k (asks x.p k) 0 w'):=fun w4 hO hG=>by
  obtain ⟨⟨q1,q2,q3,q4,q5⟩,q6⟩:=stood h3 g3 us.length hlt w4 hO hG
  refine ⟨⟨q1,q2 0 _ rfl,q2 1 _ rfl,q2 2 _ rfl,q2 3 _ rfl,q2 4 _ rfl,by have:=q2 5 x.lv rfl;rw [elv] at this;exact this,q2 6 _ rfl,q2 7 _ rfl,q2 8 _ rfl,q3,q4,q5⟩,fun R hR => ?_⟩
  rw [hR] at q6
  have bR:Below base w R:=by
   rw [←hR]
   refine ((b3.trans ⟨hG.os,hG.tape,hG.output,hG.size,fun b hb=>hG.block b (by have:=HB3.out;omega) (by simp)⟩).setCell h.low.2 _).setCell HB3.out _
  refine (last_any R M q6.inn (stV x.p us.length k) x.p.log.length lo lc _ x.nv x.mv hlog).mono ?_
  rintro r w' ⟨rfl,hb⟩
  have fin:∀ c1 us1,Run (TS F) w' M base d P pc c1 us1 ns nv cs cv→c1=c.put k (stV x.p us.length k)→stk.V3 F w M base d P pc (c.put k (stV x.p us.length k)) k (asks x.p k) 0 w':=fun c1 us1 hr e=>by
   subst e
   exact ⟨M,us1,ns,nv,cs,cv,Le.refl _,bR.trans (hb.mono (scom.Run.base_le q6)),hr,fun b hb=>.inl hb⟩
  exact ⟨by rw [←last_eq];rfl,fin _ _ (q6.below hb) (by simp [Cl.put,stV])⟩
 have HVs:Hid (∀ i wr,i≠k→stk.V3 F w M base d P pc (c.put k (stV x.p us.length k)) k (asks x.p k) i wr→Calls Tryz.prog 38 #[.pointer (some ⟨d,0,none⟩),.agg #[.int .i64 1,.int .i64 k,.int .i64 ((i:Nat):Int),.int .i64 ((x.p.term:Int)+1),.int .i64 x.p.log.length,.int .i64 (lastTerm x.p.log),.int .i64 0,.bool false,.slice none 0 0]] wr fun r w'=>r=.returned (.tuple #[])∧stk.V3 F w M base d P pc (c.put k (stV x.p us.length k)) k (asks x.p k) (i+1) w'):=fun i wr hik hv=>stk.V3.step hv hik rfl
 have HPut:Hid (∀ i wr,stk.V3 F w M base d P pc (c.put k (stV x.p us.length k)) k (asks x.p k) i wr→∃ M' us' ns' nv' cs' cv' x',Le M M'∧Below base w wr∧Run (TS F) wr M' base d P pc (stk.vl (c.put k (stV x.p us.length k)) k (asks x.p k) i) us' ns' nv' cs' cv'∧(∀ b,M' b≠none→M b≠none∨base≤b)∧us'[k]?=some x'∧x'.p=stV x.p us.length k∧us'.length=us.length):=fun i wr hv=>by
  obtain ⟨M',us',ns',nv',cs',cv',a1,a2,a3,a4⟩:=hv
  have hp:(stk.vl (c.put k (stV x.p us.length k)) k (asks x.p k) i).peers=c.peers.set k (stV x.p us.length k):=stk.vl_peers _ _ _ _
  have hl:us'.length=us.length:=by
   have:=congrArg List.length a3.peers
   rw [hp] at this
   simpa [hul] using this
  obtain ⟨x',hx'⟩:∃ x',us'[k]?=some x':=⟨_,List.getElem?_eq_getElem (by omega)⟩
  refine ⟨M',us',ns',nv',cs',cv',x',a1,a2,a3,a4,hx',?_,hl⟩
  have e:=(sdown.Run.at a3 hx').1
  rw [←e]
  unfold Cl.at
  rw [hp,List.getD_eq_getElem?_getD,List.getElem?_set_self (by omega)]
  rfl
 have HVc:Hid (∀ i wr,stk.V3 F w M base d P pc (c.put k (stV x.p us.length k)) k (asks x.p k) i wr→wr.cell? ⟨P,k*9+1,none⟩=some (.int .i64 ((x.p.term:Int)+1))):=fun i wr hv=>by
  obtain ⟨M',us',ns',nv',cs',cv',x',a1,a2,a3,a4,a5,a6,a7⟩:=HPut.out i wr hv
  have:=(a3.peerCell a5 (j:=1) (v:=.int .i64 x'.p.term) rfl).1
  rw [a6] at this
  exact this
 have HEl:Hid (¬ x.p.role=2→¬ x.p.term=1000000→∀ wr,stk.V3 F w M base d P pc (c.put k (stV x.p us.length k)) k (asks x.p k) us.length wr→Calls Tryz.prog 57 #[.pointer (some ⟨d,0,none⟩),.int .i64 k] wr fun r w'=>r=.returned (.tuple #[])∧SD F w M base d P pc (c.tick k) w'):=fun e1 e2 wr hv=>by
  obtain ⟨M',us',ns',nv',cs',cv',x',a1,a2,a3,a4,a5,a6,a7⟩:=HPut.out _ wr hv
  have e:c.tick k=(stk.vl (c.put k (stV x.p us.length k)) k (asks x.p k) us.length).elected k:=by
   unfold Cl.tick
   dsimp only
   rw [hat,if_neg e1,if_neg e2,←hul]
   rfl
  rw [e]
  refine (elected_any wr M' base d P pc _ us' ns' nv' cs' cv' a3 k x' a5 (by omega) (by omega) (by rw [a6];exact hcm) (by rw [a6];exact hlen) (by rw [stk.vl_chosen];exact hcl) (by rw [a6];simp [stV];omega)).mono ?_
  rintro r w' ⟨rfl,M2,us2,ns2,nv2,cs2,cv2,b1,b2,b3',b4⟩
  refine ⟨rfl,M2,us2,ns2,nv2,cs2,cv2,a1.trans b1,a2.trans b2,b3',fun b hb => ?_⟩
  rcases b4 b hb with g | g
  ·exact a4 b g
  ·exact .inr g
 obtain ⟨i0,hii,hz0,hz1,hz2⟩:=info_parts stk2.info4
 have HI4:Hid (Tryz.prog.info? 4=some i0∧i0.zero=some (.bool false)∧i0.size=1∧i0.bytes=1):=⟨hii,hz0,hz1,hz2⟩
 obtain ⟨L,eL⟩:∃ L,x.p.log.length=L:=⟨_,rfl⟩
 obtain ⟨T,eT⟩:∃ T,x.p.term=T:=⟨_,rfl⟩
 obtain ⟨LT,eLT⟩:∃ T,lastTerm x.p.log=T:=⟨_,rfl⟩
 obtain ⟨U,eU⟩:∃ U,us.length=U:=⟨_,rfl⟩
 obtain ⟨RO,eRO⟩:∃ R,x.p.role=R:=⟨_,rfl⟩
 obtain ⟨QS,eQS⟩:∃ Q,Q=stV x.p us.length k:=⟨_,rfl⟩
 obtain ⟨AS,eAS⟩:∃ Q,Q=asks x.p k:=⟨_,rfl⟩
 rw [←eQS,←eAS] at HMk HVs HVc HEl
 rw [eL] at HMk HVs
 rw [eLT] at HMk HVs
 rw [eT] at hT p1 HMaxE HMk HVs HVc HEl hW3
 rw [eU] at c0 hU1 hU7 hlt hcap HLead HStep HMk HEl
 rw [eRO] at p4 HLead HMaxE HStep HEl
 have hkU:(k:Int)<U:=by omega
 have aT:IntKind.i64.wrap ((T:Int)+1)=(T:Int)+1:=by rw [IntKind.wrap_i64];omega
 have aK:IntKind.i64.wrap ((k:Int)+1)=(k:Int)+1:=by rw [IntKind.wrap_i64];omega
 clear h hxm hat hat2 hul hlog eL eT eLT eU eRO eQS eAS hk hcl hbs hii hz0 hz1 hz2 hcm hlen hnx h3 g3 b3 HPut elv
 generalize x.p.vote=xv at p2
 generalize x.p.up=xu at HMk
 generalize x.p.commit=xc at HMk
 generalize x.vv=xvv at HMk
 generalize x.nv=xnv at HMk
 generalize x.mv=xmv at HMk
 by_cases hro:RO=2
 ·have hroI:(RO:Int)=2:=by omega
  have HS:=hide (HStep.out hro)
  have HF:=hide (HLead.out hro)
  clear HStep HLead HMaxE HMk HVs HVc HEl HB3 hW3
  go_enter Tryz.func39,Tryz.ntmps39
  go_wp2
  go_loopw [6] (fun a wr=>∃ (q:Nat),q≤U∧a=.int .i64 q∧Hid (L3 F w M base d P pc c k q wr)) (fun a _=>U-(intOf a).toNat)
  case atStart=>exact ⟨0,Nat.zero_le _,rfl,HL0⟩
  case round =>
   clear HL0
   obtain ⟨q,hq,rfl,HQ⟩:=hrel
   by_cases hqi:q<U
   ·have hqiI:(q:Int)<U:=by omega
    by_cases hqk:q=k
    ·have hqkI:((q:Int) != k)=false:=by simp;omega
     have HT:Hid (L3 F w M base d P pc c k (k+1) wr):=by
      have:=HQ.out
      rw [hqk] at this
      exact L3.skip this
     clear HQ HS HF
     go_wp2
     go_roundw
     case rel=>exact ⟨k+1,by omega,by go_num,HT⟩
     case measure=>simp [intOf];omega
    ·have hqkI:((q:Int) != k)=true:=by simp;omega
     go_wp2_with (go_at_call 59;refine (HS.out _ _ hqi hqk HQ.out).mono ?_;rintro e9 w7 ⟨rfl,hl3⟩;have HT:=hide hl3;clear hl3)
     go_roundw
     case rel=>exact ⟨q+1,by omega,by go_num,HT⟩
     case measure=>simp [intOf];omega
   ·have hqiI:¬ (q:Int)<U:=by omega
    obtain rfl:q=U:=by omega
    have HZ:=hide (HF.out _ HQ.out)
    clear HF HS HQ
    go_wp2
    refine bodyPost_ret (v:=.tuple #[]) (by simp [results,Tryz.results39]) rfl ⟨rfl,HZ.out⟩
 ·have hroI:¬ (RO:Int)=2:=by omega
  by_cases hTm:T=1000000
  ·have hTmI:(T:Int)=1000000:=by omega
   have HN:=hide (HMaxE.out hro hTm)
   clear HStep HLead HMaxE HMk HVs HVc HEl HB3 hW3 HL0
   go_enter Tryz.func39,Tryz.ntmps39
   go_wp2
   refine bodyPost_ret (v:=.tuple #[]) (by simp [results,Tryz.results39]) rfl ⟨rfl,HN.out⟩
  ·have hTmI:¬ (T:Int)=1000000:=by omega
   have HF:=hide (HEl.out hro hTm)
   clear HStep HLead HMaxE HEl HL0
   go_enter Tryz.func39,Tryz.ntmps39
   go_wp2_with (first | (at_make;(try rw [hW3]);refine wpList_make_full _ rfl _ _ 64 rfl base 4 i0 (.bool false) 1 Tryz.underlying64 HI4.out.1 HI4.out.2.1 HI4.out.2.2.1 .i64 .i64 _ _ U rfl rfl rfl rfl (by rw [HI4.out.2.2.2];omega) (by unfold maxLen;omega) HB3.out ?_;intro w4 hO hG;obtain ⟨⟨z0,y0,y1,y2,y3,y4,y5,y6,y7,y8,y9,ya,yb⟩,hR⟩:=HMk.out w4 hO hG;have HR:=hide hR;have z1:¬ W3.heap.size=P:=fun e=>z0 e.symm;clear hO hG hR HMk hW3 HB3) | (go_at_call 56;refine (HR.out _ rfl).mono ?_;rintro e9 w9 ⟨rfl,hv⟩;have HV0:=hide hv;clear hv))
   clear HR z0 z1 y0 y1 y2 y3 y4 y5 y6 y7 y8 y9 ya yb p1 p2 p4 f1 f2 f4 c0
   try simp only [show ((RO:Int) == 2)=false by simp;omega,show ((T:Int) == 1000000)=false by simp;omega]
   go_loopw [9] (fun a wr=>∃ (q:Nat),q≤U∧a=.int .i64 q∧Hid (stk.V3 F w M base d P pc (c.put k QS) k AS q wr)) (fun a _=>U-(intOf a).toNat)
   case atStart=>exact ⟨0,Nat.zero_le _,rfl,HV0⟩
   case round =>
    clear HV0
    obtain ⟨q,hq,rfl,HQ⟩:=hrel
    have qc:=HVc.out _ _ HQ.out
    by_cases hqi:q<U
    ·have hqiI:(q:Int)<U:=by omega
     by_cases hqk:q=k
     ·have hqkI:((q:Int) != k)=false:=by simp;omega
      have HT:Hid (stk.V3 F w M base d P pc (c.put k QS) k AS (k+1) wr):=by
       have:=HQ.out
       rw [hqk] at this
       exact stk.V3.skip this
      clear HQ HVs HVc HF
      go_wp2
      go_roundw
      case rel=>exact ⟨k+1,by omega,by go_num,HT⟩
      case measure=>simp [intOf];omega
     ·have hqkI:((q:Int) != k)=true:=by simp;omega
      go_wp2_with (go_at_call 38;refine (HVs.out _ _ hqk HQ.out).mono ?_;rintro e9 w7 ⟨rfl,hl3⟩;have HT:=hide hl3;clear hl3)
      go_roundw
      case rel=>exact ⟨q+1,by omega,by go_num,HT⟩
      case measure=>simp [intOf];omega
    ·have hqiI:¬ (q:Int)<U:=by omega
     obtain rfl:q=U:=by omega
     have HZ:=hide (HF.out _ HQ.out)
     clear HF HVs HVc HQ
     go_wp2_with (go_at_call 57;refine HZ.out.mono ?_;rintro rr w1 ⟨rfl,hsd⟩)
     go_end0
     exact ⟨rfl,hsd⟩
end Go.Proofs.YtcfdmbkiinjmaaaGreat.stick
namespace Go.Proofs.YtcfdmbkiinjmaaaGreat.sdl1
open Raft mem srun ssend sdown ssmall scopy srecs sapp ssame schos schosen scom sgrow sin sel stk slog sap0 sdl0
variable {F:Nat→Option Obj}
open sdl3
theorem ndw_put (c:Cl) (k:Nat) (h:k<c.peers.length):c.put k (c.at k)=c:=scom.put_same c k h
set_option maxRecDepth 20000 in
set_option maxHeartbeats 2000000 in
theorem deliver_1 (w:World) (M:Fz) (base d P pc:Nat) (c:Cl) (us:List PV) (ns:List MV) (nv:Value) (cs:List RV) (cv:Value) (h:Run (TS F) w M base d P pc c us ns nv cs cv) (m:Msg) (lo:Option Addr) (ln lc:Nat) (hlv:RecsM M (.slice lo ln lc) m.log) (x:PV) (hk:us[m.to]?=some x) (hup:x.p.up=true) (hkd:m.kind=1) (hfm:m.frm≤1000) :
  Calls Tryz.prog 36 #[.pointer (some ⟨d,0,none⟩),.agg #[.int .i64 m.kind,.int .i64 m.frm,.int .i64 m.to,.int .i64 m.term,.int .i64 m.a,.int .i64 m.b,.int .i64 m.c,.bool m.ok,.slice lo ln lc]] w fun r w'=>r=.returned (.tuple #[])∧SD F w M base d P pc (c.deliver m) w':=by
 have hlt:m.to<us.length:=(List.getElem?_eq_some_iff.1 hk).1
 have hat:=(sdown.Run.at h hk).1
 have hcap:=h.cap
 unfold maxLen at hcap
 obtain ⟨W,hW⟩:∃ W,w.alloc (.cells #[.int .i64 m.kind,.int .i64 m.frm,.int .i64 m.to,.int .i64 m.term,.int .i64 m.a,.int .i64 m.b,.int .i64 m.c,.bool m.ok,.slice lo ln lc] 69)=W:=⟨_,rfl⟩
 have h0:=St1.begin h hW
 have c0:W.cell? ⟨d,0,none⟩=some (.slice (some ⟨P,0,none⟩) us.length pc):=cell_of h0.run.blk rfl
 have m2:W.cell? ⟨w.heap.size,2,none⟩=some (.int .i64 m.to):=cell_of h0.b0 rfl
 have m3:W.cell? ⟨w.heap.size,3,none⟩=some (.int .i64 m.term):=cell_of h0.b0 rfl
 obtain ⟨p0,f0⟩:=h0.run.peerCell hk (j:=0) (v:=.bool x.p.up) rfl
 rw [hup,Nat.add_zero] at p0
 have p1:=(h0.run.peerCell hk (j:=1) (v:=.int .i64 x.p.term) rfl).1
 have H0:=hide h0
 have HNot:Hid (¬ x.p.term<m.term→∀ wx,St1 F w M base d P pc 69 #[.int .i64 m.kind,.int .i64 m.frm,.int .i64 m.to,.int .i64 m.term,.int .i64 m.a,.int .i64 m.b,.int .i64 m.c,.bool m.ok,.slice lo ln lc] c us ns nv cs cv M wx→∃ us1 x1,Hid (Seen F w M base d P pc #[.int .i64 m.kind,.int .i64 m.frm,.int .i64 m.to,.int .i64 m.term,.int .i64 m.a,.int .i64 m.b,.int .i64 m.c,.bool m.ok,.slice lo ln lc] c us ns nv cs cv m.to m.term us1 x1 wx)):=fun ht wx hx=>⟨us,x,seen_not hx hk ht⟩
 have HDn:Hid (x.p.term<m.term→∀ wx,St1 F w M base d P pc 69 #[.int .i64 m.kind,.int .i64 m.frm,.int .i64 m.to,.int .i64 m.term,.int .i64 m.a,.int .i64 m.b,.int .i64 m.c,.bool m.ok,.slice lo ln lc] c us ns nv cs cv M wx→Calls Tryz.prog 55 #[.pointer (some ⟨d,0,none⟩),.int .i64 m.to,.int .i64 m.term] wx fun r w'=>r=.returned (.tuple #[])∧∃ us1 x1,Hid (Seen F w M base d P pc #[.int .i64 m.kind,.int .i64 m.frm,.int .i64 m.to,.int .i64 m.term,.int .i64 m.a,.int .i64 m.b,.int .i64 m.c,.bool m.ok,.slice lo ln lc] c us ns nv cs cv m.to m.term us1 x1 w')):=fun ht wx hx=>(hx.down m.to m.term x hk).mono (by
  rintro r w' ⟨rfl,hh⟩
  exact ⟨rfl,_,_,seen_down hh hk hat ht⟩)
 have hkI:(m.to:Int)<us.length:=by omega
 have HLast:Hid (∀ us1 x1 wx,Seen F w M base d P pc #[.int .i64 m.kind,.int .i64 m.frm,.int .i64 m.to,.int .i64 m.term,.int .i64 m.a,.int .i64 m.b,.int .i64 m.c,.bool m.ok,.slice lo ln lc] c us ns nv cs cv m.to m.term us1 x1 wx→∃ ro L rc,x1.lv=.slice ro L rc∧L=x1.p.log.length∧rc≤maxLen∧Calls Tryz.prog 56 #[.agg #[.bool x1.p.up,.int .i64 x1.p.term,.int .i64 x1.p.vote,.int .i64 x1.p.commit,.int .i64 x1.p.role,.slice ro L rc,x1.vv,x1.nv,x1.mv]] wx fun r w'=>r=.returned (.tuple #[.int .i64 L,.int .i64 (lastTerm x1.p.log:Nat)])∧Hid (Seen F w M base d P pc #[.int .i64 m.kind,.int .i64 m.frm,.int .i64 m.to,.int .i64 m.term,.int .i64 m.a,.int .i64 m.b,.int .i64 m.c,.bool m.ok,.slice lo ln lc] c us ns nv cs cv m.to m.term us1 x1 w')):=fun us1 x1 wx hx=>by
  obtain ⟨hs,hk1,hl1,ha1⟩:=id hx
  have hxm:x1∈us1:=List.mem_iff_getElem?.2 ⟨m.to,hk1⟩
  obtain ⟨ro,rc,elv⟩:=recsM_slice (hs.run.logs x1 hxm)
  have hlog:=hs.run.logs x1 hxm
  rw [elv] at hlog
  refine ⟨ro,_,rc,elv,rfl,(recs_len hlog).2.1,?_⟩
  refine (last_any wx M hs.run.inn x1.p _ ro rc _ _ _ hlog).mono ?_
  rintro r w' ⟨rfl,hb⟩
  refine ⟨?_,hs.below hb,hk1,hl1,ha1⟩
  rw [stick.last_eq]
 have HEnd:Hid (∀ us1 x1 wx,Seen F w M base d P pc #[.int .i64 m.kind,.int .i64 m.frm,.int .i64 m.to,.int .i64 m.term,.int .i64 m.a,.int .i64 m.b,.int .i64 m.c,.bool m.ok,.slice lo ln lc] c us ns nv cs cv m.to m.term us1 x1 wx→(∀ wy,Below wx.heap.size wx wy→(wy.cell? ⟨w.heap.size,2,none⟩=some (.int .i64 m.to)∧wy.cell? ⟨w.heap.size,1,none⟩=some (.int .i64 m.frm)∧wy.cell? ⟨P,m.to*9+1,none⟩=some (.int .i64 x1.p.term))) ∧
   ((ndw.okV x1.p m)=false→∀ wy,Below wx.heap.size wx wy→Calls Tryz.prog 38 #[.pointer (some ⟨d,0,none⟩),.agg #[.int .i64 2,.int .i64 m.to,.int .i64 m.frm,.int .i64 x1.p.term,.int .i64 0,.int .i64 0,.int .i64 0,.bool (ndw.okV x1.p m),.slice none 0 0]] wy fun r w'=>r=.returned (.tuple #[])∧Hid (SD F w M base d P pc (c.deliver m) w')∧(w'.cell? ⟨w.heap.size,2,none⟩=some (.int .i64 m.to)∧w'.cell? ⟨w.heap.size,1,none⟩=some (.int .i64 m.frm)∧w'.cell? ⟨P,m.to*9+1,none⟩=some (.int .i64 x1.p.term))) ∧
   ((ndw.okV x1.p m)=true→∀ W5,(wx.setCell ⟨P,m.to*9+2,none⟩ (.int .i64 ((m.frm:Int)+1)))=W5→∀ wy,Below W5.heap.size W5 wy→(wy.cell? ⟨w.heap.size,2,none⟩=some (.int .i64 m.to)∧wy.cell? ⟨w.heap.size,1,none⟩=some (.int .i64 m.frm)∧wy.cell? ⟨P,m.to*9+1,none⟩=some (.int .i64 x1.p.term))∧Calls Tryz.prog 38 #[.pointer (some ⟨d,0,none⟩),.agg #[.int .i64 2,.int .i64 m.to,.int .i64 m.frm,.int .i64 x1.p.term,.int .i64 0,.int .i64 0,.int .i64 0,.bool (ndw.okV x1.p m),.slice none 0 0]] wy fun r w'=>r=.returned (.tuple #[])∧Hid (SD F w M base d P pc (c.deliver m) w')∧(w'.cell? ⟨w.heap.size,2,none⟩=some (.int .i64 m.to)∧w'.cell? ⟨w.heap.size,1,none⟩=some (.int .i64 m.frm)∧w'.cell? ⟨P,m.to*9+1,none⟩=some (.int .i64 x1.p.term)))):=fun us1 x1 wx hx=>by
  obtain ⟨hs,hk1,hl1,ha1⟩:=hx
  have hll:m.to<(deliv.seen c m.to m.term).peers.length:=by rw [←hs.run.peers,List.length_map];exact (List.getElem?_eq_some_iff.1 hk1).1
  have hdel:=deliv.deliver_1 c m (by rw [hat];exact hup) hkd hll
  rw [ha1] at hdel
  have fin:∀ c2 us2 x2 wy,St1 F w M base d P pc 69 #[.int .i64 m.kind,.int .i64 m.frm,.int .i64 m.to,.int .i64 m.term,.int .i64 m.a,.int .i64 m.b,.int .i64 m.c,.bool m.ok,.slice lo ln lc] c2 us2 ns nv cs cv M wy→us2[m.to]?=some x2→x2.p.term=x1.p.term→c2=(deliv.seen c m.to m.term).put m.to (ndw.grantP x1.p m.frm (ndw.okV x1.p m))→(wy.cell? ⟨w.heap.size,2,none⟩=some (.int .i64 m.to)∧wy.cell? ⟨w.heap.size,1,none⟩=some (.int .i64 m.frm)∧wy.cell? ⟨P,m.to*9+1,none⟩=some (.int .i64 x1.p.term))∧Calls Tryz.prog 38 #[.pointer (some ⟨d,0,none⟩),.agg #[.int .i64 2,.int .i64 m.to,.int .i64 m.frm,.int .i64 x1.p.term,.int .i64 0,.int .i64 0,.int .i64 0,.bool (ndw.okV x1.p m),.slice none 0 0]] wy fun r w'=>r=.returned (.tuple #[])∧Hid (SD F w M base d P pc (c.deliver m) w')∧(w'.cell? ⟨w.heap.size,2,none⟩=some (.int .i64 m.to)∧w'.cell? ⟨w.heap.size,1,none⟩=some (.int .i64 m.frm)∧w'.cell? ⟨P,m.to*9+1,none⟩=some (.int .i64 x1.p.term)):=fun c2 us2 x2 wy hs2 hk2 ht2 hc2=>by
   have q:=(hs2.run.peerCell hk2 (j:=1) (v:=.int .i64 x2.p.term) rfl).1
   rw [ht2] at q
   refine ⟨⟨cell_of hs2.b0 rfl,cell_of hs2.b0 rfl,q⟩,?_⟩
   refine (send_any wy M base d P pc c2 us2 ns nv cs cv hs2.run ⟨2,m.to,m.frm,x1.p.term,0,0,0,(ndw.okV x1.p m),[]⟩ none 0 0 (RecsM.nil M)).mono ?_
   rintro r w' ⟨rfl,hsn⟩
   refine ⟨rfl,?_,?_⟩
   ·rw [hdel,←hc2]
    exact SD.sent hs2.le hs2.bel hs2.run hs2.dom hsn
   ·obtain ⟨M3,ns3,nv3,l3,r3,g3,d3⟩:=hsn
    have hne:=hs2.no d (.inl rfl)
    have hb0:w'.heap[w.heap.size]?=some (.cells #[.int .i64 m.kind,.int .i64 m.frm,.int .i64 m.to,.int .i64 m.term,.int .i64 m.a,.int .i64 m.b,.int .i64 m.c,.bool m.ok,.slice lo ln lc] 69 (0,0)):=(g3.block _ hs2.lt (fun e=>hne (Option.some.inj e).symm)).trans hs2.b0
    have q2:=(r3.peerCell hk2 (j:=1) (v:=.int .i64 x2.p.term) rfl).1
    rw [ht2] at q2
    exact ⟨cell_of hb0 rfl,cell_of hb0 rfl,q2⟩
  refine ⟨fun wy hy => ?_,fun hok wy hy => ?_,fun hok W5 e wy hy => ?_⟩
  ·have hh:=hs.below hy
   exact ⟨cell_of hh.b0 rfl,cell_of hh.b0 rfl,(hh.run.peerCell hk1 (j:=1) (v:=.int .i64 x1.p.term) rfl).1⟩
  ·refine (fin _ us1 x1 wy (hs.below hy) hk1 rfl ?_).2
   rw [hok]
   have e:ndw.grantP x1.p m.frm false=x1.p:=rfl
   rw [e,←ha1]
   exact (ndw_put _ _ hll).symm
  ·have h5:=hs.peer { x1.p with vote:=m.frm+1 } hk1 (j:=2) (v:=.int .i64 ((m.frm:Int)+1)) (by decide) rfl rfl rfl rfl rfl
   rw [e] at h5
   refine fin _ _ { x1 with p:={ x1.p with vote:=m.frm+1 } } wy (h5.below hy) (got_set hk1) rfl ?_
   rw [hok]
   rfl
 have k1b:((m.kind:Int) == 1)=true:=by rw [hkd];decide
 have af:IntKind.i64.wrap ((m.frm:Int)+1)=(m.frm:Int)+1:=by rw [IntKind.wrap_i64];omega
 obtain ⟨U,eU⟩:∃ U,us.length=U:=⟨_,rfl⟩
 rw [eU] at c0 hlt hcap hkI
 clear h hat hk f0 h0 eU hkd
 go_enter Tryz.func36,Tryz.ntmps36
 go_wp2
 (try rw [hW])
 clear hW
 go_quiet (fail)
 obtain ⟨W1,hW1,bW1,sW1⟩:=fold_dn W nq
 (try rw [hW1])
 have H1:=hide (H0.out.below bW1)
 have p0:=(kept_cell bW1 p0)
 have p1:=(kept_cell bW1 p1)
 have m3:=(kept_cell bW1 m3)
 have m2:=(kept_cell bW1 m2)
 clear hW1 bW1 H0 c0
 go_wp2
 go_quiet (fail)
 obtain ⟨W2,hW2,bW2,sW2⟩:=fold_dn W1 nq
 (try rw [hW2])
 have H2:=hide (H1.out.below bW2)
 have m3:=(kept_cell bW2 m3)
 have m2:=(kept_cell bW2 m2)
 clear hW2 bW2 H1 p0 p1
 go_upto_if 27 with fail
 go_cut [] from 27 to 33 (fun wx=>∃ us1 x1,Hid (Seen F w M base d P pc #[.int .i64 m.kind,.int .i64 m.frm,.int .i64 m.to,.int .i64 m.term,.int .i64 m.a,.int .i64 m.b,.int .i64 m.c,.bool m.ok,.slice lo ln lc] c us ns nv cs cv m.to m.term us1 x1 wx))
 case first =>
  by_cases ht:x.p.term<m.term
  ·have htI:(x.p.term:Int)<m.term:=by omega
   have HD:=hide (HDn.out ht _ H2.out)
   clear HDn HNot
   go_wp2_with (go_at_call 55;refine HD.out.mono ?_;rintro rr w3 ⟨rfl,us1,x1,H3⟩)
   go_meet
   exact ⟨us1,x1,H3⟩
  ·have htI:¬ (x.p.term:Int)<m.term:=by omega
   have HD:=HNot.out ht _ H2.out
   clear HDn HNot
   go_wp2_with fail
   go_meet
   exact HD
 case rest =>
  obtain ⟨us1,x1,HSn⟩:=hcut
  clear HDn HNot H2 m2 m3
  have H3:=hide HSn.out.1
  have hk1:=HSn.out.2.1
  have m0:wc.cell? ⟨w.heap.size,0,none⟩=some (.int .i64 m.kind):=cell_of H3.out.b0 rfl
  have m1:wc.cell? ⟨w.heap.size,1,none⟩=some (.int .i64 m.frm):=cell_of H3.out.b0 rfl
  have m2:wc.cell? ⟨w.heap.size,2,none⟩=some (.int .i64 m.to):=cell_of H3.out.b0 rfl
  have m3:wc.cell? ⟨w.heap.size,3,none⟩=some (.int .i64 m.term):=cell_of H3.out.b0 rfl
  have m4:wc.cell? ⟨w.heap.size,4,none⟩=some (.int .i64 m.a):=cell_of H3.out.b0 rfl
  have m5:wc.cell? ⟨w.heap.size,5,none⟩=some (.int .i64 m.b):=cell_of H3.out.b0 rfl
  have m6:wc.cell? ⟨w.heap.size,6,none⟩=some (.int .i64 m.c):=cell_of H3.out.b0 rfl
  have m7:wc.cell? ⟨w.heap.size,7,none⟩=some (.bool m.ok):=cell_of H3.out.b0 rfl
  have m8:wc.cell? ⟨w.heap.size,8,none⟩=some (.slice lo ln lc):=cell_of H3.out.b0 rfl
  obtain ⟨ro,L,rc,elv,eL,hrc,hl⟩:=HLast.out us1 x1 wc HSn.out
  obtain ⟨LT,eLT⟩:∃ T,lastTerm x1.p.log=T:=⟨_,rfl⟩
  rw [eLT] at hl
  have HLT:=hide eLT
  have HL:=hide hl
  clear eLT
  have HeL:=hide eL
  clear eL
  have q:=fun j v hj=>(H3.out.run.peerCell hk1 (j:=j) (v:=v) hj).1
  have q0:=q 0 (.bool x1.p.up) rfl
  rw [Nat.add_zero] at q0
  have q1:=q 1 (.int .i64 x1.p.term) rfl
  have q2:=q 2 (.int .i64 x1.p.vote) rfl
  have q3:=q 3 (.int .i64 x1.p.commit) rfl
  have q4:=q 4 (.int .i64 x1.p.role) rfl
  have q5:=q 5 x1.lv rfl
  rw [elv] at q5
  have q6:=q 6 x1.vv rfl
  have q7:=q 7 x1.nv rfl
  have q8:=q 8 x1.mv rfl
  unfold maxLen at hrc
  clear q hl elv H3 m6 m7 m8
  go_wp2_with (go_at_call 56;refine HL.out.mono ?_;rintro rr w5 ⟨rfl,HSn5⟩)
  have H5:=hide HSn5.out.1
  have hkk:=HSn5.out.2.1
  have q1:=(H5.out.run.peerCell hkk (j:=1) (v:=.int .i64 x1.p.term) rfl).1
  have q2:=(H5.out.run.peerCell hkk (j:=2) (v:=.int .i64 x1.p.vote) rfl).1
  have m1:w5.cell? ⟨w.heap.size,1,none⟩=some (.int .i64 m.frm):=cell_of H5.out.b0 rfl
  have m3:w5.cell? ⟨w.heap.size,3,none⟩=some (.int .i64 m.term):=cell_of H5.out.b0 rfl
  have m4:w5.cell? ⟨w.heap.size,4,none⟩=some (.int .i64 m.a):=cell_of H5.out.b0 rfl
  have m5:w5.cell? ⟨w.heap.size,5,none⟩=some (.int .i64 m.b):=cell_of H5.out.b0 rfl
  clear q0 q3 q4 q5 q6 q7 q8 HL HSn hkk H5 HLast
  go_upto_region 8 with fail
  go_cut [7] from 45 to 86 (fun v wx=>v=.bool (ndw.okV x1.p m)∧Hid (Seen F w M base d P pc #[.int .i64 m.kind,.int .i64 m.frm,.int .i64 m.to,.int .i64 m.term,.int .i64 m.a,.int .i64 m.b,.int .i64 m.c,.bool m.ok,.slice lo ln lc] c us ns nv cs cv m.to m.term us1 x1 wx))
  case first =>
   have HB6:Hid (∀ W6,Below w5.heap.size w5 W6→Seen F w M base d P pc #[.int .i64 m.kind,.int .i64 m.frm,.int .i64 m.to,.int .i64 m.term,.int .i64 m.a,.int .i64 m.b,.int .i64 m.c,.bool m.ok,.slice lo ln lc] c us ns nv cs cv m.to m.term us1 x1 W6):=fun W6 hb=>⟨HSn5.out.1.below hb,HSn5.out.2⟩
   have hdef:(ndw.okV x1.p m)=decide (m.term=x1.p.term∧(x1.p.vote=0∨x1.p.vote=m.frm+1)∧(LT<m.b∨m.b=LT∧L≤m.a)):=by rw [HeL.out,←HLT.out];rfl
   have HDf:=hide hdef
   clear hdef HeL HLT HEnd HSn5
   by_cases hA:m.term=x1.p.term
   ·have hAb:((m.term:Int) == x1.p.term)=true:=by rw [hA];simp
    by_cases hB:x1.p.vote=0
    ·have hBb:((x1.p.vote:Int) == 0)=true:=by rw [hB];simp
     by_cases hD:LT<m.b
     ·have hDI:(LT:Int)<m.b:=by omega
      have HV:Hid ((ndw.okV x1.p m)=true):=by
       show _=_
       rw [HDf.out]
       exact decide_eq_true (⟨hA,.inl hB,.inl hD⟩)
      clear hA hB hD HDf
      go_quiet (fail)
      obtain ⟨W6,hW6,bW6,sW6⟩:=fold_dn w5 nq
      (try rw [hW6])
      have H6:=hide (HB6.out W6 bW6)
      clear hW6 bW6 HB6
      go_wp2
      go_meet
      exact ⟨congrArg Value.bool HV.out.symm,H6⟩
     ·have hDI:¬ (LT:Int)<m.b:=by omega
      by_cases hE:m.b=LT
      ·have hEb:((m.b:Int) == LT)=true:=by rw [hE];simp
       by_cases hF:L≤m.a
       ·have hFI:(L:Int)≤m.a:=by omega
        have HV:Hid ((ndw.okV x1.p m)=true):=by
         show _=_
         rw [HDf.out]
         exact decide_eq_true (⟨hA,.inl hB,.inr ⟨hE,hF⟩⟩)
        clear hA hB hD hE hF HDf
        go_quiet (fail)
        obtain ⟨W6,hW6,bW6,sW6⟩:=fold_dn w5 nq
        (try rw [hW6])
        have H6:=hide (HB6.out W6 bW6)
        clear hW6 bW6 HB6
        go_wp2
        go_meet
        exact ⟨congrArg Value.bool HV.out.symm,H6⟩
       ·have hFI:¬ (L:Int)≤m.a:=by omega
        have HV:Hid ((ndw.okV x1.p m)=false):=by
         show _=_
         rw [HDf.out]
         exact decide_eq_false (fun q=>q.2.2.elim hD (fun q=>hF q.2))
        clear hA hB hD hE hF HDf
        go_quiet (fail)
        obtain ⟨W6,hW6,bW6,sW6⟩:=fold_dn w5 nq
        (try rw [hW6])
        have H6:=hide (HB6.out W6 bW6)
        clear hW6 bW6 HB6
        go_wp2
        go_meet
        exact ⟨congrArg Value.bool HV.out.symm,H6⟩
      ·have hEb:((m.b:Int) == LT)=false:=by simp;omega
       have HV:Hid ((ndw.okV x1.p m)=false):=by
        show _=_
        rw [HDf.out]
        exact decide_eq_false (fun q=>q.2.2.elim hD (fun q=>hE q.1))
       clear hA hB hD hE HDf
       go_quiet (fail)
       obtain ⟨W6,hW6,bW6,sW6⟩:=fold_dn w5 nq
       (try rw [hW6])
       have H6:=hide (HB6.out W6 bW6)
       clear hW6 bW6 HB6
       go_wp2
       go_meet
       exact ⟨congrArg Value.bool HV.out.symm,H6⟩
    ·have hBb:((x1.p.vote:Int) == 0)=false:=by simp;omega
     by_cases hC:x1.p.vote=m.frm+1
     ·have hCb:((x1.p.vote:Int) == (m.frm:Int)+1)=true:=by rw [hC];simp
      by_cases hD:LT<m.b
      ·have hDI:(LT:Int)<m.b:=by omega
       have HV:Hid ((ndw.okV x1.p m)=true):=by
        show _=_
        rw [HDf.out]
        exact decide_eq_true (⟨hA,.inr hC,.inl hD⟩)
       clear hA hB hC hD HDf
       go_quiet (fail)
       obtain ⟨W6,hW6,bW6,sW6⟩:=fold_dn w5 nq
       (try rw [hW6])
       have H6:=hide (HB6.out W6 bW6)
       clear hW6 bW6 HB6
       go_wp2
       go_meet
       exact ⟨congrArg Value.bool HV.out.symm,H6⟩
      ·have hDI:¬ (LT:Int)<m.b:=by omega
       by_cases hE:m.b=LT
       ·have hEb:((m.b:Int) == LT)=true:=by rw [hE];simp
        by_cases hF:L≤m.a
        ·have hFI:(L:Int)≤m.a:=by omega
         have HV:Hid ((ndw.okV x1.p m)=true):=by
          show _=_
          rw [HDf.out]
          exact decide_eq_true (⟨hA,.inr hC,.inr ⟨hE,hF⟩⟩)
         clear hA hB hC hD hE hF HDf
         go_quiet (fail)
         obtain ⟨W6,hW6,bW6,sW6⟩:=fold_dn w5 nq
         (try rw [hW6])
         have H6:=hide (HB6.out W6 bW6)
         clear hW6 bW6 HB6
         go_wp2
         go_meet
         exact ⟨congrArg Value.bool HV.out.symm,H6⟩
        ·have hFI:¬ (L:Int)≤m.a:=by omega
         have HV:Hid ((ndw.okV x1.p m)=false):=by
          show _=_
          rw [HDf.out]
          exact decide_eq_false (fun q=>q.2.2.elim hD (fun q=>hF q.2))
         clear hA hB hC hD hE hF HDf
         go_quiet (fail)
         obtain ⟨W6,hW6,bW6,sW6⟩:=fold_dn w5 nq
         (try rw [hW6])
         have H6:=hide (HB6.out W6 bW6)
         clear hW6 bW6 HB6
         go_wp2
         go_meet
         exact ⟨congrArg Value.bool HV.out.symm,H6⟩
       ·have hEb:((m.b:Int) == LT)=false:=by simp;omega
        have HV:Hid ((ndw.okV x1.p m)=false):=by
         show _=_
         rw [HDf.out]
         exact decide_eq_false (fun q=>q.2.2.elim hD (fun q=>hE q.1))
        clear hA hB hC hD hE HDf
        go_quiet (fail)
        obtain ⟨W6,hW6,bW6,sW6⟩:=fold_dn w5 nq
        (try rw [hW6])
        have H6:=hide (HB6.out W6 bW6)
        clear hW6 bW6 HB6
        go_wp2
        go_meet
        exact ⟨congrArg Value.bool HV.out.symm,H6⟩
     ·have hCb:((x1.p.vote:Int) == (m.frm:Int)+1)=false:=by simp;omega
      have HV:Hid ((ndw.okV x1.p m)=false):=by
       show _=_
       rw [HDf.out]
       exact decide_eq_false (fun q=>q.2.1.elim hB hC)
      clear hA hB hC HDf
      go_quiet (fail)
      obtain ⟨W6,hW6,bW6,sW6⟩:=fold_dn w5 nq
      (try rw [hW6])
      have H6:=hide (HB6.out W6 bW6)
      clear hW6 bW6 HB6
      go_wp2
      go_meet
      exact ⟨congrArg Value.bool HV.out.symm,H6⟩
   ·have hAb:((m.term:Int) == x1.p.term)=false:=by simp;omega
    have HV:Hid ((ndw.okV x1.p m)=false):=by
     show _=_
     rw [HDf.out]
     exact decide_eq_false (fun q=>hA q.1)
    clear hA HDf
    go_quiet (fail)
    obtain ⟨W6,hW6,bW6,sW6⟩:=fold_dn w5 nq
    (try rw [hW6])
    have H6:=hide (HB6.out W6 bW6)
    clear hW6 bW6 HB6
    go_wp2
    go_meet
    exact ⟨congrArg Value.bool HV.out.symm,H6⟩
  case rest =>
   obtain ⟨rfl,HSn6⟩:=hcut
   obtain ⟨hs6,hno6,hyes6⟩:=HEnd.out us1 x1 wc HSn6.out
   have H6:=hide HSn6.out.1
   have hk6:=HSn6.out.2.1
   have m1:wc.cell? ⟨w.heap.size,1,none⟩=some (.int .i64 m.frm):=cell_of H6.out.b0 rfl
   obtain ⟨p2,pf2⟩:=H6.out.run.peerCell hk6 (j:=2) (v:=.int .i64 x1.p.vote) rfl
   clear HEnd HSn5 HSn6 hk6 q1 q2 m3 m4 m5
   cases hok:(ndw.okV x1.p m) with
   | false =>
    have HN:=hide (hno6 hok)
    have HS:=hide hs6
    rw [hok] at HN
    have hB0:=hide (Below.refl wc.heap.size wc)
    clear hno6 hyes6 hs6 hok p2 pf2 H6
    go_wp2
    go_region_held_law (fun wx=>wx.cell? ⟨w.heap.size,2,none⟩=some (.int .i64 m.to)∧wx.cell? ⟨w.heap.size,1,none⟩=some (.int .i64 m.frm)∧wx.cell? ⟨P,m.to*9+1,none⟩=some (.int .i64 x1.p.term)) (first | exact HS.out _ hB0.out | exact HS.out _ hB0.out.drew | assumption) ((go_at_call 38;refine (HN.out _ hB0.out.drew).mono ?_;rintro rr w8 ⟨rfl,hsd,hS8⟩))
    go_wp2
    go_end0
    exact ⟨rfl,hsd.out⟩
   | true =>
    obtain ⟨W7,hW7⟩:∃ W7,wc.setCell ⟨P,m.to*9+2,none⟩ (.int .i64 ((m.frm:Int)+1))=W7:=⟨_,rfl⟩
    have HN:=hide (fun wy hy=>(hyes6 hok W7 hW7 wy hy).2)
    have HS:=hide (fun wy hy=>(hyes6 hok W7 hW7 wy hy).1)
    rw [hok] at HN
    have hB0:=hide (Below.refl W7.heap.size W7)
    clear hno6 hyes6 hs6 hok H6
    go_wp2
    (try rw [hW7])
    clear hW7 p2 pf2 m1
    go_region_held_law (fun wx=>wx.cell? ⟨w.heap.size,2,none⟩=some (.int .i64 m.to)∧wx.cell? ⟨w.heap.size,1,none⟩=some (.int .i64 m.frm)∧wx.cell? ⟨P,m.to*9+1,none⟩=some (.int .i64 x1.p.term)) (first | exact HS.out _ hB0.out | exact HS.out _ hB0.out.drew | assumption) ((go_at_call 38;refine (HN.out _ hB0.out.drew).mono ?_;rintro rr w8 ⟨rfl,hsd,hS8⟩))
    go_wp2
    go_end0
    exact ⟨rfl,hsd.out⟩
end Go.Proofs.YtcfdmbkiinjmaaaGreat.sdl1
