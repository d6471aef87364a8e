import Derived.Test.YtcfdmbkiinjmaaaGreatZ10
import Derived.WalkMore
import Derived.Deep.Cut
import Derived.Deep.RegionLaw
import Derived.Deep.AppendLies
set_option linter.unusedVariables false
open Go.ChangeShapes Go.WideShapes Go.ChangeAt Go.RowKit
namespace Go.Proofs.YtcfdmbkiinjmaaaGreat.sel2
open Raft mem srun ssend sdown ssmall scopy srecs sapp ssame schos schosen scom sgrow sin sel
variable {F:Nat→Option Obj}
set_option maxRecDepth 20000 in
set_option maxHeartbeats 2000000 in
theorem elected_any (w:World) (M:Fz) (base d P pc:Nat) (c:Cl) (us:List PV) (ns:List MV) (nv:Value) (cs:List RV) (cv:Value) (h:Run (TS F) w M base d P pc c us ns nv cs cv) (k:Nat) (x:PV) (hk:us[k]?=some x)
  (hU1:1≤us.length) (hU7:us.length≤7) (hcm:x.p.commit≤x.p.log.length) (hlen:x.p.log.length≤1000) (hcl:c.chosen.length≤1000) (hvl:x.p.votes.length≤1000) :
  Calls Tryz.prog 57 #[.pointer (some ⟨d,0,none⟩),.int .i64 k] w fun r w'=>r=.returned (.tuple #[])∧SD F w M base d P pc (c.elected k) w':=by
 have hxm:x∈us:=List.mem_iff_getElem?.2 ⟨k,hk⟩
 have hlt:k<us.length:=(List.getElem?_eq_some_iff.1 hk).1
 obtain ⟨hat,hat2⟩:=sdown.Run.at h hk
 have hul:us.length=c.peers.length:=by rw [←h.peers,List.length_map]
 have hcap:=h.cap
 have hbs:=scom.Run.base_le h
 obtain ⟨lo,lc,elv⟩:=recsM_slice (h.logs x hxm)
 have hlog:=h.logs x hxm
 rw [elv] at hlog
 obtain ⟨vo,vn,vc,evv⟩:=sapp.own_slice (h.votes x hxm)
 have hvot:=h.votes x hxm
 rw [evv] at hvot
 obtain rfl:vn=x.p.votes.length:=own_len hvot
 have hlcap:=recs_len hlog
 have hvcap:=row_cap hvot
 unfold maxLen at hcap hlcap hvcap
 have c0:w.cell? ⟨d,0,none⟩=some (.slice (some ⟨P,0,none⟩) us.length pc):=ssend.cell_of h.blk rfl
 obtain ⟨p4,f4⟩:=(h.peerCell hk (j:=4) (v:=.int .i64 x.p.role) rfl)
 obtain ⟨p6,f6⟩:=(h.peerCell hk (j:=6) (v:=.slice vo x.p.votes.length vc) (by rw [←evv];rfl))
 obtain ⟨p7,f7⟩:=(h.peerCell hk (j:=7) (v:=x.nv) rfl)
 obtain ⟨p8,f8⟩:=(h.peerCell hk (j:=8) (v:=x.mv) rfl)
 have HVot:Hid (∀ j,j<x.p.votes.length→∃ (mb:Nat) (m:Bool),vo=some ⟨mb,0,none⟩∧x.p.votes[j]?=some m∧w.cell? ⟨mb,j,none⟩=some (.bool m)):=fun j hj=>by
  obtain ⟨m,hm⟩:∃ m,x.p.votes[j]?=some m:=⟨_,List.getElem?_eq_getElem hj⟩
  obtain ⟨h1,⟨e1,e2⟩|⟨g,cap,cur,e1,hb,hg,hnc,hcm,hcs,ht⟩⟩:=id hvot
  ·omega
  ·simp only [Value.slice.injEq,true_and] at e1
   obtain ⟨rfl,rfl⟩:=e1
   have:=World.ownsRow.cells hvot rfl j (.bool m) (by rw [List.getElem?_map,hm];rfl)
   rw [ssend.addr_add,Nat.zero_add] at this
   exact ⟨g,m,rfl,hm,this⟩
 have HMost:Hid (∀ wx,Calls Tryz.prog 60 #[.int .i64 ((us.length:Nat):Int)] wx fun r w'=>r=.returned (.int .i64 ((most us.length:Nat):Int))∧w'=wx):=fun wx=>most_any wx us.length hU1 hU7
 have HNo:Hid (¬ (x.p.role=1∧most us.length≤x.p.votes.countP id)→SD F w M base d P pc (c.elected k) w):=fun hno=>by
  have e:c.elected k=c:=by
   unfold Cl.elected
   dsimp only
   rw [hat,←hul,if_neg hno]
  rw [e]
  exact ⟨M,us,ns,nv,cs,cv,Le.refl _,Below.refl _ _,h,fun b hb=>.inl hb⟩
 have HLI:Hid (LI F w M base d P pc c us ns nv cs cv k x 0 0 (.slice none 0 0) (.slice none 0 0) ((((w.setCell ⟨P,k*9+4,none⟩ (.int .i64 2)).setCell ⟨P,k*9+6,none⟩ (.slice none 0 0)).setCell ⟨P,k*9+7,none⟩ (.slice none 0 0)).setCell ⟨P,k*9+8,none⟩ (.slice none 0 0))):=LI.first h hk
 have HCom:Hid (∀ nvv g mc wr,LI F w M base d P pc c us ns nv cs cv k x us.length us.length nvv (.slice (some ⟨g,0,none⟩) us.length mc) wr→Calls Tryz.prog 40 #[.pointer (some ⟨d,0,none⟩),.int .i64 k] (wr.setCell ⟨g,k,none⟩ (.int .i64 (x.p.log.length:Int))).drew fun r w'=>r=.returned (.tuple #[])∧L3 F w M base d P pc ((c.put k (leadP x.p us.length k)).commits k) k 0 w'):=fun nvv g mc wr hLI=>by
  obtain ⟨hr,hb⟩:=hLI
  have hg:=got_set (x':=ledV x us.length us.length nvv (.slice (some ⟨g,0,none⟩) us.length mc)) hk
  have h2:=(sin.Run.setMat hr hg (g:=g) (n:=us.length) (cap:=mc) rfl k x.p.log.length).below (Below.refl _ _).drew
  have hg2:=got_set (x':={ ledV x us.length us.length nvv (.slice (some ⟨g,0,none⟩) us.length mc) with p:={ (ledV x us.length us.length nvv (.slice (some ⟨g,0,none⟩) us.length mc)).p with mat:=(ledV x us.length us.length nvv (.slice (some ⟨g,0,none⟩) us.length mc)).p.mat.set k x.p.log.length } }) hg
  have hrow:base≤g:=by
   have:=(hr.blocks_lt (b:=g) ⟨k,_,2,_,hg,rfl,rfl⟩).1
   exact this
  refine (commit_any _ M base d P pc _ _ ns nv cs cv h2 k _ hg2 (by simp;omega) (by simp;omega) hcm hlen hcl (by simp [ledV,ledP];omega)).mono ?_
  rintro r w' ⟨rfl,M',us',ns',nv',cs',cv',a1,a2,a3,a4⟩
  refine ⟨rfl,M',us',ns',nv',cs',cv',a1,(hb.setCell hrow _).drew.trans a2,?_,a4⟩
  simp only [List.set_set] at a3
  exact a3
 have HFin:Hid (x.p.role=1→most us.length≤x.p.votes.countP id→∀ wr,L3 F w M base d P pc ((c.put k (leadP x.p us.length k)).commits k) k us.length wr→SD F w M base d P pc (c.elected k) wr):=fun e1 e2 wr hl3=>by
  have e:c.elected k=tl ((c.put k (leadP x.p us.length k)).commits k) k us.length:=by
   unfold Cl.elected
   dsimp only
   rw [hat,←hul,if_pos ⟨e1,e2⟩]
   unfold Cl.toAll tl others
   have e3:((c.put k (leadP x.p us.length k)).commits k).peers.length=us.length:=by
    rw [(commits_at (c.put k (leadP x.p us.length k)) (k:=k) (by simp [Cl.put];omega)).1]
    simp [Cl.put,hul]
   show List.foldl _ ((c.put k (leadP x.p us.length k)).commits k) (List.filter _ (List.range ((c.put k (leadP x.p us.length k)).commits k).peers.length))=_
   rw [e3]
  rw [e]
  exact hl3
 obtain ⟨C6,eC6⟩:∃ C,(c.put k (leadP x.p us.length k)).commits k=C:=⟨_,rfl⟩
 have HC6:Hid (C6.peers.length=us.length∧(C6.at k).next=List.replicate us.length (x.p.log.length+1)∧(C6.at k).log.length=x.p.log.length):=by
  have hkp:k<(c.put k (leadP x.p us.length k)).peers.length:=by simp [Cl.put];omega
  obtain ⟨q1,q2,q3⟩:=commits_at (c.put k (leadP x.p us.length k)) hkp
  have e9:(c.put k (leadP x.p us.length k)).at k=leadP x.p us.length k:=at_put c k _ (by omega)
  rw [eC6] at q1 q2 q3
  rw [e9] at q2 q3
  exact ⟨by rw [q1];simp [Cl.put,hul],q2,by rw [q3];rfl⟩
 rw [eC6] at HCom HFin
 have HStep:Hid (∀ i wr,i<us.length→i≠k→L3 F w M base d P pc C6 k i wr→Calls Tryz.prog 59 #[.pointer (some ⟨d,0,none⟩),.int .i64 k,.int .i64 ((i:Nat):Int)] wr fun r w'=>r=.returned (.tuple #[])∧L3 F w M base d P pc C6 k (i+1) w'):=fun i wr hi hik hl3 =>
  hl3.step hik (by rw [HC6.out.1];exact hlt) hi HC6.out.2.1 HC6.out.2.2 hlen
 have HCl3:Hid (∀ i wr,L3 F w M base d P pc C6 k i wr→wr.cell? ⟨d,0,none⟩=some (.slice (some ⟨P,0,none⟩) us.length pc)):=fun i wr hl3=>by
  have:=hl3.cell
  rw [HC6.out.1] at this
  exact this
 have HLc:=hide (fun a b nvv mvv wr (hl:LI F w M base d P pc c us ns nv cs cv k x a b nvv mvv wr)=>LI.cells hl hk)
 have HLN:=hide (fun a b no nc mvv wr (hl:LI F w M base d P pc c us ns nv cs cv k x a b (.slice no a nc) mvv wr)=>LI.stepN hl hk)
 have HLM:=hide (fun a b mo mc nvv wr (hl:LI F w M base d P pc c us ns nv cs cv k x a b nvv (.slice mo b mc) wr)=>LI.stepM hl hk)
 have HMg:Hid (∀ nvv mo mc wr,LI F w M base d P pc c us ns nv cs cv k x us.length us.length nvv (.slice mo us.length mc) wr→∃ g,mo=some ⟨g,0,none⟩∧us.length≤mc∧mc≤9223372036854775807∧wr.cell? ⟨g,k,none⟩=some (.int .i64 0)∧wr.frozen? ⟨g,k,none⟩=false):=fun nvv mo mc wr hl=>by
  obtain ⟨hr,hb⟩:=hl
  have hg:=got_set (x':=ledV x us.length us.length nvv (.slice mo us.length mc)) hk
  have hm:=hr.mat _ (List.mem_iff_getElem?.2 ⟨k,hg⟩)
  have el:(ledV x us.length us.length nvv (.slice mo us.length mc)).p.mat.length=us.length:=by simp [ledV,ledP]
  rw [el] at hm
  obtain ⟨h1,⟨e1,e2⟩|⟨g,cap,cur,e1,hb',hg',hnc,hcm',hcs,ht⟩⟩:=id hm
  ·omega
  ·have e1':(Value.slice mo us.length mc)=.slice (some ⟨g,0,none⟩) us.length cap:=e1
   simp only [Value.slice.injEq,true_and] at e1'
   obtain ⟨rfl,rfl⟩:=e1'
   have:=World.ownsRow.cells hm rfl k (.int .i64 0) (by simp [ledV,ledP,hlt])
   rw [ssend.addr_add,Nat.zero_add] at this
   unfold maxLen at hcm'
   exact ⟨g,rfl,hnc,hcm',this,ssend.frozen_of hg' _⟩
 have HBe:Hid (∀ a b nvv mvv wr w1,LI F w M base d P pc c us ns nv cs cv k x a b nvv mvv wr→Below wr.heap.size wr w1→LI F w M base d P pc c us ns nv cs cv k x a b nvv mvv w1):=fun a b nvv mvv wr w1 hl hb=>LI.below hl hb
 obtain ⟨i0,hii,hz0,hz1,hz2⟩:=info_parts info3
 have HI3:Hid (Tryz.prog.info? 3=some i0∧i0.zero=some (.int .i64 0)∧i0.size=1∧i0.bytes=8):=⟨hii,hz0,hz1,hz2⟩
 obtain ⟨L,eL⟩:∃ L,x.p.log.length=L:=⟨_,rfl⟩
 obtain ⟨VL,eVL⟩:∃ L,x.p.votes.length=L:=⟨_,rfl⟩
 obtain ⟨U,eU⟩:∃ U,us.length=U:=⟨_,rfl⟩
 obtain ⟨RO,eRO⟩:∃ R,x.p.role=R:=⟨_,rfl⟩
 have HAll:Hid ((x.p.votes.take VL)=x.p.votes):=by rw [←eVL];exact List.take_length
 rw [eL] at hlen HCom HLN hlcap
 rw [eVL] at p6 hvl HVot hvcap
 rw [eU] at c0 hU1 hU7 hlt hcap HMost HNo HCom HFin HStep HCl3 HLc HMg
 rw [eRO] at p4 HNo HFin
 rw [elv,eL] at HLc
 have hkU:(k:Int)<U:=by omega
 obtain ⟨MU,eMU⟩:∃ MU,most U=MU:=⟨_,rfl⟩
 rw [eMU] at HMost HNo HFin
 have aL:IntKind.i64.wrap ((L:Int)+1)=(L:Int)+1:=by rw [IntKind.wrap_i64];omega
 clear h hxm hat hat2 hul hlog hvot eL eVL eU eRO eMU hk hcl hbs hii hz0 hz1 hz2 eC6 HC6 hcm
 generalize x.nv=xnv at p7
 generalize x.mv=xmv at p8
 go_enter Tryz.func57,Tryz.ntmps57
 go_wp2
 go_loopw [5,6] (fun a b wr=>∃ (j cnt:Nat),j≤VL∧cnt≤j∧a=.int .i64 cnt∧b=.int .i64 j∧wr=w∧Hid (cnt=(x.p.votes.take j).countP id)) (fun _ b _=>VL-(intOf b).toNat)
 case atStart=>exact ⟨0,0,Nat.zero_le _,Nat.le_refl _,rfl,rfl,by first | trivial | rfl,rfl⟩
 case round =>
  obtain ⟨j,cnt,hj,hcj,rfl,rfl,rfl,HC⟩:=hrel
  by_cases hlt2:j<VL
  ·have hlt2I:(j:Int)<VL:=by omega
   obtain ⟨mb,mj,rfl,hmj,cmj⟩:=HVot.out j hlt2
   have hct:=countP_id_take hmj
   cases mj with
   | true =>
    have HC2:Hid (cnt+1=(x.p.votes.take (j+1)).countP id):=by unfold Hid;have:=HC.out;simp only [if_true] at hct;omega
    clear hct hmj
    go_wp2
    go_roundw
    case rel=>exact ⟨j+1,cnt+1,by omega,by omega,by go_num,by go_num,by first | trivial | rfl,HC2⟩
    case measure=>simp [intOf];omega
   | false =>
    have HC2:Hid (cnt=(x.p.votes.take (j+1)).countP id):=by unfold Hid;have:=HC.out;simp only [Bool.false_eq_true,if_false] at hct;omega
    clear hct hmj
    go_wp2
    go_roundw
    case rel=>exact ⟨j+1,cnt,by omega,by omega,rfl,by go_num,by first | trivial | rfl,HC2⟩
    case measure=>simp [intOf];omega
  ·have hlt2I:¬ (j:Int)<VL:=by omega
   obtain rfl:j=VL:=by omega
   have hcnt:=HC.out
   rw [HAll.out] at hcnt
   rw [←hcnt] at HNo HFin
   clear HC HVot HAll hcnt
   by_cases hro:RO=1
   ·have hroI:((RO:Int) != 1)=false:=by simp;omega
    by_cases hmu:MU≤cnt
    ·have hmuI:¬ ((cnt:Int)<MU):=by omega
     have HF2:=hide (HFin.out hro hmu)
     clear HFin HNo
     go_wp2_with (go_at_call 60;refine (HMost.out _).mono ?_;rintro e9 w9 ⟨rfl,rfl⟩)
     obtain ⟨R,hR⟩:∃ R,((((w9.setCell ⟨P,k*9+4,none⟩ (.int .i64 2)).setCell ⟨P,k*9+6,none⟩ (.slice none 0 0)).setCell ⟨P,k*9+7,none⟩ (.slice none 0 0)).setCell ⟨P,k*9+8,none⟩ (.slice none 0 0))=R:=⟨_,rfl⟩
     rw [hR] at HLI
     rw [hR]
     simp only [decide_eq_false (show ¬ cnt<MU by omega)]
     clear hR p4 f4 p6 f6 p7 f7 p8 f8 HMost
     go_loopw [7] (fun a wr=>∃ (i:Nat) (nvv mvv:Value),i≤U∧a=.int .i64 i∧Hid (LI F w9 M base d P pc c us ns nv cs cv k x i i nvv mvv wr)) (fun a _=>U-(intOf a).toNat)
     case atStart=>exact ⟨0,_,_,Nat.zero_le _,rfl,HLI⟩
     case round =>
      clear HLI
      obtain ⟨i,nvv,mvv,hi,rfl,HL⟩:=hrel
      obtain ⟨⟨no,nc,rfl⟩,⟨mo,mc,rfl⟩,q0,q5,⟨q7,f7⟩,⟨q8,f8⟩⟩:=HLc.out _ _ _ _ _ HL.out
      by_cases hiU:i<U
      ·have hiUI:(i:Int)<U:=by omega
       obtain ⟨XA,hXA⟩:∃ X,wr.alloc (.cells #[.int .i64 ((L:Int)+1)] 3)=X:=⟨_,rfl⟩
       have bXA:Below wr.heap.size wr XA:=by rw [←hXA];exact ssend.more (Below.refl _ _) _
       have HJ:=hide (HLN.out i i no nc _ _ HL.out XA.drew bXA.drew wr.heap.size (by rw [←hXA];exact heap_alloc_new wr _))
       have xa7:=at_below bXA q7
       clear bXA
       clear HL q8 f8
       go_wp2
       go_region_law (first | (have _h:=HJ;obtain ⟨ys,y1,y2,y3,y4⟩:=HJ.out;refine step_append_lies _ rfl _ _ 29 rfl base 3 i0 (.int .i64 0) 1 8 Tryz.underlying29 HI3.out.1 HI3.out.2.1 HI3.out.2.2.1 HI3.out.2.2.2 rfl (by decide) _ i ys rfl y1 ⟨wr.heap.size,0,none⟩ 1 1 [.int .i64 ((L:Int)+1)] rfl rfl y2 (fun u' hu'=>by simp only [List.mem_cons,List.not_mem_nil,or_false] at hu';rcases hu' with rfl;rfl) (by decide) (by unfold maxLen;omega) (by omega) y3 _ rfl ?_;intro g2 cap2 w2 z1 z2 z3 z4;obtain ⟨⟨t0,t1⟩,hLI⟩:=y4 g2 cap2 w2 z1 z2 z3;have HN:=hide hLI;clear z1 z2 z3 z4 y1 y2 y3 y4 hLI))
       all_goals
        obtain ⟨V,hV⟩:∃ V,w2.setCell ⟨P,k*9+7,none⟩ (.slice (some ⟨g2,0,none⟩) (i+1) cap2)=V:=⟨_,rfl⟩
        rw [hV] at HN
        rw [hV]
        obtain ⟨_,_,r0,r5,⟨r7,_⟩,⟨r8,e8⟩⟩:=HLc.out _ _ _ _ _ HN.out
        obtain ⟨X2,hX2⟩:∃ X,V.alloc (.cells #[.int .i64 0] 3)=X:=⟨_,rfl⟩
        have HJ2:=hide (HLM.out (i+1) i mo mc _ _ HN.out X2 (by rw [←hX2];exact ssend.more (Below.refl _ _) _) V.heap.size (by rw [←hX2];exact heap_alloc_new V _))
        clear HN hV t0 t1 HJ HLM HLN HLc HMg HBe HCom HF2 HStep HCl3 q0 q5 q7 f7 xa7 hXA
        go_wp2_with (at_builtin;(have _h:=HJ2;obtain ⟨ys,y1,y2,y3,y4⟩:=HJ2.out;refine wpList_append_lies _ rfl _ _ 29 rfl base 3 i0 (.int .i64 0) 1 8 Tryz.underlying29 HI3.out.1 HI3.out.2.1 HI3.out.2.2.1 HI3.out.2.2.2 rfl (by decide) _ i ys rfl y1 ⟨V.heap.size,0,none⟩ 1 1 [.int .i64 0] rfl rfl y2 (fun u' hu'=>by simp only [List.mem_cons,List.not_mem_nil,or_false] at hu';rcases hu' with rfl;rfl) (by decide) (by unfold maxLen;omega) (by omega) y3 _ rfl ?_;intro g2 cap2 w2 z1 z2 z3 z4;obtain ⟨⟨t0,t1⟩,hLI⟩:=y4 g2 cap2 w2 z1 z2 z3;have HN:=hide hLI;clear z1 z2 z3 z4 y1 y2 y3 y4 hLI))
        go_roundw
        case rel=>exact ⟨i+1,_,_,by omega,by go_num,HN⟩
        case measure=>simp [intOf];omega
      ·have hiUI:¬ (i:Int)<U:=by omega
       obtain rfl:i=U:=by omega
       obtain ⟨g,rfl,hmc1,hmc2,cm,fm⟩:=HMg.out _ _ _ _ HL.out
       clear HLN HLM HLc HMg HBe q7 f7
       have hkI:(k:Int)<i:=hkU
       go_wp2
       go_region_law (fail)
       all_goals
        go_wp2_with (go_at_call 40;refine (HCom.out _ g mc _ HL.out).mono ?_;rintro e9 w8 ⟨rfl,hl3⟩;have HT:=hide hl3;clear hl3)
        clear HCom HL q5 f8 c0
        go_loopw [8] (fun a wr=>∃ (q:Nat),q≤i∧a=.int .i64 q∧Hid (L3 F w9 M base d P pc C6 k q wr)) (fun a _=>i-(intOf a).toNat)
        case atStart=>exact ⟨0,Nat.zero_le _,rfl,HT⟩
        case round =>
         clear HT
         obtain ⟨q,hq,rfl,HQ⟩:=hrel
         have qc:=HCl3.out _ _ HQ.out
         by_cases hqi:q<i
         ·have hqiI:(q:Int)<i:=by omega
          by_cases hqk:q=k
          ·have hqkI:((q:Int) != k)=false:=by simp;omega
           have HT:Hid (L3 F w9 M base d P pc C6 k (k+1) wr):=by
            have:=HQ.out
            rw [hqk] at this
            exact L3.skip this
           clear HQ HStep HCl3 HF2
           go_wp2
           go_roundw
           case rel=>exact ⟨k+1,by omega,by go_num,HT⟩
           case measure=>simp [intOf];omega
          ·have hqkI:((q:Int) != k)=true:=by simp;omega
           go_wp2_with (go_at_call 59;refine (HStep.out _ _ hqi hqk HQ.out).mono ?_;rintro e9 w7 ⟨rfl,hl3⟩;have HT:=hide hl3;clear hl3)
           go_roundw
           case rel=>exact ⟨q+1,by omega,by go_num,HT⟩
           case measure=>simp [intOf];omega
         ·have hqiI:¬ (q:Int)<i:=by omega
          obtain rfl:q=i:=by omega
          have HZ:=hide (HF2.out _ HQ.out)
          clear HF2 HStep HCl3 HQ
          go_wp2
          go_end0
          exact ⟨rfl,HZ.out⟩
    ·have hmuI:(cnt:Int)<MU:=by omega
     have HN:=hide (HNo.out (fun h=>hmu h.2))
     clear HFin HNo HCom HLI HStep HCl3 HLc HLN HLM HMg HBe
     go_wp2_with (go_at_call 60;refine (HMost.out _).mono ?_;rintro e9 w9 ⟨rfl,rfl⟩)
     refine bodyPost_ret (v:=.tuple #[]) (by simp [results,Tryz.results57]) rfl ⟨rfl,HN.out⟩
   ·have hroI:((RO:Int) != 1)=true:=by simp;omega
    have HN:=hide (HNo.out (fun h=>hro h.1))
    clear HFin HNo HCom HLI HStep HCl3 HLc HLN HLM HMg HBe
    go_wp2
    refine bodyPost_ret (v:=.tuple #[]) (by simp [results,Tryz.results57]) rfl ⟨rfl,HN.out⟩
end Go.Proofs.YtcfdmbkiinjmaaaGreat.sel2
