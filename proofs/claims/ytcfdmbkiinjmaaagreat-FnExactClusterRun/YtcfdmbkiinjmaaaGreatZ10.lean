import Derived.Test.YtcfdmbkiinjmaaaGreatZ09
import Derived.WalkMore
import Derived.Deep.RegionLaw
import Derived.Deep.AppendLies
import Derived.Test.YtcfdmbkiinjmaaaGreatZ08
import Derived.Test.YtcfdmbkiinjmaaaGreatZ05
import Derived.Laws.AppendOwnNone
import Derived.Test.YtcfdmbkiinjmaaaGreatZ01
import Derived.Test.YtcfdmbkiinjmaaaGreatZ02
import Derived.Lib.BufferRead
import Derived.Laws.IdiomStrings
import Derived.Test.YtcfdmbkiinjmaaaGreatZ03
import Derived.BigRegion
set_option linter.unusedVariables false
namespace Go.Proofs.YtcfdmbkiinjmaaaGreat.scom
open Go.ChangeShapes Go.WideShapes Go.ChangeAt Go.RowKit
open Raft mem srun ssend sdown ssmall scopy srecs sapp ssame schos schosen
variable {F:Nat→Option Obj}
def SD (F:Nat→Option Obj) (w:World) (M:Fz) (base d P pc:Nat) (c':Cl) (w':World):Prop :=
 ∃ M' us ns nv cs cv,Le M M'∧Below base w w'∧Run (TS F) w' M' base d P pc c' us ns nv cs cv∧∀ b,M' b≠none→M b≠none∨base≤b
theorem Run.base_le {T:Ty} {w:World} {M:Fz} {base d P pc:Nat} {c:Cl} {us:List PV} {ns:List MV} {nv:Value} {cs:List RV} {cv:Value} (h:Run T w M base d P pc c us ns nv cs cv):base≤w.heap.size:=by
 have:=h.low.1;have:=h.lt.1;omega
theorem noted_sd {w w':World} {M:Fz} {base d P pc:Nat} {c:Cl} {us:List PV} {ns:List MV} {nv:Value} {cs:List RV} {cv:Value} (h:Run (TS F) w M base d P pc c us ns nv cs cv) {k:Nat} {x:PV} (hk:us[k]?=some x) (hcm:x.p.commit≤x.p.log.length) (hn:Noted F w M base d P pc c us ns nv cv (x.p.log.take x.p.commit) x.p.commit w'):SD F w M base d P pc (c.note k) w':=by
 obtain ⟨W,M',cs',cv',hb,hr⟩:=hn
 have hat:=(sdown.Run.at h hk).1
 have hbs:=scom.Run.base_le h
 refine ⟨M',us,ns,nv,cs',cv',hr.le,?_,?_,fun b hb'=>(hr.dom b hb').imp id (fun h=>by omega)⟩
 ·refine (hb.mono hbs).trans ⟨hr.chg.os,hr.chg.tape,hr.chg.output,hr.chg.size,fun b hb'=>hr.chg.block b (by have:=hb.size;omega) ?_⟩
  rintro (e | e | e)
  ·have:=h.low.1;omega
  ·have:=(srun.row_lt h.chos e).1;omega
  ·omega
 ·have e:=note_eq c k
  rw [hat] at e
  rw [e,List.length_take,Nat.min_eq_left hcm]
  exact hr.run
theorem recsM_slice {M:Fz} {v:Value} {l:List Rc} (h:RecsM M v l):∃ o c,v=.slice o l.length c:=by
 obtain ⟨us,e,⟨ao,cap,e2,_⟩,_⟩:=h
 exact ⟨ao,cap,by rw [e2,←e,List.length_map]⟩
theorem row_cap {w:World} {base e sz:Nat} {o:Option Addr} {n c m:Nat} {xs:List Value} (h:w.ownsRow base e sz (.slice o n c) m xs):m≤c∧c≤maxLen:=by
 obtain ⟨h1,⟨e1,e2⟩|⟨g,cap,cur,e1,hb,hg,hnc,hcm,hcs,ht⟩⟩:=h
 ·simp only [Value.slice.injEq] at e1
  unfold maxLen
  omega
 ·simp only [Value.slice.injEq] at e1
  obtain ⟨_,_,rfl⟩:=e1
  exact ⟨hnc,hcm⟩
theorem reach_le_commit (p:Peer) (n:Nat):∀ y,y≤p.commit→reach p n y=p.commit
 | 0,_=>rfl
 | y+1,h=>by unfold reach;rw [if_pos h]
theorem put_same (c:Cl) (k:Nat) (h:k<c.peers.length):c.put k (c.at k)=c:=by
 unfold Cl.put Cl.at
 have e:c.peers.set k (c.peers.getD k Peer.zero)=c.peers:=by
  rw [List.getD_eq_getElem?_getD,List.getElem?_eq_getElem h]
  simp
 rw [e]
theorem countP_take {l:List Nat} {y:Nat} {j m:Nat} (h:l[j]?=some m):(l.take (j+1)).countP (fun m=>decide (y≤m))=(l.take j).countP (fun m=>decide (y≤m))+(if y≤m then 1 else 0):=by
 rw [List.take_add_one,h,List.countP_append]
 simp [List.countP_cons]
set_option maxRecDepth 20000 in
set_option maxHeartbeats 2000000 in
theorem commit_any (w:World) (M:Fz) (base d P pc:Nat) (c:Cl) (us:List PV) (ns:List MV) (nv:Value) (cs:List RV) (cv:Value) (h:Run (TS F) w M base d P pc c us ns nv cs cv) (k:Nat) (x:PV) (hk:us[k]?=some x)
  (hU1:1≤us.length) (hU7:us.length≤7) (hcm:x.p.commit≤x.p.log.length) (hlen:x.p.log.length≤1000) (hcl:c.chosen.length≤1000) (hml:x.p.mat.length≤1000) :
  Calls Tryz.prog 40 #[.pointer (some ⟨d,0,none⟩),.int .i64 k] w fun r w'=>r=.returned (.tuple #[])∧SD F w M base d P pc (c.commits k) w':=by
 have hxm:x∈us:=List.mem_iff_getElem?.2 ⟨k,hk⟩
 have hlt:k<us.length:=(List.getElem?_eq_some_iff.1 hk).1
 obtain ⟨hat,hat2⟩:=sdown.Run.at h hk
 have hul:us.length=c.peers.length:=by rw [←h.peers,List.length_map]
 have hcap:=h.cap
 have hbs:=scom.Run.base_le h
 obtain ⟨lo,lc,elv⟩:=recsM_slice (h.logs x hxm)
 have hlog:=h.logs x hxm
 rw [elv] at hlog
 obtain ⟨mo,mn,mc,emv⟩:=sapp.own_slice (h.mat x hxm)
 have hmat:=h.mat x hxm
 rw [emv] at hmat
 obtain rfl:mn=x.p.mat.length:=own_len hmat
 have hlcap:=recs_len hlog
 have hmcap:=row_cap hmat
 unfold maxLen at hcap hlcap hmcap
 have c0:w.cell? ⟨d,0,none⟩=some (.slice (some ⟨P,0,none⟩) us.length pc):=ssend.cell_of h.blk rfl
 have p1:=(h.peerCell hk (j:=1) (v:=.int .i64 x.p.term) rfl).1
 have p3:=(h.peerCell hk (j:=3) (v:=.int .i64 x.p.commit) rfl)
 have p5:=(h.peerCell hk (j:=5) (v:=.slice lo x.p.log.length lc) (by rw [←elv];rfl)).1
 have p8:=(h.peerCell hk (j:=8) (v:=.slice mo x.p.mat.length mc) (by rw [←emv];rfl)).1
 obtain ⟨p3,f3⟩:=p3
 have HMat:Hid (∀ j,j<x.p.mat.length→∃ (mb:Nat) (m:Nat),mo=some ⟨mb,0,none⟩∧x.p.mat[j]?=some m∧w.cell? ⟨mb,j,none⟩=some (.int .i64 (m:Int))):=fun j hj=>by
  obtain ⟨m,hm⟩:∃ m,x.p.mat[j]?=some m:=⟨_,List.getElem?_eq_getElem hj⟩
  obtain ⟨h1,⟨e1,e2⟩|⟨g,cap,cur,e1,hb,hg,hnc,hcm,hcs,ht⟩⟩:=id hmat
  ·omega
  ·simp only [Value.slice.injEq,true_and] at e1
   obtain ⟨rfl,rfl⟩:=e1
   have:=World.ownsRow.cells hmat rfl j (.int .i64 (m:Int)) (by rw [List.getElem?_map,hm];rfl)
   rw [ssend.addr_add,Nat.zero_add] at this
   exact ⟨g,m,rfl,hm,this⟩
 have HLog:Hid (∀ z,z<x.p.log.length→∃ (lb off t:Nat),lo=some ⟨lb,off,none⟩∧termAt x.p.log (z+1)=t∧w.cell? ⟨lb,off+z*3,none⟩=some (.int .i64 (t:Int))):=fun z hz=>by
  obtain ⟨r,hr⟩:∃ r,x.p.log[z]?=some r:=⟨_,List.getElem?_eq_getElem hz⟩
  obtain ⟨lb,off,dv,rfl,q0,_⟩:=recs_cell hlog h.inn hr
  refine ⟨lb,off,r.term,rfl,?_,q0⟩
  unfold termAt
  rw [if_neg (by omega),Nat.add_sub_cancel,hr]
 have HMost:Hid (∀ wx,Calls Tryz.prog 60 #[.int .i64 ((us.length:Nat):Int)] wx fun r w'=>r=.returned (.int .i64 ((most us.length:Nat):Int))∧w'=wx):=fun wx=>most_any wx us.length hU1 hU7
 have HOut:Hid (∀ q,reach x.p us.length x.p.log.length=x.p.commit→Calls Tryz.prog 61 #[.pointer (some ⟨d,0,none⟩),.int .i64 k] (w.drewN q) fun r w'=>r=.returned (.tuple #[])∧SD F w M base d P pc (c.commits k) w'):=fun q hr=>by
  have hb:Below w.heap.size w (w.drewN q):=⟨rfl,rfl,rfl,Nat.le_refl _,fun _ _=>rfl⟩
  refine (chosen_any (w.drewN q) M base d P pc c us ns nv cs cv (h.below hb) k x hk hcm hlen hcl).mono ?_
  rintro r w' ⟨rfl,hn⟩
  refine ⟨rfl,?_⟩
  obtain ⟨M',us',ns',nv',cs',cv',a1,a2,a3,a4⟩:=noted_sd (h.below hb) hk hcm hn
  have e:c.commits k=c.note k:=by
   have e1:(c.put k { c.at k with commit:=reach (c.at k) c.peers.length (c.at k).log.length })=c:=by
    rw [hat,←hul,hr,←hat]
    exact put_same c k (by omega)
   show (c.put k { c.at k with commit:=reach (c.at k) c.peers.length (c.at k).log.length }).note k=c.note k
   rw [e1]
  rw [e]
  exact ⟨M',us',ns',nv',cs',cv',a1,(hb.mono hbs).trans a2,a3,a4⟩
 have HBrk:Hid (∀ q y,y≤x.p.log.length→reach x.p us.length x.p.log.length=y→Calls Tryz.prog 61 #[.pointer (some ⟨d,0,none⟩),.int .i64 k] ((w.drewN q).setCell ⟨P,k*9+3,none⟩ (.int .i64 ((y:Nat):Int))) fun r w'=>r=.returned (.tuple #[])∧SD F w M base d P pc (c.commits k) w'):=fun q y hy hr=>by
  have hb:Below w.heap.size w (w.drewN q):=⟨rfl,rfl,rfl,Nat.le_refl _,fun _ _=>rfl⟩
  have h2:=sdown.Run.setScalar (h.below hb) (v:=.int .i64 (y:Int)) (j:=3) { x.p with commit:=y } hk (by omega) rfl rfl rfl rfl rfl
  have hk2:(us.set k { x with p:={ x.p with commit:=y } })[k]?=some { x with p:={ x.p with commit:=y } }:=got_set hk
  refine (chosen_any _ M base d P pc _ _ ns nv cs cv h2 k _ hk2 hy hlen hcl).mono ?_
  rintro r w' ⟨rfl,hn⟩
  refine ⟨rfl,?_⟩
  obtain ⟨M',us',ns',nv',cs',cv',a1,a2,a3,a4⟩:=noted_sd h2 hk2 hy hn
  have e:c.commits k=({ c with peers:=c.peers.set k { x.p with commit:=y } }:Cl).note k:=by
   show (c.put k { c.at k with commit:=reach (c.at k) c.peers.length (c.at k).log.length }).note k=_
   rw [hat,←hul,hr]
   rfl
  rw [e]
  exact ⟨M',us',ns',nv',cs',cv',a1,((hb.mono hbs).setCell h.low.2 _).trans a2,a3,a4⟩
 obtain ⟨L,eL⟩:∃ L,x.p.log.length=L:=⟨_,rfl⟩
 obtain ⟨ML,eML⟩:∃ L,x.p.mat.length=L:=⟨_,rfl⟩
 obtain ⟨CM,eCM⟩:∃ L,x.p.commit=L:=⟨_,rfl⟩
 obtain ⟨U,eU⟩:∃ U,us.length=U:=⟨_,rfl⟩
 obtain ⟨TM,eTM⟩:∃ T,x.p.term=T:=⟨_,rfl⟩
 have HRz:Hid (∀ y,y≤CM→reach x.p U y=CM):=fun y hy=>by rw [←eCM];exact reach_le_commit _ _ _ (by omega)
 have HRs:Hid (∀ z cnt t,CM<z+1→cnt=x.p.mat.countP (fun m=>decide (z+1≤m))→termAt x.p.log (z+1)=t→reach x.p U (z+1)=if most U≤cnt∧t=TM then z+1 else reach x.p U z):=fun z cnt t h1 h2 h3=>by
  rw [h2,←h3,←eTM]
  conv=>lhs;unfold reach
  rw [if_neg (by omega)]
 have HAll:Hid ((x.p.mat.take ML)=x.p.mat):=by rw [←eML];exact List.take_length
 rw [eL] at p5 hlen hcm HLog HOut HBrk hlcap
 rw [eML] at p8 hml HMat hmcap
 rw [eCM] at p3 hcm HOut
 rw [eTM] at p1
 rw [eU] at c0 hU1 hU7 hlt hcap HMost HOut HBrk
 have hkU:(k:Int)<U:=by omega
 have hmost:most U≤7:=by unfold most;omega
 obtain ⟨MU,eMU⟩:∃ MU,most U=MU:=⟨_,rfl⟩
 rw [eMU] at HMost HRs hmost
 clear h hxm hat hat2 hul hlog hmat elv emv eL eML eCM eU eTM eMU hk hcl hbs
 go_enter Tryz.func40,Tryz.ntmps40
 go_wp2
 go_loopw [5,6,7] (fun i a b wr=>∃ (y m:Nat),y≤L∧i=.int .i64 y∧wr=w.drewN m∧Hid (reach x.p U y=reach x.p U L)) (fun i _ _ _=>(intOf i).toNat)
 case atStart=>exact ⟨L,0,Nat.le_refl _,rfl,rfl,rfl⟩
 case round =>
  obtain ⟨y,m,hy,rfl,rfl,HR⟩:=hrel
  by_cases hlt1:CM<y
  ·obtain ⟨z,rfl⟩:∃ z,y=z+1:=⟨y-1,by omega⟩
   have hltI:(CM:Int)<(z:Int)+1:=by omega
   go_wp2
   go_loopw [6,7] (fun a b wr=>∃ (j cnt:Nat),j≤ML∧cnt≤j∧a=.int .i64 cnt∧b=.int .i64 j∧wr=w.drewN m∧Hid (cnt=(x.p.mat.take j).countP (fun m=>decide (z+1≤m)))) (fun _ b _=>ML-(intOf b).toNat)
   case atStart=>exact ⟨0,0,Nat.zero_le _,Nat.le_refl _,rfl,rfl,rfl,rfl⟩
   case round =>
    obtain ⟨j,cnt,hj,hcj,rfl,rfl,rfl,HC⟩:=hrel
    by_cases hlt2:j<ML
    ·have hlt2I:(j:Int)<ML:=by omega
     obtain ⟨mb,mj,rfl,hmj,cmj⟩:=HMat.out j hlt2
     have hct:=countP_take (y:=z+1) hmj
     by_cases hge:z+1≤mj
     ·have hgeI:(z:Int)+1≤mj:=by omega
      rw [if_pos hge] at hct
      have HC2:Hid (cnt+1=(x.p.mat.take (j+1)).countP (fun m=>decide (z+1≤m))):=by unfold Hid;have:=HC.out;omega
      clear hct hmj
      go_wp2
      go_roundw
      case rel=>exact ⟨j+1,cnt+1,by omega,by omega,by go_num,by go_num,by first | trivial | rfl,HC2⟩
      case measure=>simp [intOf];omega
     ·have hgeI:¬ ((z:Int)+1≤mj):=by omega
      rw [if_neg hge] at hct
      have HC2:Hid (cnt=(x.p.mat.take (j+1)).countP (fun m=>decide (z+1≤m))):=by unfold Hid;have:=HC.out;omega
      clear hct hmj
      go_wp2
      go_roundw
      case rel=>exact ⟨j+1,cnt,by omega,by omega,rfl,by go_num,by first | trivial | rfl,HC2⟩
      case measure=>simp [intOf];omega
    ·have hlt2I:¬ (j:Int)<ML:=by omega
     obtain rfl:j=ML:=by omega
     have hcnt:=HC.out
     rw [HAll.out] at hcnt
     obtain ⟨lb,off,t,rfl,ht,clt⟩:=HLog.out z (by omega)
     have hrs:=HRs.out z cnt t (by omega) hcnt ht
     have hz9:(z:Int)<L:=by omega
     have hcases:(¬ ((MU:Int)≤cnt)∧¬ MU≤cnt)∨(((MU:Int)≤cnt∧MU≤cnt)∧((t:Int) == (TM:Int))=false∧t≠TM)∨(((MU:Int)≤cnt∧MU≤cnt)∧((t:Int) == (TM:Int))=true∧t=TM):=by
      by_cases e1:MU≤cnt
      ·by_cases e2:t=TM
       ·exact .inr (.inr ⟨⟨by omega,e1⟩,by simp;omega,e2⟩)
       ·exact .inr (.inl ⟨⟨by omega,e1⟩,by simp;omega,e2⟩)
      ·exact .inl ⟨by omega,e1⟩
     rcases hcases with ⟨b1,b2⟩|⟨⟨b1,b2⟩,b3,b4⟩|⟨⟨b1,b2⟩,b3,b4⟩
     ·rw [if_neg (fun h=>b2 h.1)] at hrs
      have HR2:Hid (reach x.p U z=reach x.p U L):=by unfold Hid;rw [←hrs];exact HR.out
      clear hrs hcnt ht HC HR HRs HRz HMat HLog HOut HBrk
      go_wp2
      go_quiet (first | (go_at_call 60;refine (HMost.out _).mono ?_;rintro e9 w9 ⟨rfl,rfl⟩;exact ⟨rfl,_,rfl⟩))
      go_wp2
      go_roundw
      case rel=>exact ⟨z,_,by omega,by go_num,rfl,HR2⟩
      case measure=>simp [intOf]
     ·rw [if_neg (fun h=>b4 h.2)] at hrs
      have HR2:Hid (reach x.p U z=reach x.p U L):=by unfold Hid;rw [←hrs];exact HR.out
      clear hrs hcnt ht HC HR HRs HRz HMat HLog HOut HBrk
      go_wp2
      go_quiet (first | (go_at_call 60;refine (HMost.out _).mono ?_;rintro e9 w9 ⟨rfl,rfl⟩;exact ⟨rfl,_,rfl⟩))
      go_wp2
      go_roundw
      case rel=>exact ⟨z,_,by omega,by go_num,rfl,HR2⟩
      case measure=>simp [intOf]
     ·rw [if_pos ⟨b2,b4⟩] at hrs
      have HB2:=hide (fun q=>HBrk.out q (z+1) (by omega) (by rw [←HR.out];exact hrs))
      clear hrs hcnt ht HC HR HRs HRz HMat HLog HOut HBrk
      go_wp2
      go_quiet (first | (go_at_call 60;refine (HMost.out _).mono ?_;rintro e9 w9 ⟨rfl,rfl⟩;exact ⟨rfl,_,rfl⟩))
      go_wp2_with (go_at_call 61;refine (HB2.out _).mono ?_;rintro rr w1 ⟨rfl,hsd⟩)
      go_end0
      exact ⟨rfl,hsd⟩
  ·have hltI:¬ (CM:Int)<y:=by omega
   have hr:=HRz.out y (by omega)
   have HO:=hide (HOut.out m (by rw [←HR.out];exact hr))
   clear HRs HRz HMat HLog HOut HBrk HR hr
   go_wp2_with (go_at_call 61;refine HO.out.mono ?_;rintro rr w1 ⟨rfl,hsd⟩)
   go_end0
   exact ⟨rfl,hsd⟩
end Go.Proofs.YtcfdmbkiinjmaaaGreat.scom
namespace Go.Proofs.YtcfdmbkiinjmaaaGreat.sgrow
open Go.ChangeShapes Go.WideShapes Go.ChangeAt Go.RowKit
open Raft mem srun ssend sdown ssmall scopy srecs sapp ssame schos schosen scom
variable {F:Nat→Option Obj}
section
variable {T:Ty} {w:World} {M:Fz} {base d P pc:Nat} {c:Cl} {us:List PV} {ns:List MV} {nv:Value} {cs:List RV} {cv:Value}
theorem Run.swap (h:Run T w M base d P pc c us ns nv cs cv) {k i j:Nat} {x x':PV} {u v:Value} (hk:us[k]?=some x) (hu:(rows x)[i]?=some u) {w2:World} (hG:w.grownBy w2 u.ownBlock) (hj:j<9) (hc:peerCells x'=(peerCells x).set j v)
  (hlog:RecsM M x'.lv x'.p.log) (hv:w2.ownsRow base 4 1 x'.vv x'.p.votes.length (x'.p.votes.map Value.bool)) (hn:w2.ownsRow base 3 1 x'.nv x'.p.next.length (x'.p.next.map fun (n:Nat)=>Value.int .i64 (n:Int)))
  (hm:w2.ownsRow base 3 1 x'.mv x'.p.mat.length (x'.p.mat.map fun (n:Nat)=>Value.int .i64 (n:Int)))
  (hrow:∀ (i:Nat) (u:Value) (b:Nat),(rows x')[i]?=some u→u.ownBlock=some b→(∃ u0,(rows x)[i]?=some u0∧u0.ownBlock=some b)∨(¬ Mine d P us cv b∧(M b=none∧T.far b=none)∧∀ (i':Nat) (u':Value),(rows x')[i']?=some u'→u'.ownBlock=some b→i=i')) :
  Run T (w2.setCell ⟨P,k*9+j,none⟩ v) M base d P pc { c with peers:=c.peers.set k x'.p } (us.set k x') ns nv cs cv:=by
 have hlt:k<us.length:=(List.getElem?_eq_some_iff.1 hk).1
 have hurow:∀ g,u.ownBlock=some g→IsRow us g:=fun g hg=>⟨k,x,i,u,hk,hu,hg⟩
 have hw2:∀ b,b<w.heap.size→¬ u.ownBlock=some b→w2.heap[b]?=w.heap[b]? := fun b hb hn'=>hG.block b hb (fun e=>hn' e.symm)
 have hd2:=hw2 d h.lt.1 (fun e=>h.apart.2.1 (hurow d e))
 have hP2:=hw2 P h.lt.2 (fun e=>h.apart.2.2.1 (hurow P e))
 have hI2:In M w2:=h.inn.grown hG (fun g hg=>h.free g (.inr (.inr (.inl (hurow g hg)))))
 have hne:∀ b,b≠P→(w2.setCell ⟨P,k*9+j,none⟩ v).heap[b]?=w2.heap[b]? := fun b hb=>Below.heap_setCell w2 ⟨P,k*9+j,none⟩ v b hb
 have hat:∀ k1 y,(us.set k x')[k1]?=some y→(k1=k∧y=x')∨(k1≠k∧us[k1]?=some y):=fun k1 y hy=>by
  by_cases e:k1=k
  ·subst e
   rw [List.getElem?_set_self hlt] at hy
   exact .inl ⟨rfl,(Option.some.inj hy).symm⟩
  ·rw [List.getElem?_set_ne (Ne.symm e)] at hy
   exact .inr ⟨e,hy⟩
 have hrows:∀ b,IsRow (us.set k x') b→IsRow us b∨(¬ Mine d P us cv b∧(M b=none∧T.far b=none)):=fun b ⟨k1,y,i1,u1,h1,h2,h3⟩=>by
  rcases hat k1 y h1 with ⟨rfl,rfl⟩|⟨_,h1⟩
  ·rcases hrow i1 u1 b h2 h3 with ⟨u0,h4,h4b⟩|⟨h4,h5,_⟩
   ·exact .inl ⟨k1,x,i1,u0,hk,h4,h4b⟩
   ·exact .inr ⟨h4,h5⟩
  ·exact .inl ⟨k1,y,i1,u1,h1,h2,h3⟩
 have hmine:∀ b,Mine d P (us.set k x') cv b→M b=none:=fun b hb=>by
  rcases hb with hb | hb | hb | hb
  ·exact h.free b (.inl hb)
  ·exact h.free b (.inr (.inl hb))
  ·rcases hrows b hb with h1 | h1
   ·exact h.free b (.inr (.inr (.inl h1)))
   ·exact h1.2.1
  ·exact h.free b (.inr (.inr (.inr hb)))
 have hPr:∀ b,IsRow (us.set k x') b→b≠P:=fun b hb e=>by
  rcases hrows b hb with h1 | h1
  ·exact h.apart.2.2.1 (e ▸ h1)
  ·exact h1.1 (.inr (.inl e))
 have hidx:∀ y,y∈us.set k x'→∃ k1,(us.set k x')[k1]?=some y∧((k1=k∧y=x')∨(k1≠k∧us[k1]?=some y)):=fun y hy=>by
  obtain ⟨k1,h1⟩:=List.mem_iff_getElem?.1 hy
  exact ⟨k1,h1,hat k1 y h1⟩
 have hoth:∀ y k1,k1≠k→us[k1]?=some y→∀ j1 u1,(rows y)[j1]?=some u1→∀ g:Nat,Value.ownBlock u1=some g→w2.heap[g]?=w.heap[g]? := fun y k1 hne1 hk1 j1 u1 hj1 g hg=>by
  refine hw2 g (h.blocks_lt ⟨k1,y,j1,u1,hk1,hj1,hg⟩).2 (fun e => ?_)
  exact hne1 (h.lone k1 k y x j1 i u1 u g hk1 hk hj1 hu hg e).1
 exact {
  inn:=hI2.set (h.free P (.inr (.inl rfl))) v
  blk:=by rw [hne d h.apart.1,List.length_set];exact hd2.trans h.blk
  row:=by
   obtain ⟨cur,q1,q2,q3⟩:=h.row
   refine ⟨cur.setIfInBounds (k*9+j) v,heap_setCell_same w2 P (k*9+j) cur T.peer v (hP2.trans q1),by simpa using q2,?_⟩
   rw [List.length_set,srun.flat_set hk hj hc,←q3,Array.toList_setIfInBounds,List.take_set]
  cap:=by rw [List.length_set];exact h.cap
  peers:=by rw [List.map_set,h.peers]
  logs:=fun y hy=>by
   obtain ⟨k1,h1,⟨rfl,rfl⟩|⟨h2,h3⟩⟩:=hidx y hy
   ·exact hlog
   ·exact h.logs y (List.mem_iff_getElem?.2 ⟨k1,h3⟩)
  votes:=fun y hy=>by
   refine srun.row_kept (w:=w2) ?_ fun g hg=>hne g (hPr g (mem_blocks hy (by simp [rows]) hg))
   obtain ⟨k1,h1,⟨rfl,rfl⟩|⟨h2,h3⟩⟩:=hidx y hy
   ·exact hv
   ·exact srun.row_kept (h.votes y (List.mem_iff_getElem?.2 ⟨k1,h3⟩)) (hoth y k1 h2 h3 0 y.vv rfl)
  next:=fun y hy=>by
   refine srun.row_kept (w:=w2) ?_ fun g hg=>hne g (hPr g (mem_blocks hy (by simp [rows]) hg))
   obtain ⟨k1,h1,⟨rfl,rfl⟩|⟨h2,h3⟩⟩:=hidx y hy
   ·exact hn
   ·exact srun.row_kept (h.next y (List.mem_iff_getElem?.2 ⟨k1,h3⟩)) (hoth y k1 h2 h3 1 y.nv rfl)
  mat:=fun y hy=>by
   refine srun.row_kept (w:=w2) ?_ fun g hg=>hne g (hPr g (mem_blocks hy (by simp [rows]) hg))
   obtain ⟨k1,h1,⟨rfl,rfl⟩|⟨h2,h3⟩⟩:=hidx y hy
   ·exact hm
   ·exact srun.row_kept (h.mat y (List.mem_iff_getElem?.2 ⟨k1,h3⟩)) (hoth y k1 h2 h3 2 y.mv rfl)
  lone:=fun k1 k2 y1 y2 i1 i2 u1 u2 b g1 g2 g3 g4 g5 g6=>by
   rcases hat k1 y1 g1 with ⟨rfl,rfl⟩|⟨n1,g1'⟩
   ·rcases hat k2 y2 g2 with ⟨rfl,rfl⟩|⟨n2,g2'⟩
    ·refine ⟨rfl,?_⟩
     rcases hrow i1 u1 b g3 g5 with ⟨v1,e1,e1b⟩|⟨_,_,e1⟩
     ·rcases hrow i2 u2 b g4 g6 with ⟨v2,e2,e2b⟩|⟨_,_,e2⟩
      ·exact (h.lone k2 k2 x x i1 i2 v1 v2 b hk hk e1 e2 e1b e2b).2
      ·exact (e2 i1 u1 g3 g5).symm
     ·exact e1 i2 u2 g4 g6
    ·rcases hrow i1 u1 b g3 g5 with ⟨v1,e1,e1b⟩|⟨e1,_⟩
     ·exact h.lone k1 k2 x y2 i1 i2 v1 u2 b hk g2' e1 g4 e1b g6
     ·exact absurd (.inr (.inr (.inl ⟨k2,y2,i2,u2,g2',g4,g6⟩))) e1
   ·rcases hat k2 y2 g2 with ⟨rfl,rfl⟩|⟨n2,g2'⟩
    ·rcases hrow i2 u2 b g4 g6 with ⟨v1,e1,e1b⟩|⟨e1,_⟩
     ·exact h.lone k1 k2 y1 x i1 i2 u1 v1 b g1' hk g3 e1 g5 e1b
     ·exact absurd (.inr (.inr (.inl ⟨k1,y1,i1,u1,g1',g3,g5⟩))) e1
    ·exact h.lone k1 k2 y1 y2 i1 i2 u1 u2 b g1' g2' g3 g4 g5 g6
  free:=hmine
  net:=h.net
  nets:=h.nets
  chos:=srun.row_kept (w:=w2) (srun.row_kept h.chos (fun g hg=>hw2 g (srun.row_lt h.chos hg).2 (fun e=>h.apart.2.2.2.2.2 g (hurow g e) hg))) (fun g hg=>hne g (fun e=>h.apart.2.2.2.2.1 (e ▸ hg)))
  chosen:=h.chosen
  data:=h.data
  low:=h.low
  apart:=⟨h.apart.1,fun e=>by
    rcases hrows d e with h1 | h1
    ·exact h.apart.2.1 h1
    ·exact h1.1 (.inl rfl),fun e=>hPr P e rfl,h.apart.2.2.2.1,h.apart.2.2.2.2.1,fun b hb e=>by
    rcases hrows b hb with h1 | h1
    ·exact h.apart.2.2.2.2.2 b h1 e
    ·exact h1.1 (.inr (.inr (.inr e)))⟩
  far:=fun b o e=>⟨(hne b (fun q=>(h.far b o e).2.2 (.inr (.inl q)))).trans ((hw2 b (h.farL e) (fun q=>(h.far b o e).2.2 (.inr (.inr (.inl (hurow b q)))))).trans (h.far b o e).1),(h.far b o e).2.1,fun hm=>by
   rcases hm with hm | hm | hm | hm
   ·exact (h.far b o e).2.2 (.inl hm)
   ·exact (h.far b o e).2.2 (.inr (.inl hm))
   ·rcases hrows b hm with g | g
    ·exact (h.far b o e).2.2 (.inr (.inr (.inl g)))
    ·rw [g.2.2] at e;cases e
   ·exact (h.far b o e).2.2 (.inr (.inr (.inr hm)))⟩ }
theorem Run.pushNext (h:Run T w M base d P pc c us ns nv cs cv) {k:Nat} {x:PV} (hk:us[k]?=some x) (a:Nat) {w2:World} {g cap:Nat} (hO:w2.ownsRow base 3 1 (.slice (some ⟨g,0,none⟩) (x.p.next.length+1) cap) (x.p.next.length+1) ((x.p.next.map fun (n:Nat)=>Value.int .i64 (n:Int))++[.int .i64 (a:Int)])) (hG:w.grownBy w2 x.nv.ownBlock) (hg:x.nv.ownBlock=some g∨g=w.heap.size) :
  Run T (w2.setCell ⟨P,k*9+7,none⟩ (.slice (some ⟨g,0,none⟩) (x.p.next.length+1) cap)) M base d P pc { c with peers:=c.peers.set k { x.p with next:=x.p.next++[a] } } (us.set k { x with p:={ x.p with next:=x.p.next++[a] },nv:=.slice (some ⟨g,0,none⟩) (x.p.next.length+1) cap }) ns nv cs cv:=by
 have hx:x∈us:=List.mem_iff_getElem?.2 ⟨k,hk⟩
 have hfr:∀ j u,j≠1→(rows x)[j]?=some u→∀ b:Nat,Value.ownBlock u=some b→w2.heap[b]?=w.heap[b]? := fun j u hj hu b hb=>hG.block b (h.blocks_lt ⟨k,x,j,u,hk,hu,hb⟩).2 (fun e=>hj (h.lone k k x x j 1 u x.nv b hk hk hu rfl hb e.symm).2)
 refine Run.swap h (x':={ x with p:={ x.p with next:=x.p.next++[a] },nv:=.slice (some ⟨g,0,none⟩) (x.p.next.length+1) cap }) hk (i:=1) (u:=x.nv) rfl hG (by decide) rfl (h.logs x hx) (srun.row_kept (h.votes x hx) (hfr 0 x.vv (by decide) rfl)) (by simpa using hO) (srun.row_kept (h.mat x hx) (hfr 2 x.mv (by decide) rfl)) (fun i u b e1 e2 => ?_)
 have fresh:g=w.heap.size→¬ Mine d P us cv g∧(M g=none∧T.far g=none):=fun e=>⟨fun hm=>by have:=h.mine hm;omega,h.inn.fresh (by omega),h.farN (by omega)⟩
 match i,e1 with
 | 0,e1=>exact .inl ⟨u,e1,e2⟩
 | 1,e1 =>
  simp [rows] at e1
  subst e1
  obtain rfl:g=b:=by simpa [Value.ownBlock] using e2
  rcases hg with hg | hg
  ·exact .inl ⟨x.nv,rfl,hg⟩
  ·refine .inr ⟨(fresh hg).1,(fresh hg).2,fun i' u' h1 h2 => ?_⟩
   match i',h1 with
   | 0,h1=>simp [rows] at h1;subst h1;exact absurd (.inr (.inr (.inl ⟨k,x,0,x.vv,hk,rfl,h2⟩))) (fresh hg).1
   | 1,h1=>rfl
   | 2,h1=>simp [rows] at h1;subst h1;exact absurd (.inr (.inr (.inl ⟨k,x,2,x.mv,hk,rfl,h2⟩))) (fresh hg).1
   | i'+3,h1=>simp [rows] at h1
 | 2,e1=>exact .inl ⟨u,e1,e2⟩
 | i+3,e1=>simp [rows] at e1
theorem Run.pushMat (h:Run T w M base d P pc c us ns nv cs cv) {k:Nat} {x:PV} (hk:us[k]?=some x) (a:Nat) {w2:World} {g cap:Nat} (hO:w2.ownsRow base 3 1 (.slice (some ⟨g,0,none⟩) (x.p.mat.length+1) cap) (x.p.mat.length+1) ((x.p.mat.map fun (n:Nat)=>Value.int .i64 (n:Int))++[.int .i64 (a:Int)])) (hG:w.grownBy w2 x.mv.ownBlock) (hg:x.mv.ownBlock=some g∨g=w.heap.size) :
  Run T (w2.setCell ⟨P,k*9+8,none⟩ (.slice (some ⟨g,0,none⟩) (x.p.mat.length+1) cap)) M base d P pc { c with peers:=c.peers.set k { x.p with mat:=x.p.mat++[a] } } (us.set k { x with p:={ x.p with mat:=x.p.mat++[a] },mv:=.slice (some ⟨g,0,none⟩) (x.p.mat.length+1) cap }) ns nv cs cv:=by
 have hx:x∈us:=List.mem_iff_getElem?.2 ⟨k,hk⟩
 have hfr:∀ j u,j≠2→(rows x)[j]?=some u→∀ b:Nat,Value.ownBlock u=some b→w2.heap[b]?=w.heap[b]? := fun j u hj hu b hb=>hG.block b (h.blocks_lt ⟨k,x,j,u,hk,hu,hb⟩).2 (fun e=>hj (h.lone k k x x j 2 u x.mv b hk hk hu rfl hb e.symm).2)
 refine Run.swap h (x':={ x with p:={ x.p with mat:=x.p.mat++[a] },mv:=.slice (some ⟨g,0,none⟩) (x.p.mat.length+1) cap }) hk (i:=2) (u:=x.mv) rfl hG (by decide) rfl (h.logs x hx) (srun.row_kept (h.votes x hx) (hfr 0 x.vv (by decide) rfl)) (srun.row_kept (h.next x hx) (hfr 1 x.nv (by decide) rfl)) (by simpa using hO) (fun i u b e1 e2 => ?_)
 have fresh:g=w.heap.size→¬ Mine d P us cv g∧(M g=none∧T.far g=none):=fun e=>⟨fun hm=>by have:=h.mine hm;omega,h.inn.fresh (by omega),h.farN (by omega)⟩
 match i,e1 with
 | 0,e1=>exact .inl ⟨u,e1,e2⟩
 | 1,e1=>exact .inl ⟨u,e1,e2⟩
 | 2,e1 =>
  simp [rows] at e1
  subst e1
  obtain rfl:g=b:=by simpa [Value.ownBlock] using e2
  rcases hg with hg | hg
  ·exact .inl ⟨x.mv,rfl,hg⟩
  ·refine .inr ⟨(fresh hg).1,(fresh hg).2,fun i' u' h1 h2 => ?_⟩
   match i',h1 with
   | 0,h1=>simp [rows] at h1;subst h1;exact absurd (.inr (.inr (.inl ⟨k,x,0,x.vv,hk,rfl,h2⟩))) (fresh hg).1
   | 1,h1=>simp [rows] at h1;subst h1;exact absurd (.inr (.inr (.inl ⟨k,x,1,x.nv,hk,rfl,h2⟩))) (fresh hg).1
   | 2,h1=>rfl
   | i'+3,h1=>simp [rows] at h1
 | i+3,e1=>simp [rows] at e1
end
end Go.Proofs.YtcfdmbkiinjmaaaGreat.sgrow
namespace Go.Proofs.YtcfdmbkiinjmaaaGreat.sin
open Go.ChangeShapes Go.WideShapes Go.ChangeAt Go.RowKit
open Raft mem srun ssend sdown ssmall scopy srecs sapp ssame schos schosen scom sgrow
variable {F:Nat→Option Obj}
section
variable {T:Ty} {w:World} {M:Fz} {base d P pc:Nat} {c:Cl} {us:List PV} {ns:List MV} {nv:Value} {cs:List RV} {cv:Value}
theorem Run.inRow (h:Run T w M base d P pc c us ns nv cs cv) {k i:Nat} {x x':PV} {u:Value} (hk:us[k]?=some x) (hu:(rows x)[i]?=some u) {w2:World} (hG:w.grownBy w2 u.ownBlock) (hc:peerCells x'=peerCells x)
  (hlog:RecsM M x'.lv x'.p.log) (hv:w2.ownsRow base 4 1 x'.vv x'.p.votes.length (x'.p.votes.map Value.bool)) (hn:w2.ownsRow base 3 1 x'.nv x'.p.next.length (x'.p.next.map fun (n:Nat)=>Value.int .i64 (n:Int)))
  (hm:w2.ownsRow base 3 1 x'.mv x'.p.mat.length (x'.p.mat.map fun (n:Nat)=>Value.int .i64 (n:Int)))
  (hrow:∀ (i:Nat) (u:Value) (b:Nat),(rows x')[i]?=some u→u.ownBlock=some b→(∃ u0,(rows x)[i]?=some u0∧u0.ownBlock=some b)∨(¬ Mine d P us cv b∧(M b=none∧T.far b=none)∧∀ (i':Nat) (u':Value),(rows x')[i']?=some u'→u'.ownBlock=some b→i=i')) :
  Run T w2 M base d P pc { c with peers:=c.peers.set k x'.p } (us.set k x') ns nv cs cv:=by
 have hlt:k<us.length:=(List.getElem?_eq_some_iff.1 hk).1
 have hurow:∀ g,u.ownBlock=some g→IsRow us g:=fun g hg=>⟨k,x,i,u,hk,hu,hg⟩
 have hw2:∀ b,b<w.heap.size→¬ u.ownBlock=some b→w2.heap[b]?=w.heap[b]? := fun b hb hn'=>hG.block b hb (fun e=>hn' e.symm)
 have hd2:=hw2 d h.lt.1 (fun e=>h.apart.2.1 (hurow d e))
 have hP2:=hw2 P h.lt.2 (fun e=>h.apart.2.2.1 (hurow P e))
 have hI2:In M w2:=h.inn.grown hG (fun g hg=>h.free g (.inr (.inr (.inl (hurow g hg)))))
 have hne:∀ b,b≠P→w2.heap[b]?=w2.heap[b]? := fun _ _=>rfl
 have hat:∀ k1 y,(us.set k x')[k1]?=some y→(k1=k∧y=x')∨(k1≠k∧us[k1]?=some y):=fun k1 y hy=>by
  by_cases e:k1=k
  ·subst e
   rw [List.getElem?_set_self hlt] at hy
   exact .inl ⟨rfl,(Option.some.inj hy).symm⟩
  ·rw [List.getElem?_set_ne (Ne.symm e)] at hy
   exact .inr ⟨e,hy⟩
 have hrows:∀ b,IsRow (us.set k x') b→IsRow us b∨(¬ Mine d P us cv b∧(M b=none∧T.far b=none)):=fun b ⟨k1,y,i1,u1,h1,h2,h3⟩=>by
  rcases hat k1 y h1 with ⟨rfl,rfl⟩|⟨_,h1⟩
  ·rcases hrow i1 u1 b h2 h3 with ⟨u0,h4,h4b⟩|⟨h4,h5,_⟩
   ·exact .inl ⟨k1,x,i1,u0,hk,h4,h4b⟩
   ·exact .inr ⟨h4,h5⟩
  ·exact .inl ⟨k1,y,i1,u1,h1,h2,h3⟩
 have hmine:∀ b,Mine d P (us.set k x') cv b→M b=none:=fun b hb=>by
  rcases hb with hb | hb | hb | hb
  ·exact h.free b (.inl hb)
  ·exact h.free b (.inr (.inl hb))
  ·rcases hrows b hb with h1 | h1
   ·exact h.free b (.inr (.inr (.inl h1)))
   ·exact h1.2.1
  ·exact h.free b (.inr (.inr (.inr hb)))
 have hPr:∀ b,IsRow (us.set k x') b→b≠P:=fun b hb e=>by
  rcases hrows b hb with h1 | h1
  ·exact h.apart.2.2.1 (e ▸ h1)
  ·exact h1.1 (.inr (.inl e))
 have hidx:∀ y,y∈us.set k x'→∃ k1,(us.set k x')[k1]?=some y∧((k1=k∧y=x')∨(k1≠k∧us[k1]?=some y)):=fun y hy=>by
  obtain ⟨k1,h1⟩:=List.mem_iff_getElem?.1 hy
  exact ⟨k1,h1,hat k1 y h1⟩
 have hoth:∀ y k1,k1≠k→us[k1]?=some y→∀ j1 u1,(rows y)[j1]?=some u1→∀ g:Nat,Value.ownBlock u1=some g→w2.heap[g]?=w.heap[g]? := fun y k1 hne1 hk1 j1 u1 hj1 g hg=>by
  refine hw2 g (h.blocks_lt ⟨k1,y,j1,u1,hk1,hj1,hg⟩).2 (fun e => ?_)
  exact hne1 (h.lone k1 k y x j1 i u1 u g hk1 hk hj1 hu hg e).1
 exact {
  inn:=hI2
  blk:=by rw [hne d h.apart.1,List.length_set];exact hd2.trans h.blk
  row:=by
   obtain ⟨cur,q1,q2,q3⟩:=h.row
   refine ⟨cur,hP2.trans q1,q2,?_⟩
   rw [List.length_set,q3,List.flatMap_def,List.flatMap_def,List.map_set,hc]
   congr 1
   have e:(us.map peerCells)[k]?=some (peerCells x):=by rw [List.getElem?_map,hk];rfl
   obtain ⟨hl,e2⟩:=List.getElem?_eq_some_iff.1 e
   rw [←e2,List.set_getElem_self]
  cap:=by rw [List.length_set];exact h.cap
  peers:=by rw [List.map_set,h.peers]
  logs:=fun y hy=>by
   obtain ⟨k1,h1,⟨rfl,rfl⟩|⟨h2,h3⟩⟩:=hidx y hy
   ·exact hlog
   ·exact h.logs y (List.mem_iff_getElem?.2 ⟨k1,h3⟩)
  votes:=fun y hy=>by
   refine srun.row_kept (w:=w2) ?_ fun g hg=>hne g (hPr g (mem_blocks hy (by simp [rows]) hg))
   obtain ⟨k1,h1,⟨rfl,rfl⟩|⟨h2,h3⟩⟩:=hidx y hy
   ·exact hv
   ·exact srun.row_kept (h.votes y (List.mem_iff_getElem?.2 ⟨k1,h3⟩)) (hoth y k1 h2 h3 0 y.vv rfl)
  next:=fun y hy=>by
   refine srun.row_kept (w:=w2) ?_ fun g hg=>hne g (hPr g (mem_blocks hy (by simp [rows]) hg))
   obtain ⟨k1,h1,⟨rfl,rfl⟩|⟨h2,h3⟩⟩:=hidx y hy
   ·exact hn
   ·exact srun.row_kept (h.next y (List.mem_iff_getElem?.2 ⟨k1,h3⟩)) (hoth y k1 h2 h3 1 y.nv rfl)
  mat:=fun y hy=>by
   refine srun.row_kept (w:=w2) ?_ fun g hg=>hne g (hPr g (mem_blocks hy (by simp [rows]) hg))
   obtain ⟨k1,h1,⟨rfl,rfl⟩|⟨h2,h3⟩⟩:=hidx y hy
   ·exact hm
   ·exact srun.row_kept (h.mat y (List.mem_iff_getElem?.2 ⟨k1,h3⟩)) (hoth y k1 h2 h3 2 y.mv rfl)
  lone:=fun k1 k2 y1 y2 i1 i2 u1 u2 b g1 g2 g3 g4 g5 g6=>by
   rcases hat k1 y1 g1 with ⟨rfl,rfl⟩|⟨n1,g1'⟩
   ·rcases hat k2 y2 g2 with ⟨rfl,rfl⟩|⟨n2,g2'⟩
    ·refine ⟨rfl,?_⟩
     rcases hrow i1 u1 b g3 g5 with ⟨v1,e1,e1b⟩|⟨_,_,e1⟩
     ·rcases hrow i2 u2 b g4 g6 with ⟨v2,e2,e2b⟩|⟨_,_,e2⟩
      ·exact (h.lone k2 k2 x x i1 i2 v1 v2 b hk hk e1 e2 e1b e2b).2
      ·exact (e2 i1 u1 g3 g5).symm
     ·exact e1 i2 u2 g4 g6
    ·rcases hrow i1 u1 b g3 g5 with ⟨v1,e1,e1b⟩|⟨e1,_⟩
     ·exact h.lone k1 k2 x y2 i1 i2 v1 u2 b hk g2' e1 g4 e1b g6
     ·exact absurd (.inr (.inr (.inl ⟨k2,y2,i2,u2,g2',g4,g6⟩))) e1
   ·rcases hat k2 y2 g2 with ⟨rfl,rfl⟩|⟨n2,g2'⟩
    ·rcases hrow i2 u2 b g4 g6 with ⟨v1,e1,e1b⟩|⟨e1,_⟩
     ·exact h.lone k1 k2 y1 x i1 i2 u1 v1 b g1' hk g3 e1 g5 e1b
     ·exact absurd (.inr (.inr (.inl ⟨k1,y1,i1,u1,g1',g3,g5⟩))) e1
    ·exact h.lone k1 k2 y1 y2 i1 i2 u1 u2 b g1' g2' g3 g4 g5 g6
  free:=hmine
  net:=h.net
  nets:=h.nets
  chos:=srun.row_kept (w:=w2) (srun.row_kept h.chos (fun g hg=>hw2 g (srun.row_lt h.chos hg).2 (fun e=>h.apart.2.2.2.2.2 g (hurow g e) hg))) (fun g hg=>hne g (fun e=>h.apart.2.2.2.2.1 (e ▸ hg)))
  chosen:=h.chosen
  data:=h.data
  low:=h.low
  apart:=⟨h.apart.1,fun e=>by
    rcases hrows d e with h1 | h1
    ·exact h.apart.2.1 h1
    ·exact h1.1 (.inl rfl),fun e=>hPr P e rfl,h.apart.2.2.2.1,h.apart.2.2.2.2.1,fun b hb e=>by
    rcases hrows b hb with h1 | h1
    ·exact h.apart.2.2.2.2.2 b h1 e
    ·exact h1.1 (.inr (.inr (.inr e)))⟩
  far:=fun b o e=>⟨(hne b (fun q=>(h.far b o e).2.2 (.inr (.inl q)))).trans ((hw2 b (h.farL e) (fun q=>(h.far b o e).2.2 (.inr (.inr (.inl (hurow b q)))))).trans (h.far b o e).1),(h.far b o e).2.1,fun hm=>by
   rcases hm with hm | hm | hm | hm
   ·exact (h.far b o e).2.2 (.inl hm)
   ·exact (h.far b o e).2.2 (.inr (.inl hm))
   ·rcases hrows b hm with g | g
    ·exact (h.far b o e).2.2 (.inr (.inr (.inl g)))
    ·rw [g.2.2] at e;cases e
   ·exact (h.far b o e).2.2 (.inr (.inr (.inr hm)))⟩ }
theorem own_set1 {w:World} {base e n cap g:Nat} {xs:List Value} (h:w.ownsRow base e 1 (.slice (some ⟨g,0,none⟩) n cap) n xs) (i:Nat) (x:Value):(w.setCell ⟨g,i,none⟩ x).ownsRow base e 1 (.slice (some ⟨g,0,none⟩) n cap) n (xs.set i x):=by
 obtain ⟨h1,⟨e1,_⟩|⟨g',cap',cur,e1,hb,hg,hnc,hcm,hcs,ht⟩⟩:=h
 ·simp at e1
 ·simp only [Value.slice.injEq,Option.some.injEq,Addr.mk.injEq,and_true,true_and] at e1
  obtain ⟨rfl,rfl⟩:=e1
  refine ⟨by simp [h1],.inr ⟨g,cap,_,rfl,hb,heap_setCell_same w g i cur e x hg,hnc,hcm,by simp [hcs],?_⟩⟩
  rw [Array.toList_setIfInBounds,List.take_set,ht]
theorem Run.setMat (h:Run T w M base d P pc c us ns nv cs cv) {k:Nat} {x:PV} (hk:us[k]?=some x) {g n cap:Nat} (hmv:x.mv=.slice (some ⟨g,0,none⟩) n cap) (i a:Nat) :
  Run T (w.setCell ⟨g,i,none⟩ (.int .i64 (a:Int))) M base d P pc { c with peers:=c.peers.set k { x.p with mat:=x.p.mat.set i a } } (us.set k { x with p:={ x.p with mat:=x.p.mat.set i a } }) ns nv cs cv:=by
 have hx:x∈us:=List.mem_iff_getElem?.2 ⟨k,hk⟩
 have hb:x.mv.ownBlock=some g:=by rw [hmv];rfl
 have hG:w.grownBy (w.setCell ⟨g,i,none⟩ (.int .i64 (a:Int))) x.mv.ownBlock:=by rw [hb];exact ssend.set_grown _ _ _ _
 have hfr:∀ j u,j≠2→(rows x)[j]?=some u→∀ b:Nat,Value.ownBlock u=some b→(w.setCell ⟨g,i,none⟩ (.int .i64 (a:Int))).heap[b]?=w.heap[b]? := fun j u hj hu b hb'=>hG.block b (h.blocks_lt ⟨k,x,j,u,hk,hu,hb'⟩).2 (fun e=>hj (h.lone k k x x j 2 u x.mv b hk hk hu rfl hb' e.symm).2)
 have hm:=h.mat x hx
 have hl:n=x.p.mat.length:=by rw [hmv] at hm;exact own_len hm
 refine Run.inRow h (x':={ x with p:={ x.p with mat:=x.p.mat.set i a } }) hk (i:=2) (u:=x.mv) rfl hG rfl (h.logs x hx) (srun.row_kept (h.votes x hx) (hfr 0 x.vv (by decide) rfl)) (srun.row_kept (h.next x hx) (hfr 1 x.nv (by decide) rfl)) ?_ (fun i u b e1 e2=>.inl ⟨u,e1,e2⟩)
 rw [hmv] at hm ⊢
 subst hl
 have:=own_set1 hm i (.int .i64 (a:Int))
 simpa [List.map_set] using this
theorem Run.setNext (h:Run T w M base d P pc c us ns nv cs cv) {k:Nat} {x:PV} (hk:us[k]?=some x) {g n cap:Nat} (hmv:x.nv=.slice (some ⟨g,0,none⟩) n cap) (i a:Nat) :
  Run T (w.setCell ⟨g,i,none⟩ (.int .i64 (a:Int))) M base d P pc { c with peers:=c.peers.set k { x.p with next:=x.p.next.set i a } } (us.set k { x with p:={ x.p with next:=x.p.next.set i a } }) ns nv cs cv:=by
 have hx:x∈us:=List.mem_iff_getElem?.2 ⟨k,hk⟩
 have hb:x.nv.ownBlock=some g:=by rw [hmv];rfl
 have hG:w.grownBy (w.setCell ⟨g,i,none⟩ (.int .i64 (a:Int))) x.nv.ownBlock:=by rw [hb];exact ssend.set_grown _ _ _ _
 have hfr:∀ j u,j≠1→(rows x)[j]?=some u→∀ b:Nat,Value.ownBlock u=some b→(w.setCell ⟨g,i,none⟩ (.int .i64 (a:Int))).heap[b]?=w.heap[b]? := fun j u hj hu b hb'=>hG.block b (h.blocks_lt ⟨k,x,j,u,hk,hu,hb'⟩).2 (fun e=>hj (h.lone k k x x j 1 u x.nv b hk hk hu rfl hb' e.symm).2)
 have hm:=h.next x hx
 have hl:n=x.p.next.length:=by rw [hmv] at hm;exact own_len hm
 refine Run.inRow h (x':={ x with p:={ x.p with next:=x.p.next.set i a } }) hk (i:=1) (u:=x.nv) rfl hG rfl (h.logs x hx) (srun.row_kept (h.votes x hx) (hfr 0 x.vv (by decide) rfl)) ?_ (srun.row_kept (h.mat x hx) (hfr 2 x.mv (by decide) rfl)) (fun i u b e1 e2=>.inl ⟨u,e1,e2⟩)
 rw [hmv] at hm ⊢
 subst hl
 have:=own_set1 hm i (.int .i64 (a:Int))
 simpa [List.map_set] using this
theorem Run.setVotes (h:Run T w M base d P pc c us ns nv cs cv) {k:Nat} {x:PV} (hk:us[k]?=some x) {g n cap:Nat} (hmv:x.vv=.slice (some ⟨g,0,none⟩) n cap) (i:Nat) (a:Bool) :
  Run T (w.setCell ⟨g,i,none⟩ (.bool a)) M base d P pc { c with peers:=c.peers.set k { x.p with votes:=x.p.votes.set i a } } (us.set k { x with p:={ x.p with votes:=x.p.votes.set i a } }) ns nv cs cv:=by
 have hx:x∈us:=List.mem_iff_getElem?.2 ⟨k,hk⟩
 have hb:x.vv.ownBlock=some g:=by rw [hmv];rfl
 have hG:w.grownBy (w.setCell ⟨g,i,none⟩ (.bool a)) x.vv.ownBlock:=by rw [hb];exact ssend.set_grown _ _ _ _
 have hfr:∀ j u,j≠0→(rows x)[j]?=some u→∀ b:Nat,Value.ownBlock u=some b→(w.setCell ⟨g,i,none⟩ (.bool a)).heap[b]?=w.heap[b]? := fun j u hj hu b hb'=>hG.block b (h.blocks_lt ⟨k,x,j,u,hk,hu,hb'⟩).2 (fun e=>hj (h.lone k k x x j 0 u x.vv b hk hk hu rfl hb' e.symm).2)
 have hm:=h.votes x hx
 have hl:n=x.p.votes.length:=by rw [hmv] at hm;exact own_len hm
 refine Run.inRow h (x':={ x with p:={ x.p with votes:=x.p.votes.set i a } }) hk (i:=0) (u:=x.vv) rfl hG rfl (h.logs x hx) ?_ (srun.row_kept (h.next x hx) (hfr 1 x.nv (by decide) rfl)) (srun.row_kept (h.mat x hx) (hfr 2 x.mv (by decide) rfl)) (fun i u b e1 e2=>.inl ⟨u,e1,e2⟩)
 rw [hmv] at hm ⊢
 subst hl
 have:=own_set1 hm i (.bool a)
 simpa [List.map_set] using this
end
end Go.Proofs.YtcfdmbkiinjmaaaGreat.sin
namespace Go.Proofs.YtcfdmbkiinjmaaaGreat.sel
open Go.ChangeShapes Go.WideShapes Go.ChangeAt Go.RowKit
open Raft mem srun ssend sdown ssmall scopy srecs sapp ssame schos schosen scom sgrow sin
variable {F:Nat→Option Obj}
theorem info3:(Tryz.prog.info? 3).map (fun i=>(i.zero,i.size,i.bytes))=some (some (.int .i64 0),1,8):=by kernel_rfl
section
variable {T:Ty} {w:World} {M:Fz} {base d P pc:Nat} {c:Cl} {us:List PV} {ns:List MV} {nv:Value} {cs:List RV} {cv:Value}
def riseP (p:Peer):Peer:={ p with role:=2,votes:=[],next:=[],mat:=[] }
def riseV (x:PV):PV:=⟨riseP x.p,x.lv,.slice none 0 0,.slice none 0 0,.slice none 0 0⟩
theorem Run.rise (h:Run T w M base d P pc c us ns nv cs cv) {k:Nat} {x:PV} (hk:us[k]?=some x) :
  Run T ((((w.setCell ⟨P,k*9+4,none⟩ (.int .i64 2)).setCell ⟨P,k*9+6,none⟩ (.slice none 0 0)).setCell ⟨P,k*9+7,none⟩ (.slice none 0 0)).setCell ⟨P,k*9+8,none⟩ (.slice none 0 0)) M base d P pc { c with peers:=c.peers.set k (riseP x.p) } (us.set k (riseV x)) ns nv cs cv:=by
 have h1:=sdown.Run.setScalar h (v:=.int .i64 2) (j:=4) { x.p with role:=2 } hk (by decide) rfl rfl rfl rfl rfl
 have h2:=sdown.Run.noVotes h1 (got_set hk)
 have h3:=sdown.Run.noNext h2 (got_set (got_set hk))
 have h4:=sdown.Run.noMat h3 (got_set (got_set (got_set hk)))
 simp only [List.set_set] at h4
 exact h4
def ledP (p:Peer) (a b:Nat):Peer:={ p with role:=2,votes:=[],next:=List.replicate a (p.log.length+1),mat:=List.replicate b 0 }
def ledV (x:PV) (a b:Nat) (nv mv:Value):PV:=⟨ledP x.p a b,x.lv,.slice none 0 0,nv,mv⟩
def LI (F:Nat→Option Obj) (w:World) (M:Fz) (base d P pc:Nat) (c:Cl) (us:List PV) (ns:List MV) (nv:Value) (cs:List RV) (cv:Value) (k:Nat) (x:PV) (a b:Nat) (nvv mvv:Value) (wr:World):Prop:=Run (TS F) wr M base d P pc { c with peers:=c.peers.set k (ledP x.p a b) } (us.set k (ledV x a b nvv mvv)) ns nv cs cv∧Below base w wr
end
theorem set4_below {B:Nat} {A w:World} {P a b c e:Nat} {u1 u2 u3 u4:Value} (hP:B≤P) (h:Below B A w):Below B A ((((w.setCell ⟨P,a,none⟩ u1).setCell ⟨P,b,none⟩ u2).setCell ⟨P,c,none⟩ u3).setCell ⟨P,e,none⟩ u4):=(((h.setCell hP u1).setCell hP u2).setCell hP u3).setCell hP u4
section
variable {w wr:World} {M:Fz} {base d P pc:Nat} {c:Cl} {us:List PV} {ns:List MV} {nv:Value} {cs:List RV} {cv:Value} {k:Nat} {x:PV} {i a b:Nat}
theorem LI.first (h:Run (TS F) w M base d P pc c us ns nv cs cv) (hk:us[k]?=some x):LI F w M base d P pc c us ns nv cs cv k x 0 0 (.slice none 0 0) (.slice none 0 0) ((((w.setCell ⟨P,k*9+4,none⟩ (.int .i64 2)).setCell ⟨P,k*9+6,none⟩ (.slice none 0 0)).setCell ⟨P,k*9+7,none⟩ (.slice none 0 0)).setCell ⟨P,k*9+8,none⟩ (.slice none 0 0)) :=
 ⟨Run.rise h hk,set4_below h.low.2 (Below.refl _ _)⟩
theorem LI.cells {nvv mvv:Value} (h:LI F w M base d P pc c us ns nv cs cv k x a b nvv mvv wr) (hk:us[k]?=some x):(∃ no nc,nvv=.slice no a nc)∧(∃ mo mc,mvv=.slice mo b mc)∧wr.cell? ⟨d,0,none⟩=some (.slice (some ⟨P,0,none⟩) us.length pc)∧(wr.cell? ⟨P,k*9+5,none⟩=some x.lv)∧(wr.cell? ⟨P,k*9+7,none⟩=some nvv∧wr.frozen? ⟨P,k*9+7,none⟩=false)∧(wr.cell? ⟨P,k*9+8,none⟩=some mvv∧wr.frozen? ⟨P,k*9+8,none⟩=false):=by
 obtain ⟨hr,hb⟩:=h
 have hg:=got_set (x':=ledV x a b nvv mvv) hk
 have hm:ledV x a b nvv mvv∈us.set k (ledV x a b nvv mvv):=List.mem_iff_getElem?.2 ⟨k,hg⟩
 have n1:=hr.next _ hm
 have m1:=hr.mat _ hm
 refine ⟨?_,?_,?_,(hr.peerCell hg (j:=5) rfl).1,hr.peerCell hg (j:=7) rfl,hr.peerCell hg (j:=8) rfl⟩
 ·obtain ⟨o,n,cc,e⟩:=sapp.own_slice n1
  have e':nvv=.slice o n cc:=e
  rw [e] at n1
  have:=own_len n1
  exact ⟨o,cc,by rw [e',this];simp [ledV,ledP]⟩
 ·obtain ⟨o,n,cc,e⟩:=sapp.own_slice m1
  have e':mvv=.slice o n cc:=e
  rw [e] at m1
  have:=own_len m1
  exact ⟨o,cc,by rw [e',this];simp [ledV,ledP]⟩
 ·have:=ssend.cell_of hr.blk (i:=0) (v:=.slice (some ⟨P,0,none⟩) us.length pc) (by simp)
  exact this
theorem rep_snoc {a:Nat} (i:Nat):List.replicate (i+1) a=List.replicate i a++[a]:=List.replicate_succ'
theorem LI.below {w1:World} {nvv mvv:Value} (h:LI F w M base d P pc c us ns nv cs cv k x a b nvv mvv wr) (hb:Below wr.heap.size wr w1):LI F w M base d P pc c us ns nv cs cv k x a b nvv mvv w1:=⟨h.1.below hb,h.2.trans (hb.mono (scom.Run.base_le h.1))⟩
theorem LI.stepN {no:Option Addr} {nc:Nat} {mvv:Value} (h:LI F w M base d P pc c us ns nv cs cv k x a b (.slice no a nc) mvv wr) (hk:us[k]?=some x) (WX:World) (hx:Below wr.heap.size wr WX) (bl:Nat) (hbl:WX.heap[bl]?=some (.cells #[.int .i64 ((x.p.log.length:Int)+1)] 3 (0,0))) :
  ∃ ys,WX.ownsRow base 3 1 (.slice no a nc) a ys∧(∀ j u,([.int .i64 ((x.p.log.length:Int)+1)]:List Value)[j]?=some u→WX.cell? ((⟨bl,0,none⟩:Addr).add j)=some u)∧base≤WX.heap.size ∧
   ∀ g cap w2,w2.ownsRow base 3 1 (.slice (some ⟨g,0,none⟩) (a+1) cap) (a+1) (ys++[.int .i64 ((x.p.log.length:Int)+1)])→WX.grownBy w2 (Value.slice no a nc).ownBlock→((Value.slice no a nc).ownBlock=some g∨g=WX.heap.size)→(w2.cell? ⟨P,k*9+7,none⟩=some (.slice no a nc)∧w2.frozen? ⟨P,k*9+7,none⟩=false)∧LI F w M base d P pc c us ns nv cs cv k x (a+1) b (.slice (some ⟨g,0,none⟩) (a+1) cap) mvv (w2.setCell ⟨P,k*9+7,none⟩ (.slice (some ⟨g,0,none⟩) (a+1) cap)):=by
 have h':=LI.below h hx
 obtain ⟨hr,hb⟩:=h'
 have hg:=got_set (x':=ledV x a b (.slice no a nc) mvv) hk
 have hm:ledV x a b (.slice no a nc) mvv∈us.set k (ledV x a b (.slice no a nc) mvv):=List.mem_iff_getElem?.2 ⟨k,hg⟩
 have n1:=hr.next _ hm
 have el:(ledV x a b (.slice no a nc) mvv).p.next.length=a:=by simp [ledV,ledP]
 rw [el] at n1
 refine ⟨_,n1,?_,scom.Run.base_le hr,?_⟩
 ·intro j u hu
  rw [ssend.addr_add,Nat.zero_add]
  exact ssend.cell_of hbl (by simpa using hu)
 ·intro g cap w2 p1 p2 p3
  have hPl:=hr.lt.2
  have hPn:¬ (Value.slice no a nc).ownBlock=some P:=fun e=>hr.apart.2.2.1 ⟨k,_,1,_,hg,rfl,e⟩
  have hP2:w2.heap[P]?=WX.heap[P]? := p2.block P hPl (fun e=>hPn e.symm)
  have hc:=hr.peerCell hg (j:=7) (v:=.slice no a nc) rfl
  refine ⟨⟨by rw [World.cell?_of_block hP2];exact hc.1,by rw [World.frozen?_of_block hP2];exact hc.2⟩,?_,?_⟩
  ·have:=Run.pushNext hr hg (x.p.log.length+1) (g:=g) (cap:=cap) (by rw [el];exact p1) p2 p3
   rw [el] at this
   simp only [List.set_set] at this
   have e1:({ (ledV x a b (.slice no a nc) mvv).p with next:=(ledV x a b (.slice no a nc) mvv).p.next++[x.p.log.length+1] }:Peer)=ledP x.p (a+1) b:=by simp [ledV,ledP,rep_snoc]
   rw [e1] at this
   exact this
  ·exact ((hb.trans ⟨p2.os,p2.tape,p2.output,p2.size,fun q hq=>p2.block q (by have:=scom.Run.base_le hr;omega) (fun e=>by have:=(srun.row_lt n1 e.symm).1;omega)⟩)).setCell hr.low.2 _
theorem LI.stepM {mo:Option Addr} {mc:Nat} {nvv:Value} (h:LI F w M base d P pc c us ns nv cs cv k x a b nvv (.slice mo b mc) wr) (hk:us[k]?=some x) (WX:World) (hx:Below wr.heap.size wr WX) (bl:Nat) (hbl:WX.heap[bl]?=some (.cells #[.int .i64 0] 3 (0,0))) :
  ∃ ys,WX.ownsRow base 3 1 (.slice mo b mc) b ys∧(∀ j u,([.int .i64 0]:List Value)[j]?=some u→WX.cell? ((⟨bl,0,none⟩:Addr).add j)=some u)∧base≤WX.heap.size ∧
   ∀ g cap w2,w2.ownsRow base 3 1 (.slice (some ⟨g,0,none⟩) (b+1) cap) (b+1) (ys++[.int .i64 0])→WX.grownBy w2 (Value.slice mo b mc).ownBlock→((Value.slice mo b mc).ownBlock=some g∨g=WX.heap.size)→(w2.cell? ⟨P,k*9+8,none⟩=some (.slice mo b mc)∧w2.frozen? ⟨P,k*9+8,none⟩=false)∧LI F w M base d P pc c us ns nv cs cv k x a (b+1) nvv (.slice (some ⟨g,0,none⟩) (b+1) cap) (w2.setCell ⟨P,k*9+8,none⟩ (.slice (some ⟨g,0,none⟩) (b+1) cap)):=by
 have h':=LI.below h hx
 obtain ⟨hr,hb⟩:=h'
 have hg:=got_set (x':=ledV x a b nvv (.slice mo b mc)) hk
 have hm:ledV x a b nvv (.slice mo b mc)∈us.set k (ledV x a b nvv (.slice mo b mc)):=List.mem_iff_getElem?.2 ⟨k,hg⟩
 have n1:=hr.mat _ hm
 have el:(ledV x a b nvv (.slice mo b mc)).p.mat.length=b:=by simp [ledV,ledP]
 rw [el] at n1
 refine ⟨_,n1,?_,scom.Run.base_le hr,?_⟩
 ·intro j u hu
  rw [ssend.addr_add,Nat.zero_add]
  exact ssend.cell_of hbl (by simpa using hu)
 ·intro g cap w2 p1 p2 p3
  have hPl:=hr.lt.2
  have hPn:¬ (Value.slice mo b mc).ownBlock=some P:=fun e=>hr.apart.2.2.1 ⟨k,_,2,_,hg,rfl,e⟩
  have hP2:w2.heap[P]?=WX.heap[P]? := p2.block P hPl (fun e=>hPn e.symm)
  have hc:=hr.peerCell hg (j:=8) (v:=.slice mo b mc) rfl
  refine ⟨⟨by rw [World.cell?_of_block hP2];exact hc.1,by rw [World.frozen?_of_block hP2];exact hc.2⟩,?_,?_⟩
  ·have:=Run.pushMat hr hg 0 (g:=g) (cap:=cap) (by rw [el];exact p1) p2 p3
   rw [el] at this
   simp only [List.set_set] at this
   have e1:({ (ledV x a b nvv (.slice mo b mc)).p with mat:=(ledV x a b nvv (.slice mo b mc)).p.mat++[0] }:Peer)=ledP x.p a (b+1):=by simp [ledV,ledP,rep_snoc]
   rw [e1] at this
   exact this
  ·exact ((hb.trans ⟨p2.os,p2.tape,p2.output,p2.size,fun q hq=>p2.block q (by have:=scom.Run.base_le hr;omega) (fun e=>by have:=(srun.row_lt n1 e.symm).1;omega)⟩)).setCell hr.low.2 _
end
def tl (c:Cl) (k i:Nat):Cl:=((List.range i).filter (· ≠ k)).foldl (fun c j=>c.records k j) c
theorem tl_ne (c:Cl) {k i:Nat} (h:i≠k):tl c k (i+1)=(tl c k i).records k i:=by
 unfold tl
 rw [List.range_succ,List.filter_append,List.foldl_append]
 simp [h]
theorem tl_eq (c:Cl) (k:Nat):tl c k (k+1)=tl c k k:=by
 unfold tl
 rw [List.range_succ,List.filter_append,List.foldl_append]
 simp
theorem send_peers (c:Cl) (m:Msg):(c.send m).peers=c.peers:=by unfold Cl.send;split <;> rfl
theorem tl_peers (c:Cl) (k:Nat):∀ i,(tl c k i).peers=c.peers
 | 0=>rfl
 | i+1=>by
  by_cases h:i=k
  ·subst h;rw [tl_eq];exact tl_peers c i i
  ·rw [tl_ne c h]
   exact (send_peers _ _).trans (tl_peers c k i)
def L3 (F:Nat→Option Obj) (w:World) (M:Fz) (base d P pc:Nat) (c:Cl) (k i:Nat) (wr:World):Prop:=SD F w M base d P pc (tl c k i) wr
def leadP (p:Peer) (n k:Nat):Peer:={ p with role:=2,votes:=[],next:=List.replicate n (p.log.length+1),mat:=(List.replicate n 0).set k p.log.length }
theorem L3.step {w wr:World} {M:Fz} {base d P pc:Nat} {c:Cl} {k i U L:Nat} (h:L3 F w M base d P pc c k i wr) (hik:i≠k) (hk:k<c.peers.length) (hi:i<U) (hn:(c.at k).next=List.replicate U (L+1)) (hl:(c.at k).log.length=L) (hL:L≤1000) :
  Calls Tryz.prog 59 #[.pointer (some ⟨d,0,none⟩),.int .i64 k,.int .i64 i] wr fun r w'=>r=.returned (.tuple #[])∧L3 F w M base d P pc c k (i+1) w':=by
 obtain ⟨M',us,ns,nv,cs,cv,a1,a2,a3,a4⟩:=h
 have hp:=tl_peers c k i
 have hul:us.length=c.peers.length:=by rw [←hp,←a3.peers,List.length_map]
 obtain ⟨x,hx⟩:∃ x,us[k]?=some x:=⟨_,List.getElem?_eq_getElem (by omega)⟩
 have hat:=(sdown.Run.at a3 hx).1
 have hat2:c.at k=x.p:=by rw [←hat];unfold Cl.at;rw [hp]
 rw [hat2] at hn hl
 refine (append_any wr M' base d P pc _ us ns nv cs cv a3 k i x hx (L+1) (by rw [hn,List.getElem?_replicate];simp [hi]) (by omega) (by omega) (by omega)).mono ?_
 rintro r w' ⟨rfl,M2,ns2,nv2,b1,b2,b3,b4⟩
 refine ⟨rfl,M2,us,ns2,nv2,cs,cv,a1.trans b1,a2.trans ⟨b3.os,b3.tape,b3.output,b3.size,fun q hq=>b3.block q (by have:=scom.Run.base_le a3;omega) (fun e=>by simp only [Option.some.injEq] at e;have:=a3.low.1;omega)⟩,?_,fun b hb => ?_⟩
 ·rw [tl_ne c hik];exact b2
 ·rcases b4 b hb with g | g
  ·exact a4 b g
  ·exact .inr (by have:=scom.Run.base_le a3;omega)
theorem L3.skip {w wr:World} {M:Fz} {base d P pc:Nat} {c:Cl} {k:Nat} (h:L3 F w M base d P pc c k k wr):L3 F w M base d P pc c k (k+1) wr:=by unfold L3;rw [tl_eq];exact h
theorem L3.cell {w wr:World} {M:Fz} {base d P pc:Nat} {c:Cl} {k i:Nat} (h:L3 F w M base d P pc c k i wr):wr.cell? ⟨d,0,none⟩=some (.slice (some ⟨P,0,none⟩) c.peers.length pc):=by
 obtain ⟨M',us,ns,nv,cs,cv,a1,a2,a3,a4⟩:=h
 have hul:us.length=c.peers.length:=by rw [←tl_peers c k i,←a3.peers,List.length_map]
 have:=ssend.cell_of a3.blk (i:=0) (v:=.slice (some ⟨P,0,none⟩) us.length pc) rfl
 rw [hul] at this
 exact this
theorem commits_at (c:Cl) {k:Nat} (hk:k<c.peers.length):(c.commits k).peers.length=c.peers.length∧((c.commits k).at k).next=(c.at k).next∧((c.commits k).at k).log=(c.at k).log:=by
 have e:(c.commits k).peers=c.peers.set k { c.at k with commit:=reach (c.at k) c.peers.length (c.at k).log.length }:=rfl
 have e2:(c.commits k).at k={ c.at k with commit:=reach (c.at k) c.peers.length (c.at k).log.length }:=by
  unfold Cl.at
  rw [e,List.getD_eq_getElem?_getD,List.getElem?_set_self hk]
  rfl
 exact ⟨by rw [e];simp,by rw [e2],by rw [e2]⟩
theorem countP_id_take {l:List Bool} {j:Nat} {m:Bool} (h:l[j]?=some m):(l.take (j+1)).countP id=(l.take j).countP id+(if m then 1 else 0):=by
 rw [List.take_add_one,h,List.countP_append]
 cases m <;> simp
end Go.Proofs.YtcfdmbkiinjmaaaGreat.sel
namespace Go.Proofs.YtcfdmbkiinjmaaaGreat.stk
open Go.ChangeShapes Go.WideShapes Go.ChangeAt Go.RowKit
open Raft mem srun ssend sdown ssmall scopy srecs sapp ssame schos schosen scom sgrow sin sel
variable {F:Nat→Option Obj}
theorem SD.sent {w wr w':World} {M M':Fz} {base d P pc:Nat} {c c':Cl} {us:List PV} {ns:List MV} {nv:Value} {cs:List RV} {cv:Value} (a1:Le M M') (a2:Below base w wr) (a3:Run (TS F) wr M' base d P pc c us ns nv cs cv) (a4:∀ b,M' b≠none→M b≠none∨base≤b) (hs:Sent F wr M' base d P pc c' us cs cv w'):SD F w M base d P pc c' w':=by
 obtain ⟨M2,ns2,nv2,b1,b2,b3,b4⟩:=hs
 refine ⟨M2,us,ns2,nv2,cs,cv,a1.trans b1,a2.trans ⟨b3.os,b3.tape,b3.output,b3.size,fun q hq=>b3.block q (by have:=scom.Run.base_le a3;omega) (fun e=>by simp only [Option.some.injEq] at e;have:=a3.low.1;omega)⟩,b2,fun b hb => ?_⟩
 rcases b4 b hb with g | g
 ·exact a4 b g
 ·exact .inr (by have:=scom.Run.base_le a3;omega)
theorem L3.stepG {w wr:World} {M:Fz} {base d P pc:Nat} {c:Cl} {k i f:Nat} (h:L3 F w M base d P pc c k i wr) (hik:i≠k) (hk:k<c.peers.length) (hn:(c.at k).next[i]?=some f) (h1:1≤f) (h2:f≤(c.at k).log.length+1) (hL:(c.at k).log.length≤1000) :
  Calls Tryz.prog 59 #[.pointer (some ⟨d,0,none⟩),.int .i64 k,.int .i64 i] wr fun r w'=>r=.returned (.tuple #[])∧L3 F w M base d P pc c k (i+1) w':=by
 obtain ⟨M',us,ns,nv,cs,cv,a1,a2,a3,a4⟩:=h
 have hp:=tl_peers c k i
 have hul:us.length=c.peers.length:=by rw [←hp,←a3.peers,List.length_map]
 obtain ⟨x,hx⟩:∃ x,us[k]?=some x:=⟨_,List.getElem?_eq_getElem (by omega)⟩
 have hat:=(sdown.Run.at a3 hx).1
 have hat2:c.at k=x.p:=by rw [←hat];unfold Cl.at;rw [hp]
 rw [hat2] at hn h2 hL
 refine (append_any wr M' base d P pc _ us ns nv cs cv a3 k i x hx f hn h1 h2 hL).mono ?_
 rintro r w' ⟨rfl,hs⟩
 refine ⟨rfl,?_⟩
 unfold L3
 rw [tl_ne c hik]
 exact SD.sent a1 a2 a3 a4 hs
def vl (c:Cl) (k:Nat) (m:Nat→Msg) (i:Nat):Cl:=((List.range i).filter (· ≠ k)).foldl (fun c j=>c.send (m j)) c
theorem vl_ne (c:Cl) {k i:Nat} (m:Nat→Msg) (h:i≠k):vl c k m (i+1)=(vl c k m i).send (m i):=by
 unfold vl
 rw [List.range_succ,List.filter_append,List.foldl_append]
 simp [h]
theorem vl_eq (c:Cl) (k:Nat) (m:Nat→Msg):vl c k m (k+1)=vl c k m k:=by
 unfold vl
 rw [List.range_succ,List.filter_append,List.foldl_append]
 simp
theorem vl_peers (c:Cl) (k:Nat) (m:Nat→Msg):∀ i,(vl c k m i).peers=c.peers
 | 0=>rfl
 | i+1=>by
  by_cases h:i=k
  ·subst h;rw [vl_eq];exact vl_peers c i m i
  ·rw [vl_ne c m h]
   exact (Raft.send_peers _ _).trans (vl_peers c k m i)
theorem send_chosen (c:Cl) (m:Msg):(c.send m).chosen=c.chosen:=by unfold Cl.send;split <;> rfl
theorem vl_chosen (c:Cl) (k:Nat) (m:Nat→Msg):∀ i,(vl c k m i).chosen=c.chosen
 | 0=>rfl
 | i+1=>by
  by_cases h:i=k
  ·subst h;rw [vl_eq];exact vl_chosen c i m i
  ·rw [vl_ne c m h]
   exact (send_chosen _ _).trans (vl_chosen c k m i)
def V3 (F:Nat→Option Obj) (w:World) (M:Fz) (base d P pc:Nat) (c:Cl) (k:Nat) (m:Nat→Msg) (i:Nat) (wr:World):Prop:=SD F w M base d P pc (vl c k m i) wr
theorem V3.step {w wr:World} {M:Fz} {base d P pc:Nat} {c:Cl} {k i:Nat} {m:Nat→Msg} (h:V3 F w M base d P pc c k m i wr) (hik:i≠k) (hm:(m i).log=[]) :
  Calls Tryz.prog 38 #[.pointer (some ⟨d,0,none⟩),.agg #[.int .i64 (m i).kind,.int .i64 (m i).frm,.int .i64 (m i).to,.int .i64 (m i).term,.int .i64 (m i).a,.int .i64 (m i).b,.int .i64 (m i).c,.bool (m i).ok,.slice none 0 0]] wr fun r w'=>r=.returned (.tuple #[])∧V3 F w M base d P pc c k m (i+1) w':=by
 obtain ⟨M',us,ns,nv,cs,cv,a1,a2,a3,a4⟩:=h
 refine (send_any wr M' base d P pc _ us ns nv cs cv a3 (m i) none 0 0 (by rw [hm];exact RecsM.nil M')).mono ?_
 rintro r w' ⟨rfl,hs⟩
 refine ⟨rfl,?_⟩
 unfold V3
 rw [vl_ne c m hik]
 exact SD.sent a1 a2 a3 a4 hs
theorem V3.skip {w wr:World} {M:Fz} {base d P pc:Nat} {c:Cl} {k:Nat} {m:Nat→Msg} (h:V3 F w M base d P pc c k m k wr):V3 F w M base d P pc c k m (k+1) wr:=by unfold V3;rw [vl_eq];exact h
section
variable {T:Ty} {w:World} {M:Fz} {base d P pc:Nat} {c:Cl} {us:List PV} {ns:List MV} {nv:Value} {cs:List RV} {cv:Value}
theorem Run.newVotes (h:Run T w M base d P pc c us ns nv cs cv) {k:Nat} {x:PV} (hk:us[k]?=some x) (vs:List Bool) {w2:World} {g cap:Nat} (hO:w2.ownsRow base 4 1 (.slice (some ⟨g,0,none⟩) vs.length cap) vs.length (vs.map Value.bool)) (hG:w.grownBy w2 none) (hg:g=w.heap.size) :
  Run T (w2.setCell ⟨P,k*9+6,none⟩ (.slice (some ⟨g,0,none⟩) vs.length cap)) M base d P pc { c with peers:=c.peers.set k { x.p with votes:=vs } } (us.set k { x with p:={ x.p with votes:=vs },vv:=.slice (some ⟨g,0,none⟩) vs.length cap }) ns nv cs cv:=by
 have hx:x∈us:=List.mem_iff_getElem?.2 ⟨k,hk⟩
 have hG':w.grownBy w2 x.vv.ownBlock:=⟨hG.os,hG.tape,hG.output,hG.size,fun b hb _=>hG.block b hb (by simp)⟩
 have hfr:∀ j u,j≠0→(rows x)[j]?=some u→∀ b:Nat,Value.ownBlock u=some b→w2.heap[b]?=w.heap[b]? := fun j u hj hu b hb=>hG.block b (h.blocks_lt ⟨k,x,j,u,hk,hu,hb⟩).2 (by simp)
 refine sgrow.Run.swap h (x':={ x with p:={ x.p with votes:=vs },vv:=.slice (some ⟨g,0,none⟩) vs.length cap }) hk (i:=0) (u:=x.vv) rfl hG' (by decide) rfl (h.logs x hx) hO (srun.row_kept (h.next x hx) (hfr 1 x.nv (by decide) rfl)) (srun.row_kept (h.mat x hx) (hfr 2 x.mv (by decide) rfl)) (fun i u b e1 e2 => ?_)
 have fresh:¬ Mine d P us cv g∧(M g=none∧T.far g=none):=⟨fun hm=>by have:=h.mine hm;omega,h.inn.fresh (by omega),h.farN (by omega)⟩
 match i,e1 with
 | 0,e1 =>
  simp [rows] at e1
  subst e1
  obtain rfl:g=b:=by simpa [Value.ownBlock] using e2
  refine .inr ⟨fresh.1,fresh.2,fun i' u' h1 h2 => ?_⟩
  match i',h1 with
  | 0,h1=>rfl
  | 1,h1=>simp [rows] at h1;subst h1;exact absurd (.inr (.inr (.inl ⟨k,x,1,x.nv,hk,rfl,h2⟩))) fresh.1
  | 2,h1=>simp [rows] at h1;subst h1;exact absurd (.inr (.inr (.inl ⟨k,x,2,x.mv,hk,rfl,h2⟩))) fresh.1
  | i'+3,h1=>simp [rows] at h1
 | 1,e1=>exact .inl ⟨u,e1,e2⟩
 | 2,e1=>exact .inl ⟨u,e1,e2⟩
 | i+3,e1=>simp [rows] at e1
end
end Go.Proofs.YtcfdmbkiinjmaaaGreat.stk
namespace Go.Proofs.YtcfdmbkiinjmaaaGreat.slog
open Go.ChangeShapes Go.WideShapes Go.ChangeAt Go.RowKit
open Raft mem srun ssend sdown ssmall scopy srecs sapp ssame schos schosen
variable {F:Nat→Option Obj}
theorem wpList_append_row {P:Program} (w:World) {ops:Array Oper} {rest:List Oper} {o:Oper} {a:Act} {Q:Exit→Act→World→Prop} (hgd:o.guard=none) (s x:Operand) (t:TypeId)
  (ho:o.op=.call { callee:=.builtin .append,args:=#[s,x],argTypes:=#[t,t] }) (e sz by_:Nat) (z:Value) (ht:P.underlying t=some (.slice e))
  (hi:(P.info? e).map (fun i=>(i.zero,i.size,i.bytes))=some (some z,sz,by_)) (hz:z.cells.size=sz) (hsz:0<sz)
  (base:Nat) (v:Value) (n:Nat) (xs:List Value) (hs:a.eval s=v) (hown:w.ownsRow base e sz v n xs) (u:Value) (m:Nat) (ys:List Value) (hx:a.eval x=u) (hr:RowW w u m sz ys) (h1:∀ y∈ys,y.oneCell'=true)
  (hlen:(n+m)*by_≤140737488355328) (hby:0<by_) (hbase:base≤w.heap.size)
  (h:∀ v' w',w'.ownsRow base e sz v' (n+m) (xs++ys)→w.grownBy w' v.ownBlock→wpList P ops Q rest (a.put o.dst v') w'):wpList P ops Q (o::rest) a w:=by
 obtain ⟨i0,hi1,hz0,hz1,hz2⟩:=info_parts hi
 obtain ⟨ao,cap,rfl,h3,h4,h5⟩:=hr
 cases ao with
 | none =>
  obtain ⟨rfl,rfl⟩:=h4 rfl
  obtain rfl:ys=[]:=List.length_eq_zero_iff.1 (by omega)
  refine wpList_append_own_none hgd s x t ho base e i0 sz ht hi1 v n _ hs hown hx ?_
  exact h v w (by simpa using hown) (World.grownBy.refl _ _)
 | some ad =>
  refine wpList_append_own w hgd s x t ho base e i0 z sz by_ ht hi1 hz0 hz1 hz2 hz hsz v n xs hs hown ad m cap ys hx h3 ?_ h1 (by unfold maxLen;have:n+m≤(n+m)*by_:=Nat.le_mul_of_pos_right _ hby;omega) hlen hbase ?_
  ·intro j y hy
   have hp:0<m:=by
    have:=(List.getElem?_eq_some_iff.1 hy).1
    rcases Nat.eq_zero_or_pos m with h0 | h0
    ·rw [h0] at h3;omega
    ·exact h0
   obtain ⟨b,off,e',hc⟩:=h5 hp
   simp only [Option.some.injEq] at e'
   subst e'
   rw [addr_add]
   exact hc j y hy
  ·intro v' w' hown' hgrow _
   exact h v' w' hown' hgrow
def putR (l:List Rc) (a:Nat) (r:Rc):List Rc :=
 let m:=if a<l.length∧termAt l (a+1)≠r.term then l.take a else l
 if a=m.length then m++[r] else m
theorem merge_cons (l:List Rc) (a:Nat) (r:Rc) (rs:List Rc):merge l a (r::rs)=merge (putR l a r) (a+1) rs:=rfl
theorem merge_snoc:∀ (rs:List Rc) (l:List Rc) (a:Nat) (r:Rc),merge l a (rs++[r])=putR (merge l a rs) (a+rs.length) r
 | [],l,a,r=>rfl
 | x::rs,l,a,r=>by
  rw [List.cons_append,merge_cons,merge_cons,merge_snoc rs,List.length_cons]
  congr 1
  omega
theorem merge_take {l rs:List Rc} {a j:Nat} {r:Rc} (h:rs[j]?=some r):merge l a (rs.take (j+1))=putR (merge l a (rs.take j)) (a+j) r:=by
 rw [take_snoc h,merge_snoc,List.length_take]
 have:=(List.getElem?_eq_some_iff.1 h).1
 rw [Nat.min_eq_left (by omega)]
theorem Log.cut {W wr:World} {M M':Fz} {g n cap:Nat} {l:List Rc} {ls:List RV} (h:Log W wr M (.slice (some ⟨g,0,none⟩) n cap) l M' ls) {i:Nat} (hi:i≤ls.length):Log W wr M (.slice (some ⟨g,0,none⟩) i cap) (l.take i) M' (ls.take i) where
 le:=h.le
 inn:=h.inn
 row:=by
  obtain ⟨h1,⟨e,_⟩|⟨g',cap',cur,e,hb,hg,hnc,hcm,hcs,ht⟩⟩:=h.row
  ·cases e
  ·simp only [Value.slice.injEq,Option.some.injEq,Addr.mk.injEq,and_true] at e
   obtain ⟨rfl,rfl,rfl⟩:=e
   have hl:(ls.take i).length=i:=by rw [List.length_take];omega
   have hft:(ls.take i).flatMap recCells=(ls.flatMap recCells).take (i*3):=by
    have e1:ls.flatMap recCells=(ls.take i).flatMap recCells++(ls.drop i).flatMap recCells:=by rw [←List.flatMap_append,List.take_append_drop]
    have e2:((ls.take i).flatMap recCells).length=i*3:=by rw [flat_len recCells 3 recCells_len,hl]
    rw [e1,←e2]
    exact List.take_left.symm
   rw [hl]
   refine ⟨by rw [flat_len recCells 3 recCells_len,hl],.inr ⟨g,cap,cur,rfl,hb,hg,by omega,hcm,hcs,?_⟩⟩
   rw [hft,←ht,List.take_take,Nat.min_eq_left (by omega)]
 recs:=by rw [List.map_take,h.recs]
 data:=fun y hy=>h.data y (List.mem_of_mem_take hy)
 bel:=h.bel
 dom:=h.dom
theorem Log.cell {W wr:World} {M M':Fz} {g n cap:Nat} {l:List Rc} {ls:List RV} (h:Log W wr M (.slice (some ⟨g,0,none⟩) n cap) l M' ls) {i:Nat} {r:Rc} (hr:l[i]?=some r):wr.cell? ⟨g,i*3,none⟩=some (.int .i64 r.term):=by
 obtain ⟨h1,⟨e,_⟩|⟨g',cap',cur,e,hb,hg,hnc,hcm,hcs,ht⟩⟩:=h.row
 ·cases e
 ·simp only [Value.slice.injEq,Option.some.injEq,Addr.mk.injEq,and_true] at e
  obtain ⟨rfl,rfl,rfl⟩:=e
  rw [←h.recs,List.getElem?_map] at hr
  obtain ⟨y,hy,rfl⟩:=Option.map_eq_some_iff.1 hr
  have hlt:=(List.getElem?_eq_some_iff.1 hy).1
  refine cell_of hg ?_
  have e1:=flat_get recCells 3 recCells_len ls i 0 y hy (by decide)
  rw [←ht,List.getElem?_take_of_lt (by omega),Nat.add_zero] at e1
  simpa [recCells] using e1
theorem Log.len {W wr:World} {M M':Fz} {o:Option Addr} {n cap:Nat} {l:List Rc} {ls:List RV} (h:Log W wr M (.slice o n cap) l M' ls):n=l.length∧ls.length=l.length∧n≤cap∧cap≤maxLen:=by
 have e1:ls.length=l.length:=by rw [←h.recs,List.length_map]
 obtain ⟨h1,⟨e,e0⟩|⟨g',cap',cur,e,hb,hg,hnc,hcm,hcs,ht⟩⟩:=h.row
 ·simp only [Value.slice.injEq] at e
  obtain ⟨_,rfl,rfl⟩:=e
  exact ⟨by omega,e1,Nat.le_refl _,by simp [maxLen]⟩
 ·simp only [Value.slice.injEq] at e
  obtain ⟨_,rfl,rfl⟩:=e
  exact ⟨by omega,e1,by omega,hcm⟩
theorem Log.form {W wr:World} {M M':Fz} {o:Option Addr} {n cap:Nat} {l:List Rc} {ls:List RV} (h:Log W wr M (.slice o n cap) l M' ls) (hp:0<n):∃ g,o=some ⟨g,0,none⟩:=by
 obtain ⟨h1,⟨e,e0⟩|⟨g',cap',cur,e,hb,hg,hnc,hcm,hcs,ht⟩⟩:=h.row
 ·simp only [Value.slice.injEq] at e;omega
 ·simp only [Value.slice.injEq] at e;exact ⟨g',e.1⟩
theorem Log.below {W wr w1:World} {M M':Fz} {lv:Value} {l:List Rc} {ls:List RV} (h:Log W wr M lv l M' ls) (hb:Below wr.heap.size wr w1):Log W w1 M lv l M' ls :=
 ⟨h.le,h.inn.below hb,row_kept h.row (fun g hg=>hb.block g (row_lt h.row hg).2),h.recs,h.data,h.bel.trans (hb.mono h.bel.size),h.dom⟩
theorem Log.begin {W w1 w2:World} {M:Fz} {v2:Value} {us:List RV} (hI:In M W) (hd:∀ x∈us,BytesM M x.dv x.r.data∧x.r.data.length≤1000) (hb:Below W.heap.size W w2) (hO:w2.ownsRow W.heap.size 74 3 v2 us.length (us.flatMap recCells)):Log W w2 M v2 (us.map (·.r)) M us :=
 ⟨Le.refl M,hI.below hb,hO,rfl,hd,hb,fun b ob hb=>.inl hb⟩
end Go.Proofs.YtcfdmbkiinjmaaaGreat.slog
namespace Go.Proofs.YtcfdmbkiinjmaaaGreat.sap0
open Go.ChangeShapes Go.WideShapes Go.ChangeAt Go.RowKit
open Raft mem srun ssend sdown ssmall scopy srecs sapp ssame schos schosen scom sgrow sin sel stk slog
variable {F:Nat→Option Obj}
theorem fold_dn (W:World) (n:Nat):∃ W1,W.drewN n=W1∧Below W.heap.size W W1∧W1.heap.size=W.heap.size:=⟨_,rfl,below_drewN (Below.refl _ _) n,rfl⟩
structure St2 (F:Nat→Option Obj) (w:World) (M:Fz) (base d P pc:Nat) (mc bk:Array Value) (c:Cl) (us:List PV) (ns:List MV) (nv:Value) (cs:List RV) (cv:Value) (M':Fz) (wr:World):Prop where
 run:Run (TS F) wr M' base d P pc c us ns nv cs cv
 le:Le M M'
 bel:Below base w wr
 dom:∀ b,M' b≠none→M b≠none∨base≤b
 b0:wr.heap[w.heap.size]?=some (.cells mc 69 (0,0))
 b1:wr.heap[w.heap.size+1]?=some (.cells bk 69 (0,0))
 no:∀ b,Mine d P us cv b→b<w.heap.size∨w.heap.size+1<b
 fz:M' w.heap.size=none∧M' (w.heap.size+1)=none
 nf:∀ b o,F b=some o→b<w.heap.size
section
variable {w:World} {M:Fz} {base d P pc:Nat} {mc bk:Array Value} {c:Cl} {us:List PV} {ns:List MV} {nv:Value} {cs:List RV} {cv:Value} {M':Fz} {wr:World}
theorem St2.lt (h:St2 F w M base d P pc mc bk c us ns nv cs cv M' wr):w.heap.size+1<wr.heap.size:=(Array.getElem?_eq_some_iff.1 h.b1).1
theorem St2.low (h:St2 F w M base d P pc mc bk c us ns nv cs cv M' wr):base≤wr.heap.size:=scom.Run.base_le h.run
theorem St2.below (h:St2 F w M base d P pc mc bk c us ns nv cs cv M' wr) {wx:World} (hb:Below wr.heap.size wr wx):St2 F w M base d P pc mc bk c us ns nv cs cv M' wx :=
 ⟨h.run.below hb,h.le,h.bel.trans (hb.mono h.low),h.dom,kept hb h.b0 (Nat.le_refl _),kept hb h.b1 (Nat.le_refl _),h.no,h.fz,h.nf⟩
theorem St2.box (h:St2 F w M base d P pc mc bk c us ns nv cs cv M' wr) (j:Nat) (v:Value) (hw:base≤w.heap.size):St2 F w M base d P pc mc (bk.setIfInBounds j v) c us ns nv cs cv M' (wr.setCell ⟨w.heap.size+1,j,none⟩ v):=by
 have hne:∀ b,b≠w.heap.size+1→(wr.setCell ⟨w.heap.size+1,j,none⟩ v).heap[b]?=wr.heap[b]? := fun b hb=>Below.heap_setCell wr ⟨w.heap.size+1,j,none⟩ v b hb
 exact ⟨h.run.keep (Le.refl _) (h.run.inn.set h.fz.2 v) (fun b hb=>hne b (by rcases h.no b hb with g | g <;> omega)) h.run.free (fun b o e=>⟨(hne b (by have:=h.nf b o e;omega)).trans (h.run.far b o e).1,(h.run.far b o e).2.1⟩),h.le,h.bel.setCell (by show base≤w.heap.size+1;omega) v,h.dom,(hne _ (by omega)).trans h.b0,heap_setCell_same wr _ j bk 69 v h.b1,h.no,h.fz,h.nf⟩
theorem St2.peer (h:St2 F w M base d P pc mc bk c us ns nv cs cv M' wr) {k j:Nat} {x:PV} {v:Value} (p':Peer) (lv':Value) (hk:us[k]?=some x) (hj:j<9) (hc:peerCells { x with p:=p',lv:=lv' }=(peerCells x).set j v)
  (h1:RecsM M' lv' p'.log) (h2:p'.votes=x.p.votes) (h3:p'.next=x.p.next) (h4:p'.mat=x.p.mat) :
  St2 F w M base d P pc mc bk { c with peers:=c.peers.set k p' } (us.set k { x with p:=p',lv:=lv' }) ns nv cs cv M' (wr.setCell ⟨P,k*9+j,none⟩ v):=by
 have hx:x∈us:=List.mem_iff_getElem?.2 ⟨k,hk⟩
 have hPn:=h.no P (.inr (.inl rfl))
 have hne:∀ b,b≠P→(wr.setCell ⟨P,k*9+j,none⟩ v).heap[b]?=wr.heap[b]? := fun b hb=>Below.heap_setCell wr ⟨P,k*9+j,none⟩ v b hb
 refine ⟨h.run.setPeer hk hj hc h1 ?_ ?_ ?_ (fun i u b e1 _=>.inl e1),h.le,h.bel.setCell h.run.low.2 v,h.dom,(hne _ (by omega)).trans h.b0,(hne _ (by omega)).trans h.b1,fun b hb => ?_,h.fz,h.nf⟩
 ·show wr.ownsRow base 4 1 x.vv p'.votes.length _
  rw [h2];exact h.run.votes x hx
 ·show wr.ownsRow base 3 1 x.nv p'.next.length _
  rw [h3];exact h.run.next x hx
 ·show wr.ownsRow base 3 1 x.mv p'.mat.length _
  rw [h4];exact h.run.mat x hx
 ·rcases hb with hb | hb | hb | hb
  ·exact h.no b (.inl hb)
  ·exact h.no b (.inr (.inl hb))
  ·obtain ⟨k1,y,i,u,e1,e2,e3⟩:=hb
   by_cases e:k1=k
   ·subst e
    rw [List.getElem?_set_self (List.getElem?_eq_some_iff.1 hk).1] at e1
    obtain rfl:=Option.some.inj e1
    exact h.no b (.inr (.inr (.inl ⟨k1,x,i,u,hk,e2,e3⟩)))
   ·rw [List.getElem?_set_ne (Ne.symm e)] at e1
    exact h.no b (.inr (.inr (.inl ⟨k1,y,i,u,e1,e2,e3⟩)))
  ·exact h.no b (.inr (.inr (.inr hb)))
theorem St2.freeze (h:St2 F w M base d P pc mc bk c us ns nv cs cv M' wr) {wx:World} {M2:Fz} (hb:Below wr.heap.size wr wx) (hl:Le M' M2) (hI:In M2 wx) (hd:∀ b,M2 b≠none→M' b≠none∨wr.heap.size≤b):St2 F w M base d P pc mc bk c us ns nv cs cv M2 wx:=by
 have hf:∀ b,M' b=none→b<wr.heap.size→M2 b=none:=fun b e hlt=>by
  cases e2:M2 b with
  | none=>rfl
  | some o =>
   rcases hd b (by rw [e2];simp) with g | g
   ·exact absurd e g
   ·omega
 have hl2:=h.lt
 exact ⟨h.run.keep hl hI (fun b hm=>hb.block b (h.run.mine hm)) (fun b hm=>hf b (h.run.free b hm) (h.run.mine hm)) (fun b o e=>⟨(hb.block b (h.run.farL e)).trans (h.run.far b o e).1,hf b (h.run.far b o e).2.1 (h.run.farL e)⟩),h.le.trans hl,h.bel.trans (hb.mono h.low),fun b hb'=>(hd b hb').elim (h.dom b) (fun g=>.inr (by have:=h.low;omega)),kept hb h.b0 (Nat.le_refl _),kept hb h.b1 (Nat.le_refl _),h.no,⟨hf _ h.fz.1 (by omega),hf _ h.fz.2 (by omega)⟩,h.nf⟩
theorem St2.down (h:St2 F w M base d P pc mc bk c us ns nv cs cv M' wr) (k t:Nat) (x:PV) (hk:us[k]?=some x) :
  Calls Tryz.prog 55 #[.pointer (some ⟨d,0,none⟩),.int .i64 k,.int .i64 t] wr fun r w'=>r=.returned (.tuple #[])∧St2 F w M base d P pc mc bk (c.down k t) (us.set k (downV x t)) ns nv cs cv M' w':=by
 refine (down_any wr M' base d P pc c us ns nv cs cv h.run k t x hk).mono ?_
 rintro r w' ⟨rfl,h1,g⟩
 have hPn:=h.no P (.inr (.inl rfl))
 have hl:=h.lt
 have hP:base≤P:=h.run.low.2
 refine ⟨rfl,h1,h.le,h.bel.trans ⟨g.os,g.tape,g.output,g.size,fun b hb=>g.block b (by have:=h.low;omega) (fun e=>by simp only [Option.some.injEq] at e;omega)⟩,h.dom,?_,?_,fun b hb => ?_,h.fz,h.nf⟩
 ·exact (g.block _ (by omega) (fun e=>by simp only [Option.some.injEq] at e;omega)).trans h.b0
 ·exact (g.block _ (by omega) (fun e=>by simp only [Option.some.injEq] at e;omega)).trans h.b1
 ·rcases hb with hb | hb | hb | hb
  ·exact h.no b (.inl hb)
  ·exact h.no b (.inr (.inl hb))
  ·obtain ⟨k1,y,i,u,e1,e2,e3⟩:=hb
   by_cases e:k1=k
   ·subst e
    rw [List.getElem?_set_self (List.getElem?_eq_some_iff.1 hk).1] at e1
    obtain rfl:=Option.some.inj e1
    have:u=.slice none 0 0:=by
     rcases i with _ | _ | _ | i <;> simp [rows,downV,lowV] at e2 <;> exact e2.symm
    subst this
    simp [Value.ownBlock] at e3
   ·rw [List.getElem?_set_ne (Ne.symm e)] at e1
    exact h.no b (.inr (.inr (.inl ⟨k1,y,i,u,e1,e2,e3⟩)))
  ·exact h.no b (.inr (.inr (.inr hb)))
theorem St2.send (h:St2 F w M base d P pc mc bk c us ns nv cs cv M' wr) (m:Msg) (lo:Option Addr) (ln lc:Nat) (hlv:RecsM M' (.slice lo ln lc) m.log) :
  Calls Tryz.prog 38 #[.pointer (some ⟨d,0,none⟩),.agg #[.int .i64 m.kind,.int .i64 m.frm,.int .i64 m.to,.int .i64 m.term,.int .i64 m.a,.int .i64 m.b,.int .i64 m.c,.bool m.ok,.slice lo ln lc]] wr fun r w'=>r=.returned (.tuple #[])∧SD F w M base d P pc (c.send m) w':=by
 refine (send_any wr M' base d P pc c us ns nv cs cv h.run m lo ln lc hlv).mono ?_
 rintro r w' ⟨rfl,hs⟩
 exact ⟨rfl,SD.sent h.le h.bel h.run h.dom hs⟩
theorem St2.note (h:St2 F w M base d P pc mc bk c us ns nv cs cv M' wr) (k:Nat) (x:PV) (hk:us[k]?=some x) (hcm:x.p.commit≤x.p.log.length) (hlen:x.p.log.length≤1000) (hcl:c.chosen.length≤1000) :
  Calls Tryz.prog 61 #[.pointer (some ⟨d,0,none⟩),.int .i64 k] wr fun r w'=>r=.returned (.tuple #[])∧∃ M2 cs2 cv2,St2 F w M base d P pc mc bk (c.note k) us ns nv cs2 cv2 M2 w':=by
 refine (chosen_any wr M' base d P pc c us ns nv cs cv h.run k x hk hcm hlen hcl).mono ?_
 rintro r w' ⟨rfl,hn⟩
 obtain ⟨M3,us3,ns3,nv3,cs3,cv3,q1,q2,q3,q4⟩:=noted_sd h.run hk hcm hn
 obtain ⟨W,M2,cs2,cv2,hb,hr⟩:=hn
 have hl:=h.lt
 have hcd:∀ b,(b=w.heap.size∨b=w.heap.size+1)→w'.heap[b]?=wr.heap[b]? := fun b hbb=>by
  rw [hr.chg.block b (by have:=hb.size;omega) (by
   rintro (e | e | e)
   ·have:=h.no b (.inl e);omega
   ·have:=h.no b (.inr (.inr (.inr e)));omega
   ·omega)]
  exact hb.block b (by omega)
 have hf:∀ b,M' b=none→b<wr.heap.size→M2 b=none:=fun b e hlt=>by
  cases e2:M2 b with
  | none=>rfl
  | some o =>
   rcases hr.dom b (by rw [e2];simp) with g | g
   ·exact absurd e g
   ·omega
 have e:=note_eq c k
 rw [(sdown.Run.at h.run hk).1] at e
 rw [List.length_take,Nat.min_eq_left hcm] at e
 refine ⟨rfl,M2,cs2,cv2,by rw [e];exact hr.run,h.le.trans hr.le,h.bel.trans q2,fun b hb'=>(hr.dom b hb').elim (h.dom b) (fun g=>.inr (by have:=h.low;omega)),(hcd _ (.inl rfl)).trans h.b0,(hcd _ (.inr rfl)).trans h.b1,fun b hbb => ?_,⟨hf _ h.fz.1 (by omega),hf _ h.fz.2 (by omega)⟩,h.nf⟩
 rcases hbb with g | g | g | g
 ·exact h.no b (.inl g)
 ·exact h.no b (.inr (.inl g))
 ·exact h.no b (.inr (.inr (.inl g)))
 ·rcases hr.cvd b g with g | g
  ·exact h.no b (.inr (.inr (.inr g)))
  ·omega
end
end Go.Proofs.YtcfdmbkiinjmaaaGreat.sap0
namespace Go.Proofs.YtcfdmbkiinjmaaaGreat.note
open Raft
def noteN (l:List Rc):Nat→List Rc×Bool→List Rc×Bool
 | 0,s=>s
 | i+1,s =>
  let p:=noteN l i s
  match l[i]? with
  | none=>p
  | some r =>
   let ch:=if i=p.1.length then p.1++[r] else p.1
   (ch,p.2 || decide (ch[i]? ≠ some r))
theorem noteN_len (l:List Rc) (s:List Rc×Bool):∀ i,i≤l.length→s.1.length≤(noteN l i s).1.length∧i≤(noteN l i s).1.length
 | 0,_=>by simp [noteN]
 | i+1,h=>by
  obtain ⟨h1,h2⟩:=noteN_len l s i (by omega)
  rw [noteN,List.getElem?_eq_getElem (by omega)]
  simp only
  split
  ·simp;omega
  ·omega
theorem take_snoc {l:List Rc} {i:Nat} {r:Rc} (h:l[i]?=some r):l.take (i+1)=l.take i++[r]:=by
 have hlt:=(List.getElem?_eq_some_iff.1 h).1
 rw [List.take_succ_eq_append_getElem hlt]
 congr 2
 have:=List.getElem?_eq_getElem hlt
 rw [h] at this
 exact (Option.some.inj this).symm
theorem noteN_eq (l:List Rc) (ch:List Rc) (b:Bool):∀ i,i≤l.length→noteN l i (ch,b)=(ch++(l.take i).drop ch.length,b || decide ((l.take i).take ch.length≠ch.take i))
 | 0,_=>by simp [noteN]
 | i+1,h=>by
  obtain ⟨r,hr⟩:∃ r,l[i]?=some r:=⟨_,List.getElem?_eq_getElem (by omega)⟩
  have hl:(l.take i).length=i:=by rw [List.length_take];omega
  rw [noteN,noteN_eq l ch b i (by omega),hr]
  simp only
  by_cases hi:i<ch.length
  ·have e1:(l.take i).drop ch.length=[]:=List.drop_eq_nil_of_le (by omega)
   have e2:(l.take (i+1)).drop ch.length=[]:=List.drop_eq_nil_of_le (by rw [List.length_take];omega)
   have e3:(l.take i).take ch.length=l.take i:=List.take_of_length_le (by omega)
   have e4:(l.take (i+1)).take ch.length=l.take (i+1):=List.take_of_length_le (by rw [List.length_take];omega)
   obtain ⟨x,hx⟩:∃ x,ch[i]?=some x:=⟨_,List.getElem?_eq_getElem hi⟩
   rw [e1,e2,e3,e4,List.append_nil,if_neg (by omega),take_snoc hr,take_snoc hx,hx]
   simp only [Prod.mk.injEq,true_and,Bool.or_assoc]
   congr 1
   by_cases h1:l.take i=ch.take i
   ·rw [h1]
    by_cases h2:x=r
    ·subst h2;simp
    ·have h3:¬ (ch.take i++[r]=ch.take i++[x]):=fun e=>h2 (by simpa using (List.append_cancel_left e).symm)
     simp [h2,h3]
   ·have h3:¬ (l.take i++[r]=ch.take i++[x]):=fun e=>h1 (List.append_inj_left e (by rw [hl,List.length_take];omega))
    simp [h1,h3]
  ·have e0:(ch++(l.take i).drop ch.length).length=i:=by simp;omega
   have e1:(l.take (i+1)).drop ch.length=(l.take i).drop ch.length++[r]:=by
    rw [take_snoc hr,List.drop_append_of_le_length (by omega)]
   have e2:(l.take (i+1)).take ch.length=(l.take i).take ch.length:=by
    rw [take_snoc hr,List.take_append_of_le_length (by omega)]
   have e3:ch.take (i+1)=ch.take i:=by rw [List.take_of_length_le (by omega),List.take_of_length_le (by omega)]
   have e4:(ch++((l.take i).drop ch.length)++[r])[i]?=some r:=by
    rw [List.getElem?_append_right (by omega),e0,Nat.sub_self];rfl
   rw [if_pos e0.symm,e1,e2,e3,e4,←List.append_assoc]
   simp
theorem note_eq (c:Cl) (k:Nat):c.note k={ c with chosen:=(noteN ((c.at k).log.take (c.at k).commit) ((c.at k).log.take (c.at k).commit).length (c.chosen,c.conflict)).1,conflict:=(noteN ((c.at k).log.take (c.at k).commit) ((c.at k).log.take (c.at k).commit).length (c.chosen,c.conflict)).2 }:=by
 rw [noteN_eq _ _ _ _ (Nat.le_refl _)]
 unfold Cl.note
 simp only [List.take_length]
theorem noteN_new {l:List Rc} {s:List Rc×Bool} {i:Nat} {r:Rc} (hr:l[i]?=some r) (hi:i=(noteN l i s).1.length):noteN l (i+1) s=((noteN l i s).1++[r],(noteN l i s).2):=by
 rw [noteN,hr]
 simp only
 rw [if_pos hi]
 have e:((noteN l i s).1++[r])[i]?=some r:=by rw [List.getElem?_append_right (by omega),←hi,Nat.sub_self];rfl
 rw [e]
 simp
theorem noteN_old {l:List Rc} {s:List Rc×Bool} {i:Nat} {r z:Rc} (hr:l[i]?=some r) (hi:i≠(noteN l i s).1.length) (hz:(noteN l i s).1[i]?=some z):noteN l (i+1) s=((noteN l i s).1,(noteN l i s).2 || !decide (z=r)):=by
 rw [noteN,hr]
 simp only
 rw [if_neg hi,hz]
 simp
end Go.Proofs.YtcfdmbkiinjmaaaGreat.note
namespace Go.Proofs.YtcfdmbkiinjmaaaGreat.same
open Go.ChangeShapes Go.WideShapes Go.ChangeAt Go.RowKit
open Raft mem grp
def strOf (ys:List Int):ByteArray:=⟨(ys.map fun y=>UInt8.ofNat y.toNat).toArray⟩
theorem run_str {M:Fz} {w:World} (hI:In M w) {u:Value} {ys:List Int} (h:BytesM M u ys):(convert 42 9 u).run Tryz.prog w=.ok (.string (strOf ys)) w:=by
 obtain ⟨⟨ao,cap,rfl,h1,h2,h3,h4,h5⟩,hbd⟩:=h
 cases ao with
 | none =>
  obtain ⟨e1,e2⟩:=h4 rfl
  have hys:ys=[]:=List.length_eq_zero_iff.1 e1
  subst hys
  exact Lib.run_convert_nil_bytes w 42 9 5 cap Tryz.underlying42 Tryz.underlying5 Tryz.underlying9
 | some ad =>
  have hl:(ys.map fun y=>UInt8.ofNat y.toNat).length=ys.length:=by simp
  have:=run_convert_bytes_back (P:=Tryz.prog) w 42 9 5 ad cap (ys.map fun y=>UInt8.ofNat y.toNat) Tryz.underlying42 Tryz.underlying5 Tryz.underlying9 (fun j hj=>by
   rw [hl] at hj
   obtain ⟨b,off,e,hc⟩:=h5 (by omega)
   simp only [Option.some.injEq] at e
   subst e
   have hb:=hbd _ (List.getElem_mem hj)
   rw [addr_add,hI.cell (hc j (.int .u8 ys[j]) (by simp [hj]))]
   have hmod:(UInt8.ofNat (ys[j]).toNat).toNat=(ys[j]).toNat:=by
    simp
    omega
   simp only [List.getElem_map,hmod]
   congr 2
   omega)
  rw [hl] at this
  exact this
theorem byte_inj {a b:Int} (ha:0≤a∧a≤255) (hb:0≤b∧b≤255) (h:UInt8.ofNat a.toNat=UInt8.ofNat b.toNat):a=b:=by
 have:=congrArg UInt8.toNat h
 simp at this
 omega
theorem map_inj:∀ (xs ys:List Int),(∀ x∈xs,0≤x∧x≤255)→(∀ y∈ys,0≤y∧y≤255)→xs.map (fun x=>UInt8.ofNat x.toNat)=ys.map (fun x=>UInt8.ofNat x.toNat)→xs=ys
 | [],[],_,_,_=>rfl
 | [],y::ys,_,_,h=>by simp at h
 | x::xs,[],_,_,h=>by simp at h
 | x::xs,y::ys,hx,hy,h=>by
  simp only [List.map_cons,List.cons.injEq] at h
  rw [byte_inj (hx x (by simp)) (hy y (by simp)) h.1,map_inj xs ys (fun z hz=>hx z (by simp [hz])) (fun z hz=>hy z (by simp [hz])) h.2]
theorem str_eq {xs ys:List Int} (hx:∀ x∈xs,0≤x∧x≤255) (hy:∀ y∈ys,0≤y∧y≤255):((strOf xs).toList == (strOf ys).toList)=decide (xs=ys):=by
 by_cases h:xs=ys
 ·subst h;simp
 ·have:(strOf xs).toList≠(strOf ys).toList:=fun e=>h (map_inj xs ys hx hy (by
   have e2:(strOf xs)=(strOf ys):=by
    have h3:=congrArg (fun l:List UInt8=>(⟨l.toArray⟩:ByteArray)) e
    simpa [strOf] using h3
   have h4:=congrArg (fun a:ByteArray=>a.data.toList) e2
   simpa [strOf] using h4))
  rw [decide_eq_false h]
  exact beq_eq_false_iff_ne.2 this
set_option maxHeartbeats 800000 in
theorem equal_any (w:World) (M:Fz) (hI:In M w) (xs ys:List Int) (o o2:Option Addr) (n c n2 c2:Nat) (h1:BytesM M (.slice o n c) xs) (h2:BytesM M (.slice o2 n2 c2) ys) :
  Calls Tryz.prog 107 #[.slice o n c,.slice o2 n2 c2] w fun e w'=>e=.returned (.bool (decide (xs=ys)))∧w'=w:=by
 have hs1:=run_str hI h1
 have hs2:=run_str hI h2
 have HSE:=hide (str_eq h1.2 h2.2)
 clear hI h1 h2
 obtain ⟨s1,hs1e⟩:∃ s,s=strOf xs:=⟨_,rfl⟩
 obtain ⟨s2,hs2e⟩:∃ s,s=strOf ys:=⟨_,rfl⟩
 rw [←hs1e] at hs1 HSE
 rw [←hs2e] at hs2 HSE
 clear hs1e hs2e
 rw [show decide (xs=ys)=(s1.toList == s2.toList) from HSE.out.symm]
 clear HSE
 go_enter Tryz.func107,Tryz.ntmps107
 go_wp2
 go_ret
 exact ⟨rfl,rfl⟩
set_option maxHeartbeats 1600000 in
theorem same_core (w:World) (M:Fz) (hI:In M w) (t i t2 i2:Nat) (xs ys:List Int) (o o2:Option Addr) (n c n2 c2:Nat) (h1:BytesM M (.slice o n c) xs) (h2:BytesM M (.slice o2 n2 c2) ys) :
  Calls Tryz.prog 103 #[.agg #[.int .i64 t,.int .i64 i,.slice o n c],.agg #[.int .i64 t2,.int .i64 i2,.slice o2 n2 c2]] w fun e w'=>e=.returned (.bool (decide (t=t2) && (decide (i=i2) && decide (xs=ys))))∧Below w.heap.size w w':=by
 have bW:Below w.heap.size w ((w.alloc (.cells #[.int .i64 t,.int .i64 i,.slice o n c] 74)).alloc (.cells #[.int .i64 t2,.int .i64 i2,.slice o2 n2 c2] 74)):=by
  have h:=(Below.refl w.heap.size w).alloc (Nat.le_refl _) (.cells #[.int .i64 t,.int .i64 i,.slice o n c] 74)
  exact h.alloc h.size _
 have HB:=hide bW
 have HQ:Hid (Calls Tryz.prog 107 #[.slice o n c,.slice o2 n2 c2] ((w.alloc (.cells #[.int .i64 t,.int .i64 i,.slice o n c] 74)).alloc (.cells #[.int .i64 t2,.int .i64 i2,.slice o2 n2 c2] 74)) fun e w'=>e=.returned (.bool (decide (xs=ys)))∧w'=((w.alloc (.cells #[.int .i64 t,.int .i64 i,.slice o n c] 74)).alloc (.cells #[.int .i64 t2,.int .i64 i2,.slice o2 n2 c2] 74))):=equal_any _ M (hI.below bW) xs ys o o2 n c n2 c2 h1 h2
 clear bW hI h1 h2
 by_cases ht:t=t2
 ·subst ht
  by_cases hi:i=i2
  ·subst hi
   rw [show (decide (t=t) && (decide (i=i) && decide (xs=ys)))=decide (xs=ys) from by simp]
   go_enter Tryz.func103,Tryz.ntmps103
   go_wp2_with (go_at_call 107;refine HQ.out.mono ?_;rintro e w' ⟨rfl,hw'⟩;subst hw')
   go_ret
   exact ⟨rfl,HB.out⟩
  ·have hi':((i:Int) == i2)=false:=by simp;omega
   rw [show (decide (t=t) && (decide (i=i2) && decide (xs=ys)))=false from by simp [hi]]
   clear hi
   go_enter Tryz.func103,Tryz.ntmps103
   go_wp2
   go_ret
   exact ⟨rfl,HB.out⟩
 ·have ht':((t:Int) == t2)=false:=by simp;omega
  rw [show (decide (t=t2) && (decide (i=i2) && decide (xs=ys)))=false from by simp [ht]]
  clear ht
  go_enter Tryz.func103,Tryz.ntmps103
  go_wp2
  go_ret
  exact ⟨rfl,HB.out⟩
theorem same_any (w:World) (M:Fz) (hI:In M w) (r r2:Rc) (o o2:Option Addr) (n c n2 c2:Nat) (h1:BytesM M (.slice o n c) r.data) (h2:BytesM M (.slice o2 n2 c2) r2.data) :
  Calls Tryz.prog 103 #[.agg #[.int .i64 r.term,.int .i64 r.index,.slice o n c],.agg #[.int .i64 r2.term,.int .i64 r2.index,.slice o2 n2 c2]] w fun e w'=>e=.returned (.bool (decide (r=r2)))∧Below w.heap.size w w':=by
 have e:decide (r=r2)=(decide (r.term=r2.term) && (decide (r.index=r2.index) && decide (r.data=r2.data))):=by
  cases r;cases r2
  simp [Bool.decide_and]
 rw [e]
 exact same_core w M hI r.term r.index r2.term r2.index r.data r2.data o o2 n c n2 c2 h1 h2
end Go.Proofs.YtcfdmbkiinjmaaaGreat.same
namespace Go.Proofs.YtcfdmbkiinjmaaaGreat.lookb
open Go.ChangeShapes Go.WideShapes Go.ChangeAt Go.RowKit
open Raft mem grp YtcfdmbkiinjmaaaGreat.look ndw grant post postb note same clone
section
variable {w:World} {M:Fz} {O:Lb} {d hd:Nat} {nb:List Nat} {c:Cl} {pv cv:Value} {bs:List Nat} {us:List MV} {cs:List RV}
theorem Gr.choose (h:Gr w M O d hd nb c pv cv bs us cs) {W w2:World} (hW:Below w.heap.size w W) {g n cap:Nat} {y:RV} (hy:BytesM M y.dv y.r.data∧y.r.data.length≤1000)
  (hO:w2.ownsRow 0 74 3 (.slice (some ⟨g,0,none⟩) n cap) (cs.length+1) (cs.flatMap recCells++recCells y)) (hG:W.grownBy w2 cv.ownBlock) (hg:cv.ownBlock=some g∨g=W.heap.size) :
  ∃ O',Aft (fun l=>l<3) M O w M O' (w2.setCell ⟨d,3,none⟩ (.slice (some ⟨g,0,none⟩) n cap))∧Gr (w2.setCell ⟨d,3,none⟩ (.slice (some ⟨g,0,none⟩) n cap)) M O' d hd nb { c with chosen:=c.chosen++[y.r] } pv (.slice (some ⟨g,0,none⟩) n cap) bs us (cs++[y]):=by
 have hsz:=hW.size
 have hdl:=Gr.lt h
 have a1:Aft (fun l=>l<3) M O w M O W:=(Aft.refl _ h.st).below hW
 have a2:Aft (fun l=>l<3) M O w M O w2:=a1.grown hG (fun b hb=>⟨1,h.chos.lab b hb,by decide⟩)
 have hgl:g<w2.heap.size:=(row_lt hO rfl).2
 obtain ⟨O',a3,hOg,hOx⟩:∃ O',Aft (fun l=>l<3) M O w M O' w2∧O' g=some 1∧∀ x l,O x=some l→O' x=some l:=by
  rcases hg with hg | hg
  ·exact ⟨O,a2,h.chos.lab g hg,fun _ _ hx=>hx⟩
  ·refine ⟨lab O g 1,a2.label (by omega) hgl (h.st.inn.fresh (by omega)) (by decide),lab_at _ _ _,fun x l hx => ?_⟩
   rw [lab_ne O 1 (by have:=(h.st.ok x l hx).2;omega)];exact hx
 have a4:=a3.set (b:=d) (l:=0) (hOx d 0 h.own) (by decide) 3 (.slice (some ⟨g,0,none⟩) n cap)
 have hgd:g≠d:=fun e=>by rw [e,hOx d 0 h.own] at hOg;cases hOg
 have hdc:cv.ownBlock≠some d:=fun e=>by have:=h.chos.lab d e;rw [h.own] at this;cases this
 have hd2:w2.heap[d]?=some (.cells #[.pointer (some ⟨hd,0,none⟩),.int .i64 us.length,pv,cv,.bool c.conflict] 84 (0,0)):=((hG.block d (by omega) (fun e=>hdc e.symm)).trans (hW.block d hdl)).trans h.blk
 refine ⟨O',a4,h.part (c':={ c with chosen:=c.chosen++[y.r] }) a4 rfl (set_at hd2 3 _ rfl) ?_ h.nets ⟨?_,fun g' hg' => ?_,fun x hx => ?_⟩ ?_⟩
 ·refine h.post.keep (fun x hx => ?_) (Le.refl _) (fun x hx=>hOx x 2 hx)
  rw [Below.heap_setCell _ _ _ x (fun e=>by have e:x=d:=e;rw [e,h.own] at hx;cases hx)]
  exact (hG.block x (by have:=(h.st.ok x 2 hx).2;omega) (fun e=>by have:=h.chos.lab x e.symm;rw [hx] at this;cases this)).trans (hW.block x (h.st.ok x 2 hx).2)
 ·have h1:w2.ownsRow 0 74 3 (.slice (some ⟨g,0,none⟩) n cap) (cs++[y]).length ((cs++[y]).flatMap recCells):=by simpa using hO
  exact row_kept h1 fun g' hg'=>Below.heap_setCell _ _ _ g' (by
   simp only [Value.ownBlock,Option.some.injEq] at hg'
   show g'≠d
   omega)
 ·simp only [Value.ownBlock,Option.some.injEq] at hg'
  subst hg';exact hOg
 ·rcases List.mem_append.1 hx with hx | hx
  ·exact h.chos.data x hx
  ·simp only [List.mem_singleton] at hx
   subst hx;exact hy
 ·rw [List.map_append,h.chosen];rfl
theorem Gr.clash (h:Gr w M O d hd nb c pv cv bs us cs):Gr (w.setCell ⟨d,4,none⟩ (.bool true)) M O d hd nb { c with conflict:=true } pv cv bs us cs∧Aft (fun l=>l<3) M O w M O (w.setCell ⟨d,4,none⟩ (.bool true)):=by
 have a:=(Aft.refl (fun l=>l<3) h.st).set (b:=d) (l:=0) h.own (by decide) 4 (.bool true)
 refine ⟨h.part (c':={ c with conflict:=true }) a rfl (set_at h.blk 4 _ rfl) ?_ h.nets ?_ h.chosen,a⟩
 ·exact h.post.keep (fun x hx=>Below.heap_setCell _ _ _ x (fun e=>by have e:x=d:=e;rw [e,h.own] at hx;cases hx)) (Le.refl _) (fun _ hx=>hx)
 ·exact h.chos.keep (fun x hx=>Below.heap_setCell _ _ _ x (fun e=>by have e:x=d:=e;rw [e,h.own] at hx;cases hx)) (Le.refl _) (fun _ hx=>hx)
theorem Gr.chosenCell (h:Gr w M O d hd nb c pv cv bs us cs) {i:Nat} {y:RV} (hy:cs[i]?=some y):∃ g cap o n lc,cv=.slice (some ⟨g,0,none⟩) cs.length cap∧cap≤maxLen∧cs.length≤cap∧w.cell? ⟨g,i*3,none⟩=some (.int .i64 y.r.term)∧w.cell? ⟨g,i*3+1,none⟩=some (.int .i64 y.r.index)∧w.cell? ⟨g,i*3+2,none⟩=some (.slice o n lc)∧BytesM M (.slice o n lc) y.r.data:=by
 have hlt:=(List.getElem?_eq_some_iff.1 hy).1
 obtain ⟨g,cap,e,h1,h2,h3,h4⟩:=own_at h.chos.row (by omega)
 have hf:=fun j hj=>flat_get recCells 3 recCells_len cs i j y hy hj
 obtain ⟨q1,q2⟩:=h.chos.data y (List.mem_iff_getElem?.2 ⟨i,hy⟩)
 obtain ⟨⟨ao,cp,e2,_⟩,_⟩:=id q1
 refine ⟨g,cap,ao,_,cp,e,h2,h1,?_,?_,?_,by rw [←e2];exact q1⟩
 ·have:=h3 (i*3+0) (.int .i64 y.r.term) (by rw [hf 0 (by decide)];rfl)
  simpa using this
 ·exact h3 (i*3+1) (.int .i64 y.r.index) (by rw [hf 1 (by decide)];rfl)
 ·rw [←e2];exact h3 (i*3+2) y.dv (by rw [hf 2 (by decide)];rfl)
end
def LDid (M:Fz) (O:Lb) (w:World) (d:Nat) (nb:List Nat) (c':Cl) (w':World):Prop:=∃ M' O',Aft (fun l=>l<3) M O w M' O' w'∧G w' M' O' d nb c'
end Go.Proofs.YtcfdmbkiinjmaaaGreat.lookb
namespace Go.Proofs.YtcfdmbkiinjmaaaGreat.lookc
open Go.ChangeShapes Go.WideShapes Go.ChangeAt Go.RowKit
open Raft mem grp YtcfdmbkiinjmaaaGreat.look ndw grant post postb note same clone lookb
def cn (c:Cl) (l:List Rc) (i:Nat):Cl:={ c with chosen:=(noteN l i (c.chosen,c.conflict)).1,conflict:=(noteN l i (c.chosen,c.conflict)).2 }
theorem at_of {w w':World} {a:Addr} {v:Value} (h:Below w.heap.size w w') (hc:w.cell? a=some v):w'.cell? a=some v:=by
 rw [World.cell?_of_block (h.block _ (World.block_lt_of_cell? w a hc))]
 exact hc
theorem log_far {w:World} {M:Fz} {O:Lb} {b k:Nat} {p:Peer} {us:List RV} {lo:Option Addr} {lc:Nat} {vv nv mv:Value} (st:Sta M O w) (h:Nd w M O b k p us (.slice lo p.log.length lc) vv nv mv) {i:Nat} {r:Rc} (hi:p.log[i]?=some r) :
  ∃ g o n c,lo=some ⟨g,0,none⟩∧∀ wr M' O',Aft (fun l=>l<3) M O w M' O' wr→(wr.cell? ⟨g,i*3,none⟩=some (.int .i64 r.term)∧wr.cell? ⟨g,i*3+1,none⟩=some (.int .i64 r.index)∧wr.cell? ⟨g,i*3+2,none⟩=some (.slice o n c))∧BytesM M' (.slice o n c) r.data∧r.data.length≤1000:=by
 obtain ⟨g,cap,o,n,c,e,_,_,q0,q1,q2,q3,q4⟩:=Nd.logc h hi
 simp only [Value.slice.injEq] at e
 refine ⟨g,o,n,c,e.1,fun wr M' O' a => ?_⟩
 have hg:O g=some (3+k):=h.lab (.slice lo p.log.length lc) (by simp) g (by rw [e.1];rfl)
 have hk:=keep_of st a (by omega) g hg
 refine ⟨⟨?_,?_,?_⟩,q3.le a.le,q4⟩
 ·rw [World.cell?_of_block (a:=⟨g,i*3,none⟩) hk];exact q0
 ·rw [World.cell?_of_block (a:=⟨g,i*3+1,none⟩) hk];exact q1
 ·rw [World.cell?_of_block (a:=⟨g,i*3+2,none⟩) hk];exact q2
set_option maxRecDepth 20000 in
set_option maxHeartbeats 8000000 in
theorem look_any (w:World) (M:Fz) (O:Lb) (d:Nat) (nb:List Nat) (c:Cl) (h:G w M O d nb c) (k b:Nat) (hb:nb[k]?=some b) (hcm:(c.at k).commit≤(c.at k).log.length) (hl:(c.at k).log.length≤1000) (hch:c.chosen.length≤1000) :
  Calls Tryz.prog 94 #[.pointer (some ⟨d,0,none⟩),.pointer (some ⟨b,0,none⟩)] w fun r w'=>r=.returned (.tuple #[])∧LDid M O w d nb (c.note k) w':=by
 have st:=h.sta
 obtain ⟨us,lv,vv,nv,mv,hn⟩:=h.at hb
 obtain ⟨lo,lc,vo,vc,no,nc,mo,mc,rfl,rfl,rfl,rfl,hlc1,hlc2⟩:=Nd.sl hn
 obtain ⟨⟨_,_,c2,_,_,c5,_⟩,_⟩:=Nd.cs hn
 obtain ⟨C,hC⟩:∃ C,C=(c.at k).commit:=⟨_,rfl⟩
 obtain ⟨L,hL⟩:∃ L,L=(c.at k).log.length:=⟨_,rfl⟩
 obtain ⟨l,hll⟩:∃ l,l=(c.at k).log.take C:=⟨_,rfl⟩
 have hlC:l.length=C:=by rw [hll,List.length_take];omega
 have HNt:Hid (c.note k=cn c l C):=by
  unfold Hid
  rw [note_eq,←hC,←hll,hlC]
  rfl
 have HCell:Hid (∀ i,i<C→∃ g r o n c',lo=some ⟨g,0,none⟩∧l[i]?=some r∧∀ wr M' O',Aft (fun l=>l<3) M O w M' O' wr→(wr.cell? ⟨g,i*3,none⟩=some (.int .i64 r.term)∧wr.cell? ⟨g,i*3+1,none⟩=some (.int .i64 r.index)∧wr.cell? ⟨g,i*3+2,none⟩=some (.slice o n c'))∧BytesM M' (.slice o n c') r.data∧r.data.length≤1000):=fun i hi=>by
  obtain ⟨r,hr⟩:∃ r,(c.at k).log[i]?=some r:=⟨_,List.getElem?_eq_getElem (by omega)⟩
  obtain ⟨g,o,n,c',e,hf⟩:=log_far st hn hr
  exact ⟨g,r,o,n,c',e,by rw [hll,List.getElem?_take_of_lt hi];exact hr,hf⟩
 have H0:Hid (LDid M O w d nb (cn c l 0) w):=⟨M,O,Aft.refl _ st,h⟩
 have hCI:(C:Int)≤L:=by omega
 have hL1:L≤1000:=by omega
 have HCh:Hid (l.length=C∧c.chosen.length≤1000):=⟨hlC,hch⟩
 rw [HNt.out]
 rw [←hC] at c5
 rw [←hL] at c2
 have hlcI:L≤lc:=by omega
 clear hn h st hcm hl hlC hll hL hC hlc1 HNt
 go_enter Tryz.func94,Tryz.ntmps94
 go_wp2
 go_quiet (fail)
 go_wp2
 have H0':Hid (LDid M O w d nb (cn c l 0) (w.drewN nq)):=by
  obtain ⟨M',O',a,g⟩:=H0.out
  exact ⟨M',O',a.below (drewN_below w nq),g.below (drewN_below w nq)⟩
 clear H0
 go_loopw [17] (fun iv wr=>∃ i:Nat,i≤C∧iv=.int .i64 i∧Hid (LDid M O w d nb (cn c l i) wr)) (fun iv _=>C-(intOf iv).toNat)
 case atStart=>exact ⟨0,Nat.zero_le _,rfl,H0'⟩
 case round =>
  obtain ⟨i,hi,rfl,HI⟩:=hrel
  by_cases hlt:i<C
  ·have hltI:(i:Int)<C:=by omega
   obtain ⟨g,r,ro,rn,rc,rfl,hr,hfar⟩:=HCell.out i hlt
   obtain ⟨M1,O1,a1,hd1,pv,cv,bs,us1,cs1,h1⟩:=HI.out
   obtain ⟨⟨q0,q1,q2⟩,qb,qd⟩:=hfar wr M1 O1 a1
   obtain ⟨co,cc,ecv⟩:=own_slice h1.chos.row
   subst ecv
   obtain ⟨W1,hW1⟩:∃ W1,wr.alloc (.cells #[.int .i64 r.term,.int .i64 r.index,.slice ro rn rc] 74)=W1:=⟨_,rfl⟩
   have b1:Below wr.heap.size wr W1:=by rw [←hW1];exact more (Below.refl _ _) _
   have hbox:W1.heap[wr.heap.size]?=some (.cells #[.int .i64 r.term,.int .i64 r.index,.slice ro rn rc] 74 (0,0)):=by rw [←hW1];exact heap_alloc_new wr _
   have hG1:Gr W1 M1 O1 d hd1 nb (cn c l i) pv (.slice co cs1.length cc) bs us1 cs1:=h1.keep ((Aft.refl _ h1.st).below b1)
   obtain ⟨⟨_,_,_,d3,d4⟩,⟨_,_,_,f3,f4⟩⟩:=Gr.ca hG1
   have hlen1:cs1.length=(noteN l i (c.chosen,c.conflict)).1.length:=by
    have:=congrArg List.length h1.chosen
    simpa [cn] using this
   have hnl:=(noteN_len l (c.chosen,c.conflict) i (by have:=HCh.out.1;omega)).2
   have hcsb:cs1.length≤3000:=by
    have e9:=noteN_eq l c.chosen c.conflict i (by have:=HCh.out.1;omega)
    rw [hlen1,e9]
    have:=HCh.out
    simp
    omega
   have hcap:=(own_cap h1.chos.row).2.2
   unfold maxLen at hcap
   have hdlt:=Gr.lt h1
   have hdne:¬ (d=wr.heap.size):=by omega
   have hdne2:¬ (wr.heap.size=d):=by omega
   by_cases hq:i=cs1.length
   ·obtain ⟨i0,hii,hz0,hz1,hz2⟩:=info_parts info35
    have HI3:Hid (Tryz.prog.info? 74=some i0∧i0.zero=some (.agg #[.int .i64 0,.int .i64 0,.slice none 0 0])∧i0.size=3∧i0.bytes=40):=⟨hii,hz0,hz1,hz2⟩
    have s0:=cell_of (i:=0) hbox (v:=.int .i64 r.term) rfl
    have s1:=cell_of (i:=1) hbox (v:=.int .i64 r.index) rfl
    have s2:=cell_of (i:=2) hbox (v:=.slice ro rn rc) rfl
    have s0a:∀ ob,(W1.alloc ob).cell? ⟨wr.heap.size,0,none⟩=some (.int .i64 r.term):=fun ob=>at_of (more (Below.refl _ _) ob) s0
    have s1a:∀ ob,(W1.alloc ob).cell? ⟨wr.heap.size,1,none⟩=some (.int .i64 r.index):=fun ob=>at_of (more (Below.refl _ _) ob) s1
    have s2a:∀ ob,(W1.alloc ob).cell? ⟨wr.heap.size,2,none⟩=some (.slice ro rn rc):=fun ob=>at_of (more (Below.refl _ _) ob) s2
    have d3a:∀ ob,(W1.alloc ob).cell? ⟨d,3,none⟩=some (.slice co cs1.length cc):=fun ob=>at_of (more (Below.refl _ _) ob) d3
    have HRow:Hid (((W1.alloc (.cells #[.int .i64 r.term,.int .i64 r.index,.slice ro rn rc] 74)).drew).ownsRow 0 74 3 (.slice co cs1.length cc) cs1.length (cs1.flatMap recCells)):=row_kept hG1.chos.row fun g' hg'=>(more (Below.refl _ _) (.cells #[.int .i64 r.term,.int .i64 r.index,.slice ro rn rc] 74)).block g' (row_lt hG1.chos.row hg').2
    have HNw:Hid (∀ (j:Nat) (u:Value),([.int .i64 r.term,.int .i64 r.index,.slice ro rn rc]:List Value)[j]?=some u→((W1.alloc (.cells #[.int .i64 r.term,.int .i64 r.index,.slice ro rn rc] 74)).drew).cell? ((⟨W1.heap.size,0,none⟩:Addr).add j)=some u):=fun j u hu=>by
     rw [addr_add,Nat.zero_add]
     have h7:(W1.alloc (.cells #[.int .i64 r.term,.int .i64 r.index,.slice ro rn rc] 74)).cell? ⟨W1.heap.size,j,none⟩=some u:=cell_of (heap_alloc_new W1 _) (by simpa using hu)
     exact h7
    have HD:Hid (∀ (w2:World),((W1.alloc (.cells #[.int .i64 r.term,.int .i64 r.index,.slice ro rn rc] 74)).drew).grownBy w2 (Value.slice co cs1.length cc).ownBlock→w2.heap[d]?=W1.heap[d]?):=fun w2 hg=>(hg.block d (by have:=b1.size;have:=(more (Below.refl _ W1) (.cells #[.int .i64 r.term,.int .i64 r.index,.slice ro rn rc] 74)).size;have e7:((W1.alloc (.cells #[.int .i64 r.term,.int .i64 r.index,.slice ro rn rc] 74)).drew).heap.size=(W1.alloc (.cells #[.int .i64 r.term,.int .i64 r.index,.slice ro rn rc] 74)).heap.size:=rfl;omega) (fun e=>by have:=h1.chos.lab d e.symm;rw [h1.own] at this;cases this)).trans ((more (Below.refl _ _) (.cells #[.int .i64 r.term,.int .i64 r.index,.slice ro rn rc] 74)).block d (by have:=b1.size;omega))
    have HDb:=hide hG1.blk
    have HFin:Hid (∀ (w2:World) (g2 n2 cap2:Nat),((W1.alloc (.cells #[.int .i64 r.term,.int .i64 r.index,.slice ro rn rc] 74)).drew).grownBy w2 (Value.slice co cs1.length cc).ownBlock→w2.ownsRow 0 74 3 (.slice (some ⟨g2,0,none⟩) n2 cap2) (cs1.length+1) (cs1.flatMap recCells++[.int .i64 r.term,.int .i64 r.index,.slice ro rn rc])→((Value.slice co cs1.length cc).ownBlock=some g2∨g2=((W1.alloc (.cells #[.int .i64 r.term,.int .i64 r.index,.slice ro rn rc] 74)).drew).heap.size)→LDid M O w d nb (cn c l (i+1)) (w2.setCell ⟨d,3,none⟩ (.slice (some ⟨g2,0,none⟩) n2 cap2))):=fun w2 g2 n2 cap2 p1 p2 p3=>by
     have hB:Below wr.heap.size wr ((W1.alloc (.cells #[.int .i64 r.term,.int .i64 r.index,.slice ro rn rc] 74)).drew):=(b1.alloc b1.size _).drew
     obtain ⟨O',a5,h5⟩:=Gr.choose h1 hB (y:=⟨r,.slice ro rn rc⟩) ⟨qb,qd⟩ p2 p1 p3
     refine ⟨M1,O',a1.trans a5,hd1,pv,.slice (some ⟨g2,0,none⟩) n2 cap2,bs,us1,cs1++[⟨r,.slice ro rn rc⟩],?_⟩
     have e9:cn c l (i+1)={ cn c l i with chosen:=(cn c l i).chosen++[r] }:=by
      unfold cn
      rw [noteN_new hr (by rw [←hlen1];exact hq)]
     rw [e9]
     exact h5
    have hqI:((i:Int) == (cs1.length:Int))=true:=by simp;omega
    have hN:cs1.length≤3000:=hcsb
    clear hii hz0 hz1 hz2 h1 hG1 a1 HI hfar hlen1 hnl hcsb hr qb b1 HCell HCh
    clear hq
    generalize cs1.length=N at *
    go_wp2
    go_region_law (first
     | (refine step_append_lies _ rfl _ _ 26 rfl 0 74 i0 (.agg #[.int .i64 0,.int .i64 0,.slice none 0 0]) 3 40 Tryz.underlying26 HI3.out.1 HI3.out.2.1 HI3.out.2.2.1 HI3.out.2.2.2 rfl (by decide) _ N (cs1.flatMap recCells) rfl HRow.out ⟨W1.heap.size,0,none⟩ 1 1 [.int .i64 r.term,.int .i64 r.index,.slice ro rn rc] rfl rfl HNw.out (fun u' hu'=>by simp only [List.mem_cons,List.not_mem_nil,or_false] at hu';rcases hu' with rfl | rfl | rfl <;> rfl) (by decide) (by unfold maxLen;omega) (by omega) (Nat.zero_le _) _ rfl ?_
        intro g2 cap2 w2 O2 G2 hg2 hgl2
        have HN2:=hide (HFin.out w2 g2 _ cap2 G2 O2 hg2)
        have k2:=(HD.out w2 G2).trans HDb.out
        have t0:=cell_of (i:=3) k2 (v:=.slice co N cc) rfl
        have t1:=frozen_of k2 3
        clear O2 G2 hg2 hgl2 k2))
    all_goals
     go_wp2
     go_roundw
     case rel=>exact ⟨i+1,by omega,by go_num,HN2⟩
     case measure=>simp [intOf];omega
   ·have hqI:((i:Int) == (cs1.length:Int))=false:=by simp;omega
    have hil:i<cs1.length:=by omega
    have hilI:(i:Int)<cs1.length:=by omega
    obtain ⟨y,hy⟩:∃ y,cs1[i]?=some y:=⟨_,List.getElem?_eq_getElem hil⟩
    obtain ⟨g2,cap2,yo,yn,yc,ecv,_,_,p0,p1,p2,hyb⟩:=Gr.chosenCell hG1 hy
    simp only [Value.slice.injEq,true_and] at ecv
    obtain ⟨rfl,rfl⟩:=ecv
    have e7:=noteN_old (s:=(c.chosen,c.conflict)) (z:=y.r) hr (by omega) (by
     have e9:=h1.chosen
     simp only [cn] at e9
     rw [←e9,List.getElem?_map,hy];rfl)
    have HS7:Hid (∀ wx,Below W1.heap.size W1 wx→((wx.cell? ⟨d,3,none⟩=some (.slice (some ⟨g2,0,none⟩) cs1.length cc)∧(wx.cell? ⟨wr.heap.size,0,none⟩=some (.int .i64 r.term)∧wx.cell? ⟨wr.heap.size,1,none⟩=some (.int .i64 r.index)∧wx.cell? ⟨wr.heap.size,2,none⟩=some (.slice ro rn rc))∧(wx.cell? ⟨g2,i*3,none⟩=some (.int .i64 y.r.term)∧wx.cell? ⟨g2,i*3+1,none⟩=some (.int .i64 y.r.index)∧wx.cell? ⟨g2,i*3+2,none⟩=some (.slice yo yn yc)))∧Below W1.heap.size W1 wx)):=fun wx hb=>by
     have hk:=kept hb hbox (Nat.le_refl _)
     exact ⟨⟨at_of hb d3,⟨cell_of hk rfl,cell_of hk rfl,cell_of hk rfl⟩,at_of hb p0,at_of hb p1,at_of hb p2⟩,hb⟩
    by_cases hyr:y.r=r
    ·skip
     have HNx:Hid (∀ w4,Below W1.heap.size W1 w4→LDid M O w d nb (cn c l (i+1)) w4):=fun w4 hb4=>by
      have e9:cn c l (i+1)=cn c l i:=by
       unfold cn
       rw [e7,hyr]
       simp
      rw [e9]
      exact ⟨M1,O1,(a1.below b1).below hb4,hd1,pv,_,bs,us1,cs1,hG1.keep ((Aft.refl _ hG1.st).below hb4)⟩
     have HSm:Hid (∀ wx,Below W1.heap.size W1 wx→Calls Tryz.prog 103 #[.agg #[.int .i64 r.term,.int .i64 r.index,.slice ro rn rc],.agg #[.int .i64 y.r.term,.int .i64 y.r.index,.slice yo yn yc]] wx fun e w'=>e=.returned (.bool true)∧Below W1.heap.size W1 w'):=fun wx hb=>by
      refine (same_any wx M1 (hG1.st.inn.below hb) r y.r ro yo rn rc yn yc qb hyb).mono ?_
      rintro e w' ⟨rfl,hb'⟩
      exact ⟨by simp [hyr],hb.trans (hb'.mono hb.size)⟩
     clear h1 hG1 a1 HI hfar hlen1 hnl hcsb hr qb b1 HCell HCh hyb e7 hyr hy hbox
     generalize cs1.length=N at *
     go_wp2
     go_region_held_law (fun wx=>(wx.cell? ⟨d,3,none⟩=some (.slice (some ⟨g2,0,none⟩) N cc)∧(wx.cell? ⟨wr.heap.size,0,none⟩=some (.int .i64 r.term)∧wx.cell? ⟨wr.heap.size,1,none⟩=some (.int .i64 r.index)∧wx.cell? ⟨wr.heap.size,2,none⟩=some (.slice ro rn rc))∧(wx.cell? ⟨g2,i*3,none⟩=some (.int .i64 y.r.term)∧wx.cell? ⟨g2,i*3+1,none⟩=some (.int .i64 y.r.index)∧wx.cell? ⟨g2,i*3+2,none⟩=some (.slice yo yn yc)))∧Below W1.heap.size W1 wx)
      ((refine HS7.out _ ?_;first | assumption | exact Below.refl _ _ | exact (Below.refl _ _).drew))
      (first | (go_at_call 103;refine (HSm.out _ (by first | exact Below.refl _ _ | exact (Below.refl _ _).drew)).mono ?_;rintro rr w4 ⟨rfl,hb4⟩))
     all_goals
      have HN4:=hide (HNx.out w4 hb4)
      go_wp2
      go_roundw
      case rel=>exact ⟨i+1,by omega,by go_num,HN4⟩
      case measure=>simp [intOf];omega
    ·skip
     have HNx:Hid (∀ w4,Below W1.heap.size W1 w4→LDid M O w d nb (cn c l (i+1)) (w4.setCell ⟨d,4,none⟩ (.bool true))∧w4.cell? ⟨d,4,none⟩=some (.bool (cn c l i).conflict)∧w4.frozen? ⟨d,4,none⟩=false):=fun w4 hb4=>by
      have e9:cn c l (i+1)={ cn c l i with conflict:=true }:=by
       unfold cn
       rw [e7]
       simp [hyr]
      have h4:Gr w4 M1 O1 d hd1 nb (cn c l i) pv (.slice (some ⟨g2,0,none⟩) cs1.length cc) bs us1 cs1:=hG1.keep ((Aft.refl _ hG1.st).below hb4)
      rw [e9]
      obtain ⟨h5,a5⟩:=Gr.clash h4
      exact ⟨⟨M1,O1,((a1.below b1).below hb4).trans a5,hd1,pv,_,bs,us1,cs1,h5⟩,(Gr.ca h4).1.2.2.2.2,(Gr.ca h4).2.2.2.2.2⟩
     have HSm:Hid (∀ wx,Below W1.heap.size W1 wx→Calls Tryz.prog 103 #[.agg #[.int .i64 r.term,.int .i64 r.index,.slice ro rn rc],.agg #[.int .i64 y.r.term,.int .i64 y.r.index,.slice yo yn yc]] wx fun e w'=>e=.returned (.bool false)∧Below W1.heap.size W1 w'):=fun wx hb=>by
      refine (same_any wx M1 (hG1.st.inn.below hb) r y.r ro yo rn rc yn yc qb hyb).mono ?_
      rintro e w' ⟨rfl,hb'⟩
      exact ⟨by have h8:¬ (r=y.r):=fun e=>hyr e.symm;simp [h8],hb.trans (hb'.mono hb.size)⟩
     clear h1 hG1 a1 HI hfar hlen1 hnl hcsb hr qb b1 HCell HCh hyb e7 hyr hy hbox
     generalize cs1.length=N at *
     go_wp2
     go_region_held_law (fun wx=>(wx.cell? ⟨d,3,none⟩=some (.slice (some ⟨g2,0,none⟩) N cc)∧(wx.cell? ⟨wr.heap.size,0,none⟩=some (.int .i64 r.term)∧wx.cell? ⟨wr.heap.size,1,none⟩=some (.int .i64 r.index)∧wx.cell? ⟨wr.heap.size,2,none⟩=some (.slice ro rn rc))∧(wx.cell? ⟨g2,i*3,none⟩=some (.int .i64 y.r.term)∧wx.cell? ⟨g2,i*3+1,none⟩=some (.int .i64 y.r.index)∧wx.cell? ⟨g2,i*3+2,none⟩=some (.slice yo yn yc)))∧Below W1.heap.size W1 wx)
      ((refine HS7.out _ ?_;first | assumption | exact Below.refl _ _ | exact (Below.refl _ _).drew))
      (first | (go_at_call 103;refine (HSm.out _ (by first | exact Below.refl _ _ | exact (Below.refl _ _).drew)).mono ?_;rintro rr w4 ⟨rfl,hb4⟩))
     all_goals
      obtain ⟨hn4,k3,k4⟩:=HNx.out w4 hb4
      have HN4:=hide hn4
      clear hn4
      go_wp2
      go_roundw
      case rel=>exact ⟨i+1,by omega,by go_num,HN4⟩
      case measure=>simp [intOf];omega
  ·have hltI:¬ (i:Int)<C:=by omega
   obtain rfl:i=C:=by omega
   go_wp2
   go_end0
   exact ⟨rfl,HI.out⟩
end Go.Proofs.YtcfdmbkiinjmaaaGreat.lookc
namespace Go.Proofs.YtcfdmbkiinjmaaaGreat.logs
open Go.ChangeShapes Go.WideShapes Go.ChangeAt Go.RowKit
open Raft mem grp YtcfdmbkiinjmaaaGreat.look ndw grant stand rows2 clone lookc
section
variable {w W w2:World} {M:Fz} {O:Lb} {b k:Nat} {p:Peer} {us:List RV} {lv vv nv mv:Value}
theorem NDid.push (st:Sta M O w) (h:Nd w M O b k p us lv vv nv mv) (hW:Below w.heap.size w W) {g n cap:Nat} {y:RV} (hy:BytesM M y.dv y.r.data∧y.r.data.length≤1000)
  (hO:w2.ownsRow 0 74 3 (.slice (some ⟨g,0,none⟩) n cap) (us.length+1) (us.flatMap recCells++recCells y)) (hG:W.grownBy w2 lv.ownBlock) (hg:lv.ownBlock=some g∨g=W.heap.size) :
  NDid M O w b k { p with log:=p.log++[y.r] } (w2.setCell ⟨b,2,none⟩ (.slice (some ⟨g,0,none⟩) n cap)):=by
 have hsz:=hW.size
 have hbl:=(st.ok b _ h.own).2
 have a1:Aft (· = 3+k) M O w M O W:=(Aft.refl _ st).below hW
 have a2:Aft (· = 3+k) M O w M O w2:=a1.grown hG (fun x hx=>⟨3+k,h.lab lv (by simp) x hx,rfl⟩)
 have hgl:g<w2.heap.size:=(row_lt hO rfl).2
 obtain ⟨O',a3,hOg,hOx⟩:∃ O',Aft (· = 3+k) M O w M O' w2∧O' g=some (3+k)∧∀ x l,O x=some l→O' x=some l:=by
  rcases hg with hg | hg
  ·exact ⟨O,a2,h.lab lv (by simp) g hg,fun _ _ hx=>hx⟩
  ·refine ⟨lab O g (3+k),a2.label (by omega) hgl (st.inn.fresh (by omega)) rfl,lab_at _ _ _,fun x l hx => ?_⟩
   rw [lab_ne O (3+k) (by have:=(st.ok x l hx).2;omega)];exact hx
 have a4:=a3.set (b:=b) (l:=3+k) (hOx b _ h.own) rfl 2 (.slice (some ⟨g,0,none⟩) n cap)
 obtain ⟨n1,n2,n3,n4⟩:=h.ne
 have hb2:w2.heap[b]?=w.heap[b]? := (hG.block b (by omega) (fun e=>n1 e.symm)).trans (hW.block b hbl)
 have hgb:g≠b:=fun e=>by
  rcases hg with hg | hg
  ·exact n1 (e ▸ hg)
  ·omega
 have hrow:∀ {e sz:Nat} {v:Value} {m:Nat} {xs:List Value},w.ownsRow 0 e sz v m xs→e≠74→v.ownBlock≠some b→(w2.setCell ⟨b,2,none⟩ (.slice (some ⟨g,0,none⟩) n cap)).ownsRow 0 e sz v m xs:=fun hr he hne=>row_kept hr fun x hx=>by
  have hxl:=(row_lt hr hx).2
  rw [setv_keep (g:=b) x (fun e=>hne (by rw [←e];exact hx))]
  refine (hG.block x (by omega) (fun e => ?_)).trans (hW.block x hxl)
  obtain ⟨cur,hc⟩:=rowt hr hx
  exact type_ne h.log hc he e.symm
 refine ⟨M,O',a4,us++[y],.slice (some ⟨g,0,none⟩) n cap,vv,nv,mv,?_⟩
 refine ⟨?_,hOx b _ h.own,?_,?_,?_,hrow h.votes (by decide) n2,hrow h.next (by decide) n3,hrow h.mat (by decide) n4,?_,h.apart⟩
 ·exact set_at (hb2.trans h.blk) 2 _ rfl
 ·have h1:w2.ownsRow 0 74 3 (.slice (some ⟨g,0,none⟩) n cap) (us++[y]).length ((us++[y]).flatMap recCells):=by simpa using hO
  exact row_kept h1 fun x hx=>setv_keep x (by
   simp only [Value.ownBlock,Option.some.injEq] at hx
   omega)
 ·rw [List.map_append,h.recs];rfl
 ·intro x hx
  rcases List.mem_append.1 hx with hx | hx
  ·exact h.data x hx
  ·simp only [List.mem_singleton] at hx
   subst hx;exact hy
 ·intro v hv x hx
  simp only [List.mem_cons,List.not_mem_nil,or_false] at hv
  rcases hv with rfl | rfl | rfl | rfl
  ·simp only [Value.ownBlock,Option.some.injEq] at hx
   subst hx;exact hOg
  ·exact hOx x _ (h.lab _ (by simp) x hx)
  ·exact hOx x _ (h.lab _ (by simp) x hx)
  ·exact hOx x _ (h.lab _ (by simp) x hx)
theorem flat_take (us:List RV) (i:Nat):(us.flatMap recCells).take (i*3)=(us.take i).flatMap recCells:=by
 induction us generalizing i with
 | nil=>simp
 | cons x us ih =>
  cases i with
  | zero=>simp
  | succ i =>
   rw [List.take_succ_cons,List.flatMap_cons,List.flatMap_cons,Nat.succ_mul,List.take_append]
   have h3:(recCells x).length=3:=rfl
   rw [List.take_of_length_le (by omega),h3]
   congr 1
   rw [←ih]
   congr 1
theorem NDid.cut (st:Sta M O w) {lo:Option Addr} {lc:Nat} (h:Nd w M O b k p us (.slice lo us.length lc) vv nv mv) (hW:Below w.heap.size w W) (a:Nat) (ha:a<us.length):NDid M O w b k { p with log:=p.log.take a } (W.setCell ⟨b,2,none⟩ (.slice lo a lc)):=by
 have hbl:=(st.ok b _ h.own).2
 have hW1:Nd W M O b k p us (.slice lo us.length lc) vv nv mv:=h.keep (fun x hx=>hW.block x (st.ok x _ hx).2) (Le.refl _) (fun _ hx=>hx)
 obtain ⟨n1,n2,n3,n4⟩:=hW1.ne
 have a1:=((Aft.refl (· = 3+k) st).below hW).set (b:=b) (l:=3+k) h.own rfl 2 (.slice lo a lc)
 have hob:(Value.slice lo a lc).ownBlock=(Value.slice lo us.length lc).ownBlock:=by cases lo <;> rfl
 have hk:∀ {e sz:Nat} {v:Value} {m:Nat} {xs:List Value},W.ownsRow 0 e sz v m xs→v.ownBlock≠some b→(W.setCell ⟨b,2,none⟩ (.slice lo a lc)).ownsRow 0 e sz v m xs:=fun hr hne=>row_kept hr fun x hx=>setv_keep x (fun e=>hne (e ▸ hx))
 refine ⟨M,O,a1,us.take a,.slice lo a lc,vv,nv,mv,set_at hW1.blk 2 _ rfl,h.own,?_,?_,?_,hk hW1.votes n2,hk hW1.next n3,hk hW1.mat n4,?_,h.apart⟩
 ·have hlog:=hk hW1.log n1
  rcases hlog with ⟨h1,⟨e1,e2⟩|⟨g,cap,cur,e1,hb0,hh,hc,hm,hs,ht⟩⟩
  ·omega
  ·simp only [Value.slice.injEq,true_and] at e1
   obtain ⟨rfl,rfl⟩:=e1
   have hla:(us.take a).length=a:=by rw [List.length_take];omega
   rw [hla]
   refine ⟨by rw [flat_len recCells 3 recCells_len,hla],.inr ⟨g,lc,cur,rfl,hb0,hh,by omega,hm,hs,?_⟩⟩
   rw [←flat_take,←ht,List.take_take]
   congr 1
   omega
 ·rw [List.map_take,h.recs]
 ·exact fun x hx=>h.data x (List.mem_of_mem_take hx)
 ·intro v hv x hx
  simp only [List.mem_cons,List.not_mem_nil,or_false] at hv
  rcases hv with rfl | rfl | rfl | rfl
  ·rw [hob] at hx
   exact h.lab _ (by simp) x hx
  ·exact h.lab _ (by simp) x hx
  ·exact h.lab _ (by simp) x hx
  ·exact h.lab _ (by simp) x hx
end
end Go.Proofs.YtcfdmbkiinjmaaaGreat.logs
