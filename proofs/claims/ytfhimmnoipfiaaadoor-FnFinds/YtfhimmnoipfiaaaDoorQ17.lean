import Derived.Test.YtfhimmnoipfiaaaDoorQ14
import Derived.Test.YtfhimmnoipfiaaaDoorQ16
import Derived.Deep.QuietTactic
import Derived.BigQuiet
set_option linter.unusedVariables false
open Go.ChangeShapes Go.WideShapes Go.ChangeAt Go.RowKit
namespace Go.Proofs.YtfhimmnoipfiaaaDoor.eng
open bytes places sets tz rex
set_option maxRecDepth 20000 in
set_option maxHeartbeats 16000000 in
theorem branch_ere (p:Pq) (b:Nat) (W:World) (h:PB p b W) (hk:Okp p) (he:p.ere=true) (hw:p.at_<p.ts.length→∃ n,WholeOf n∧p.ts.length-p.at_≤n+1) :
  Calls Tryd.prog 60 #[.pointer (some ⟨b,0,none⟩)] W (TrR 0 p b W):=by
 obtain ⟨i0,hi0,hz0,hs0,hb0⟩:=info_parts info25
 have HI:=hide (And.intro hi0 (And.intro hz0 (And.intro hs0 hb0)))
 obtain ⟨W1,hW1,hbox⟩:=box_new W
 obtain ⟨hBx,hRZ⟩:=hbox b h.lt
 have HRZ:=hide hRZ
 have rd1:=Rd.refl (h.below hBx.bel)
 have HB1:Hid (Rd b W p W1):=hide ((Rd.refl h).below hBx.bel)
 obtain ⟨y0,y1,y2,y3,y5,y6,yf1,yf5,yf6⟩:=rd1.can
 have HBX:=hide hBx
 have HND:=hide (node_any W1 7 0 0 none 0 0)
 have HHd:Hid (∀ w2,Below W1.heap.size W1 w2→Hd p b w2.heap.size W (.slice none 0 0) 0 p (w2.alloc (.cells #[.int .i64 7,.int .i64 0,.int .i64 0,.string mt0,.slice none 0 0] 25))):=hide fun w2 hb=>by
  have h1:=(HB1.out.below hb).alloc (.cells #[.int .i64 7,.int .i64 0,.int .i64 0,.string mt0,.slice none 0 0] 25)
  have h2:=HBX.out
  have h3:=hb.size
  exact ⟨h1.pb,⟨h1.pg,h2.b,by have:=h2.hi;omega,HRZ.out _ (((PG.below hb)).tr (PG.alloc _)),heap_alloc_new w2 _⟩,⟨_,_,rfl⟩,fun _=>(KRowP.nil _ _ _).le (Nat.zero_le _),⟨Nx.refl p,by have:=hk.op;have:=hk.at_;omega,hk.gr,fun e=>⟨hk.at_,hk.g9 e⟩⟩,fun _=>by omega⟩
 have HOK:=hide hk
 have HER:=hide he
 have HWH:=hide hw
 clear hi0 hz0 hs0 hb0 hbox hBx hRZ rd1 h hk he hw
 go_enter Tryd.func60,Tryd.ntmps60
 (try rw [hW1])
 go_wp2_with fail
 refine HND.out.mono ?_
 rintro e w2 ⟨rfl,b2⟩
 unfold rxV
 have HH0:=hide (HHd.out w2 b2)
 obtain ⟨O,hO⟩:∃ O,O=w2.heap.size:=⟨_,rfl⟩
 obtain ⟨w3,hw3⟩:∃ w3,w2.alloc (.cells #[.int .i64 7,.int .i64 0,.int .i64 0,.string mt0,.slice none 0 0] 25)=w3:=⟨_,rfl⟩
 rw [hw3,←hO] at HH0
 have HOO:=hide hO
 have HW3:=hide hw3
 clear HND HHd b2 y0 y1 y2 y3 y5 y6 yf1 yf5 yf6 hW1 hO hw3
 go_wp2
 (try rw [HW3.out])
 (try simp only [←HOO.out])
 clear HW3
 go_loopw [5,6,7] (fun _ _ _ wr=>∃ (q:Pq) (v:Value) (k:Nat),Hid (Hd p b O W v k q wr)) (fun _ _ _ wr=>meaB b p.ts.length wr)
 case atStart=>exact ⟨_,_,_,HH0⟩
 case round =>
  obtain ⟨q,v,k,HX⟩:=hrel
  have HEn:=hide ((Rd.refl HX.out.pb).ends (by rw [HX.out.qs.nx.ts];have:=HOK.out.len;omega) (by have:=HX.out.qs.lim;have:=HOK.out.len;omega))
  go_wp2_with fail
  refine HEn.out.mono ?_
  rintro e w1 ⟨r,rfl,hr,rd1'⟩
  have HX1:=hide (HX.out.rd rd1')
  have HMe:Hid (meaB b p.ts.length w1=meaB b p.ts.length wr):=hide (by rw [meaB_eq rd1'.pb,meaB_eq HX.out.pb])
  clear rd1' HEn
  cases r with
  | true =>
   have hd:=HX1
   obtain ⟨o9,c9,rfl⟩:=hd.out.vs
   obtain ⟨y0,y1,y2,y3,y5,y6,yf1,yf5,yf6⟩:=(Rd.refl hd.out.pb).can
   have y2e:q.ere=true:=by rw [hd.out.qs.nx.ere];exact HER.out
   rw [y2e] at y2
   clear hr HX HMe HWH HX1 y2e
   by_cases hk0:k=0
   ·subst hk0
    have HFx:=hide ((Rd.refl hd.out.pb).failx (c:=4) (by decide) (q.at_:Int))
    have c4w:=cells5c hd.out.bo.bO
    obtain ⟨s0,s1,s2,s3,s4⟩:=c4w
    go_wp2_with fail
    refine HFx.out.mono ?_
    rintro e wf ⟨qf,rfl,rdf',kc,kt,ka,ke,kg,ko⟩
    have rdf:=hide rdf'
    have hdB:=hide (hd.out.bo.rd hd.out.bo.lt rdf'.pg)
    have HCf:=hide kc
    have HNf:Hid (Nx p qf):=hide ⟨kt.trans hd.out.qs.nx.ts,ke.trans hd.out.qs.nx.ere,ko.trans hd.out.qs.nx.op,by rw [ka];exact hd.out.qs.nx.at_,by rw [kg];exact hd.out.qs.nx.gr,fun e=>absurd e kc⟩
    have HAf:Hid (p.at_≤qf.at_∧qf.at_+2*p.open_≤3*p.ts.length+10∧qf.groups≤qf.at_):=hide (by rw [ka,kg];exact ⟨hd.out.qs.nx.at_,hd.out.qs.lim,hd.out.qs.gr⟩)
    clear HFx rdf' kc kt ka ke kg ko y0 y1 y2 y3 y5 y6 yf1 yf5 yf6 s0 s1 s2 s3 s4
    have c4v:=cells5c hdB.out.bO
    obtain ⟨s0,s1,s2,s3,s4⟩:=c4v
    have xr:=hdB.out.bR
    obtain ⟨r0',r1',r2',r3',r4'⟩:=cells5c xr
    have z0:=fz5c xr 0
    have z1:=fz5c xr 1
    have z2:=fz5c xr 2
    have z3:=fz5c xr 3
    have z4:=fz5c xr 4
    have HE:Hid ((set5 wf W.heap.size (.int .i64 7) (.int .i64 0) (.int .i64 0) (.string mt0) (.slice o9 0 c9)).heap[W.heap.size]?=some (.cells #[.int .i64 7,.int .i64 0,.int .i64 0,.string mt0,.slice o9 0 c9] 25 (0,0))∧TrP 0 p b W #[.int .i64 7,.int .i64 0,.int .i64 0,.string mt0,.slice o9 0 c9] qf (set5 wf W.heap.size (.int .i64 7) (.int .i64 0) (.int .i64 0) (.string mt0) (.slice o9 0 c9))):=hide ⟨set5_at xr trivial (.int .i64 7) (.int .i64 0) (.int .i64 0) (.string mt0) (.slice o9 0 c9),⟨⟨rdf.out.pb.set5 (by have:=hd.out.bo.b;omega) _ _ _ _ _,(hd.out.bo.pg.tr rdf.out.pg).set5 (Nat.le_refl _) _ _ _ _ _⟩,HNf.out,by have:=HAf.out;omega,HAf.out.2.1,HAf.out.2.2,fun e=>absurd e HCf.out⟩⟩
    unfold set5 at HE
    clear xr
    go_wp2
    generalize (((((wf.setCell ⟨W.heap.size,0,none⟩ (.int .i64 7)).setCell ⟨W.heap.size,1,none⟩ (.int .i64 0)).setCell ⟨W.heap.size,2,none⟩ (.int .i64 0)).setCell ⟨W.heap.size,3,none⟩ (.string mt0)).setCell ⟨W.heap.size,4,none⟩ (.slice o9 0 c9))=Wf at HE ⊢
    obtain ⟨u0,u1,u2,u3,u4⟩:=cells5c HE.out.1
    refine bodyPost_ret (v:=.agg #[.int .i64 7,.int .i64 0,.int .i64 0,.string mt0,.slice o9 0 c9]) ?_ rfl ⟨_,_,_,_,_,_,_,qf,rfl,HE.out.2⟩
    simp [results,Tryd.results60,go_sem,u0,u1,u2,u3,u4]
   ·have n1:((k:Int) == 0)=false:=by rw [beq_eq_false_iff_ne];omega
    have n2:decide ((k:Int)=0)=false:=decide_eq_false (by omega)
    have n3:(k == 0)=false:=by rw [beq_eq_false_iff_ne];exact hk0
    have n4:decide (k=0)=false:=decide_eq_false hk0
    have c4v:=cells5c hd.out.bo.bO
    obtain ⟨s0,s1,s2,s3,s4⟩:=c4v
    have xr:=hd.out.bo.bR
    obtain ⟨r0',r1',r2',r3',r4'⟩:=cells5c xr
    have z0:=fz5c xr 0
    have z1:=fz5c xr 1
    have z2:=fz5c xr 2
    have z3:=fz5c xr 3
    have z4:=fz5c xr 4
    have HE:Hid ((set5 w1 W.heap.size (.int .i64 7) (.int .i64 0) (.int .i64 0) (.string mt0) (.slice o9 k c9)).heap[W.heap.size]?=some (.cells #[.int .i64 7,.int .i64 0,.int .i64 0,.string mt0,.slice o9 k c9] 25 (0,0))∧TrP 0 p b W #[.int .i64 7,.int .i64 0,.int .i64 0,.string mt0,.slice o9 k c9] q (set5 w1 W.heap.size (.int .i64 7) (.int .i64 0) (.int .i64 0) (.string mt0) (.slice o9 k c9))):=hide ⟨set5_at xr trivial (.int .i64 7) (.int .i64 0) (.int .i64 0) (.string mt0) (.slice o9 k c9),⟨⟨hd.out.pb.set5 (by have:=hd.out.bo.b;omega) _ _ _ _ _,hd.out.bo.pg.set5 (Nat.le_refl _) _ _ _ _ _⟩,hd.out.qs.nx,by have:=hd.out.qs.nx.at_;omega,hd.out.qs.lim,hd.out.qs.gr,fun e=>⟨(hd.out.qs.g9 e).1,(hd.out.qs.g9 e).2,((hd.out.row e).block (fun x hx hl=>set5_other _ _ x _ _ _ _ _ (by have:=hd.out.bo.ro;omega))).cat (by have h1:=hd.out.kk e;have h2:=(hd.out.qs.g9 e).1;have h3:=HOK.out.len;omega) (fun x hx=>by have:=hd.out.bo.ro;omega)⟩⟩⟩
    unfold set5 at HE
    clear xr
    go_wp2
    generalize (((((w1.setCell ⟨W.heap.size,0,none⟩ (.int .i64 7)).setCell ⟨W.heap.size,1,none⟩ (.int .i64 0)).setCell ⟨W.heap.size,2,none⟩ (.int .i64 0)).setCell ⟨W.heap.size,3,none⟩ (.string mt0)).setCell ⟨W.heap.size,4,none⟩ (.slice o9 k c9))=Wf at HE ⊢
    obtain ⟨u0,u1,u2,u3,u4⟩:=cells5c HE.out.1
    refine bodyPost_ret (v:=.agg #[.int .i64 7,.int .i64 0,.int .i64 0,.string mt0,.slice o9 k c9]) ?_ rfl ⟨_,_,_,_,_,_,_,q,rfl,HE.out.2⟩
    simp [results,Tryd.results60,go_sem,u0,u1,u2,u3,u4]
  | false =>
   obtain ⟨hq0,hqa⟩:=hr rfl
   have HQ0:=hide (And.intro hq0 hqa)
   have HOQ:Hid (Okp q):=hide ⟨by rw [HX.out.qs.nx.ts];exact HOK.out.len,by rw [HX.out.qs.nx.ts];exact HOK.out.bytes,Nat.le_of_lt hqa,by rw [HX.out.qs.nx.op];have:=HOK.out.op;have:=HX.out.qs.nx.at_;omega,HX.out.qs.gr,fun e=>(HX.out.qs.g9 e).2⟩
   have HWn:Hid (∃ n,WholeOf n∧q.ts.length-q.at_≤n+1):=hide (by
    have h1:=HX.out.qs.nx.at_
    have h2:=HX.out.qs.nx.ts
    rw [h2] at hqa
    obtain ⟨n,h3,h4⟩:=HWH.out (by omega)
    exact ⟨n,h3,by rw [h2];omega⟩)
   have HAt:Hid (∀ f:Bool,Calls Tryd.prog 83 #[.pointer (some ⟨b,0,none⟩),.bool f] w1 (TrR 1 q b w1)):=hide fun f=>by
    obtain ⟨n,h3,h4⟩:=HWn.out
    exact atom_ere n h3 q b w1 HX1.out.pb HOQ.out HQ0.out.1 (by rw [HX.out.qs.nx.ere];exact HER.out) HQ0.out.2 h4 f
   obtain ⟨y0,y1,y2,y3,y5,y6,yf1,yf5,yf6⟩:=(Rd.refl HX1.out.pb).can
   clear hq0 hqa hr
   go_wp2_with fail
   refine (HAt.out _).mono ?_
   rintro e w2 ⟨kind,n9,m9,ss,o,ln,cp,q1,rfl,tr⟩
   obtain ⟨A,hA⟩:∃ A,A=w2.heap.size:=⟨_,rfl⟩
   obtain ⟨w5,hw5⟩:∃ w5,w2.alloc (.cells #[.int .i64 kind,.int .i64 n9,.int .i64 m9,.string ss,.slice o ln cp] 25)=w5:=⟨_,rfl⟩
   obtain ⟨B,hB⟩:∃ B,B=w1.heap.size:=⟨_,rfl⟩
   obtain ⟨mm,hmm⟩:∃ mm,mm=q.at_+1:=⟨_,rfl⟩
   have tm5:Hid (Tm p b O A B W v k q.groups mm #[.int .i64 kind,.int .i64 n9,.int .i64 m9,.string ss,.slice o ln cp] q1 w5):=hide (by
    have hrow:=HX1.out.row HQ0.out.1
    have hb:=HX1.out.bo.b
    have hro:=HX1.out.bo.ro
    have hOl:=HX1.out.bo.lt
    have hs:=tr.rd.pg.size
    have hpg:PG b w1 w5:=tr.rd.pg.tr (by rw [←hw5];exact PG.alloc _)
    have hkk:=HX1.out.kk HQ0.out.1
    have hown:=hrow.ownP
    refine ⟨(tr.rd.alloc _).pb.keep (by rw [hw5]),HX1.out.bo.rd hOl hpg,by rw [←hw5,hA];exact heap_alloc_new w2 _,by omega,by rw [←hw5,hA];simp,((hrow.mono (P':=fun x=>O<x∧x≠A) fun x hx hl=>⟨hx,by omega⟩).block fun x hx hl=>hpg.block x hl (by simp;omega)).le (by omega),fun g hg=>by have:=(hown g hg).2;omega,by rw [←hw5,hB];simp;omega,fun e => ?_,HX1.out.qs.next tr.nx (by exact tr.lim) tr.gr (fun e=>⟨(tr.good e).1,(tr.good e).2.1⟩),by omega,by have:=tr.far;omega⟩
    refine (((tr.good e).2.2.p (P:=fun x=>B≤x∧O<x∧x≠A) fun x hx hl=>⟨by omega,by omega,by omega⟩).block fun x hx hl => ?_).le (by omega)
    rw [←hw5]
    exact Below.heap_alloc w2 _ x hl)
   have HMQ:Hid (q.at_<mm∧mm≤p.ts.length∧q.at_<p.ts.length):=hide (by have:=HQ0.out.2;rw [HX.out.qs.nx.ts] at this;exact ⟨by omega,by omega,this⟩)
   have HMEA:Hid (meaB b p.ts.length wr=p.ts.length+1-q.at_):=hide (by rw [meaB_eq HX.out.pb,if_pos HQ0.out.1])
   obtain ⟨z0,z1,z2,z3,z5,z6,zf1,zf5,zf6⟩:=(Rd.refl tm5.out.pb).can
   have z2e:q1.ere=true:=by rw [tm5.out.qs.nx.ere];exact HER.out
   rw [z2e] at z2
   obtain ⟨t0,t1,t2,t3,t4⟩:=cells5c tm5.out.bA
   clear tr hB hmm z2e HAt y0 y1 y2 y3 y5 y6 yf1 yf5 yf6 HX HX1 HMe HWn HOQ HQ0 HWH
   have HAA:=hide hA
   have HW5:=hide hw5
   clear hA hw5
   go_upto_region 5 with fail
   (try rw [HW5.out])
   (try simp only [←HAA.out])
   clear HW5
   have HAT1:Hid True:=trivial
   clear HAT1
   go_wp2
   go_loopw [6,7] (fun _ _ wr=>∃ (q2:Pq) (kind n9 m9:Int) (ss:ByteArray) (o:Option Addr) (ln cp:Nat),Hid (Tm p b O A B W v k q.groups mm #[.int .i64 kind,.int .i64 n9,.int .i64 m9,.string ss,.slice o ln cp] q2 wr)) (fun _ _ wr=>meaB b p.ts.length wr)
   case atStart=>exact ⟨_,_,_,_,_,_,_,_,tm5⟩
   case round =>
    obtain ⟨q2,kind,n9,m9,ss,o,ln,cp,tm⟩:=hrel
    obtain ⟨z0,z1,z2,z3,z5,z6,zf1,zf5,zf6⟩:=(Rd.refl tm.out.pb).can
    obtain ⟨t0,t1,t2,t3,t4⟩:=cells5c tm.out.bA
    by_cases h0:q2.code=0
    ·have k1:(q2.code == 0)=true:=by simp [h0]
     have HC2:=hide h0
     rw [h0] at z3
     have HTm:=hide (times_ere q2 b wr tm.out.pb (by rw [tm.out.qs.nx.ts];have:=HOK.out.len;omega) (by have:=(tm.out.qs.g9 h0).1;have:=HOK.out.len;omega) (by rw [tm.out.qs.nx.ts];exact HOK.out.bytes) (by rw [tm.out.qs.nx.ere];exact HER.out) kind n9 m9 ss o ln cp)
     clear h0
     go_wp2_with fail
     refine HTm.out.mono ?_
     rintro e w6 (⟨rfl,gno⟩|⟨low,high,q3,g,rfl,gyes,hg1,hg2,hbq⟩)
     ·have tm6:=hide ((tm.out.rd (Rd.of1 gno)).alloc (.cells #[.int .i64 kind,.int .i64 n9,.int .i64 m9,.string ss,.slice o ln cp] 25))
      clear gno HTm z0 z1 z2 z3 z5 z6 zf1 zf5 zf6 t0 t1 t2 t3 t4 k1
      obtain ⟨w7,hw7⟩:∃ w7,w6.alloc (.cells #[.int .i64 kind,.int .i64 n9,.int .i64 m9,.string ss,.slice o ln cp] 25)=w7:=⟨_,rfl⟩
      rw [hw7] at tm6
      have HC3:=HC2
      obtain ⟨xs,hxs⟩:=tm6.out.row.own
      have HXS:=hide hxs
      have HKK:Hid (k≤300):=hide (by have h1:=tm6.out.kk;have h2:=HMQ.out;have h4:=HOK.out.len;omega)
      have c4v:=(cells5c tm6.out.bo.bO).2.2.2.2
      obtain ⟨t0,t1,t2,t3,t4⟩:=cells5c tm6.out.bA
      have HPU:=hide fun (g cap:Nat) (w9:World)=>tm6.out.push rfl (g:=g) (cap:=cap) (w9:=w9) (xs:=xs) HXS.out
      clear hxs
      go_wp2_with (at_builtin;refine wpList_append_lies _ rfl _ _ 23 rfl 0 25 i0 (.agg zero5) 5 64 Tryd.underlying23 HI.out.1 HI.out.2.1 HI.out.2.2.1 HI.out.2.2.2 rfl (by decide) v k xs rfl (World.ownsRow.alloc HXS.out _) ⟨w7.heap.size,0,none⟩ 1 1 [.int .i64 kind,.int .i64 n9,.int .i64 m9,.string ss,.slice o ln cp] rfl rfl (World.news_of_block (heap_alloc_new _ _)) (by intro u hu;simp at hu;rcases hu with rfl | rfl | rfl | rfl | rfl <;> rfl) (by decide) (by unfold maxLen;have:=HKK.out;omega) (by have:=HKK.out;omega) (by simp) _ rfl ?_;intro g9 cap9 w9 k1 k2 k3 k4;obtain ⟨BO,BP,BK,BX,⟨d4,d4f⟩,BS,BG,BL,BA⟩:=HPU.out g9 cap9 w9 k1 k2 k3;have HBO:=hide BO;have HBP:=hide BP;have HBK:=hide BK;have HOT:=hide BX;have HSZ9:=hide (And.intro BS (And.intro BG (And.intro BL BA)));clear k1 k2 k3 k4 BO BP BK BX BS BG BL BA HPU)
      go_roundw
      case rel=>exact ⟨q2,.slice (some ⟨g9,0,none⟩) (k+1) cap9,k+1,hide ⟨HBP.out,HBO.out,⟨_,_,rfl⟩,fun e=>(HBK.out e).mono (fun x hx _=>hx.1),tm6.out.qs,fun e=>by have h1:=tm6.out.kk;have h2:=tm6.out.mq;omega⟩⟩
      case measure=>rw [meaB_eq HBP.out,HMEA.out];have h1:=tm6.out.kk;have h2:=tm6.out.mq;have h3:=HMQ.out;split <;> omega
     ·obtain ⟨w7,hw7⟩:∃ w7,w6.alloc (.cells #[.int .i64 9,.int .i64 low,.int .i64 high,.string mt0,.slice (some ⟨g,0,none⟩) 1 1] 25)=w7:=⟨_,rfl⟩
      have hb7:Below w6.heap.size w6 w7:=by rw [←hw7];exact (Below.refl _ _).alloc (Nat.le_refl _) _
      have x7:w7.heap[w6.heap.size]?=some (.cells #[.int .i64 9,.int .i64 low,.int .i64 high,.string mt0,.slice (some ⟨g,0,none⟩) 1 1] 25 (0,0)):=by rw [←hw7];exact heap_alloc_new w6 _
      obtain ⟨s0,s1,s2,s3,s4⟩:=cells5c x7
      have HX7:=hide x7
      have tpg:PG b wr w7:=gyes.pg.tr (PG.below hb7)
      have hAl:=tm.out.AB
      have hBB:=tm.out.BB
      have hbo:=tm.out.bo.b
      have hro:=tm.out.bo.ro
      have hoA:=tm.out.oA
      have tmz:Hid (Tm p b O A B W v k q.groups mm #[.int .i64 9,.int .i64 low,.int .i64 high,.string mt0,.slice (some ⟨g,0,none⟩) 1 1] q3 (set5 w7 A (.int .i64 9) (.int .i64 low) (.int .i64 high) (.string mt0) (.slice (some ⟨g,0,none⟩) 1 1))):=hide (by
       refine tm.out.put ⟨_,_,_,_,_,rfl⟩ (gyes.pb.below hb7) tpg _ _ _ _ _ (tm.out.qs.next gyes.nx (by have h1:=hbq.2.1;have h2:=HOK.out;have h3:=tm.out.qs.nx.op;have h4:=tm.out.qs.nx.ts;have h5:=h2.op;have h6:=h2.at_;rw [h4] at h1 ⊢;rw [h3];omega) (by rw [gyes.gr];have:=tm.out.qs.gr;have:=gyes.nx.at_;omega) (fun e=>⟨(hbq.2.2 e).1,by rw [gyes.gr];exact (tm.out.qs.g9 (gyes.nx.code e)).2⟩)) (by have:=tm.out.mq;have:=gyes.nx.at_;omega) (fun e => ?_)
       have hq:=hbq.2.2 e
       have ht:=(tm.out.tree (gyes.nx.code e)).block (W':=w7) fun x hx hl=>tpg.block x hl (by simp;omega)
       rw [gyes.gr]
       exact (ht.rep rfl ((hb7.block g (Array.getElem?_eq_some_iff.1 hg2).1).trans hg2) ⟨by omega,by omega,by omega⟩ 1 hq.2.1 hq.2.2.1 hq.2.2.2).le (by have h1:=hbq.1;have h2:=tm.out.mq;omega))
      have HMZ:Hid (meaB b p.ts.length (set5 w7 A (.int .i64 9) (.int .i64 low) (.int .i64 high) (.string mt0) (.slice (some ⟨g,0,none⟩) 1 1))<meaB b p.ts.length wr):=hide (by
       rw [meaB_eq tmz.out.pb,meaB_eq tm.out.pb,if_pos HC2.out]
       have h1:=(tm.out.qs.g9 HC2.out).1
       have h2:=hbq.1
       split <;> omega)
      have xA7:w7.heap[A]?=some (.cells #[.int .i64 kind,.int .i64 n9,.int .i64 m9,.string ss,.slice o ln cp] 25 (0,0)):=(tpg.block A hAl (by simp;omega)).trans tm.out.bA
      obtain ⟨v0',v1',v2',v3',v4'⟩:=cells5c xA7
      have y0:=fz5c xA7 0
      have y1:=fz5c xA7 1
      have y2:=fz5c xA7 2
      have y3:=fz5c xA7 3
      have y4:=fz5c xA7 4
      unfold set5 at tmz HMZ
      unfold rxV
      clear gyes hg1 hg2 hbq hb7 x7 tpg xA7 HTm z0 z1 z2 z3 z5 z6 zf1 zf5 zf6 t0 t1 t2 t3 t4 k1 hAl hBB hbo hro hoA
      go_wp2
      go_roundw
      case rel=>exact ⟨_,_,_,_,_,_,_,_,tmz⟩
      case measure=>exact HMZ.out
    ·have k1:(q2.code == 0)=false:=by simpa using h0
     have k2:decide (q2.code=0)=false:=decide_eq_false h0
     clear h0 t0 t1 t2 t3 t4
     clear z0 z1 z2 z5 z6 zf1 zf5 zf6
     obtain ⟨xs,hxs⟩:=tm.out.row.own
     have HXS:=hide hxs
     have HKK:Hid (k≤300):=hide (by have h1:=tm.out.kk;have h2:=HMQ.out;have h4:=HOK.out.len;omega)
     have c4v:=(cells5c tm.out.bo.bO).2.2.2.2
     obtain ⟨t0,t1,t2,t3,t4⟩:=cells5c tm.out.bA
     have HPU:=hide fun (g cap:Nat) (w9:World)=>tm.out.push rfl (g:=g) (cap:=cap) (w9:=w9) (xs:=xs) HXS.out
     clear hxs
     go_wp2_with (at_builtin;refine wpList_append_lies _ rfl _ _ 23 rfl 0 25 i0 (.agg zero5) 5 64 Tryd.underlying23 HI.out.1 HI.out.2.1 HI.out.2.2.1 HI.out.2.2.2 rfl (by decide) v k xs rfl (World.ownsRow.alloc HXS.out _) ⟨wr.heap.size,0,none⟩ 1 1 [.int .i64 kind,.int .i64 n9,.int .i64 m9,.string ss,.slice o ln cp] rfl rfl (World.news_of_block (heap_alloc_new _ _)) (by intro u hu;simp at hu;rcases hu with rfl | rfl | rfl | rfl | rfl <;> rfl) (by decide) (by unfold maxLen;have:=HKK.out;omega) (by have:=HKK.out;omega) (by simp) _ rfl ?_;intro g9 cap9 w9 k1 k2 k3 k4;obtain ⟨BO,BP,BK,BX,⟨d4,d4f⟩,BS,BG,BL,BA⟩:=HPU.out g9 cap9 w9 k1 k2 k3;have HBO:=hide BO;have HBP:=hide BP;have HBK:=hide BK;have HOT:=hide BX;have HSZ9:=hide (And.intro BS (And.intro BG (And.intro BL BA)));clear k1 k2 k3 k4 BO BP BK BX BS BG BL BA HPU)
     go_roundw
     case rel=>exact ⟨q2,.slice (some ⟨g9,0,none⟩) (k+1) cap9,k+1,hide ⟨HBP.out,HBO.out,⟨_,_,rfl⟩,fun e=>(HBK.out e).mono (fun x hx _=>hx.1),tm.out.qs,fun e=>by have h1:=tm.out.kk;have h2:=tm.out.mq;omega⟩⟩
     case measure=>rw [meaB_eq HBP.out,HMEA.out];have h1:=tm.out.kk;have h2:=tm.out.mq;have h3:=HMQ.out;split <;> omega
set_option maxRecDepth 20000 in
set_option maxHeartbeats 16000000 in
theorem branch_bre (p:Pq) (b:Nat) (W:World) (h:PB p b W) (hk:Okp p) (he:p.ere=false) (hw:p.at_<p.ts.length→∃ n,WholeOf n∧p.ts.length-p.at_≤n+1) :
  Calls Tryd.prog 60 #[.pointer (some ⟨b,0,none⟩)] W (TrR 0 p b W):=by
 obtain ⟨i0,hi0,hz0,hs0,hb0⟩:=info_parts info25
 have HI:=hide (And.intro hi0 (And.intro hz0 (And.intro hs0 hb0)))
 obtain ⟨W1,hW1,hbox⟩:=box_new W
 obtain ⟨hBx,hRZ⟩:=hbox b h.lt
 have HRZ:=hide hRZ
 have rd1:=Rd.refl (h.below hBx.bel)
 have HB1:Hid (Rd b W p W1):=hide ((Rd.refl h).below hBx.bel)
 obtain ⟨y0,y1,y2,y3,y5,y6,yf1,yf5,yf6⟩:=rd1.can
 have HBX:=hide hBx
 have HND:=hide (node_any W1 7 0 0 none 0 0)
 have HHd:Hid (∀ w2,Below W1.heap.size W1 w2→Hd p b w2.heap.size W (.slice none 0 0) 0 p (w2.alloc (.cells #[.int .i64 7,.int .i64 0,.int .i64 0,.string mt0,.slice none 0 0] 25))):=hide fun w2 hb=>by
  have h1:=(HB1.out.below hb).alloc (.cells #[.int .i64 7,.int .i64 0,.int .i64 0,.string mt0,.slice none 0 0] 25)
  have h2:=HBX.out
  have h3:=hb.size
  exact ⟨h1.pb,⟨h1.pg,h2.b,by have:=h2.hi;omega,HRZ.out _ (((PG.below hb)).tr (PG.alloc _)),heap_alloc_new w2 _⟩,⟨_,_,rfl⟩,fun _=>(KRowP.nil _ _ _).le (Nat.zero_le _),⟨Nx.refl p,by have:=hk.op;have:=hk.at_;omega,hk.gr,fun e=>⟨hk.at_,hk.g9 e⟩⟩,fun _=>by omega⟩
 have HOK:=hide hk
 have HER:=hide he
 have HWH:=hide hw
 clear hi0 hz0 hs0 hb0 hbox hBx hRZ rd1 h hk he hw
 go_enter Tryd.func60,Tryd.ntmps60
 (try rw [hW1])
 go_wp2_with fail
 refine HND.out.mono ?_
 rintro e w2 ⟨rfl,b2⟩
 unfold rxV
 have HH0:=hide (HHd.out w2 b2)
 obtain ⟨O,hO⟩:∃ O,O=w2.heap.size:=⟨_,rfl⟩
 obtain ⟨w3,hw3⟩:∃ w3,w2.alloc (.cells #[.int .i64 7,.int .i64 0,.int .i64 0,.string mt0,.slice none 0 0] 25)=w3:=⟨_,rfl⟩
 rw [hw3,←hO] at HH0
 have HOO:=hide hO
 have HW3:=hide hw3
 clear HND HHd b2 y0 y1 y2 y3 y5 y6 yf1 yf5 yf6 hW1 hO hw3
 go_wp2
 (try rw [HW3.out])
 (try simp only [←HOO.out])
 clear HW3
 go_loopw [5,6,7] (fun _ _ _ wr=>∃ (q:Pq) (v:Value) (k:Nat),Hid (Hd p b O W v k q wr)) (fun _ _ _ wr=>meaB b p.ts.length wr)
 case atStart=>exact ⟨_,_,_,HH0⟩
 case round =>
  obtain ⟨q,v,k,HX⟩:=hrel
  have HEn:=hide ((Rd.refl HX.out.pb).ends (by rw [HX.out.qs.nx.ts];have:=HOK.out.len;omega) (by have:=HX.out.qs.lim;have:=HOK.out.len;omega))
  go_wp2_with fail
  refine HEn.out.mono ?_
  rintro e w1 ⟨r,rfl,hr,rd1'⟩
  have HX1:=hide (HX.out.rd rd1')
  have HMe:Hid (meaB b p.ts.length w1=meaB b p.ts.length wr):=hide (by rw [meaB_eq rd1'.pb,meaB_eq HX.out.pb])
  clear rd1' HEn
  cases r with
  | true =>
   have hd:=HX1
   obtain ⟨o9,c9,rfl⟩:=hd.out.vs
   obtain ⟨y0,y1,y2,y3,y5,y6,yf1,yf5,yf6⟩:=(Rd.refl hd.out.pb).can
   have y2e:q.ere=false:=by rw [hd.out.qs.nx.ere];exact HER.out
   rw [y2e] at y2
   clear hr HX HMe HWH HX1 y2e
   have c4v:=cells5c hd.out.bo.bO
   obtain ⟨s0,s1,s2,s3,s4⟩:=c4v
   have xr:=hd.out.bo.bR
   obtain ⟨r0',r1',r2',r3',r4'⟩:=cells5c xr
   have z0:=fz5c xr 0
   have z1:=fz5c xr 1
   have z2:=fz5c xr 2
   have z3:=fz5c xr 3
   have z4:=fz5c xr 4
   have HE:Hid ((set5 w1 W.heap.size (.int .i64 7) (.int .i64 0) (.int .i64 0) (.string mt0) (.slice o9 k c9)).heap[W.heap.size]?=some (.cells #[.int .i64 7,.int .i64 0,.int .i64 0,.string mt0,.slice o9 k c9] 25 (0,0))∧TrP 0 p b W #[.int .i64 7,.int .i64 0,.int .i64 0,.string mt0,.slice o9 k c9] q (set5 w1 W.heap.size (.int .i64 7) (.int .i64 0) (.int .i64 0) (.string mt0) (.slice o9 k c9))):=hide ⟨set5_at xr trivial (.int .i64 7) (.int .i64 0) (.int .i64 0) (.string mt0) (.slice o9 k c9),⟨⟨hd.out.pb.set5 (by have:=hd.out.bo.b;omega) _ _ _ _ _,hd.out.bo.pg.set5 (Nat.le_refl _) _ _ _ _ _⟩,hd.out.qs.nx,by have:=hd.out.qs.nx.at_;omega,hd.out.qs.lim,hd.out.qs.gr,fun e=>⟨(hd.out.qs.g9 e).1,(hd.out.qs.g9 e).2,((hd.out.row e).block (fun x hx hl=>set5_other _ _ x _ _ _ _ _ (by have:=hd.out.bo.ro;omega))).cat (by have h1:=hd.out.kk e;have h2:=(hd.out.qs.g9 e).1;have h3:=HOK.out.len;omega) (fun x hx=>by have:=hd.out.bo.ro;omega)⟩⟩⟩
   unfold set5 at HE
   clear xr
   go_wp2
   generalize (((((w1.setCell ⟨W.heap.size,0,none⟩ (.int .i64 7)).setCell ⟨W.heap.size,1,none⟩ (.int .i64 0)).setCell ⟨W.heap.size,2,none⟩ (.int .i64 0)).setCell ⟨W.heap.size,3,none⟩ (.string mt0)).setCell ⟨W.heap.size,4,none⟩ (.slice o9 k c9))=Wf at HE ⊢
   obtain ⟨u0,u1,u2,u3,u4⟩:=cells5c HE.out.1
   refine bodyPost_ret (v:=.agg #[.int .i64 7,.int .i64 0,.int .i64 0,.string mt0,.slice o9 k c9]) ?_ rfl ⟨_,_,_,_,_,_,_,q,rfl,HE.out.2⟩
   simp [results,Tryd.results60,go_sem,u0,u1,u2,u3,u4]
  | false =>
   obtain ⟨hq0,hqa⟩:=hr rfl
   have HQ0:=hide (And.intro hq0 hqa)
   have HOQ:Hid (Okp q):=hide ⟨by rw [HX.out.qs.nx.ts];exact HOK.out.len,by rw [HX.out.qs.nx.ts];exact HOK.out.bytes,Nat.le_of_lt hqa,by rw [HX.out.qs.nx.op];have:=HOK.out.op;have:=HX.out.qs.nx.at_;omega,HX.out.qs.gr,fun e=>(HX.out.qs.g9 e).2⟩
   have HWn:Hid (∃ n,WholeOf n∧q.ts.length-q.at_≤n+1):=hide (by
    have h1:=HX.out.qs.nx.at_
    have h2:=HX.out.qs.nx.ts
    rw [h2] at hqa
    obtain ⟨n,h3,h4⟩:=HWH.out (by omega)
    exact ⟨n,h3,by rw [h2];omega⟩)
   have HAt:Hid (∀ f:Bool,Calls Tryd.prog 83 #[.pointer (some ⟨b,0,none⟩),.bool f] w1 (TrR 1 q b w1)):=hide fun f=>by
    obtain ⟨n,h3,h4⟩:=HWn.out
    exact atom_bre n h3 q b w1 HX1.out.pb HOQ.out HQ0.out.1 (by rw [HX.out.qs.nx.ere];exact HER.out) HQ0.out.2 h4 f
   obtain ⟨y0,y1,y2,y3,y5,y6,yf1,yf5,yf6⟩:=(Rd.refl HX1.out.pb).can
   clear hq0 hqa hr
   go_wp2_with fail
   refine (HAt.out _).mono ?_
   rintro e w2 ⟨kind,n9,m9,ss,o,ln,cp,q1,rfl,tr⟩
   obtain ⟨A,hA⟩:∃ A,A=w2.heap.size:=⟨_,rfl⟩
   obtain ⟨w5,hw5⟩:∃ w5,w2.alloc (.cells #[.int .i64 kind,.int .i64 n9,.int .i64 m9,.string ss,.slice o ln cp] 25)=w5:=⟨_,rfl⟩
   obtain ⟨B,hB⟩:∃ B,B=w1.heap.size:=⟨_,rfl⟩
   obtain ⟨mm,hmm⟩:∃ mm,mm=q.at_+1:=⟨_,rfl⟩
   have tm5:Hid (Tm p b O A B W v k q.groups mm #[.int .i64 kind,.int .i64 n9,.int .i64 m9,.string ss,.slice o ln cp] q1 w5):=hide (by
    have hrow:=HX1.out.row HQ0.out.1
    have hb:=HX1.out.bo.b
    have hro:=HX1.out.bo.ro
    have hOl:=HX1.out.bo.lt
    have hs:=tr.rd.pg.size
    have hpg:PG b w1 w5:=tr.rd.pg.tr (by rw [←hw5];exact PG.alloc _)
    have hkk:=HX1.out.kk HQ0.out.1
    have hown:=hrow.ownP
    refine ⟨(tr.rd.alloc _).pb.keep (by rw [hw5]),HX1.out.bo.rd hOl hpg,by rw [←hw5,hA];exact heap_alloc_new w2 _,by omega,by rw [←hw5,hA];simp,((hrow.mono (P':=fun x=>O<x∧x≠A) fun x hx hl=>⟨hx,by omega⟩).block fun x hx hl=>hpg.block x hl (by simp;omega)).le (by omega),fun g hg=>by have:=(hown g hg).2;omega,by rw [←hw5,hB];simp;omega,fun e => ?_,HX1.out.qs.next tr.nx (by exact tr.lim) tr.gr (fun e=>⟨(tr.good e).1,(tr.good e).2.1⟩),by omega,by have:=tr.far;omega⟩
    refine (((tr.good e).2.2.p (P:=fun x=>B≤x∧O<x∧x≠A) fun x hx hl=>⟨by omega,by omega,by omega⟩).block fun x hx hl => ?_).le (by omega)
    rw [←hw5]
    exact Below.heap_alloc w2 _ x hl)
   have HMQ:Hid (q.at_<mm∧mm≤p.ts.length∧q.at_<p.ts.length):=hide (by have:=HQ0.out.2;rw [HX.out.qs.nx.ts] at this;exact ⟨by omega,by omega,this⟩)
   have HMEA:Hid (meaB b p.ts.length wr=p.ts.length+1-q.at_):=hide (by rw [meaB_eq HX.out.pb,if_pos HQ0.out.1])
   obtain ⟨z0,z1,z2,z3,z5,z6,zf1,zf5,zf6⟩:=(Rd.refl tm5.out.pb).can
   have z2e:q1.ere=false:=by rw [tm5.out.qs.nx.ere];exact HER.out
   rw [z2e] at z2
   obtain ⟨t0,t1,t2,t3,t4⟩:=cells5c tm5.out.bA
   clear tr hB hmm z2e HAt y0 y1 y2 y3 y5 y6 yf1 yf5 yf6 HX HX1 HMe HWn HOQ HQ0 HWH
   have HAA:=hide hA
   have HW5:=hide hw5
   clear hA hw5
   go_upto_region 5 with fail
   (try rw [HW5.out])
   (try simp only [←HAA.out])
   clear HW5
   have HAT1:Hid True:=trivial
   have HIS:=hide ((Rd.refl tm5.out.pb).is (by rw [tm5.out.qs.nx.ts];have:=HOK.out.len;omega) (by have:=tm5.out.qs.lim;have:=HOK.out.len;omega) ⟨#[42]⟩ (by decide))
   by_cases hk4:kind=4
   ·subst hk4
    cases hB:q1.is ⟨#[42]⟩ with
    | true =>
     rw [hB] at HIS
     have HS1:=hide (is_true hB)
     clear hB
     go_wp2_with fail
     refine HIS.out.mono ?_
     rintro e w6s ⟨rfl,rd6⟩
     have tm6:=hide (tm5.out.rd rd6)
     clear rd6 HIS tm5 z0 z1 z2 z3 z5 z6 zf1 zf5 zf6 t0 t1 t2 t3 t4
     obtain ⟨xs,hxs⟩:=tm6.out.row.own
     have HXS:=hide hxs
     have HKK:Hid (k≤300):=hide (by have h1:=tm6.out.kk;have h2:=HMQ.out;have h4:=HOK.out.len;omega)
     have c4v:=(cells5c tm6.out.bo.bO).2.2.2.2
     obtain ⟨t0,t1,t2,t3,t4⟩:=cells5c tm6.out.bA
     have HPU:=hide fun (g cap:Nat) (w9:World)=>tm6.out.push rfl (g:=g) (cap:=cap) (w9:=w9) (xs:=xs) HXS.out
     clear hxs
     go_wp2_with (at_builtin;refine wpList_append_lies _ rfl _ _ 23 rfl 0 25 i0 (.agg zero5) 5 64 Tryd.underlying23 HI.out.1 HI.out.2.1 HI.out.2.2.1 HI.out.2.2.2 rfl (by decide) v k xs rfl (World.ownsRow.alloc HXS.out _) ⟨w6s.heap.size,0,none⟩ 1 1 [.int .i64 4,.int .i64 n9,.int .i64 m9,.string ss,.slice o ln cp] rfl rfl (World.news_of_block (heap_alloc_new _ _)) (by intro u hu;simp at hu;rcases hu with rfl | rfl | rfl | rfl | rfl <;> rfl) (by decide) (by unfold maxLen;have:=HKK.out;omega) (by have:=HKK.out;omega) (by simp) _ rfl ?_;intro g9 cap9 w9 k1 k2 k3 k4;obtain ⟨BO,BP,BK,BX,⟨d4,d4f⟩,BS,BG,BL,BA⟩:=HPU.out g9 cap9 w9 k1 k2 k3;have HBO:=hide BO;have HBP:=hide BP;have HBK:=hide BK;have HOT:=hide BX;have HSZ9:=hide (And.intro BS (And.intro BG (And.intro BL BA)));clear k1 k2 k3 k4 BO BP BK BX BS BG BL BA HPU;obtain ⟨w10,hw10⟩:∃ w10,w9.setCell ⟨O,4,none⟩ (.slice (some ⟨g9,0,none⟩) (k+1) cap9)=w10:=⟨_,rfl⟩;rw [hw10] at HBO HBP HBK HOT;obtain ⟨e0,e1,e2,e3,e5,e6,ef1,ef5,ef6⟩:=(Rd.refl HBP.out).can;obtain ⟨qs,hqs⟩:∃ qs:Pq,qs={ q1 with at_:=q1.at_+1 }:=⟨_,rfl⟩;have hws:IntKind.i64.wrap ((q1.at_:Int)+1)=(qs.at_:Int):=(by rw [IntKind.wrap_i64,hqs];show _=((q1.at_+1:Nat):Int);have h1:=tm6.out.qs.lim;have h2:=HOK.out.len;omega);obtain ⟨w11,hw11⟩:∃ w11,w10.setCell ⟨b,1,none⟩ (.int .i64 (qs.at_:Int))=w11:=⟨_,rfl⟩;have HCh:=hide (char_any w11 42 (by decide) (by decide));have HW11:=hide hw11;have HQS:=hide hqs;clear hqs)
     refine HCh.out.mono ?_
     rintro e w12 ⟨rfl,b12⟩
     unfold rxV
     have hA10:w10.heap[A]?=some (.cells #[.int .i64 4,.int .i64 n9,.int .i64 m9,.string ss,.slice o ln cp] 25 (0,0)):=(HOT.out A (by have:=tm6.out.oA;omega) tm6.out.AB (fun e=>(tm6.out.row.ownP A e).1.2 rfl)).trans tm6.out.bA
     have hpg12:PG b w10 w12:=(by rw [←HW11.out];exact PG.set 1 _:PG b w10 w11).tr (PG.below b12)
     have hA12:w12.heap[A]?=some (.cells #[.int .i64 4,.int .i64 n9,.int .i64 m9,.string ss,.slice o ln cp] 25 (0,0)):=(hpg12.block A (Array.getElem?_eq_some_iff.1 hA10).1 (by have:=tm6.out.oA;have:=tm6.out.bo.ro;have:=tm6.out.bo.b;simp;omega)).trans hA10
     obtain ⟨v0',v1',v2',v3',v4'⟩:=cells5c hA12
     have y0:=fz5c hA12 0
     have y1:=fz5c hA12 1
     have y2:=fz5c hA12 2
     have y3:=fz5c hA12 3
     have y4:=fz5c hA12 4
     obtain ⟨m2,hm2⟩:∃ m2,m2=q1.at_+1:=⟨_,rfl⟩
     have tms:Hid (Tm p b O A w12.heap.size W (.slice (some ⟨g9,0,none⟩) (k+1) cap9) (k+1) q1.groups m2 #[.int .i64 1,.int .i64 42,.int .i64 0,.string mt0,.slice none 0 0] qs (set5 w12 A (.int .i64 1) (.int .i64 42) (.int .i64 0) (.string mt0) (.slice none 0 0))):=hide (by
      rw [HQS.out]
      refine tm_star HBO.out HBP.out (HBK.out HS1.out.1) hA10 tm6.out.oA tm6.out.qs HS1.out.1 (by have h:=HS1.out.2;rw [tm6.out.qs.nx.ts] at h;exact h) HOK.out.op (by rw [HQS.out] at HW11;have h:=HW11.out;rw [h];exact b12) (by have:=tm6.out.kk;have:=tm6.out.mq;omega) hm2)
     have HMQ2:Hid (q.at_<m2∧m2≤p.ts.length∧q.at_<p.ts.length):=hide (by have h:=HS1.out.2;rw [tm6.out.qs.nx.ts] at h;have h2:=tm6.out.mq;have h3:=HMQ.out;have h4:((⟨#[42]⟩:ByteArray)).size=1:=rfl;omega)
     clear HMQ
     have HMQ:=HMQ2
     clear HMQ2 hA10 hpg12 hA12 b12 HCh HW11 HQS hm2 HBO HBP HBK HOT HSZ9 HS1 tm6 HXS HKK e0 e1 e2 e3 e5 e6 ef1 ef5 ef6
     obtain ⟨B2,hB2⟩:∃ B2,B2=w12.heap.size:=⟨_,rfl⟩
     rw [←hB2] at tms
     clear hB2
     unfold set5 at tms
     go_wp2
     go_loopw [6,7] (fun _ _ wr=>∃ (q2:Pq) (kind n9 m9:Int) (ss:ByteArray) (o:Option Addr) (ln cp:Nat),Hid (Tm p b O A B2 W (.slice (some ⟨g9,0,none⟩) (k+1) cap9) (k+1) q1.groups m2 #[.int .i64 kind,.int .i64 n9,.int .i64 m9,.string ss,.slice o ln cp] q2 wr)) (fun _ _ wr=>meaB b p.ts.length wr)
     case atStart=>exact ⟨_,_,_,_,_,_,_,_,tms⟩
     case round =>
      obtain ⟨q2,kind,n9,m9,ss,o,ln,cp,tm⟩:=hrel
      obtain ⟨z0,z1,z2,z3,z5,z6,zf1,zf5,zf6⟩:=(Rd.refl tm.out.pb).can
      obtain ⟨t0,t1,t2,t3,t4⟩:=cells5c tm.out.bA
      by_cases h0:q2.code=0
      ·have k1:(q2.code == 0)=true:=by simp [h0]
       have HC2:=hide h0
       rw [h0] at z3
       have HTm:=hide (times_bre q2 b wr tm.out.pb (by rw [tm.out.qs.nx.ts];have:=HOK.out.len;omega) (by have:=(tm.out.qs.g9 h0).1;have:=HOK.out.len;omega) (by rw [tm.out.qs.nx.ts];exact HOK.out.bytes) (by rw [tm.out.qs.nx.ere];exact HER.out) kind n9 m9 ss o ln cp)
       clear h0
       go_wp2_with fail
       refine HTm.out.mono ?_
       rintro e w6 (⟨rfl,gno⟩|⟨low,high,q3,g,rfl,gyes,hg1,hg2,hbq⟩)
       ·have tm6:=hide ((tm.out.rd (Rd.of1 gno)).alloc (.cells #[.int .i64 kind,.int .i64 n9,.int .i64 m9,.string ss,.slice o ln cp] 25))
        clear gno HTm z0 z1 z2 z3 z5 z6 zf1 zf5 zf6 t0 t1 t2 t3 t4 k1
        obtain ⟨w7,hw7⟩:∃ w7,w6.alloc (.cells #[.int .i64 kind,.int .i64 n9,.int .i64 m9,.string ss,.slice o ln cp] 25)=w7:=⟨_,rfl⟩
        rw [hw7] at tm6
        have HC3:=HC2
        obtain ⟨xs,hxs⟩:=tm6.out.row.own
        have HXS:=hide hxs
        have HKK:Hid ((k+1)≤300):=hide (by have h1:=tm6.out.kk;have h2:=HMQ.out;have h4:=HOK.out.len;omega)
        have c4v:=(cells5c tm6.out.bo.bO).2.2.2.2
        obtain ⟨t0,t1,t2,t3,t4⟩:=cells5c tm6.out.bA
        have HPU:=hide fun (g cap:Nat) (w9:World)=>tm6.out.push rfl (g:=g) (cap:=cap) (w9:=w9) (xs:=xs) HXS.out
        clear hxs
        go_wp2_with (at_builtin;refine wpList_append_lies _ rfl _ _ 23 rfl 0 25 i0 (.agg zero5) 5 64 Tryd.underlying23 HI.out.1 HI.out.2.1 HI.out.2.2.1 HI.out.2.2.2 rfl (by decide) (.slice (some ⟨g9,0,none⟩) (k+1) cap9) (k+1) xs rfl (World.ownsRow.alloc HXS.out _) ⟨w7.heap.size,0,none⟩ 1 1 [.int .i64 kind,.int .i64 n9,.int .i64 m9,.string ss,.slice o ln cp] rfl rfl (World.news_of_block (heap_alloc_new _ _)) (by intro u hu;simp at hu;rcases hu with rfl | rfl | rfl | rfl | rfl <;> rfl) (by decide) (by unfold maxLen;have:=HKK.out;omega) (by have:=HKK.out;omega) (by simp) _ rfl ?_;intro g9 cap9 w9 k1 k2 k3 k4;obtain ⟨BO,BP,BK,BX,⟨d4,d4f⟩,BS,BG,BL,BA⟩:=HPU.out g9 cap9 w9 k1 k2 k3;have HBO:=hide BO;have HBP:=hide BP;have HBK:=hide BK;have HOT:=hide BX;have HSZ9:=hide (And.intro BS (And.intro BG (And.intro BL BA)));clear k1 k2 k3 k4 BO BP BK BX BS BG BL BA HPU)
        go_roundw
        case rel=>exact ⟨q2,.slice (some ⟨g9,0,none⟩) ((k+1)+1) cap9,(k+1)+1,hide ⟨HBP.out,HBO.out,⟨_,_,rfl⟩,fun e=>(HBK.out e).mono (fun x hx _=>hx.1),tm6.out.qs,fun e=>by have h1:=tm6.out.kk;have h2:=tm6.out.mq;omega⟩⟩
        case measure=>rw [meaB_eq HBP.out,HMEA.out];have h1:=tm6.out.kk;have h2:=tm6.out.mq;have h3:=HMQ.out;split <;> omega
       ·obtain ⟨w7,hw7⟩:∃ w7,w6.alloc (.cells #[.int .i64 9,.int .i64 low,.int .i64 high,.string mt0,.slice (some ⟨g,0,none⟩) 1 1] 25)=w7:=⟨_,rfl⟩
        have hb7:Below w6.heap.size w6 w7:=by rw [←hw7];exact (Below.refl _ _).alloc (Nat.le_refl _) _
        have x7:w7.heap[w6.heap.size]?=some (.cells #[.int .i64 9,.int .i64 low,.int .i64 high,.string mt0,.slice (some ⟨g,0,none⟩) 1 1] 25 (0,0)):=by rw [←hw7];exact heap_alloc_new w6 _
        obtain ⟨s0,s1,s2,s3,s4⟩:=cells5c x7
        have HX7:=hide x7
        have tpg:PG b wr w7:=gyes.pg.tr (PG.below hb7)
        have hAl:=tm.out.AB
        have hBB:=tm.out.BB
        have hbo:=tm.out.bo.b
        have hro:=tm.out.bo.ro
        have hoA:=tm.out.oA
        have tmz:Hid (Tm p b O A B2 W (.slice (some ⟨g9,0,none⟩) (k+1) cap9) (k+1) q1.groups m2 #[.int .i64 9,.int .i64 low,.int .i64 high,.string mt0,.slice (some ⟨g,0,none⟩) 1 1] q3 (set5 w7 A (.int .i64 9) (.int .i64 low) (.int .i64 high) (.string mt0) (.slice (some ⟨g,0,none⟩) 1 1))):=hide (by
         refine tm.out.put ⟨_,_,_,_,_,rfl⟩ (gyes.pb.below hb7) tpg _ _ _ _ _ (tm.out.qs.next gyes.nx (by have h1:=hbq.2.1;have h2:=HOK.out;have h3:=tm.out.qs.nx.op;have h4:=tm.out.qs.nx.ts;have h5:=h2.op;have h6:=h2.at_;rw [h4] at h1 ⊢;rw [h3];omega) (by rw [gyes.gr];have:=tm.out.qs.gr;have:=gyes.nx.at_;omega) (fun e=>⟨(hbq.2.2 e).1,by rw [gyes.gr];exact (tm.out.qs.g9 (gyes.nx.code e)).2⟩)) (by have:=tm.out.mq;have:=gyes.nx.at_;omega) (fun e => ?_)
         have hq:=hbq.2.2 e
         have ht:=(tm.out.tree (gyes.nx.code e)).block (W':=w7) fun x hx hl=>tpg.block x hl (by simp;omega)
         rw [gyes.gr]
         exact (ht.rep rfl ((hb7.block g (Array.getElem?_eq_some_iff.1 hg2).1).trans hg2) ⟨by omega,by omega,by omega⟩ 1 hq.2.1 hq.2.2.1 hq.2.2.2).le (by have h1:=hbq.1;have h2:=tm.out.mq;omega))
        have HMZ:Hid (meaB b p.ts.length (set5 w7 A (.int .i64 9) (.int .i64 low) (.int .i64 high) (.string mt0) (.slice (some ⟨g,0,none⟩) 1 1))<meaB b p.ts.length wr):=hide (by
         rw [meaB_eq tmz.out.pb,meaB_eq tm.out.pb,if_pos HC2.out]
         have h1:=(tm.out.qs.g9 HC2.out).1
         have h2:=hbq.1
         split <;> omega)
        have xA7:w7.heap[A]?=some (.cells #[.int .i64 kind,.int .i64 n9,.int .i64 m9,.string ss,.slice o ln cp] 25 (0,0)):=(tpg.block A hAl (by simp;omega)).trans tm.out.bA
        obtain ⟨v0',v1',v2',v3',v4'⟩:=cells5c xA7
        have y0:=fz5c xA7 0
        have y1:=fz5c xA7 1
        have y2:=fz5c xA7 2
        have y3:=fz5c xA7 3
        have y4:=fz5c xA7 4
        unfold set5 at tmz HMZ
        unfold rxV
        clear gyes hg1 hg2 hbq hb7 x7 tpg xA7 HTm z0 z1 z2 z3 z5 z6 zf1 zf5 zf6 t0 t1 t2 t3 t4 k1 hAl hBB hbo hro hoA
        go_wp2
        go_roundw
        case rel=>exact ⟨_,_,_,_,_,_,_,_,tmz⟩
        case measure=>exact HMZ.out
      ·have k1:(q2.code == 0)=false:=by simpa using h0
       have k2:decide (q2.code=0)=false:=decide_eq_false h0
       clear h0 t0 t1 t2 t3 t4
       clear z0 z1 z2 z5 z6 zf1 zf5 zf6
       obtain ⟨xs,hxs⟩:=tm.out.row.own
       have HXS:=hide hxs
       have HKK:Hid ((k+1)≤300):=hide (by have h1:=tm.out.kk;have h2:=HMQ.out;have h4:=HOK.out.len;omega)
       have c4v:=(cells5c tm.out.bo.bO).2.2.2.2
       obtain ⟨t0,t1,t2,t3,t4⟩:=cells5c tm.out.bA
       have HPU:=hide fun (g cap:Nat) (w9:World)=>tm.out.push rfl (g:=g) (cap:=cap) (w9:=w9) (xs:=xs) HXS.out
       clear hxs
       go_wp2_with (at_builtin;refine wpList_append_lies _ rfl _ _ 23 rfl 0 25 i0 (.agg zero5) 5 64 Tryd.underlying23 HI.out.1 HI.out.2.1 HI.out.2.2.1 HI.out.2.2.2 rfl (by decide) (.slice (some ⟨g9,0,none⟩) (k+1) cap9) (k+1) xs rfl (World.ownsRow.alloc HXS.out _) ⟨wr.heap.size,0,none⟩ 1 1 [.int .i64 kind,.int .i64 n9,.int .i64 m9,.string ss,.slice o ln cp] rfl rfl (World.news_of_block (heap_alloc_new _ _)) (by intro u hu;simp at hu;rcases hu with rfl | rfl | rfl | rfl | rfl <;> rfl) (by decide) (by unfold maxLen;have:=HKK.out;omega) (by have:=HKK.out;omega) (by simp) _ rfl ?_;intro g9 cap9 w9 k1 k2 k3 k4;obtain ⟨BO,BP,BK,BX,⟨d4,d4f⟩,BS,BG,BL,BA⟩:=HPU.out g9 cap9 w9 k1 k2 k3;have HBO:=hide BO;have HBP:=hide BP;have HBK:=hide BK;have HOT:=hide BX;have HSZ9:=hide (And.intro BS (And.intro BG (And.intro BL BA)));clear k1 k2 k3 k4 BO BP BK BX BS BG BL BA HPU)
       go_roundw
       case rel=>exact ⟨q2,.slice (some ⟨g9,0,none⟩) ((k+1)+1) cap9,(k+1)+1,hide ⟨HBP.out,HBO.out,⟨_,_,rfl⟩,fun e=>(HBK.out e).mono (fun x hx _=>hx.1),tm.out.qs,fun e=>by have h1:=tm.out.kk;have h2:=tm.out.mq;omega⟩⟩
       case measure=>rw [meaB_eq HBP.out,HMEA.out];have h1:=tm.out.kk;have h2:=tm.out.mq;have h3:=HMQ.out;split <;> omega
    | false =>
     rw [hB] at HIS
     clear hB
     go_wp2_with fail
     refine HIS.out.mono ?_
     rintro e w6s ⟨rfl,rd6⟩
     have tm6:=hide (tm5.out.rd rd6)
     clear rd6 HIS tm5 z0 z1 z2 z3 z5 z6 zf1 zf5 zf6 t0 t1 t2 t3 t4
     go_wp2
     go_loopw [6,7] (fun _ _ wr=>∃ (q2:Pq) (kind n9 m9:Int) (ss:ByteArray) (o:Option Addr) (ln cp:Nat),Hid (Tm p b O A B W v k q.groups mm #[.int .i64 kind,.int .i64 n9,.int .i64 m9,.string ss,.slice o ln cp] q2 wr)) (fun _ _ wr=>meaB b p.ts.length wr)
     case atStart=>exact ⟨_,_,_,_,_,_,_,_,tm6⟩
     case round =>
      obtain ⟨q2,kind,n9,m9,ss,o,ln,cp,tm⟩:=hrel
      obtain ⟨z0,z1,z2,z3,z5,z6,zf1,zf5,zf6⟩:=(Rd.refl tm.out.pb).can
      obtain ⟨t0,t1,t2,t3,t4⟩:=cells5c tm.out.bA
      by_cases h0:q2.code=0
      ·have k1:(q2.code == 0)=true:=by simp [h0]
       have HC2:=hide h0
       rw [h0] at z3
       have HTm:=hide (times_bre q2 b wr tm.out.pb (by rw [tm.out.qs.nx.ts];have:=HOK.out.len;omega) (by have:=(tm.out.qs.g9 h0).1;have:=HOK.out.len;omega) (by rw [tm.out.qs.nx.ts];exact HOK.out.bytes) (by rw [tm.out.qs.nx.ere];exact HER.out) kind n9 m9 ss o ln cp)
       clear h0
       go_wp2_with fail
       refine HTm.out.mono ?_
       rintro e w6 (⟨rfl,gno⟩|⟨low,high,q3,g,rfl,gyes,hg1,hg2,hbq⟩)
       ·have tm6:=hide ((tm.out.rd (Rd.of1 gno)).alloc (.cells #[.int .i64 kind,.int .i64 n9,.int .i64 m9,.string ss,.slice o ln cp] 25))
        clear gno HTm z0 z1 z2 z3 z5 z6 zf1 zf5 zf6 t0 t1 t2 t3 t4 k1
        obtain ⟨w7,hw7⟩:∃ w7,w6.alloc (.cells #[.int .i64 kind,.int .i64 n9,.int .i64 m9,.string ss,.slice o ln cp] 25)=w7:=⟨_,rfl⟩
        rw [hw7] at tm6
        have HC3:=HC2
        obtain ⟨xs,hxs⟩:=tm6.out.row.own
        have HXS:=hide hxs
        have HKK:Hid (k≤300):=hide (by have h1:=tm6.out.kk;have h2:=HMQ.out;have h4:=HOK.out.len;omega)
        have c4v:=(cells5c tm6.out.bo.bO).2.2.2.2
        obtain ⟨t0,t1,t2,t3,t4⟩:=cells5c tm6.out.bA
        have HPU:=hide fun (g cap:Nat) (w9:World)=>tm6.out.push rfl (g:=g) (cap:=cap) (w9:=w9) (xs:=xs) HXS.out
        clear hxs
        go_wp2_with (at_builtin;refine wpList_append_lies _ rfl _ _ 23 rfl 0 25 i0 (.agg zero5) 5 64 Tryd.underlying23 HI.out.1 HI.out.2.1 HI.out.2.2.1 HI.out.2.2.2 rfl (by decide) v k xs rfl (World.ownsRow.alloc HXS.out _) ⟨w7.heap.size,0,none⟩ 1 1 [.int .i64 kind,.int .i64 n9,.int .i64 m9,.string ss,.slice o ln cp] rfl rfl (World.news_of_block (heap_alloc_new _ _)) (by intro u hu;simp at hu;rcases hu with rfl | rfl | rfl | rfl | rfl <;> rfl) (by decide) (by unfold maxLen;have:=HKK.out;omega) (by have:=HKK.out;omega) (by simp) _ rfl ?_;intro g9 cap9 w9 k1 k2 k3 k4;obtain ⟨BO,BP,BK,BX,⟨d4,d4f⟩,BS,BG,BL,BA⟩:=HPU.out g9 cap9 w9 k1 k2 k3;have HBO:=hide BO;have HBP:=hide BP;have HBK:=hide BK;have HOT:=hide BX;have HSZ9:=hide (And.intro BS (And.intro BG (And.intro BL BA)));clear k1 k2 k3 k4 BO BP BK BX BS BG BL BA HPU)
        go_roundw
        case rel=>exact ⟨q2,.slice (some ⟨g9,0,none⟩) (k+1) cap9,k+1,hide ⟨HBP.out,HBO.out,⟨_,_,rfl⟩,fun e=>(HBK.out e).mono (fun x hx _=>hx.1),tm6.out.qs,fun e=>by have h1:=tm6.out.kk;have h2:=tm6.out.mq;omega⟩⟩
        case measure=>rw [meaB_eq HBP.out,HMEA.out];have h1:=tm6.out.kk;have h2:=tm6.out.mq;have h3:=HMQ.out;split <;> omega
       ·obtain ⟨w7,hw7⟩:∃ w7,w6.alloc (.cells #[.int .i64 9,.int .i64 low,.int .i64 high,.string mt0,.slice (some ⟨g,0,none⟩) 1 1] 25)=w7:=⟨_,rfl⟩
        have hb7:Below w6.heap.size w6 w7:=by rw [←hw7];exact (Below.refl _ _).alloc (Nat.le_refl _) _
        have x7:w7.heap[w6.heap.size]?=some (.cells #[.int .i64 9,.int .i64 low,.int .i64 high,.string mt0,.slice (some ⟨g,0,none⟩) 1 1] 25 (0,0)):=by rw [←hw7];exact heap_alloc_new w6 _
        obtain ⟨s0,s1,s2,s3,s4⟩:=cells5c x7
        have HX7:=hide x7
        have tpg:PG b wr w7:=gyes.pg.tr (PG.below hb7)
        have hAl:=tm.out.AB
        have hBB:=tm.out.BB
        have hbo:=tm.out.bo.b
        have hro:=tm.out.bo.ro
        have hoA:=tm.out.oA
        have tmz:Hid (Tm p b O A B W v k q.groups mm #[.int .i64 9,.int .i64 low,.int .i64 high,.string mt0,.slice (some ⟨g,0,none⟩) 1 1] q3 (set5 w7 A (.int .i64 9) (.int .i64 low) (.int .i64 high) (.string mt0) (.slice (some ⟨g,0,none⟩) 1 1))):=hide (by
         refine tm.out.put ⟨_,_,_,_,_,rfl⟩ (gyes.pb.below hb7) tpg _ _ _ _ _ (tm.out.qs.next gyes.nx (by have h1:=hbq.2.1;have h2:=HOK.out;have h3:=tm.out.qs.nx.op;have h4:=tm.out.qs.nx.ts;have h5:=h2.op;have h6:=h2.at_;rw [h4] at h1 ⊢;rw [h3];omega) (by rw [gyes.gr];have:=tm.out.qs.gr;have:=gyes.nx.at_;omega) (fun e=>⟨(hbq.2.2 e).1,by rw [gyes.gr];exact (tm.out.qs.g9 (gyes.nx.code e)).2⟩)) (by have:=tm.out.mq;have:=gyes.nx.at_;omega) (fun e => ?_)
         have hq:=hbq.2.2 e
         have ht:=(tm.out.tree (gyes.nx.code e)).block (W':=w7) fun x hx hl=>tpg.block x hl (by simp;omega)
         rw [gyes.gr]
         exact (ht.rep rfl ((hb7.block g (Array.getElem?_eq_some_iff.1 hg2).1).trans hg2) ⟨by omega,by omega,by omega⟩ 1 hq.2.1 hq.2.2.1 hq.2.2.2).le (by have h1:=hbq.1;have h2:=tm.out.mq;omega))
        have HMZ:Hid (meaB b p.ts.length (set5 w7 A (.int .i64 9) (.int .i64 low) (.int .i64 high) (.string mt0) (.slice (some ⟨g,0,none⟩) 1 1))<meaB b p.ts.length wr):=hide (by
         rw [meaB_eq tmz.out.pb,meaB_eq tm.out.pb,if_pos HC2.out]
         have h1:=(tm.out.qs.g9 HC2.out).1
         have h2:=hbq.1
         split <;> omega)
        have xA7:w7.heap[A]?=some (.cells #[.int .i64 kind,.int .i64 n9,.int .i64 m9,.string ss,.slice o ln cp] 25 (0,0)):=(tpg.block A hAl (by simp;omega)).trans tm.out.bA
        obtain ⟨v0',v1',v2',v3',v4'⟩:=cells5c xA7
        have y0:=fz5c xA7 0
        have y1:=fz5c xA7 1
        have y2:=fz5c xA7 2
        have y3:=fz5c xA7 3
        have y4:=fz5c xA7 4
        unfold set5 at tmz HMZ
        unfold rxV
        clear gyes hg1 hg2 hbq hb7 x7 tpg xA7 HTm z0 z1 z2 z3 z5 z6 zf1 zf5 zf6 t0 t1 t2 t3 t4 k1 hAl hBB hbo hro hoA
        go_wp2
        go_roundw
        case rel=>exact ⟨_,_,_,_,_,_,_,_,tmz⟩
        case measure=>exact HMZ.out
      ·have k1:(q2.code == 0)=false:=by simpa using h0
       have k2:decide (q2.code=0)=false:=decide_eq_false h0
       clear h0 t0 t1 t2 t3 t4
       clear z0 z1 z2 z5 z6 zf1 zf5 zf6
       obtain ⟨xs,hxs⟩:=tm.out.row.own
       have HXS:=hide hxs
       have HKK:Hid (k≤300):=hide (by have h1:=tm.out.kk;have h2:=HMQ.out;have h4:=HOK.out.len;omega)
       have c4v:=(cells5c tm.out.bo.bO).2.2.2.2
       obtain ⟨t0,t1,t2,t3,t4⟩:=cells5c tm.out.bA
       have HPU:=hide fun (g cap:Nat) (w9:World)=>tm.out.push rfl (g:=g) (cap:=cap) (w9:=w9) (xs:=xs) HXS.out
       clear hxs
       go_wp2_with (at_builtin;refine wpList_append_lies _ rfl _ _ 23 rfl 0 25 i0 (.agg zero5) 5 64 Tryd.underlying23 HI.out.1 HI.out.2.1 HI.out.2.2.1 HI.out.2.2.2 rfl (by decide) v k xs rfl (World.ownsRow.alloc HXS.out _) ⟨wr.heap.size,0,none⟩ 1 1 [.int .i64 kind,.int .i64 n9,.int .i64 m9,.string ss,.slice o ln cp] rfl rfl (World.news_of_block (heap_alloc_new _ _)) (by intro u hu;simp at hu;rcases hu with rfl | rfl | rfl | rfl | rfl <;> rfl) (by decide) (by unfold maxLen;have:=HKK.out;omega) (by have:=HKK.out;omega) (by simp) _ rfl ?_;intro g9 cap9 w9 k1 k2 k3 k4;obtain ⟨BO,BP,BK,BX,⟨d4,d4f⟩,BS,BG,BL,BA⟩:=HPU.out g9 cap9 w9 k1 k2 k3;have HBO:=hide BO;have HBP:=hide BP;have HBK:=hide BK;have HOT:=hide BX;have HSZ9:=hide (And.intro BS (And.intro BG (And.intro BL BA)));clear k1 k2 k3 k4 BO BP BK BX BS BG BL BA HPU)
       go_roundw
       case rel=>exact ⟨q2,.slice (some ⟨g9,0,none⟩) (k+1) cap9,k+1,hide ⟨HBP.out,HBO.out,⟨_,_,rfl⟩,fun e=>(HBK.out e).mono (fun x hx _=>hx.1),tm.out.qs,fun e=>by have h1:=tm.out.kk;have h2:=tm.out.mq;omega⟩⟩
       case measure=>rw [meaB_eq HBP.out,HMEA.out];have h1:=tm.out.kk;have h2:=tm.out.mq;have h3:=HMQ.out;split <;> omega
   ·have e4:(kind == 4)=false:=by simpa using hk4
    have e4':decide (kind=4)=false:=decide_eq_false hk4
    clear hk4 HIS
    go_wp2
    go_loopw [6,7] (fun _ _ wr=>∃ (q2:Pq) (kind n9 m9:Int) (ss:ByteArray) (o:Option Addr) (ln cp:Nat),Hid (Tm p b O A B W v k q.groups mm #[.int .i64 kind,.int .i64 n9,.int .i64 m9,.string ss,.slice o ln cp] q2 wr)) (fun _ _ wr=>meaB b p.ts.length wr)
    case atStart=>exact ⟨_,_,_,_,_,_,_,_,tm5⟩
    case round =>
     obtain ⟨q2,kind,n9,m9,ss,o,ln,cp,tm⟩:=hrel
     obtain ⟨z0,z1,z2,z3,z5,z6,zf1,zf5,zf6⟩:=(Rd.refl tm.out.pb).can
     obtain ⟨t0,t1,t2,t3,t4⟩:=cells5c tm.out.bA
     by_cases h0:q2.code=0
     ·have k1:(q2.code == 0)=true:=by simp [h0]
      have HC2:=hide h0
      rw [h0] at z3
      have HTm:=hide (times_bre q2 b wr tm.out.pb (by rw [tm.out.qs.nx.ts];have:=HOK.out.len;omega) (by have:=(tm.out.qs.g9 h0).1;have:=HOK.out.len;omega) (by rw [tm.out.qs.nx.ts];exact HOK.out.bytes) (by rw [tm.out.qs.nx.ere];exact HER.out) kind n9 m9 ss o ln cp)
      clear h0
      go_wp2_with fail
      refine HTm.out.mono ?_
      rintro e w6 (⟨rfl,gno⟩|⟨low,high,q3,g,rfl,gyes,hg1,hg2,hbq⟩)
      ·have tm6:=hide ((tm.out.rd (Rd.of1 gno)).alloc (.cells #[.int .i64 kind,.int .i64 n9,.int .i64 m9,.string ss,.slice o ln cp] 25))
       clear gno HTm z0 z1 z2 z3 z5 z6 zf1 zf5 zf6 t0 t1 t2 t3 t4 k1
       obtain ⟨w7,hw7⟩:∃ w7,w6.alloc (.cells #[.int .i64 kind,.int .i64 n9,.int .i64 m9,.string ss,.slice o ln cp] 25)=w7:=⟨_,rfl⟩
       rw [hw7] at tm6
       have HC3:=HC2
       obtain ⟨xs,hxs⟩:=tm6.out.row.own
       have HXS:=hide hxs
       have HKK:Hid (k≤300):=hide (by have h1:=tm6.out.kk;have h2:=HMQ.out;have h4:=HOK.out.len;omega)
       have c4v:=(cells5c tm6.out.bo.bO).2.2.2.2
       obtain ⟨t0,t1,t2,t3,t4⟩:=cells5c tm6.out.bA
       have HPU:=hide fun (g cap:Nat) (w9:World)=>tm6.out.push rfl (g:=g) (cap:=cap) (w9:=w9) (xs:=xs) HXS.out
       clear hxs
       go_wp2_with (at_builtin;refine wpList_append_lies _ rfl _ _ 23 rfl 0 25 i0 (.agg zero5) 5 64 Tryd.underlying23 HI.out.1 HI.out.2.1 HI.out.2.2.1 HI.out.2.2.2 rfl (by decide) v k xs rfl (World.ownsRow.alloc HXS.out _) ⟨w7.heap.size,0,none⟩ 1 1 [.int .i64 kind,.int .i64 n9,.int .i64 m9,.string ss,.slice o ln cp] rfl rfl (World.news_of_block (heap_alloc_new _ _)) (by intro u hu;simp at hu;rcases hu with rfl | rfl | rfl | rfl | rfl <;> rfl) (by decide) (by unfold maxLen;have:=HKK.out;omega) (by have:=HKK.out;omega) (by simp) _ rfl ?_;intro g9 cap9 w9 k1 k2 k3 k4;obtain ⟨BO,BP,BK,BX,⟨d4,d4f⟩,BS,BG,BL,BA⟩:=HPU.out g9 cap9 w9 k1 k2 k3;have HBO:=hide BO;have HBP:=hide BP;have HBK:=hide BK;have HOT:=hide BX;have HSZ9:=hide (And.intro BS (And.intro BG (And.intro BL BA)));clear k1 k2 k3 k4 BO BP BK BX BS BG BL BA HPU)
       go_roundw
       case rel=>exact ⟨q2,.slice (some ⟨g9,0,none⟩) (k+1) cap9,k+1,hide ⟨HBP.out,HBO.out,⟨_,_,rfl⟩,fun e=>(HBK.out e).mono (fun x hx _=>hx.1),tm6.out.qs,fun e=>by have h1:=tm6.out.kk;have h2:=tm6.out.mq;omega⟩⟩
       case measure=>rw [meaB_eq HBP.out,HMEA.out];have h1:=tm6.out.kk;have h2:=tm6.out.mq;have h3:=HMQ.out;split <;> omega
      ·obtain ⟨w7,hw7⟩:∃ w7,w6.alloc (.cells #[.int .i64 9,.int .i64 low,.int .i64 high,.string mt0,.slice (some ⟨g,0,none⟩) 1 1] 25)=w7:=⟨_,rfl⟩
       have hb7:Below w6.heap.size w6 w7:=by rw [←hw7];exact (Below.refl _ _).alloc (Nat.le_refl _) _
       have x7:w7.heap[w6.heap.size]?=some (.cells #[.int .i64 9,.int .i64 low,.int .i64 high,.string mt0,.slice (some ⟨g,0,none⟩) 1 1] 25 (0,0)):=by rw [←hw7];exact heap_alloc_new w6 _
       obtain ⟨s0,s1,s2,s3,s4⟩:=cells5c x7
       have HX7:=hide x7
       have tpg:PG b wr w7:=gyes.pg.tr (PG.below hb7)
       have hAl:=tm.out.AB
       have hBB:=tm.out.BB
       have hbo:=tm.out.bo.b
       have hro:=tm.out.bo.ro
       have hoA:=tm.out.oA
       have tmz:Hid (Tm p b O A B W v k q.groups mm #[.int .i64 9,.int .i64 low,.int .i64 high,.string mt0,.slice (some ⟨g,0,none⟩) 1 1] q3 (set5 w7 A (.int .i64 9) (.int .i64 low) (.int .i64 high) (.string mt0) (.slice (some ⟨g,0,none⟩) 1 1))):=hide (by
        refine tm.out.put ⟨_,_,_,_,_,rfl⟩ (gyes.pb.below hb7) tpg _ _ _ _ _ (tm.out.qs.next gyes.nx (by have h1:=hbq.2.1;have h2:=HOK.out;have h3:=tm.out.qs.nx.op;have h4:=tm.out.qs.nx.ts;have h5:=h2.op;have h6:=h2.at_;rw [h4] at h1 ⊢;rw [h3];omega) (by rw [gyes.gr];have:=tm.out.qs.gr;have:=gyes.nx.at_;omega) (fun e=>⟨(hbq.2.2 e).1,by rw [gyes.gr];exact (tm.out.qs.g9 (gyes.nx.code e)).2⟩)) (by have:=tm.out.mq;have:=gyes.nx.at_;omega) (fun e => ?_)
        have hq:=hbq.2.2 e
        have ht:=(tm.out.tree (gyes.nx.code e)).block (W':=w7) fun x hx hl=>tpg.block x hl (by simp;omega)
        rw [gyes.gr]
        exact (ht.rep rfl ((hb7.block g (Array.getElem?_eq_some_iff.1 hg2).1).trans hg2) ⟨by omega,by omega,by omega⟩ 1 hq.2.1 hq.2.2.1 hq.2.2.2).le (by have h1:=hbq.1;have h2:=tm.out.mq;omega))
       have HMZ:Hid (meaB b p.ts.length (set5 w7 A (.int .i64 9) (.int .i64 low) (.int .i64 high) (.string mt0) (.slice (some ⟨g,0,none⟩) 1 1))<meaB b p.ts.length wr):=hide (by
        rw [meaB_eq tmz.out.pb,meaB_eq tm.out.pb,if_pos HC2.out]
        have h1:=(tm.out.qs.g9 HC2.out).1
        have h2:=hbq.1
        split <;> omega)
       have xA7:w7.heap[A]?=some (.cells #[.int .i64 kind,.int .i64 n9,.int .i64 m9,.string ss,.slice o ln cp] 25 (0,0)):=(tpg.block A hAl (by simp;omega)).trans tm.out.bA
       obtain ⟨v0',v1',v2',v3',v4'⟩:=cells5c xA7
       have y0:=fz5c xA7 0
       have y1:=fz5c xA7 1
       have y2:=fz5c xA7 2
       have y3:=fz5c xA7 3
       have y4:=fz5c xA7 4
       unfold set5 at tmz HMZ
       unfold rxV
       clear gyes hg1 hg2 hbq hb7 x7 tpg xA7 HTm z0 z1 z2 z3 z5 z6 zf1 zf5 zf6 t0 t1 t2 t3 t4 k1 hAl hBB hbo hro hoA
       go_wp2
       go_roundw
       case rel=>exact ⟨_,_,_,_,_,_,_,_,tmz⟩
       case measure=>exact HMZ.out
     ·have k1:(q2.code == 0)=false:=by simpa using h0
      have k2:decide (q2.code=0)=false:=decide_eq_false h0
      clear h0 t0 t1 t2 t3 t4
      clear z0 z1 z2 z5 z6 zf1 zf5 zf6
      obtain ⟨xs,hxs⟩:=tm.out.row.own
      have HXS:=hide hxs
      have HKK:Hid (k≤300):=hide (by have h1:=tm.out.kk;have h2:=HMQ.out;have h4:=HOK.out.len;omega)
      have c4v:=(cells5c tm.out.bo.bO).2.2.2.2
      obtain ⟨t0,t1,t2,t3,t4⟩:=cells5c tm.out.bA
      have HPU:=hide fun (g cap:Nat) (w9:World)=>tm.out.push rfl (g:=g) (cap:=cap) (w9:=w9) (xs:=xs) HXS.out
      clear hxs
      go_wp2_with (at_builtin;refine wpList_append_lies _ rfl _ _ 23 rfl 0 25 i0 (.agg zero5) 5 64 Tryd.underlying23 HI.out.1 HI.out.2.1 HI.out.2.2.1 HI.out.2.2.2 rfl (by decide) v k xs rfl (World.ownsRow.alloc HXS.out _) ⟨wr.heap.size,0,none⟩ 1 1 [.int .i64 kind,.int .i64 n9,.int .i64 m9,.string ss,.slice o ln cp] rfl rfl (World.news_of_block (heap_alloc_new _ _)) (by intro u hu;simp at hu;rcases hu with rfl | rfl | rfl | rfl | rfl <;> rfl) (by decide) (by unfold maxLen;have:=HKK.out;omega) (by have:=HKK.out;omega) (by simp) _ rfl ?_;intro g9 cap9 w9 k1 k2 k3 k4;obtain ⟨BO,BP,BK,BX,⟨d4,d4f⟩,BS,BG,BL,BA⟩:=HPU.out g9 cap9 w9 k1 k2 k3;have HBO:=hide BO;have HBP:=hide BP;have HBK:=hide BK;have HOT:=hide BX;have HSZ9:=hide (And.intro BS (And.intro BG (And.intro BL BA)));clear k1 k2 k3 k4 BO BP BK BX BS BG BL BA HPU)
      go_roundw
      case rel=>exact ⟨q2,.slice (some ⟨g9,0,none⟩) (k+1) cap9,k+1,hide ⟨HBP.out,HBO.out,⟨_,_,rfl⟩,fun e=>(HBK.out e).mono (fun x hx _=>hx.1),tm.out.qs,fun e=>by have h1:=tm.out.kk;have h2:=tm.out.mq;omega⟩⟩
      case measure=>rw [meaB_eq HBP.out,HMEA.out];have h1:=tm.out.kk;have h2:=tm.out.mq;have h3:=HMQ.out;split <;> omega
end Go.Proofs.YtfhimmnoipfiaaaDoor.eng
namespace Go.Proofs.YtfhimmnoipfiaaaDoor.eng
open bytes places sets tz rex
theorem KRowP.one {P P':Nat→Prop} {W:World} {cs:Array Value} {g0 g1 g n:Nat} (h:TreeP P' W cs g0 g1 n) (hs:cs.size=5) (hg:W.heap[g]?=some (.cells cs 25 (0,0))) (hP:∀ x,P' x→P x) (hn:¬ P' g) (hPg:P g):KRowP P W (.slice (some ⟨g,0,none⟩) 1 1) 1 g0 g1 n:=by
 obtain ⟨T,M,h1,h2,h3,h4,h5,h6,h7⟩:=h
 refine ⟨[T],M,cs.toList,rfl,⟨by simp [hs],.inr ⟨g,1,cs,rfl,Nat.zero_le _,hg,Nat.le_refl _,by decide,by rw [hs],?_⟩⟩,fun y hy => ?_,KAt.one ⟨cs,hs,fun j _=>by simp,h1⟩,h2,fun x o hx=>⟨hP x (h3 x o hx),fun e => ?_⟩,?_,?_,?_,?_⟩
 ·rw [List.take_of_length_le];simp [hs]
 ·have:y=g:=by simpa [Value.ownBlock] using hy.symm
  rw [this];exact hPg
 ·have:g=x:=by simpa [Value.ownBlock] using e
  subst this
  exact hn (h3 g o hx)
 ·rw [NumK];exact ⟨h4,by rw [NumK];trivial⟩
 ·rw [h5];simp [ngK]
 ·rw [OkK];exact ⟨h6,by rw [OkK];trivial⟩
 ·simp [szK];exact h7
def One1 (p:Pq) (W:World) (v:Value) (q:Pq) (w:World):Prop:=∃ (g:Nat) (kind n9 m9:Int) (ss:ByteArray) (o:Option Addr) (ln cp:Nat),v=.slice (some ⟨g,0,none⟩) 1 1∧W.heap.size<g∧w.heap[g]?=some (.cells #[.int .i64 kind,.int .i64 n9,.int .i64 m9,.string ss,.slice o ln cp] 25 (0,0))∧(q.code=0→TreeAt (W.heap.size+1) w #[.int .i64 kind,.int .i64 n9,.int .i64 m9,.string ss,.slice o ln cp] p.groups q.groups (3*(q.at_-p.at_)+1))
structure Wl (p:Pq) (b:Nat) (W:World) (v:Value) (k:Nat) (q:Pq) (w:World):Prop where
 pb:PB q b w
 pg:PG b W w
 b:b<W.heap.size
 bR:w.heap[W.heap.size]?=some (.cells zero5 25 (0,0))
 vs:∃ o c,v=.slice o k c
 one:k=1→One1 p W v q w
 row:q.code=0→KRowP (fun x=>W.heap.size<x) w v k p.groups q.groups (3*(q.at_-p.at_)+3-2*k)
 qs:Qs p q
 k1:1≤k
 kk:q.code=0→k+p.at_≤q.at_+1
section
variable {p q r:Pq} {b k:Nat} {W w w':World} {v:Value}
theorem Wl.lt (h:Wl p b W v k q w):W.heap.size<w.heap.size:=(Array.getElem?_eq_some_iff.1 h.bR).1
theorem Wl.rd (h:Wl p b W v k q w) (hr:Rd b w q w'):Wl p b W v k q w':=by
 have hb:=h.b
 refine ⟨hr.pb,h.pg.tr hr.pg,hb,(hr.pg.block _ h.lt (by simp;omega)).trans h.bR,h.vs,fun e => ?_,fun e=>(h.row e).block fun x hx hl=>hr.pg.block x hl (by simp;omega),h.qs,h.k1,h.kk⟩
 obtain ⟨g,kind,n9,m9,ss,o,ln,cp,h1,h2,h3,h4⟩:=h.one e
 exact ⟨g,kind,n9,m9,ss,o,ln,cp,h1,h2,(hr.pg.block g (Array.getElem?_eq_some_iff.1 h3).1 (by simp;omega)).trans h3,fun e=>(h4 e).keep (by omega) hr.pg⟩
theorem wl_first {W1 w2:World} {kind n9 m9:Int} {ss:ByteArray} {o:Option Addr} {ln cp:Nat} (hbx:Bx b W.heap.size W W1) (hR:∀ w,PG b W1 w→w.heap[W.heap.size]?=some (.cells zero5 25 (0,0))) (hk:Okp p) (h:TrP 0 p b W1 #[.int .i64 kind,.int .i64 n9,.int .i64 m9,.string ss,.slice o ln cp] q w2) :
  Wl p b W (.slice (some ⟨w2.heap.size,0,none⟩) 1 1) 1 q (w2.alloc (.cells #[.int .i64 kind,.int .i64 n9,.int .i64 m9,.string ss,.slice o ln cp] 25)):=by
 have hs:=h.rd.pg.size
 have hh:=hbx.hi
 have hl:=hbx.bel.size
 have ha:PG b w2 (w2.alloc (.cells #[.int .i64 kind,.int .i64 n9,.int .i64 m9,.string ss,.slice o ln cp] 25)):=PG.alloc _
 have hbb:=hbx.b
 have hg:(w2.alloc (.cells #[.int .i64 kind,.int .i64 n9,.int .i64 m9,.string ss,.slice o ln cp] 25)).heap[w2.heap.size]?=some (.cells #[.int .i64 kind,.int .i64 n9,.int .i64 m9,.string ss,.slice o ln cp] 25 (0,0)):=heap_alloc_new w2 _
 have hk1:=h.nx.at_
 have ht:q.code=0→TreeAt (W.heap.size+1) (w2.alloc (.cells #[.int .i64 kind,.int .i64 n9,.int .i64 m9,.string ss,.slice o ln cp] 25)) #[.int .i64 kind,.int .i64 n9,.int .i64 m9,.string ss,.slice o ln cp] p.groups q.groups (3*(q.at_-p.at_)+1):=fun e=>(((h.good e).2.2.keep (by omega) ha).mono (by omega)).le (by omega)
 refine ⟨h.rd.pb.keep (Below.heap_alloc w2 _ b h.rd.pb.lt),((PG.below hbx.bel).tr h.rd.pg).tr ha,hbb,(hR _ (h.rd.pg.tr ha)),⟨_,_,rfl⟩,fun _=>⟨_,_,_,_,_,_,_,_,rfl,by omega,hg,ht⟩,fun e => ?_,⟨h.nx,h.lim,h.gr,fun e=>⟨(h.good e).1,(h.good e).2.1⟩⟩,Nat.le_refl _,fun _=>by omega⟩
 have h1:TreeP (fun x=>W.heap.size<x∧x<w2.heap.size) w2 #[.int .i64 kind,.int .i64 n9,.int .i64 m9,.string ss,.slice o ln cp] p.groups q.groups (3*(q.at_-p.at_)+1):=((h.good e).2.2.p fun x hx hlt=>⟨by omega,hlt⟩).le (by omega)
 exact (KRowP.one (h1.block (W':=w2.alloc (.cells #[.int .i64 kind,.int .i64 n9,.int .i64 m9,.string ss,.slice o ln cp] 25)) fun x hx hlt=>Below.heap_alloc w2 _ x hlt) rfl hg (fun x hx=>hx.1) (fun hx=>Nat.lt_irrefl _ hx.2) (by show W.heap.size<w2.heap.size;omega)).le (by omega)
theorem Wl.push {r q2:Pq} {w2 w9:World} {g cap:Nat} {xs:List Value} {kind n9 m9:Int} {ss:ByteArray} {o:Option Addr} {ln cp:Nat} (h:Wl p b W v k r w) (hc:r.code=0) (hq:Qs p q) (hqg:q.groups=r.groups) (hqa:r.at_+1≤q.at_) (hw:PG b w w') (ht:TrP 0 q b w' #[.int .i64 kind,.int .i64 n9,.int .i64 m9,.string ss,.slice o ln cp] q2 w2)
  (hx:w2.ownsRow 0 25 5 v k xs) (h1:w9.ownsRow 0 25 5 (.slice (some ⟨g,0,none⟩) (k+1) cap) (k+1) (xs++[.int .i64 kind,.int .i64 n9,.int .i64 m9,.string ss,.slice o ln cp])) (h2:(w2.alloc (.cells #[.int .i64 kind,.int .i64 n9,.int .i64 m9,.string ss,.slice o ln cp] 25)).grownBy w9 v.ownBlock) (h3:v.ownBlock=some g∨g=(w2.alloc (.cells #[.int .i64 kind,.int .i64 n9,.int .i64 m9,.string ss,.slice o ln cp] 25)).heap.size) :
  Wl p b W (.slice (some ⟨g,0,none⟩) (k+1) cap) (k+1) q2 w9:=by
 have hrow:=h.row hc
 have hb:=h.b
 have hl:=h.lt
 have hs1:=hw.size
 have hs2:=ht.rd.pg.size
 have hp2:PG b w w2:=hw.tr ht.rd.pg
 have ha:PG b w2 (w2.alloc (.cells #[.int .i64 kind,.int .i64 n9,.int .i64 m9,.string ss,.slice o ln cp] 25)):=PG.alloc _
 have hpa:=hp2.tr ha
 have hown:=hrow.ownP
 have hrow2:KRowP (fun x=>W.heap.size<x) (w2.alloc (.cells #[.int .i64 kind,.int .i64 n9,.int .i64 m9,.string ss,.slice o ln cp] 25)) v k p.groups r.groups (3*(r.at_-p.at_)+3-2*k):=hrow.block fun x hx hlt=>hpa.block x hlt (by simp;omega)
 have low:∀ x,x<(w2.alloc (.cells #[.int .i64 kind,.int .i64 n9,.int .i64 m9,.string ss,.slice o ln cp] 25)).heap.size→v.ownBlock≠some x→w9.heap[x]?=(w2.alloc (.cells #[.int .i64 kind,.int .i64 n9,.int .i64 m9,.string ss,.slice o ln cp] 25)).heap[x]? := fun x hx hn=>h2.block x hx fun e=>hn e.symm
 have nO:∀ x,x≤W.heap.size→v.ownBlock≠some x:=fun x hx e=>by have:=(hown x e).1;omega
 have hsa:(w2.alloc (.cells #[.int .i64 kind,.int .i64 n9,.int .i64 m9,.string ss,.slice o ln cp] 25)).heap.size=w2.heap.size+1:=by simp
 have hqs:=hq.next ht.nx (by exact ht.lim) ht.gr (fun e=>⟨(ht.good e).1,(ht.good e).2.1⟩)
 have pba:=(ht.rd.alloc (.cells #[.int .i64 kind,.int .i64 n9,.int .i64 m9,.string ss,.slice o ln cp] 25)).pb
 have hk0:=h.kk hc
 have hk1:=h.k1
 have hta:=ht.nx.at_
 refine ⟨(low b pba.lt (nO b (by omega))).trans pba,⟨h2.os.trans (h.pg.tr hpa).os,h2.tape.trans (h.pg.tr hpa).tape,h2.output.trans (h.pg.tr hpa).output,Nat.le_trans (h.pg.tr hpa).size h2.size,fun x hx hn => ?_⟩,hb,?_,⟨_,_,rfl⟩,fun e=>by omega,fun e => ?_,hqs,by omega,fun e=>by omega⟩
 ·exact (low x (by omega) (nO x (by omega))).trans ((h.pg.tr hpa).block x hx hn)
 ·exact (low _ (by omega) (nO _ (Nat.le_refl _))).trans ((hpa.block _ hl (by simp;omega)).trans h.bR)
 ·have htp:TreeP (fun x=>w'.heap.size≤x) (w2.alloc (.cells #[.int .i64 kind,.int .i64 n9,.int .i64 m9,.string ss,.slice o ln cp] 25)) #[.int .i64 kind,.int .i64 n9,.int .i64 m9,.string ss,.slice o ln cp] r.groups q2.groups (3*(q2.at_-q.at_)+1):=by
   rw [←hqg]
   exact (((ht.good e).2.2.keep (by omega) ha).p fun x hx _=>hx).le (by omega)
  refine KRowP.le (hrow2.push htp rfl (fun x hx=>by show W.heap.size<x;have hx:w'.heap.size≤x:=hx;omega) (fun y hy hy'=>by have:=(hown y hy).2;have hy':w'.heap.size≤y:=hy';omega) (xs:=xs) (World.ownsRow.alloc hx _) h1 h2 (h3.imp id fun e'=>by omega) (fun hl'=>by show W.heap.size<g;omega)) ?_
  have h8:=h.qs.nx.at_
  omega
end
set_option maxRecDepth 20000 in
set_option maxHeartbeats 16000000 in
theorem whole_ere (p:Pq) (b:Nat) (W:World) (h:PB p b W) (hk:Okp p) (he:p.ere=true) (hB:∀ (q:Pq) (w:World),PB q b w→Okp q→q.ere=true→p.at_≤q.at_→q.ts=p.ts→Calls Tryd.prog 60 #[.pointer (some ⟨b,0,none⟩)] w (TrR 0 q b w)) :
  Calls Tryd.prog 39 #[.pointer (some ⟨b,0,none⟩)] W (TrR 0 p b W):=by
 obtain ⟨i0,hi0,hz0,hs0,hb0⟩:=info_parts info25
 have HI:=hide (And.intro hi0 (And.intro hz0 (And.intro hs0 hb0)))
 obtain ⟨W1,hW1,hbox⟩:=box_new W
 obtain ⟨hBx,hRZ⟩:=hbox b h.lt
 have HBX:=hide hBx
 have HRZ:=hide hRZ
 have HFirst:=hide (hB p W1 (h.below hBx.bel) hk he (Nat.le_refl _) rfl)
 have HBB:=hide hB
 have HOK:=hide hk
 have HER:=hide he
 clear hi0 hz0 hs0 hb0 hbox hBx hRZ h hk he hB
 go_enter Tryd.func39,Tryd.ntmps39
 (try rw [hW1])
 go_wp2_with fail
 refine HFirst.out.mono ?_
 rintro e w2 ⟨kind,n9,m9,ss,o,ln,cp,q0,rfl,tr⟩
 have wl0:=hide (wl_first HBX.out HRZ.out HOK.out tr)
 clear tr HFirst hW1
 go_wp2
 go_loopw [3] (fun v3 wr=>∃ (v:Value) (k:Nat) (q:Pq),v=v3∧Hid (Wl p b W v k q wr)) (fun _ wr=>meaB b p.ts.length wr)
 case atStart=>exact ⟨_,1,_,rfl,wl0⟩
 case round =>
  obtain ⟨v,k,q,rfl,wl⟩:=hrel
  clear wl0
  obtain ⟨z0,z1,z2,z3,z5,z6,zf1,zf5,zf6⟩:=(Rd.refl wl.out.pb).can
  have z2e:q.ere=true:=by rw [wl.out.qs.nx.ere];exact HER.out
  rw [z2e] at z2
  have HIs:=hide ((Rd.refl wl.out.pb).is (by rw [wl.out.qs.nx.ts];have:=HOK.out.len;omega) (by have:=wl.out.qs.lim;have:=HOK.out.len;omega) ⟨#[124]⟩ (by decide))
  clear z2e
  cases hB:q.is ⟨#[124]⟩ with
  | true =>
   rw [hB] at HIs
   have HS1:=hide (is_true hB)
   clear hB
   go_wp2_with fail
   refine HIs.out.mono ?_
   rintro e w4 ⟨rfl,rd4⟩
   have wl4:=hide (wl.out.rd rd4)
   obtain ⟨a0,a1,a2,a3,a5,a6,af1,af5,af6⟩:=rd4.can
   obtain ⟨q1,hq1⟩:∃ q1:Pq,q1={ q with at_:=q.at_+1 }:=⟨_,rfl⟩
   have hw1:IntKind.i64.wrap ((q.at_:Int)+1)=(q1.at_:Int):=by rw [IntKind.wrap_i64,hq1];show _=((q.at_+1:Nat):Int);have:=wl.out.qs.lim;have:=HOK.out.len;omega
   obtain ⟨w5,hw5⟩:∃ w5,w4.setCell ⟨b,1,none⟩ (.int .i64 (q1.at_:Int))=w5:=⟨_,rfl⟩
   have HL1:Hid (q.at_+1≤p.ts.length∧q.code=0):=hide ⟨by have h:=HS1.out.2;rw [wl.out.qs.nx.ts] at h;exact h,HS1.out.1⟩
   have rd5:Rd b w4 q1 w5:=by rw [←hw5,hq1];exact ⟨rd4.pb.setAt (q.at_+1),PG.set 1 _⟩
   have HQ1:Hid (q1.at_=q.at_+1∧q1.groups=q.groups∧q1.ts=p.ts∧q1.ere=true∧q1.code=0∧q1.open_=p.open_):=hide (by rw [hq1];exact ⟨rfl,rfl,wl.out.qs.nx.ts,(wl.out.qs.nx.ere).trans HER.out,HL1.out.2,wl.out.qs.nx.op⟩)
   have HQs:Hid (Qs p q1):=hide ⟨by rw [hq1];exact wl.out.qs.nx.tr (Nx.at q (Nat.le_succ _)),by rw [HQ1.out.1];have:=HL1.out.1;have:=HOK.out.op;have:=HOK.out.at_;omega,by rw [HQ1.out.1,HQ1.out.2.1];have:=wl.out.qs.gr;omega,fun e=>⟨by rw [HQ1.out.1];exact HL1.out.1,by rw [HQ1.out.2.1];exact (wl.out.qs.g9 HL1.out.2).2⟩⟩
   have rd5h:=hide rd5
   have HBr:=hide (HBB.out q1 w5 rd5.pb ⟨by rw [HQ1.out.2.2.1];exact HOK.out.len,by rw [HQ1.out.2.2.1];exact HOK.out.bytes,by rw [HQ1.out.1,HQ1.out.2.2.1];exact HL1.out.1,by rw [HQ1.out.1,HQ1.out.2.2.2.2.2];have:=HOK.out.op;have:=wl.out.qs.nx.at_;omega,by rw [HQ1.out.1,HQ1.out.2.1];have:=wl.out.qs.gr;omega,fun e=>(HQs.out.g9 e).2⟩ HQ1.out.2.2.2.1 (by rw [HQ1.out.1];have:=wl.out.qs.nx.at_;omega) HQ1.out.2.2.1)
   have HMw:Hid (meaB b p.ts.length wr=p.ts.length+1-q.at_):=hide (by rw [meaB_eq wl.out.pb,if_pos HL1.out.2])
   clear rd4 rd5 hq1 z0 z1 z2 z3 z5 z6 zf1 zf5 zf6 HIs wl
   go_wp2_with fail
   refine HBr.out.mono ?_
   rintro e w6 ⟨kind,n9,m9,ss,o,ln,cp,q2,rfl,tr⟩
   obtain ⟨xs,hxs⟩:=((wl4.out.row HL1.out.2).block (W':=w6) fun x hx hl=>(rd5h.out.pg.tr tr.rd.pg).block x hl (by have:=wl4.out.b;simp;omega)).own
   have HXS:=hide hxs
   have HTR:=hide tr
   have HKK:Hid (k≤300):=hide (by have h1:=wl4.out.kk HL1.out.2;have h2:=HL1.out.1;have h4:=HOK.out.len;omega)
   clear hxs tr HBr a0 a1 a2 a3 a5 a6 af1 af5 af6
   go_wp2_with (at_builtin;refine wpList_append_lies _ rfl _ _ 23 rfl 0 25 i0 (.agg zero5) 5 64 Tryd.underlying23 HI.out.1 HI.out.2.1 HI.out.2.2.1 HI.out.2.2.2 rfl (by decide) v k xs rfl (World.ownsRow.alloc HXS.out _) ⟨w6.heap.size,0,none⟩ 1 1 [.int .i64 kind,.int .i64 n9,.int .i64 m9,.string ss,.slice o ln cp] rfl rfl (World.news_of_block (heap_alloc_new _ _)) (by intro u hu;simp at hu;rcases hu with rfl | rfl | rfl | rfl | rfl <;> rfl) (by decide) (by unfold maxLen;have:=HKK.out;omega) (by have:=HKK.out;omega) (by simp) _ rfl ?_;intro g9 cap9 w9 k1 k2 k3 k4;have wl9:=hide (wl4.out.push HL1.out.2 HQs.out HQ1.out.2.1 (by rw [HQ1.out.1];exact Nat.le_refl _) rd5h.out.pg HTR.out HXS.out k1 k2 k3);clear k1 k2 k3 k4)
   go_roundw
   case rel=>exact ⟨_,k+1,q2,rfl,wl9⟩
   case measure=>rw [meaB_eq wl9.out.pb,HMw.out];have h1:=HTR.out.nx.at_;have h2:=HQ1.out.1;have h3:=HL1.out.1;split <;> omega
  | false =>
   rw [hB] at HIs
   clear hB
   go_wp2_with fail
   refine HIs.out.mono ?_
   rintro e w4 ⟨rfl,rd4⟩
   have wl4:=hide (wl.out.rd rd4)
   clear rd4 HIs wl z0 z1 z2 z3 z5 z6 zf1 zf5 zf6
   by_cases hk1:k=1
   ·subst hk1
    obtain ⟨g,kind,n9,m9,ss,o,ln,cp,rfl,hgl,hgc,htr⟩:=wl4.out.one rfl
    obtain ⟨t0,t1,t2,t3,t4⟩:=cells5c hgc
    have HT1:=hide htr
    clear htr hgc hgl
    have xr:=wl4.out.bR
    obtain ⟨r0',r1',r2',r3',r4'⟩:=cells5c xr
    have z0:=fz5c xr 0
    have z1:=fz5c xr 1
    have z2:=fz5c xr 2
    have z3:=fz5c xr 3
    have z4:=fz5c xr 4
    have HE:Hid ((set5 w4 W.heap.size (.int .i64 kind) (.int .i64 n9) (.int .i64 m9) (.string ss) (.slice o ln cp)).heap[W.heap.size]?=some (.cells #[.int .i64 kind,.int .i64 n9,.int .i64 m9,.string ss,.slice o ln cp] 25 (0,0))∧TrP 0 p b W #[.int .i64 kind,.int .i64 n9,.int .i64 m9,.string ss,.slice o ln cp] q (set5 w4 W.heap.size (.int .i64 kind) (.int .i64 n9) (.int .i64 m9) (.string ss) (.slice o ln cp))):=hide ⟨set5_at xr trivial (.int .i64 kind) (.int .i64 n9) (.int .i64 m9) (.string ss) (.slice o ln cp),⟨⟨wl4.out.pb.set5 (by have:=wl4.out.b;omega) _ _ _ _ _,wl4.out.pg.set5 (Nat.le_refl _) _ _ _ _ _⟩,wl4.out.qs.nx,by have:=wl4.out.qs.nx.at_;omega,wl4.out.qs.lim,wl4.out.qs.gr,fun e=>⟨(wl4.out.qs.g9 e).1,(wl4.out.qs.g9 e).2,((HT1.out e).block fun x hx _=>set5_other _ _ x _ _ _ _ _ (by omega)).mono (Nat.le_succ _)⟩⟩⟩
    unfold set5 at HE
    clear xr
    go_wp2
    generalize (((((w4.setCell ⟨W.heap.size,0,none⟩ (.int .i64 kind)).setCell ⟨W.heap.size,1,none⟩ (.int .i64 n9)).setCell ⟨W.heap.size,2,none⟩ (.int .i64 m9)).setCell ⟨W.heap.size,3,none⟩ (.string ss)).setCell ⟨W.heap.size,4,none⟩ (.slice o ln cp))=Wf at HE ⊢
    obtain ⟨u0,u1,u2,u3,u4⟩:=cells5c HE.out.1
    refine bodyPost_ret (v:=.agg #[.int .i64 kind,.int .i64 n9,.int .i64 m9,.string ss,.slice o ln cp]) ?_ rfl ⟨_,_,_,_,_,_,_,q,rfl,HE.out.2⟩
    simp [results,Tryd.results39,go_sem,u0,u1,u2,u3,u4]
   ·obtain ⟨o9,c9,rfl⟩:=wl4.out.vs
    have n1:((k:Int) == 1)=false:=by rw [beq_eq_false_iff_ne];omega
    have n2:decide ((k:Int)=1)=false:=decide_eq_false (by omega)
    have n3:(k == 1)=false:=by rw [beq_eq_false_iff_ne];exact hk1
    have n4:decide (k=1)=false:=decide_eq_false hk1
    have HND:=hide (node_any w4 8 0 0 o9 k c9)
    have HK2:Hid (2≤k):=hide (by have:=wl4.out.k1;omega)
    clear hk1
    go_wp2_with fail
    refine HND.out.mono ?_
    rintro e wn ⟨rfl,bn⟩
    have wln:=hide (wl4.out.rd ((Rd.refl wl4.out.pb).below bn))
    unfold rxV
    clear HND bn
    have xr:=wln.out.bR
    obtain ⟨r0',r1',r2',r3',r4'⟩:=cells5c xr
    have z0:=fz5c xr 0
    have z1:=fz5c xr 1
    have z2:=fz5c xr 2
    have z3:=fz5c xr 3
    have z4:=fz5c xr 4
    have HE:Hid ((set5 wn W.heap.size (.int .i64 8) (.int .i64 0) (.int .i64 0) (.string mt0) (.slice o9 k c9)).heap[W.heap.size]?=some (.cells #[.int .i64 8,.int .i64 0,.int .i64 0,.string mt0,.slice o9 k c9] 25 (0,0))∧TrP 0 p b W #[.int .i64 8,.int .i64 0,.int .i64 0,.string mt0,.slice o9 k c9] q (set5 wn W.heap.size (.int .i64 8) (.int .i64 0) (.int .i64 0) (.string mt0) (.slice o9 k c9))):=hide ⟨set5_at xr trivial (.int .i64 8) (.int .i64 0) (.int .i64 0) (.string mt0) (.slice o9 k c9),⟨⟨wln.out.pb.set5 (by have:=wln.out.b;omega) _ _ _ _ _,wln.out.pg.set5 (Nat.le_refl _) _ _ _ _ _⟩,wln.out.qs.nx,by have:=wln.out.qs.nx.at_;omega,wln.out.qs.lim,wln.out.qs.gr,fun e=>⟨(wln.out.qs.g9 e).1,(wln.out.qs.g9 e).2,(((wln.out.row e).block (fun x hx _=>set5_other _ _ x _ _ _ _ _ (by omega))).alt (by have h1:=wln.out.kk e;have h2:=(wln.out.qs.g9 e).1;have h3:=HOK.out.len;omega) HK2.out (fun x hx=>by omega)).le (by have h1:=wln.out.kk e;have h2:=HK2.out;have h3:=wln.out.qs.nx.at_;omega)⟩⟩⟩
    unfold set5 at HE
    clear xr
    go_wp2
    generalize (((((wn.setCell ⟨W.heap.size,0,none⟩ (.int .i64 8)).setCell ⟨W.heap.size,1,none⟩ (.int .i64 0)).setCell ⟨W.heap.size,2,none⟩ (.int .i64 0)).setCell ⟨W.heap.size,3,none⟩ (.string mt0)).setCell ⟨W.heap.size,4,none⟩ (.slice o9 k c9))=Wf at HE ⊢
    obtain ⟨u0,u1,u2,u3,u4⟩:=cells5c HE.out.1
    refine bodyPost_ret (v:=.agg #[.int .i64 8,.int .i64 0,.int .i64 0,.string mt0,.slice o9 k c9]) ?_ rfl ⟨_,_,_,_,_,_,_,q,rfl,HE.out.2⟩
    simp [results,Tryd.results39,go_sem,u0,u1,u2,u3,u4]
set_option maxRecDepth 20000 in
set_option maxHeartbeats 16000000 in
theorem whole_bre (p:Pq) (b:Nat) (W:World) (h:PB p b W) (hk:Okp p) (he:p.ere=false) (hB:∀ (q:Pq) (w:World),PB q b w→Okp q→q.ere=false→p.at_≤q.at_→q.ts=p.ts→Calls Tryd.prog 60 #[.pointer (some ⟨b,0,none⟩)] w (TrR 0 q b w)) :
  Calls Tryd.prog 39 #[.pointer (some ⟨b,0,none⟩)] W (TrR 0 p b W):=by
 obtain ⟨i0,hi0,hz0,hs0,hb0⟩:=info_parts info25
 have HI:=hide (And.intro hi0 (And.intro hz0 (And.intro hs0 hb0)))
 obtain ⟨W1,hW1,hbox⟩:=box_new W
 obtain ⟨hBx,hRZ⟩:=hbox b h.lt
 have HBX:=hide hBx
 have HRZ:=hide hRZ
 have HFirst:=hide (hB p W1 (h.below hBx.bel) hk he (Nat.le_refl _) rfl)
 have HBB:=hide hB
 have HOK:=hide hk
 have HER:=hide he
 clear hi0 hz0 hs0 hb0 hbox hBx hRZ h hk he hB
 go_enter Tryd.func39,Tryd.ntmps39
 (try rw [hW1])
 go_wp2_with fail
 refine HFirst.out.mono ?_
 rintro e w2 ⟨kind,n9,m9,ss,o,ln,cp,q0,rfl,tr⟩
 have wl0:=hide (wl_first HBX.out HRZ.out HOK.out tr)
 clear tr HFirst hW1
 go_wp2
 go_loopw [3] (fun v3 wr=>∃ (v:Value) (q:Pq),v=v3∧Hid (Wl p b W v 1 q wr)) (fun _ _=>0)
 case atStart=>exact ⟨_,_,rfl,wl0⟩
 case round =>
  obtain ⟨v,q,rfl,wl⟩:=hrel
  clear wl0
  obtain ⟨z0,z1,z2,z3,z5,z6,zf1,zf5,zf6⟩:=(Rd.refl wl.out.pb).can
  have z2e:q.ere=false:=by rw [wl.out.qs.nx.ere];exact HER.out
  rw [z2e] at z2
  clear z2e
  obtain ⟨g,kind,n9,m9,ss,o,ln,cp,rfl,hgl,hgc,htr⟩:=wl.out.one rfl
  obtain ⟨t0,t1,t2,t3,t4⟩:=cells5c hgc
  have HT1:=hide htr
  clear htr hgc hgl
  have xr:=wl.out.bR
  obtain ⟨r0',r1',r2',r3',r4'⟩:=cells5c xr
  have z0:=fz5c xr 0
  have z1:=fz5c xr 1
  have z2:=fz5c xr 2
  have z3:=fz5c xr 3
  have z4:=fz5c xr 4
  have HE:Hid ((set5 wr W.heap.size (.int .i64 kind) (.int .i64 n9) (.int .i64 m9) (.string ss) (.slice o ln cp)).heap[W.heap.size]?=some (.cells #[.int .i64 kind,.int .i64 n9,.int .i64 m9,.string ss,.slice o ln cp] 25 (0,0))∧TrP 0 p b W #[.int .i64 kind,.int .i64 n9,.int .i64 m9,.string ss,.slice o ln cp] q (set5 wr W.heap.size (.int .i64 kind) (.int .i64 n9) (.int .i64 m9) (.string ss) (.slice o ln cp))):=hide ⟨set5_at xr trivial (.int .i64 kind) (.int .i64 n9) (.int .i64 m9) (.string ss) (.slice o ln cp),⟨⟨wl.out.pb.set5 (by have:=wl.out.b;omega) _ _ _ _ _,wl.out.pg.set5 (Nat.le_refl _) _ _ _ _ _⟩,wl.out.qs.nx,by have:=wl.out.qs.nx.at_;omega,wl.out.qs.lim,wl.out.qs.gr,fun e=>⟨(wl.out.qs.g9 e).1,(wl.out.qs.g9 e).2,((HT1.out e).block fun x hx _=>set5_other _ _ x _ _ _ _ _ (by omega)).mono (Nat.le_succ _)⟩⟩⟩
  unfold set5 at HE
  clear xr
  go_wp2
  generalize (((((wr.setCell ⟨W.heap.size,0,none⟩ (.int .i64 kind)).setCell ⟨W.heap.size,1,none⟩ (.int .i64 n9)).setCell ⟨W.heap.size,2,none⟩ (.int .i64 m9)).setCell ⟨W.heap.size,3,none⟩ (.string ss)).setCell ⟨W.heap.size,4,none⟩ (.slice o ln cp))=Wf at HE ⊢
  obtain ⟨u0,u1,u2,u3,u4⟩:=cells5c HE.out.1
  refine bodyPost_ret (v:=.agg #[.int .i64 kind,.int .i64 n9,.int .i64 m9,.string ss,.slice o ln cp]) ?_ rfl ⟨_,_,_,_,_,_,_,q,rfl,HE.out.2⟩
  simp [results,Tryd.results39,go_sem,u0,u1,u2,u3,u4]
theorem whole_any:∀ n,WholeOf n
 | n=>by
  intro p b W h hk hn
  have hw:∀ q:Pq,p.at_≤q.at_→q.ts=p.ts→q.at_<q.ts.length→∃ m,WholeOf m∧q.ts.length-q.at_≤m+1:=fun q h1 h2 h3=>by
   rw [h2] at h3 ⊢
   have:n-1<n:=by omega
   exact ⟨n-1,whole_any (n-1),by omega⟩
  cases he:p.ere with
  | true=>exact whole_ere p b W h hk he fun q w hq ho hqe h1 h2=>branch_ere q b w hq ho hqe (hw q h1 h2)
  | false=>exact whole_bre p b W h hk he fun q w hq ho hqe h1 h2=>branch_bre q b w hq ho hqe (hw q h1 h2)
termination_by n=>n
end Go.Proofs.YtfhimmnoipfiaaaDoor.eng
