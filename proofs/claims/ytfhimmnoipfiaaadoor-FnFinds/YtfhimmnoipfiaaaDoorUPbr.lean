import Derived.Test.YtfhimmnoipfiaaaDoorUPbp
import Derived.Test.YtfhimmnoipfiaaaDoorUPat
import Derived.Deep.QuietTactic
import Derived.BigQuiet
namespace Go.Proofs.YtfhimmnoipfiaaaDoor.eng
open Go.ChangeShapes Go.WideShapes Go.ChangeAt Go.RowKit
open bytes places sets tz rex
set_option linter.unusedVariables false
set_option maxRecDepth 20000 in
set_option maxHeartbeats 16000000 in
theorem branch_ere (p:Pq) (b:Nat) (W:World) (h:PB p b W) (hk:Okp p) (he:p.ere=true) (hw:p.at_<p.ts.length→∃ n,WholeOf n∧p.ts.length-p.at_≤n+1) :
  Calls Tryd.prog 60 #[.pointer (some ⟨b,0,none⟩)] W (TrR 0 p b W):=by
 obtain ⟨i0,hi0,hz0,hs0,hb0⟩:=info_parts info25
 have HI:=hide (And.intro hi0 (And.intro hz0 (And.intro hs0 hb0)))
 obtain ⟨W1,hW1,hbox⟩:=box_new W
 obtain ⟨hBx,hRZ⟩:=hbox b h.lt
 have HRZ:=hide hRZ
 have rd1:=Rd.refl (h.below hBx.bel)
 have HB1:Hid (Rd b W p W1):=hide ((Rd.refl h).below hBx.bel)
 obtain ⟨y0,y1,y2,y3,y5,y6,yf1,yf5,yf6⟩:=rd1.can
 have HBX:=hide hBx
 have HND:=hide (node_any W1 7 0 0 none 0 0)
 have HHd:Hid (∀ w2,Below W1.heap.size W1 w2→Hd p b w2.heap.size W (.slice none 0 0) 0 p (w2.alloc (.cells #[.int .i64 7,.int .i64 0,.int .i64 0,.string mt0,.slice none 0 0] 25))):=hide fun w2 hb=>by
  have h1:=(HB1.out.below hb).alloc (.cells #[.int .i64 7,.int .i64 0,.int .i64 0,.string mt0,.slice none 0 0] 25)
  have h2:=HBX.out
  have h3:=hb.size
  exact ⟨h1.pb,⟨h1.pg,h2.b,by have:=h2.hi;omega,HRZ.out _ (((PG.below hb)).tr (PG.alloc _)),heap_alloc_new w2 _⟩,⟨_,_,rfl⟩,fun _=>(KRowP.nil _ _ _).le (Nat.zero_le _),⟨Nx.refl p,by have:=hk.op;have:=hk.at_;omega,hk.gr,fun e=>⟨hk.at_,hk.g9 e⟩⟩,fun _=>by omega⟩
 have HOK:=hide hk
 have HER:=hide he
 have HWH:=hide hw
 clear hi0 hz0 hs0 hb0 hbox hBx hRZ rd1 h hk he hw
 go_enter Tryd.func60,Tryd.ntmps60
 (try rw [hW1])
 go_wp2_with fail
 refine HND.out.mono ?_
 rintro e w2 ⟨rfl,b2⟩
 unfold rxV
 have HH0:=hide (HHd.out w2 b2)
 obtain ⟨O,hO⟩:∃ O,O=w2.heap.size:=⟨_,rfl⟩
 obtain ⟨w3,hw3⟩:∃ w3,w2.alloc (.cells #[.int .i64 7,.int .i64 0,.int .i64 0,.string mt0,.slice none 0 0] 25)=w3:=⟨_,rfl⟩
 rw [hw3,←hO] at HH0
 have HOO:=hide hO
 have HW3:=hide hw3
 clear HND HHd b2 y0 y1 y2 y3 y5 y6 yf1 yf5 yf6 hW1 hO hw3
 go_wp2
 (try rw [HW3.out])
 (try simp only [←HOO.out])
 clear HW3
 go_loopw [5,6,7] (fun _ _ _ wr=>∃ (q:Pq) (v:Value) (k:Nat),Hid (Hd p b O W v k q wr)) (fun _ _ _ wr=>meaB b p.ts.length wr)
 case atStart=>exact ⟨_,_,_,HH0⟩
 case round =>
  obtain ⟨q,v,k,HX⟩:=hrel
  have HEn:=hide ((Rd.refl HX.out.pb).ends (by rw [HX.out.qs.nx.ts];have:=HOK.out.len;omega) (by have:=HX.out.qs.lim;have:=HOK.out.len;omega))
  go_wp2_with fail
  refine HEn.out.mono ?_
  rintro e w1 ⟨r,rfl,hr,rd1'⟩
  have HX1:=hide (HX.out.rd rd1')
  have HMe:Hid (meaB b p.ts.length w1=meaB b p.ts.length wr):=hide (by rw [meaB_eq rd1'.pb,meaB_eq HX.out.pb])
  clear rd1' HEn
  cases r with
  | true =>
   have hd:=HX1
   obtain ⟨o9,c9,rfl⟩:=hd.out.vs
   obtain ⟨y0,y1,y2,y3,y5,y6,yf1,yf5,yf6⟩:=(Rd.refl hd.out.pb).can
   have y2e:q.ere=true:=by rw [hd.out.qs.nx.ere];exact HER.out
   rw [y2e] at y2
   clear hr HX HMe HWH HX1 y2e
   by_cases hk0:k=0
   ·subst hk0
    have HFx:=hide ((Rd.refl hd.out.pb).failx (c:=4) (by decide) (q.at_:Int))
    have c4w:=cells5c hd.out.bo.bO
    obtain ⟨s0,s1,s2,s3,s4⟩:=c4w
    go_wp2_with fail
    refine HFx.out.mono ?_
    rintro e wf ⟨qf,rfl,rdf',kc,kt,ka,ke,kg,ko⟩
    have rdf:=hide rdf'
    have hdB:=hide (hd.out.bo.rd hd.out.bo.lt rdf'.pg)
    have HCf:=hide kc
    have HNf:Hid (Nx p qf):=hide ⟨kt.trans hd.out.qs.nx.ts,ke.trans hd.out.qs.nx.ere,ko.trans hd.out.qs.nx.op,by rw [ka];exact hd.out.qs.nx.at_,by rw [kg];exact hd.out.qs.nx.gr,fun e=>absurd e kc⟩
    have HAf:Hid (p.at_≤qf.at_∧qf.at_+2*p.open_≤3*p.ts.length+10∧qf.groups≤qf.at_):=hide (by rw [ka,kg];exact ⟨hd.out.qs.nx.at_,hd.out.qs.lim,hd.out.qs.gr⟩)
    clear HFx rdf' kc kt ka ke kg ko y0 y1 y2 y3 y5 y6 yf1 yf5 yf6 s0 s1 s2 s3 s4
    have c4v:=cells5c hdB.out.bO
    obtain ⟨s0,s1,s2,s3,s4⟩:=c4v
    have xr:=hdB.out.bR
    obtain ⟨r0',r1',r2',r3',r4'⟩:=cells5c xr
    have z0:=fz5c xr 0
    have z1:=fz5c xr 1
    have z2:=fz5c xr 2
    have z3:=fz5c xr 3
    have z4:=fz5c xr 4
    have HE:Hid ((set5 wf W.heap.size (.int .i64 7) (.int .i64 0) (.int .i64 0) (.string mt0) (.slice o9 0 c9)).heap[W.heap.size]?=some (.cells #[.int .i64 7,.int .i64 0,.int .i64 0,.string mt0,.slice o9 0 c9] 25 (0,0))∧TrP 0 p b W #[.int .i64 7,.int .i64 0,.int .i64 0,.string mt0,.slice o9 0 c9] qf (set5 wf W.heap.size (.int .i64 7) (.int .i64 0) (.int .i64 0) (.string mt0) (.slice o9 0 c9))):=hide ⟨set5_at xr trivial (.int .i64 7) (.int .i64 0) (.int .i64 0) (.string mt0) (.slice o9 0 c9),⟨⟨rdf.out.pb.set5 (by have:=hd.out.bo.b;omega) _ _ _ _ _,(hd.out.bo.pg.tr rdf.out.pg).set5 (Nat.le_refl _) _ _ _ _ _⟩,HNf.out,by have:=HAf.out;omega,HAf.out.2.1,HAf.out.2.2,fun e=>absurd e HCf.out⟩⟩
    unfold set5 at HE
    clear xr
    go_wp2
    generalize (((((wf.setCell ⟨W.heap.size,0,none⟩ (.int .i64 7)).setCell ⟨W.heap.size,1,none⟩ (.int .i64 0)).setCell ⟨W.heap.size,2,none⟩ (.int .i64 0)).setCell ⟨W.heap.size,3,none⟩ (.string mt0)).setCell ⟨W.heap.size,4,none⟩ (.slice o9 0 c9))=Wf at HE ⊢
    obtain ⟨u0,u1,u2,u3,u4⟩:=cells5c HE.out.1
    refine bodyPost_ret (v:=.agg #[.int .i64 7,.int .i64 0,.int .i64 0,.string mt0,.slice o9 0 c9]) ?_ rfl ⟨_,_,_,_,_,_,_,qf,rfl,HE.out.2⟩
    simp [results,Tryd.results60,go_sem,u0,u1,u2,u3,u4]
   ·have n1:((k:Int) == 0)=false:=by rw [beq_eq_false_iff_ne];omega
    have n2:decide ((k:Int)=0)=false:=decide_eq_false (by omega)
    have n3:(k == 0)=false:=by rw [beq_eq_false_iff_ne];exact hk0
    have n4:decide (k=0)=false:=decide_eq_false hk0
    have c4v:=cells5c hd.out.bo.bO
    obtain ⟨s0,s1,s2,s3,s4⟩:=c4v
    have xr:=hd.out.bo.bR
    obtain ⟨r0',r1',r2',r3',r4'⟩:=cells5c xr
    have z0:=fz5c xr 0
    have z1:=fz5c xr 1
    have z2:=fz5c xr 2
    have z3:=fz5c xr 3
    have z4:=fz5c xr 4
    have HE:Hid ((set5 w1 W.heap.size (.int .i64 7) (.int .i64 0) (.int .i64 0) (.string mt0) (.slice o9 k c9)).heap[W.heap.size]?=some (.cells #[.int .i64 7,.int .i64 0,.int .i64 0,.string mt0,.slice o9 k c9] 25 (0,0))∧TrP 0 p b W #[.int .i64 7,.int .i64 0,.int .i64 0,.string mt0,.slice o9 k c9] q (set5 w1 W.heap.size (.int .i64 7) (.int .i64 0) (.int .i64 0) (.string mt0) (.slice o9 k c9))):=hide ⟨set5_at xr trivial (.int .i64 7) (.int .i64 0) (.int .i64 0) (.string mt0) (.slice o9 k c9),⟨⟨hd.out.pb.set5 (by have:=hd.out.bo.b;omega) _ _ _ _ _,hd.out.bo.pg.set5 (Nat.le_refl _) _ _ _ _ _⟩,hd.out.qs.nx,by have:=hd.out.qs.nx.at_;omega,hd.out.qs.lim,hd.out.qs.gr,fun e=>⟨(hd.out.qs.g9 e).1,(hd.out.qs.g9 e).2,((hd.out.row e).block (fun x hx hl=>set5_other _ _ x _ _ _ _ _ (by have:=hd.out.bo.ro;omega))).cat (by have h1:=hd.out.kk e;have h2:=(hd.out.qs.g9 e).1;have h3:=HOK.out.len;omega) (fun x hx=>by have:=hd.out.bo.ro;omega)⟩⟩⟩
    unfold set5 at HE
    clear xr
    go_wp2
    generalize (((((w1.setCell ⟨W.heap.size,0,none⟩ (.int .i64 7)).setCell ⟨W.heap.size,1,none⟩ (.int .i64 0)).setCell ⟨W.heap.size,2,none⟩ (.int .i64 0)).setCell ⟨W.heap.size,3,none⟩ (.string mt0)).setCell ⟨W.heap.size,4,none⟩ (.slice o9 k c9))=Wf at HE ⊢
    obtain ⟨u0,u1,u2,u3,u4⟩:=cells5c HE.out.1
    refine bodyPost_ret (v:=.agg #[.int .i64 7,.int .i64 0,.int .i64 0,.string mt0,.slice o9 k c9]) ?_ rfl ⟨_,_,_,_,_,_,_,q,rfl,HE.out.2⟩
    simp [results,Tryd.results60,go_sem,u0,u1,u2,u3,u4]
  | false =>
   obtain ⟨hq0,hqa⟩:=hr rfl
   have HQ0:=hide (And.intro hq0 hqa)
   have HOQ:Hid (Okp q):=hide ⟨by rw [HX.out.qs.nx.ts];exact HOK.out.len,by rw [HX.out.qs.nx.ts];exact HOK.out.bytes,Nat.le_of_lt hqa,by rw [HX.out.qs.nx.op];have:=HOK.out.op;have:=HX.out.qs.nx.at_;omega,HX.out.qs.gr,fun e=>(HX.out.qs.g9 e).2⟩
   have HWn:Hid (∃ n,WholeOf n∧q.ts.length-q.at_≤n+1):=hide (by
    have h1:=HX.out.qs.nx.at_
    have h2:=HX.out.qs.nx.ts
    rw [h2] at hqa
    obtain ⟨n,h3,h4⟩:=HWH.out (by omega)
    exact ⟨n,h3,by rw [h2];omega⟩)
   have HAt:Hid (∀ f:Bool,Calls Tryd.prog 83 #[.pointer (some ⟨b,0,none⟩),.bool f] w1 (TrR 1 q b w1)):=hide fun f=>by
    obtain ⟨n,h3,h4⟩:=HWn.out
    exact atom_ere n h3 q b w1 HX1.out.pb HOQ.out HQ0.out.1 (by rw [HX.out.qs.nx.ere];exact HER.out) HQ0.out.2 h4 f
   obtain ⟨y0,y1,y2,y3,y5,y6,yf1,yf5,yf6⟩:=(Rd.refl HX1.out.pb).can
   clear hq0 hqa hr
   go_wp2_with fail
   refine (HAt.out _).mono ?_
   rintro e w2 ⟨kind,n9,m9,ss,o,ln,cp,q1,rfl,tr⟩
   obtain ⟨A,hA⟩:∃ A,A=w2.heap.size:=⟨_,rfl⟩
   obtain ⟨w5,hw5⟩:∃ w5,w2.alloc (.cells #[.int .i64 kind,.int .i64 n9,.int .i64 m9,.string ss,.slice o ln cp] 25)=w5:=⟨_,rfl⟩
   obtain ⟨B,hB⟩:∃ B,B=w1.heap.size:=⟨_,rfl⟩
   obtain ⟨mm,hmm⟩:∃ mm,mm=q.at_+1:=⟨_,rfl⟩
   have tm5:Hid (Tm p b O A B W v k q.groups mm #[.int .i64 kind,.int .i64 n9,.int .i64 m9,.string ss,.slice o ln cp] q1 w5):=hide (by
    have hrow:=HX1.out.row HQ0.out.1
    have hb:=HX1.out.bo.b
    have hro:=HX1.out.bo.ro
    have hOl:=HX1.out.bo.lt
    have hs:=tr.rd.pg.size
    have hpg:PG b w1 w5:=tr.rd.pg.tr (by rw [←hw5];exact PG.alloc _)
    have hkk:=HX1.out.kk HQ0.out.1
    have hown:=hrow.ownP
    refine ⟨(tr.rd.alloc _).pb.keep (by rw [hw5]),HX1.out.bo.rd hOl hpg,by rw [←hw5,hA];exact heap_alloc_new w2 _,by omega,by rw [←hw5,hA];simp,((hrow.mono (P':=fun x=>O<x∧x≠A) fun x hx hl=>⟨hx,by omega⟩).block fun x hx hl=>hpg.block x hl (by simp;omega)).le (by omega),fun g hg=>by have:=(hown g hg).2;omega,by rw [←hw5,hB];simp;omega,fun e => ?_,HX1.out.qs.next tr.nx (by exact tr.lim) tr.gr (fun e=>⟨(tr.good e).1,(tr.good e).2.1⟩),by omega,by have:=tr.far;omega⟩
    refine (((tr.good e).2.2.p (P:=fun x=>B≤x∧O<x∧x≠A) fun x hx hl=>⟨by omega,by omega,by omega⟩).block fun x hx hl => ?_).le (by omega)
    rw [←hw5]
    exact Below.heap_alloc w2 _ x hl)
   have HMQ:Hid (q.at_<mm∧mm≤p.ts.length∧q.at_<p.ts.length):=hide (by have:=HQ0.out.2;rw [HX.out.qs.nx.ts] at this;exact ⟨by omega,by omega,this⟩)
   have HMEA:Hid (meaB b p.ts.length wr=p.ts.length+1-q.at_):=hide (by rw [meaB_eq HX.out.pb,if_pos HQ0.out.1])
   obtain ⟨z0,z1,z2,z3,z5,z6,zf1,zf5,zf6⟩:=(Rd.refl tm5.out.pb).can
   have z2e:q1.ere=true:=by rw [tm5.out.qs.nx.ere];exact HER.out
   rw [z2e] at z2
   obtain ⟨t0,t1,t2,t3,t4⟩:=cells5c tm5.out.bA
   clear tr hB hmm z2e HAt y0 y1 y2 y3 y5 y6 yf1 yf5 yf6 HX HX1 HMe HWn HOQ HQ0 HWH
   have HAA:=hide hA
   have HW5:=hide hw5
   clear hA hw5
   go_upto_region 5 with fail
   (try rw [HW5.out])
   (try simp only [←HAA.out])
   clear HW5
   have HAT1:Hid True:=trivial
   clear HAT1
   go_wp2
   go_loopw [6,7] (fun _ _ wr=>∃ (q2:Pq) (kind n9 m9:Int) (ss:ByteArray) (o:Option Addr) (ln cp:Nat),Hid (Tm p b O A B W v k q.groups mm #[.int .i64 kind,.int .i64 n9,.int .i64 m9,.string ss,.slice o ln cp] q2 wr)) (fun _ _ wr=>meaB b p.ts.length wr)
   case atStart=>exact ⟨_,_,_,_,_,_,_,_,tm5⟩
   case round =>
    obtain ⟨q2,kind,n9,m9,ss,o,ln,cp,tm⟩:=hrel
    obtain ⟨z0,z1,z2,z3,z5,z6,zf1,zf5,zf6⟩:=(Rd.refl tm.out.pb).can
    obtain ⟨t0,t1,t2,t3,t4⟩:=cells5c tm.out.bA
    by_cases h0:q2.code=0
    ·have k1:(q2.code == 0)=true:=by simp [h0]
     have HC2:=hide h0
     rw [h0] at z3
     have HTm:=hide (times_ere q2 b wr tm.out.pb (by rw [tm.out.qs.nx.ts];have:=HOK.out.len;omega) (by have:=(tm.out.qs.g9 h0).1;have:=HOK.out.len;omega) (by rw [tm.out.qs.nx.ts];exact HOK.out.bytes) (by rw [tm.out.qs.nx.ere];exact HER.out) kind n9 m9 ss o ln cp)
     clear h0
     go_wp2_with fail
     refine HTm.out.mono ?_
     rintro e w6 (⟨rfl,gno⟩|⟨low,high,q3,g,rfl,gyes,hg1,hg2,hbq⟩)
     ·have tm6:=hide ((tm.out.rd (Rd.of1 gno)).alloc (.cells #[.int .i64 kind,.int .i64 n9,.int .i64 m9,.string ss,.slice o ln cp] 25))
      clear gno HTm z0 z1 z2 z3 z5 z6 zf1 zf5 zf6 t0 t1 t2 t3 t4 k1
      obtain ⟨w7,hw7⟩:∃ w7,w6.alloc (.cells #[.int .i64 kind,.int .i64 n9,.int .i64 m9,.string ss,.slice o ln cp] 25)=w7:=⟨_,rfl⟩
      rw [hw7] at tm6
      have HC3:=HC2
      obtain ⟨xs,hxs⟩:=tm6.out.row.own
      have HXS:=hide hxs
      have HKK:Hid (k≤300):=hide (by have h1:=tm6.out.kk;have h2:=HMQ.out;have h4:=HOK.out.len;omega)
      have c4v:=(cells5c tm6.out.bo.bO).2.2.2.2
      obtain ⟨t0,t1,t2,t3,t4⟩:=cells5c tm6.out.bA
      have HPU:=hide fun (g cap:Nat) (w9:World)=>tm6.out.push rfl (g:=g) (cap:=cap) (w9:=w9) (xs:=xs) HXS.out
      clear hxs
      go_wp2_with (at_builtin;refine wpList_append_lies _ rfl _ _ 23 rfl 0 25 i0 (.agg zero5) 5 64 Tryd.underlying23 HI.out.1 HI.out.2.1 HI.out.2.2.1 HI.out.2.2.2 rfl (by decide) v k xs rfl (World.ownsRow.alloc HXS.out _) ⟨w7.heap.size,0,none⟩ 1 1 [.int .i64 kind,.int .i64 n9,.int .i64 m9,.string ss,.slice o ln cp] rfl rfl (World.news_of_block (heap_alloc_new _ _)) (by intro u hu;simp at hu;rcases hu with rfl | rfl | rfl | rfl | rfl <;> rfl) (by decide) (by unfold maxLen;have:=HKK.out;omega) (by have:=HKK.out;omega) (by simp) _ rfl ?_;intro g9 cap9 w9 k1 k2 k3 k4;obtain ⟨BO,BP,BK,BX,⟨d4,d4f⟩,BS,BG,BL,BA⟩:=HPU.out g9 cap9 w9 k1 k2 k3;have HBO:=hide BO;have HBP:=hide BP;have HBK:=hide BK;have HOT:=hide BX;have HSZ9:=hide (And.intro BS (And.intro BG (And.intro BL BA)));clear k1 k2 k3 k4 BO BP BK BX BS BG BL BA HPU)
      go_roundw
      case rel=>exact ⟨q2,.slice (some ⟨g9,0,none⟩) (k+1) cap9,k+1,hide ⟨HBP.out,HBO.out,⟨_,_,rfl⟩,fun e=>(HBK.out e).mono (fun x hx _=>hx.1),tm6.out.qs,fun e=>by have h1:=tm6.out.kk;have h2:=tm6.out.mq;omega⟩⟩
      case measure=>rw [meaB_eq HBP.out,HMEA.out];have h1:=tm6.out.kk;have h2:=tm6.out.mq;have h3:=HMQ.out;split <;> omega
     ·obtain ⟨w7,hw7⟩:∃ w7,w6.alloc (.cells #[.int .i64 9,.int .i64 low,.int .i64 high,.string mt0,.slice (some ⟨g,0,none⟩) 1 1] 25)=w7:=⟨_,rfl⟩
      have hb7:Below w6.heap.size w6 w7:=by rw [←hw7];exact (Below.refl _ _).alloc (Nat.le_refl _) _
      have x7:w7.heap[w6.heap.size]?=some (.cells #[.int .i64 9,.int .i64 low,.int .i64 high,.string mt0,.slice (some ⟨g,0,none⟩) 1 1] 25 (0,0)):=by rw [←hw7];exact heap_alloc_new w6 _
      obtain ⟨s0,s1,s2,s3,s4⟩:=cells5c x7
      have HX7:=hide x7
      have tpg:PG b wr w7:=gyes.pg.tr (PG.below hb7)
      have hAl:=tm.out.AB
      have hBB:=tm.out.BB
      have hbo:=tm.out.bo.b
      have hro:=tm.out.bo.ro
      have hoA:=tm.out.oA
      have tmz:Hid (Tm p b O A B W v k q.groups mm #[.int .i64 9,.int .i64 low,.int .i64 high,.string mt0,.slice (some ⟨g,0,none⟩) 1 1] q3 (set5 w7 A (.int .i64 9) (.int .i64 low) (.int .i64 high) (.string mt0) (.slice (some ⟨g,0,none⟩) 1 1))):=hide (by
       refine tm.out.put ⟨_,_,_,_,_,rfl⟩ (gyes.pb.below hb7) tpg _ _ _ _ _ (tm.out.qs.next gyes.nx (by have h1:=hbq.2.1;have h2:=HOK.out;have h3:=tm.out.qs.nx.op;have h4:=tm.out.qs.nx.ts;have h5:=h2.op;have h6:=h2.at_;rw [h4] at h1 ⊢;rw [h3];omega) (by rw [gyes.gr];have:=tm.out.qs.gr;have:=gyes.nx.at_;omega) (fun e=>⟨(hbq.2.2 e).1,by rw [gyes.gr];exact (tm.out.qs.g9 (gyes.nx.code e)).2⟩)) (by have:=tm.out.mq;have:=gyes.nx.at_;omega) (fun e => ?_)
       have hq:=hbq.2.2 e
       have ht:=(tm.out.tree (gyes.nx.code e)).block (W':=w7) fun x hx hl=>tpg.block x hl (by simp;omega)
       rw [gyes.gr]
       exact (ht.rep rfl ((hb7.block g (Array.getElem?_eq_some_iff.1 hg2).1).trans hg2) ⟨by omega,by omega,by omega⟩ 1 hq.2.1 hq.2.2.1 hq.2.2.2).le (by have h1:=hbq.1;have h2:=tm.out.mq;omega))
      have HMZ:Hid (meaB b p.ts.length (set5 w7 A (.int .i64 9) (.int .i64 low) (.int .i64 high) (.string mt0) (.slice (some ⟨g,0,none⟩) 1 1))<meaB b p.ts.length wr):=hide (by
       rw [meaB_eq tmz.out.pb,meaB_eq tm.out.pb,if_pos HC2.out]
       have h1:=(tm.out.qs.g9 HC2.out).1
       have h2:=hbq.1
       split <;> omega)
      have xA7:w7.heap[A]?=some (.cells #[.int .i64 kind,.int .i64 n9,.int .i64 m9,.string ss,.slice o ln cp] 25 (0,0)):=(tpg.block A hAl (by simp;omega)).trans tm.out.bA
      obtain ⟨v0',v1',v2',v3',v4'⟩:=cells5c xA7
      have y0:=fz5c xA7 0
      have y1:=fz5c xA7 1
      have y2:=fz5c xA7 2
      have y3:=fz5c xA7 3
      have y4:=fz5c xA7 4
      unfold set5 at tmz HMZ
      unfold rxV
      clear gyes hg1 hg2 hbq hb7 x7 tpg xA7 HTm z0 z1 z2 z3 z5 z6 zf1 zf5 zf6 t0 t1 t2 t3 t4 k1 hAl hBB hbo hro hoA
      go_wp2
      go_roundw
      case rel=>exact ⟨_,_,_,_,_,_,_,_,tmz⟩
      case measure=>exact HMZ.out
    ·have k1:(q2.code == 0)=false:=by simpa using h0
     have k2:decide (q2.code=0)=false:=decide_eq_false h0
     clear h0 t0 t1 t2 t3 t4
     clear z0 z1 z2 z5 z6 zf1 zf5 zf6
     obtain ⟨xs,hxs⟩:=tm.out.row.own
     have HXS:=hide hxs
     have HKK:Hid (k≤300):=hide (by have h1:=tm.out.kk;have h2:=HMQ.out;have h4:=HOK.out.len;omega)
     have c4v:=(cells5c tm.out.bo.bO).2.2.2.2
     obtain ⟨t0,t1,t2,t3,t4⟩:=cells5c tm.out.bA
     have HPU:=hide fun (g cap:Nat) (w9:World)=>tm.out.push rfl (g:=g) (cap:=cap) (w9:=w9) (xs:=xs) HXS.out
     clear hxs
     go_wp2_with (at_builtin;refine wpList_append_lies _ rfl _ _ 23 rfl 0 25 i0 (.agg zero5) 5 64 Tryd.underlying23 HI.out.1 HI.out.2.1 HI.out.2.2.1 HI.out.2.2.2 rfl (by decide) v k xs rfl (World.ownsRow.alloc HXS.out _) ⟨wr.heap.size,0,none⟩ 1 1 [.int .i64 kind,.int .i64 n9,.int .i64 m9,.string ss,.slice o ln cp] rfl rfl (World.news_of_block (heap_alloc_new _ _)) (by intro u hu;simp at hu;rcases hu with rfl | rfl | rfl | rfl | rfl <;> rfl) (by decide) (by unfold maxLen;have:=HKK.out;omega) (by have:=HKK.out;omega) (by simp) _ rfl ?_;intro g9 cap9 w9 k1 k2 k3 k4;obtain ⟨BO,BP,BK,BX,⟨d4,d4f⟩,BS,BG,BL,BA⟩:=HPU.out g9 cap9 w9 k1 k2 k3;have HBO:=hide BO;have HBP:=hide BP;have HBK:=hide BK;have HOT:=hide BX;have HSZ9:=hide (And.intro BS (And.intro BG (And.intro BL BA)));clear k1 k2 k3 k4 BO BP BK BX BS BG BL BA HPU)
     go_roundw
     case rel=>exact ⟨q2,.slice (some ⟨g9,0,none⟩) (k+1) cap9,k+1,hide ⟨HBP.out,HBO.out,⟨_,_,rfl⟩,fun e=>(HBK.out e).mono (fun x hx _=>hx.1),tm.out.qs,fun e=>by have h1:=tm.out.kk;have h2:=tm.out.mq;omega⟩⟩
     case measure=>rw [meaB_eq HBP.out,HMEA.out];have h1:=tm.out.kk;have h2:=tm.out.mq;have h3:=HMQ.out;split <;> omega
set_option maxRecDepth 20000 in
set_option maxHeartbeats 16000000 in
theorem branch_bre (p:Pq) (b:Nat) (W:World) (h:PB p b W) (hk:Okp p) (he:p.ere=false) (hw:p.at_<p.ts.length→∃ n,WholeOf n∧p.ts.length-p.at_≤n+1) :
  Calls Tryd.prog 60 #[.pointer (some ⟨b,0,none⟩)] W (TrR 0 p b W):=by
 obtain ⟨i0,hi0,hz0,hs0,hb0⟩:=info_parts info25
 have HI:=hide (And.intro hi0 (And.intro hz0 (And.intro hs0 hb0)))
 obtain ⟨W1,hW1,hbox⟩:=box_new W
 obtain ⟨hBx,hRZ⟩:=hbox b h.lt
 have HRZ:=hide hRZ
 have rd1:=Rd.refl (h.below hBx.bel)
 have HB1:Hid (Rd b W p W1):=hide ((Rd.refl h).below hBx.bel)
 obtain ⟨y0,y1,y2,y3,y5,y6,yf1,yf5,yf6⟩:=rd1.can
 have HBX:=hide hBx
 have HND:=hide (node_any W1 7 0 0 none 0 0)
 have HHd:Hid (∀ w2,Below W1.heap.size W1 w2→Hd p b w2.heap.size W (.slice none 0 0) 0 p (w2.alloc (.cells #[.int .i64 7,.int .i64 0,.int .i64 0,.string mt0,.slice none 0 0] 25))):=hide fun w2 hb=>by
  have h1:=(HB1.out.below hb).alloc (.cells #[.int .i64 7,.int .i64 0,.int .i64 0,.string mt0,.slice none 0 0] 25)
  have h2:=HBX.out
  have h3:=hb.size
  exact ⟨h1.pb,⟨h1.pg,h2.b,by have:=h2.hi;omega,HRZ.out _ (((PG.below hb)).tr (PG.alloc _)),heap_alloc_new w2 _⟩,⟨_,_,rfl⟩,fun _=>(KRowP.nil _ _ _).le (Nat.zero_le _),⟨Nx.refl p,by have:=hk.op;have:=hk.at_;omega,hk.gr,fun e=>⟨hk.at_,hk.g9 e⟩⟩,fun _=>by omega⟩
 have HOK:=hide hk
 have HER:=hide he
 have HWH:=hide hw
 clear hi0 hz0 hs0 hb0 hbox hBx hRZ rd1 h hk he hw
 go_enter Tryd.func60,Tryd.ntmps60
 (try rw [hW1])
 go_wp2_with fail
 refine HND.out.mono ?_
 rintro e w2 ⟨rfl,b2⟩
 unfold rxV
 have HH0:=hide (HHd.out w2 b2)
 obtain ⟨O,hO⟩:∃ O,O=w2.heap.size:=⟨_,rfl⟩
 obtain ⟨w3,hw3⟩:∃ w3,w2.alloc (.cells #[.int .i64 7,.int .i64 0,.int .i64 0,.string mt0,.slice none 0 0] 25)=w3:=⟨_,rfl⟩
 rw [hw3,←hO] at HH0
 have HOO:=hide hO
 have HW3:=hide hw3
 clear HND HHd b2 y0 y1 y2 y3 y5 y6 yf1 yf5 yf6 hW1 hO hw3
 go_wp2
 (try rw [HW3.out])
 (try simp only [←HOO.out])
 clear HW3
 go_loopw [5,6,7] (fun _ _ _ wr=>∃ (q:Pq) (v:Value) (k:Nat),Hid (Hd p b O W v k q wr)) (fun _ _ _ wr=>meaB b p.ts.length wr)
 case atStart=>exact ⟨_,_,_,HH0⟩
 case round =>
  obtain ⟨q,v,k,HX⟩:=hrel
  have HEn:=hide ((Rd.refl HX.out.pb).ends (by rw [HX.out.qs.nx.ts];have:=HOK.out.len;omega) (by have:=HX.out.qs.lim;have:=HOK.out.len;omega))
  go_wp2_with fail
  refine HEn.out.mono ?_
  rintro e w1 ⟨r,rfl,hr,rd1'⟩
  have HX1:=hide (HX.out.rd rd1')
  have HMe:Hid (meaB b p.ts.length w1=meaB b p.ts.length wr):=hide (by rw [meaB_eq rd1'.pb,meaB_eq HX.out.pb])
  clear rd1' HEn
  cases r with
  | true =>
   have hd:=HX1
   obtain ⟨o9,c9,rfl⟩:=hd.out.vs
   obtain ⟨y0,y1,y2,y3,y5,y6,yf1,yf5,yf6⟩:=(Rd.refl hd.out.pb).can
   have y2e:q.ere=false:=by rw [hd.out.qs.nx.ere];exact HER.out
   rw [y2e] at y2
   clear hr HX HMe HWH HX1 y2e
   have c4v:=cells5c hd.out.bo.bO
   obtain ⟨s0,s1,s2,s3,s4⟩:=c4v
   have xr:=hd.out.bo.bR
   obtain ⟨r0',r1',r2',r3',r4'⟩:=cells5c xr
   have z0:=fz5c xr 0
   have z1:=fz5c xr 1
   have z2:=fz5c xr 2
   have z3:=fz5c xr 3
   have z4:=fz5c xr 4
   have HE:Hid ((set5 w1 W.heap.size (.int .i64 7) (.int .i64 0) (.int .i64 0) (.string mt0) (.slice o9 k c9)).heap[W.heap.size]?=some (.cells #[.int .i64 7,.int .i64 0,.int .i64 0,.string mt0,.slice o9 k c9] 25 (0,0))∧TrP 0 p b W #[.int .i64 7,.int .i64 0,.int .i64 0,.string mt0,.slice o9 k c9] q (set5 w1 W.heap.size (.int .i64 7) (.int .i64 0) (.int .i64 0) (.string mt0) (.slice o9 k c9))):=hide ⟨set5_at xr trivial (.int .i64 7) (.int .i64 0) (.int .i64 0) (.string mt0) (.slice o9 k c9),⟨⟨hd.out.pb.set5 (by have:=hd.out.bo.b;omega) _ _ _ _ _,hd.out.bo.pg.set5 (Nat.le_refl _) _ _ _ _ _⟩,hd.out.qs.nx,by have:=hd.out.qs.nx.at_;omega,hd.out.qs.lim,hd.out.qs.gr,fun e=>⟨(hd.out.qs.g9 e).1,(hd.out.qs.g9 e).2,((hd.out.row e).block (fun x hx hl=>set5_other _ _ x _ _ _ _ _ (by have:=hd.out.bo.ro;omega))).cat (by have h1:=hd.out.kk e;have h2:=(hd.out.qs.g9 e).1;have h3:=HOK.out.len;omega) (fun x hx=>by have:=hd.out.bo.ro;omega)⟩⟩⟩
   unfold set5 at HE
   clear xr
   go_wp2
   generalize (((((w1.setCell ⟨W.heap.size,0,none⟩ (.int .i64 7)).setCell ⟨W.heap.size,1,none⟩ (.int .i64 0)).setCell ⟨W.heap.size,2,none⟩ (.int .i64 0)).setCell ⟨W.heap.size,3,none⟩ (.string mt0)).setCell ⟨W.heap.size,4,none⟩ (.slice o9 k c9))=Wf at HE ⊢
   obtain ⟨u0,u1,u2,u3,u4⟩:=cells5c HE.out.1
   refine bodyPost_ret (v:=.agg #[.int .i64 7,.int .i64 0,.int .i64 0,.string mt0,.slice o9 k c9]) ?_ rfl ⟨_,_,_,_,_,_,_,q,rfl,HE.out.2⟩
   simp [results,Tryd.results60,go_sem,u0,u1,u2,u3,u4]
  | false =>
   obtain ⟨hq0,hqa⟩:=hr rfl
   have HQ0:=hide (And.intro hq0 hqa)
   have HOQ:Hid (Okp q):=hide ⟨by rw [HX.out.qs.nx.ts];exact HOK.out.len,by rw [HX.out.qs.nx.ts];exact HOK.out.bytes,Nat.le_of_lt hqa,by rw [HX.out.qs.nx.op];have:=HOK.out.op;have:=HX.out.qs.nx.at_;omega,HX.out.qs.gr,fun e=>(HX.out.qs.g9 e).2⟩
   have HWn:Hid (∃ n,WholeOf n∧q.ts.length-q.at_≤n+1):=hide (by
    have h1:=HX.out.qs.nx.at_
    have h2:=HX.out.qs.nx.ts
    rw [h2] at hqa
    obtain ⟨n,h3,h4⟩:=HWH.out (by omega)
    exact ⟨n,h3,by rw [h2];omega⟩)
   have HAt:Hid (∀ f:Bool,Calls Tryd.prog 83 #[.pointer (some ⟨b,0,none⟩),.bool f] w1 (TrR 1 q b w1)):=hide fun f=>by
    obtain ⟨n,h3,h4⟩:=HWn.out
    exact atom_bre n h3 q b w1 HX1.out.pb HOQ.out HQ0.out.1 (by rw [HX.out.qs.nx.ere];exact HER.out) HQ0.out.2 h4 f
   obtain ⟨y0,y1,y2,y3,y5,y6,yf1,yf5,yf6⟩:=(Rd.refl HX1.out.pb).can
   clear hq0 hqa hr
   go_wp2_with fail
   refine (HAt.out _).mono ?_
   rintro e w2 ⟨kind,n9,m9,ss,o,ln,cp,q1,rfl,tr⟩
   obtain ⟨A,hA⟩:∃ A,A=w2.heap.size:=⟨_,rfl⟩
   obtain ⟨w5,hw5⟩:∃ w5,w2.alloc (.cells #[.int .i64 kind,.int .i64 n9,.int .i64 m9,.string ss,.slice o ln cp] 25)=w5:=⟨_,rfl⟩
   obtain ⟨B,hB⟩:∃ B,B=w1.heap.size:=⟨_,rfl⟩
   obtain ⟨mm,hmm⟩:∃ mm,mm=q.at_+1:=⟨_,rfl⟩
   have tm5:Hid (Tm p b O A B W v k q.groups mm #[.int .i64 kind,.int .i64 n9,.int .i64 m9,.string ss,.slice o ln cp] q1 w5):=hide (by
    have hrow:=HX1.out.row HQ0.out.1
    have hb:=HX1.out.bo.b
    have hro:=HX1.out.bo.ro
    have hOl:=HX1.out.bo.lt
    have hs:=tr.rd.pg.size
    have hpg:PG b w1 w5:=tr.rd.pg.tr (by rw [←hw5];exact PG.alloc _)
    have hkk:=HX1.out.kk HQ0.out.1
    have hown:=hrow.ownP
    refine ⟨(tr.rd.alloc _).pb.keep (by rw [hw5]),HX1.out.bo.rd hOl hpg,by rw [←hw5,hA];exact heap_alloc_new w2 _,by omega,by rw [←hw5,hA];simp,((hrow.mono (P':=fun x=>O<x∧x≠A) fun x hx hl=>⟨hx,by omega⟩).block fun x hx hl=>hpg.block x hl (by simp;omega)).le (by omega),fun g hg=>by have:=(hown g hg).2;omega,by rw [←hw5,hB];simp;omega,fun e => ?_,HX1.out.qs.next tr.nx (by exact tr.lim) tr.gr (fun e=>⟨(tr.good e).1,(tr.good e).2.1⟩),by omega,by have:=tr.far;omega⟩
    refine (((tr.good e).2.2.p (P:=fun x=>B≤x∧O<x∧x≠A) fun x hx hl=>⟨by omega,by omega,by omega⟩).block fun x hx hl => ?_).le (by omega)
    rw [←hw5]
    exact Below.heap_alloc w2 _ x hl)
   have HMQ:Hid (q.at_<mm∧mm≤p.ts.length∧q.at_<p.ts.length):=hide (by have:=HQ0.out.2;rw [HX.out.qs.nx.ts] at this;exact ⟨by omega,by omega,this⟩)
   have HMEA:Hid (meaB b p.ts.length wr=p.ts.length+1-q.at_):=hide (by rw [meaB_eq HX.out.pb,if_pos HQ0.out.1])
   obtain ⟨z0,z1,z2,z3,z5,z6,zf1,zf5,zf6⟩:=(Rd.refl tm5.out.pb).can
   have z2e:q1.ere=false:=by rw [tm5.out.qs.nx.ere];exact HER.out
   rw [z2e] at z2
   obtain ⟨t0,t1,t2,t3,t4⟩:=cells5c tm5.out.bA
   clear tr hB hmm z2e HAt y0 y1 y2 y3 y5 y6 yf1 yf5 yf6 HX HX1 HMe HWn HOQ HQ0 HWH
   have HAA:=hide hA
   have HW5:=hide hw5
   clear hA hw5
   go_upto_region 5 with fail
   (try rw [HW5.out])
   (try simp only [←HAA.out])
   clear HW5
   have HAT1:Hid True:=trivial
   have HIS:=hide ((Rd.refl tm5.out.pb).is (by rw [tm5.out.qs.nx.ts];have:=HOK.out.len;omega) (by have:=tm5.out.qs.lim;have:=HOK.out.len;omega) ⟨#[42]⟩ (by decide))
   by_cases hk4:kind=4
   ·subst hk4
    cases hB:q1.is ⟨#[42]⟩ with
    | true =>
     rw [hB] at HIS
     have HS1:=hide (is_true hB)
     clear hB
     go_wp2_with fail
     refine HIS.out.mono ?_
     rintro e w6s ⟨rfl,rd6⟩
     have tm6:=hide (tm5.out.rd rd6)
     clear rd6 HIS tm5 z0 z1 z2 z3 z5 z6 zf1 zf5 zf6 t0 t1 t2 t3 t4
     obtain ⟨xs,hxs⟩:=tm6.out.row.own
     have HXS:=hide hxs
     have HKK:Hid (k≤300):=hide (by have h1:=tm6.out.kk;have h2:=HMQ.out;have h4:=HOK.out.len;omega)
     have c4v:=(cells5c tm6.out.bo.bO).2.2.2.2
     obtain ⟨t0,t1,t2,t3,t4⟩:=cells5c tm6.out.bA
     have HPU:=hide fun (g cap:Nat) (w9:World)=>tm6.out.push rfl (g:=g) (cap:=cap) (w9:=w9) (xs:=xs) HXS.out
     clear hxs
     go_wp2_with (at_builtin;refine wpList_append_lies _ rfl _ _ 23 rfl 0 25 i0 (.agg zero5) 5 64 Tryd.underlying23 HI.out.1 HI.out.2.1 HI.out.2.2.1 HI.out.2.2.2 rfl (by decide) v k xs rfl (World.ownsRow.alloc HXS.out _) ⟨w6s.heap.size,0,none⟩ 1 1 [.int .i64 4,.int .i64 n9,.int .i64 m9,.string ss,.slice o ln cp] rfl rfl (World.news_of_block (heap_alloc_new _ _)) (by intro u hu;simp at hu;rcases hu with rfl | rfl | rfl | rfl | rfl <;> rfl) (by decide) (by unfold maxLen;have:=HKK.out;omega) (by have:=HKK.out;omega) (by simp) _ rfl ?_;intro g9 cap9 w9 k1 k2 k3 k4;obtain ⟨BO,BP,BK,BX,⟨d4,d4f⟩,BS,BG,BL,BA⟩:=HPU.out g9 cap9 w9 k1 k2 k3;have HBO:=hide BO;have HBP:=hide BP;have HBK:=hide BK;have HOT:=hide BX;have HSZ9:=hide (And.intro BS (And.intro BG (And.intro BL BA)));clear k1 k2 k3 k4 BO BP BK BX BS BG BL BA HPU;obtain ⟨w10,hw10⟩:∃ w10,w9.setCell ⟨O,4,none⟩ (.slice (some ⟨g9,0,none⟩) (k+1) cap9)=w10:=⟨_,rfl⟩;rw [hw10] at HBO HBP HBK HOT;obtain ⟨e0,e1,e2,e3,e5,e6,ef1,ef5,ef6⟩:=(Rd.refl HBP.out).can;obtain ⟨qs,hqs⟩:∃ qs:Pq,qs={ q1 with at_:=q1.at_+1 }:=⟨_,rfl⟩;have hws:IntKind.i64.wrap ((q1.at_:Int)+1)=(qs.at_:Int):=(by rw [IntKind.wrap_i64,hqs];show _=((q1.at_+1:Nat):Int);have h1:=tm6.out.qs.lim;have h2:=HOK.out.len;omega);obtain ⟨w11,hw11⟩:∃ w11,w10.setCell ⟨b,1,none⟩ (.int .i64 (qs.at_:Int))=w11:=⟨_,rfl⟩;have HCh:=hide (char_any w11 42 (by decide) (by decide));have HW11:=hide hw11;have HQS:=hide hqs;clear hqs)
     refine HCh.out.mono ?_
     rintro e w12 ⟨rfl,b12⟩
     unfold rxV
     have hA10:w10.heap[A]?=some (.cells #[.int .i64 4,.int .i64 n9,.int .i64 m9,.string ss,.slice o ln cp] 25 (0,0)):=(HOT.out A (by have:=tm6.out.oA;omega) tm6.out.AB (fun e=>(tm6.out.row.ownP A e).1.2 rfl)).trans tm6.out.bA
     have hpg12:PG b w10 w12:=(by rw [←HW11.out];exact PG.set 1 _:PG b w10 w11).tr (PG.below b12)
     have hA12:w12.heap[A]?=some (.cells #[.int .i64 4,.int .i64 n9,.int .i64 m9,.string ss,.slice o ln cp] 25 (0,0)):=(hpg12.block A (Array.getElem?_eq_some_iff.1 hA10).1 (by have:=tm6.out.oA;have:=tm6.out.bo.ro;have:=tm6.out.bo.b;simp;omega)).trans hA10
     obtain ⟨v0',v1',v2',v3',v4'⟩:=cells5c hA12
     have y0:=fz5c hA12 0
     have y1:=fz5c hA12 1
     have y2:=fz5c hA12 2
     have y3:=fz5c hA12 3
     have y4:=fz5c hA12 4
     obtain ⟨m2,hm2⟩:∃ m2,m2=q1.at_+1:=⟨_,rfl⟩
     have tms:Hid (Tm p b O A w12.heap.size W (.slice (some ⟨g9,0,none⟩) (k+1) cap9) (k+1) q1.groups m2 #[.int .i64 1,.int .i64 42,.int .i64 0,.string mt0,.slice none 0 0] qs (set5 w12 A (.int .i64 1) (.int .i64 42) (.int .i64 0) (.string mt0) (.slice none 0 0))):=hide (by
      rw [HQS.out]
      refine tm_star HBO.out HBP.out (HBK.out HS1.out.1) hA10 tm6.out.oA tm6.out.qs HS1.out.1 (by have h:=HS1.out.2;rw [tm6.out.qs.nx.ts] at h;exact h) HOK.out.op (by rw [HQS.out] at HW11;have h:=HW11.out;rw [h];exact b12) (by have:=tm6.out.kk;have:=tm6.out.mq;omega) hm2)
     have HMQ2:Hid (q.at_<m2∧m2≤p.ts.length∧q.at_<p.ts.length):=hide (by have h:=HS1.out.2;rw [tm6.out.qs.nx.ts] at h;have h2:=tm6.out.mq;have h3:=HMQ.out;have h4:((⟨#[42]⟩:ByteArray)).size=1:=rfl;omega)
     clear HMQ
     have HMQ:=HMQ2
     clear HMQ2 hA10 hpg12 hA12 b12 HCh HW11 HQS hm2 HBO HBP HBK HOT HSZ9 HS1 tm6 HXS HKK e0 e1 e2 e3 e5 e6 ef1 ef5 ef6
     obtain ⟨B2,hB2⟩:∃ B2,B2=w12.heap.size:=⟨_,rfl⟩
     rw [←hB2] at tms
     clear hB2
     unfold set5 at tms
     go_wp2
     go_loopw [6,7] (fun _ _ wr=>∃ (q2:Pq) (kind n9 m9:Int) (ss:ByteArray) (o:Option Addr) (ln cp:Nat),Hid (Tm p b O A B2 W (.slice (some ⟨g9,0,none⟩) (k+1) cap9) (k+1) q1.groups m2 #[.int .i64 kind,.int .i64 n9,.int .i64 m9,.string ss,.slice o ln cp] q2 wr)) (fun _ _ wr=>meaB b p.ts.length wr)
     case atStart=>exact ⟨_,_,_,_,_,_,_,_,tms⟩
     case round =>
      obtain ⟨q2,kind,n9,m9,ss,o,ln,cp,tm⟩:=hrel
      obtain ⟨z0,z1,z2,z3,z5,z6,zf1,zf5,zf6⟩:=(Rd.refl tm.out.pb).can
      obtain ⟨t0,t1,t2,t3,t4⟩:=cells5c tm.out.bA
      by_cases h0:q2.code=0
      ·have k1:(q2.code == 0)=true:=by simp [h0]
       have HC2:=hide h0
       rw [h0] at z3
       have HTm:=hide (times_bre q2 b wr tm.out.pb (by rw [tm.out.qs.nx.ts];have:=HOK.out.len;omega) (by have:=(tm.out.qs.g9 h0).1;have:=HOK.out.len;omega) (by rw [tm.out.qs.nx.ts];exact HOK.out.bytes) (by rw [tm.out.qs.nx.ere];exact HER.out) kind n9 m9 ss o ln cp)
       clear h0
       go_wp2_with fail
       refine HTm.out.mono ?_
       rintro e w6 (⟨rfl,gno⟩|⟨low,high,q3,g,rfl,gyes,hg1,hg2,hbq⟩)
       ·have tm6:=hide ((tm.out.rd (Rd.of1 gno)).alloc (.cells #[.int .i64 kind,.int .i64 n9,.int .i64 m9,.string ss,.slice o ln cp] 25))
        clear gno HTm z0 z1 z2 z3 z5 z6 zf1 zf5 zf6 t0 t1 t2 t3 t4 k1
        obtain ⟨w7,hw7⟩:∃ w7,w6.alloc (.cells #[.int .i64 kind,.int .i64 n9,.int .i64 m9,.string ss,.slice o ln cp] 25)=w7:=⟨_,rfl⟩
        rw [hw7] at tm6
        have HC3:=HC2
        obtain ⟨xs,hxs⟩:=tm6.out.row.own
        have HXS:=hide hxs
        have HKK:Hid ((k+1)≤300):=hide (by have h1:=tm6.out.kk;have h2:=HMQ.out;have h4:=HOK.out.len;omega)
        have c4v:=(cells5c tm6.out.bo.bO).2.2.2.2
        obtain ⟨t0,t1,t2,t3,t4⟩:=cells5c tm6.out.bA
        have HPU:=hide fun (g cap:Nat) (w9:World)=>tm6.out.push rfl (g:=g) (cap:=cap) (w9:=w9) (xs:=xs) HXS.out
        clear hxs
        go_wp2_with (at_builtin;refine wpList_append_lies _ rfl _ _ 23 rfl 0 25 i0 (.agg zero5) 5 64 Tryd.underlying23 HI.out.1 HI.out.2.1 HI.out.2.2.1 HI.out.2.2.2 rfl (by decide) (.slice (some ⟨g9,0,none⟩) (k+1) cap9) (k+1) xs rfl (World.ownsRow.alloc HXS.out _) ⟨w7.heap.size,0,none⟩ 1 1 [.int .i64 kind,.int .i64 n9,.int .i64 m9,.string ss,.slice o ln cp] rfl rfl (World.news_of_block (heap_alloc_new _ _)) (by intro u hu;simp at hu;rcases hu with rfl | rfl | rfl | rfl | rfl <;> rfl) (by decide) (by unfold maxLen;have:=HKK.out;omega) (by have:=HKK.out;omega) (by simp) _ rfl ?_;intro g9 cap9 w9 k1 k2 k3 k4;obtain ⟨BO,BP,BK,BX,⟨d4,d4f⟩,BS,BG,BL,BA⟩:=HPU.out g9 cap9 w9 k1 k2 k3;have HBO:=hide BO;have HBP:=hide BP;have HBK:=hide BK;have HOT:=hide BX;have HSZ9:=hide (And.intro BS (And.intro BG (And.intro BL BA)));clear k1 k2 k3 k4 BO BP BK BX BS BG BL BA HPU)
        go_roundw
        case rel=>exact ⟨q2,.slice (some ⟨g9,0,none⟩) ((k+1)+1) cap9,(k+1)+1,hide ⟨HBP.out,HBO.out,⟨_,_,rfl⟩,fun e=>(HBK.out e).mono (fun x hx _=>hx.1),tm6.out.qs,fun e=>by have h1:=tm6.out.kk;have h2:=tm6.out.mq;omega⟩⟩
        case measure=>rw [meaB_eq HBP.out,HMEA.out];have h1:=tm6.out.kk;have h2:=tm6.out.mq;have h3:=HMQ.out;split <;> omega
       ·obtain ⟨w7,hw7⟩:∃ w7,w6.alloc (.cells #[.int .i64 9,.int .i64 low,.int .i64 high,.string mt0,.slice (some ⟨g,0,none⟩) 1 1] 25)=w7:=⟨_,rfl⟩
        have hb7:Below w6.heap.size w6 w7:=by rw [←hw7];exact (Below.refl _ _).alloc (Nat.le_refl _) _
        have x7:w7.heap[w6.heap.size]?=some (.cells #[.int .i64 9,.int .i64 low,.int .i64 high,.string mt0,.slice (some ⟨g,0,none⟩) 1 1] 25 (0,0)):=by rw [←hw7];exact heap_alloc_new w6 _
        obtain ⟨s0,s1,s2,s3,s4⟩:=cells5c x7
        have HX7:=hide x7
        have tpg:PG b wr w7:=gyes.pg.tr (PG.below hb7)
        have hAl:=tm.out.AB
        have hBB:=tm.out.BB
        have hbo:=tm.out.bo.b
        have hro:=tm.out.bo.ro
        have hoA:=tm.out.oA
        have tmz:Hid (Tm p b O A B2 W (.slice (some ⟨g9,0,none⟩) (k+1) cap9) (k+1) q1.groups m2 #[.int .i64 9,.int .i64 low,.int .i64 high,.string mt0,.slice (some ⟨g,0,none⟩) 1 1] q3 (set5 w7 A (.int .i64 9) (.int .i64 low) (.int .i64 high) (.string mt0) (.slice (some ⟨g,0,none⟩) 1 1))):=hide (by
         refine tm.out.put ⟨_,_,_,_,_,rfl⟩ (gyes.pb.below hb7) tpg _ _ _ _ _ (tm.out.qs.next gyes.nx (by have h1:=hbq.2.1;have h2:=HOK.out;have h3:=tm.out.qs.nx.op;have h4:=tm.out.qs.nx.ts;have h5:=h2.op;have h6:=h2.at_;rw [h4] at h1 ⊢;rw [h3];omega) (by rw [gyes.gr];have:=tm.out.qs.gr;have:=gyes.nx.at_;omega) (fun e=>⟨(hbq.2.2 e).1,by rw [gyes.gr];exact (tm.out.qs.g9 (gyes.nx.code e)).2⟩)) (by have:=tm.out.mq;have:=gyes.nx.at_;omega) (fun e => ?_)
         have hq:=hbq.2.2 e
         have ht:=(tm.out.tree (gyes.nx.code e)).block (W':=w7) fun x hx hl=>tpg.block x hl (by simp;omega)
         rw [gyes.gr]
         exact (ht.rep rfl ((hb7.block g (Array.getElem?_eq_some_iff.1 hg2).1).trans hg2) ⟨by omega,by omega,by omega⟩ 1 hq.2.1 hq.2.2.1 hq.2.2.2).le (by have h1:=hbq.1;have h2:=tm.out.mq;omega))
        have HMZ:Hid (meaB b p.ts.length (set5 w7 A (.int .i64 9) (.int .i64 low) (.int .i64 high) (.string mt0) (.slice (some ⟨g,0,none⟩) 1 1))<meaB b p.ts.length wr):=hide (by
         rw [meaB_eq tmz.out.pb,meaB_eq tm.out.pb,if_pos HC2.out]
         have h1:=(tm.out.qs.g9 HC2.out).1
         have h2:=hbq.1
         split <;> omega)
        have xA7:w7.heap[A]?=some (.cells #[.int .i64 kind,.int .i64 n9,.int .i64 m9,.string ss,.slice o ln cp] 25 (0,0)):=(tpg.block A hAl (by simp;omega)).trans tm.out.bA
        obtain ⟨v0',v1',v2',v3',v4'⟩:=cells5c xA7
        have y0:=fz5c xA7 0
        have y1:=fz5c xA7 1
        have y2:=fz5c xA7 2
        have y3:=fz5c xA7 3
        have y4:=fz5c xA7 4
        unfold set5 at tmz HMZ
        unfold rxV
        clear gyes hg1 hg2 hbq hb7 x7 tpg xA7 HTm z0 z1 z2 z3 z5 z6 zf1 zf5 zf6 t0 t1 t2 t3 t4 k1 hAl hBB hbo hro hoA
        go_wp2
        go_roundw
        case rel=>exact ⟨_,_,_,_,_,_,_,_,tmz⟩
        case measure=>exact HMZ.out
      ·have k1:(q2.code == 0)=false:=by simpa using h0
       have k2:decide (q2.code=0)=false:=decide_eq_false h0
       clear h0 t0 t1 t2 t3 t4
       clear z0 z1 z2 z5 z6 zf1 zf5 zf6
       obtain ⟨xs,hxs⟩:=tm.out.row.own
       have HXS:=hide hxs
       have HKK:Hid ((k+1)≤300):=hide (by have h1:=tm.out.kk;have h2:=HMQ.out;have h4:=HOK.out.len;omega)
       have c4v:=(cells5c tm.out.bo.bO).2.2.2.2
       obtain ⟨t0,t1,t2,t3,t4⟩:=cells5c tm.out.bA
       have HPU:=hide fun (g cap:Nat) (w9:World)=>tm.out.push rfl (g:=g) (cap:=cap) (w9:=w9) (xs:=xs) HXS.out
       clear hxs
       go_wp2_with (at_builtin;refine wpList_append_lies _ rfl _ _ 23 rfl 0 25 i0 (.agg zero5) 5 64 Tryd.underlying23 HI.out.1 HI.out.2.1 HI.out.2.2.1 HI.out.2.2.2 rfl (by decide) (.slice (some ⟨g9,0,none⟩) (k+1) cap9) (k+1) xs rfl (World.ownsRow.alloc HXS.out _) ⟨wr.heap.size,0,none⟩ 1 1 [.int .i64 kind,.int .i64 n9,.int .i64 m9,.string ss,.slice o ln cp] rfl rfl (World.news_of_block (heap_alloc_new _ _)) (by intro u hu;simp at hu;rcases hu with rfl | rfl | rfl | rfl | rfl <;> rfl) (by decide) (by unfold maxLen;have:=HKK.out;omega) (by have:=HKK.out;omega) (by simp) _ rfl ?_;intro g9 cap9 w9 k1 k2 k3 k4;obtain ⟨BO,BP,BK,BX,⟨d4,d4f⟩,BS,BG,BL,BA⟩:=HPU.out g9 cap9 w9 k1 k2 k3;have HBO:=hide BO;have HBP:=hide BP;have HBK:=hide BK;have HOT:=hide BX;have HSZ9:=hide (And.intro BS (And.intro BG (And.intro BL BA)));clear k1 k2 k3 k4 BO BP BK BX BS BG BL BA HPU)
       go_roundw
       case rel=>exact ⟨q2,.slice (some ⟨g9,0,none⟩) ((k+1)+1) cap9,(k+1)+1,hide ⟨HBP.out,HBO.out,⟨_,_,rfl⟩,fun e=>(HBK.out e).mono (fun x hx _=>hx.1),tm.out.qs,fun e=>by have h1:=tm.out.kk;have h2:=tm.out.mq;omega⟩⟩
       case measure=>rw [meaB_eq HBP.out,HMEA.out];have h1:=tm.out.kk;have h2:=tm.out.mq;have h3:=HMQ.out;split <;> omega
    | false =>
     rw [hB] at HIS
     clear hB
     go_wp2_with fail
     refine HIS.out.mono ?_
     rintro e w6s ⟨rfl,rd6⟩
     have tm6:=hide (tm5.out.rd rd6)
     clear rd6 HIS tm5 z0 z1 z2 z3 z5 z6 zf1 zf5 zf6 t0 t1 t2 t3 t4
     go_wp2
     go_loopw [6,7] (fun _ _ wr=>∃ (q2:Pq) (kind n9 m9:Int) (ss:ByteArray) (o:Option Addr) (ln cp:Nat),Hid (Tm p b O A B W v k q.groups mm #[.int .i64 kind,.int .i64 n9,.int .i64 m9,.string ss,.slice o ln cp] q2 wr)) (fun _ _ wr=>meaB b p.ts.length wr)
     case atStart=>exact ⟨_,_,_,_,_,_,_,_,tm6⟩
     case round =>
      obtain ⟨q2,kind,n9,m9,ss,o,ln,cp,tm⟩:=hrel
      obtain ⟨z0,z1,z2,z3,z5,z6,zf1,zf5,zf6⟩:=(Rd.refl tm.out.pb).can
      obtain ⟨t0,t1,t2,t3,t4⟩:=cells5c tm.out.bA
      by_cases h0:q2.code=0
      ·have k1:(q2.code == 0)=true:=by simp [h0]
       have HC2:=hide h0
       rw [h0] at z3
       have HTm:=hide (times_bre q2 b wr tm.out.pb (by rw [tm.out.qs.nx.ts];have:=HOK.out.len;omega) (by have:=(tm.out.qs.g9 h0).1;have:=HOK.out.len;omega) (by rw [tm.out.qs.nx.ts];exact HOK.out.bytes) (by rw [tm.out.qs.nx.ere];exact HER.out) kind n9 m9 ss o ln cp)
       clear h0
       go_wp2_with fail
       refine HTm.out.mono ?_
       rintro e w6 (⟨rfl,gno⟩|⟨low,high,q3,g,rfl,gyes,hg1,hg2,hbq⟩)
       ·have tm6:=hide ((tm.out.rd (Rd.of1 gno)).alloc (.cells #[.int .i64 kind,.int .i64 n9,.int .i64 m9,.string ss,.slice o ln cp] 25))
        clear gno HTm z0 z1 z2 z3 z5 z6 zf1 zf5 zf6 t0 t1 t2 t3 t4 k1
        obtain ⟨w7,hw7⟩:∃ w7,w6.alloc (.cells #[.int .i64 kind,.int .i64 n9,.int .i64 m9,.string ss,.slice o ln cp] 25)=w7:=⟨_,rfl⟩
        rw [hw7] at tm6
        have HC3:=HC2
        obtain ⟨xs,hxs⟩:=tm6.out.row.own
        have HXS:=hide hxs
        have HKK:Hid (k≤300):=hide (by have h1:=tm6.out.kk;have h2:=HMQ.out;have h4:=HOK.out.len;omega)
        have c4v:=(cells5c tm6.out.bo.bO).2.2.2.2
        obtain ⟨t0,t1,t2,t3,t4⟩:=cells5c tm6.out.bA
        have HPU:=hide fun (g cap:Nat) (w9:World)=>tm6.out.push rfl (g:=g) (cap:=cap) (w9:=w9) (xs:=xs) HXS.out
        clear hxs
        go_wp2_with (at_builtin;refine wpList_append_lies _ rfl _ _ 23 rfl 0 25 i0 (.agg zero5) 5 64 Tryd.underlying23 HI.out.1 HI.out.2.1 HI.out.2.2.1 HI.out.2.2.2 rfl (by decide) v k xs rfl (World.ownsRow.alloc HXS.out _) ⟨w7.heap.size,0,none⟩ 1 1 [.int .i64 kind,.int .i64 n9,.int .i64 m9,.string ss,.slice o ln cp] rfl rfl (World.news_of_block (heap_alloc_new _ _)) (by intro u hu;simp at hu;rcases hu with rfl | rfl | rfl | rfl | rfl <;> rfl) (by decide) (by unfold maxLen;have:=HKK.out;omega) (by have:=HKK.out;omega) (by simp) _ rfl ?_;intro g9 cap9 w9 k1 k2 k3 k4;obtain ⟨BO,BP,BK,BX,⟨d4,d4f⟩,BS,BG,BL,BA⟩:=HPU.out g9 cap9 w9 k1 k2 k3;have HBO:=hide BO;have HBP:=hide BP;have HBK:=hide BK;have HOT:=hide BX;have HSZ9:=hide (And.intro BS (And.intro BG (And.intro BL BA)));clear k1 k2 k3 k4 BO BP BK BX BS BG BL BA HPU)
        go_roundw
        case rel=>exact ⟨q2,.slice (some ⟨g9,0,none⟩) (k+1) cap9,k+1,hide ⟨HBP.out,HBO.out,⟨_,_,rfl⟩,fun e=>(HBK.out e).mono (fun x hx _=>hx.1),tm6.out.qs,fun e=>by have h1:=tm6.out.kk;have h2:=tm6.out.mq;omega⟩⟩
        case measure=>rw [meaB_eq HBP.out,HMEA.out];have h1:=tm6.out.kk;have h2:=tm6.out.mq;have h3:=HMQ.out;split <;> omega
       ·obtain ⟨w7,hw7⟩:∃ w7,w6.alloc (.cells #[.int .i64 9,.int .i64 low,.int .i64 high,.string mt0,.slice (some ⟨g,0,none⟩) 1 1] 25)=w7:=⟨_,rfl⟩
        have hb7:Below w6.heap.size w6 w7:=by rw [←hw7];exact (Below.refl _ _).alloc (Nat.le_refl _) _
        have x7:w7.heap[w6.heap.size]?=some (.cells #[.int .i64 9,.int .i64 low,.int .i64 high,.string mt0,.slice (some ⟨g,0,none⟩) 1 1] 25 (0,0)):=by rw [←hw7];exact heap_alloc_new w6 _
        obtain ⟨s0,s1,s2,s3,s4⟩:=cells5c x7
        have HX7:=hide x7
        have tpg:PG b wr w7:=gyes.pg.tr (PG.below hb7)
        have hAl:=tm.out.AB
        have hBB:=tm.out.BB
        have hbo:=tm.out.bo.b
        have hro:=tm.out.bo.ro
        have hoA:=tm.out.oA
        have tmz:Hid (Tm p b O A B W v k q.groups mm #[.int .i64 9,.int .i64 low,.int .i64 high,.string mt0,.slice (some ⟨g,0,none⟩) 1 1] q3 (set5 w7 A (.int .i64 9) (.int .i64 low) (.int .i64 high) (.string mt0) (.slice (some ⟨g,0,none⟩) 1 1))):=hide (by
         refine tm.out.put ⟨_,_,_,_,_,rfl⟩ (gyes.pb.below hb7) tpg _ _ _ _ _ (tm.out.qs.next gyes.nx (by have h1:=hbq.2.1;have h2:=HOK.out;have h3:=tm.out.qs.nx.op;have h4:=tm.out.qs.nx.ts;have h5:=h2.op;have h6:=h2.at_;rw [h4] at h1 ⊢;rw [h3];omega) (by rw [gyes.gr];have:=tm.out.qs.gr;have:=gyes.nx.at_;omega) (fun e=>⟨(hbq.2.2 e).1,by rw [gyes.gr];exact (tm.out.qs.g9 (gyes.nx.code e)).2⟩)) (by have:=tm.out.mq;have:=gyes.nx.at_;omega) (fun e => ?_)
         have hq:=hbq.2.2 e
         have ht:=(tm.out.tree (gyes.nx.code e)).block (W':=w7) fun x hx hl=>tpg.block x hl (by simp;omega)
         rw [gyes.gr]
         exact (ht.rep rfl ((hb7.block g (Array.getElem?_eq_some_iff.1 hg2).1).trans hg2) ⟨by omega,by omega,by omega⟩ 1 hq.2.1 hq.2.2.1 hq.2.2.2).le (by have h1:=hbq.1;have h2:=tm.out.mq;omega))
        have HMZ:Hid (meaB b p.ts.length (set5 w7 A (.int .i64 9) (.int .i64 low) (.int .i64 high) (.string mt0) (.slice (some ⟨g,0,none⟩) 1 1))<meaB b p.ts.length wr):=hide (by
         rw [meaB_eq tmz.out.pb,meaB_eq tm.out.pb,if_pos HC2.out]
         have h1:=(tm.out.qs.g9 HC2.out).1
         have h2:=hbq.1
         split <;> omega)
        have xA7:w7.heap[A]?=some (.cells #[.int .i64 kind,.int .i64 n9,.int .i64 m9,.string ss,.slice o ln cp] 25 (0,0)):=(tpg.block A hAl (by simp;omega)).trans tm.out.bA
        obtain ⟨v0',v1',v2',v3',v4'⟩:=cells5c xA7
        have y0:=fz5c xA7 0
        have y1:=fz5c xA7 1
        have y2:=fz5c xA7 2
        have y3:=fz5c xA7 3
        have y4:=fz5c xA7 4
        unfold set5 at tmz HMZ
        unfold rxV
        clear gyes hg1 hg2 hbq hb7 x7 tpg xA7 HTm z0 z1 z2 z3 z5 z6 zf1 zf5 zf6 t0 t1 t2 t3 t4 k1 hAl hBB hbo hro hoA
        go_wp2
        go_roundw
        case rel=>exact ⟨_,_,_,_,_,_,_,_,tmz⟩
        case measure=>exact HMZ.out
      ·have k1:(q2.code == 0)=false:=by simpa using h0
       have k2:decide (q2.code=0)=false:=decide_eq_false h0
       clear h0 t0 t1 t2 t3 t4
       clear z0 z1 z2 z5 z6 zf1 zf5 zf6
       obtain ⟨xs,hxs⟩:=tm.out.row.own
       have HXS:=hide hxs
       have HKK:Hid (k≤300):=hide (by have h1:=tm.out.kk;have h2:=HMQ.out;have h4:=HOK.out.len;omega)
       have c4v:=(cells5c tm.out.bo.bO).2.2.2.2
       obtain ⟨t0,t1,t2,t3,t4⟩:=cells5c tm.out.bA
       have HPU:=hide fun (g cap:Nat) (w9:World)=>tm.out.push rfl (g:=g) (cap:=cap) (w9:=w9) (xs:=xs) HXS.out
       clear hxs
       go_wp2_with (at_builtin;refine wpList_append_lies _ rfl _ _ 23 rfl 0 25 i0 (.agg zero5) 5 64 Tryd.underlying23 HI.out.1 HI.out.2.1 HI.out.2.2.1 HI.out.2.2.2 rfl (by decide) v k xs rfl (World.ownsRow.alloc HXS.out _) ⟨wr.heap.size,0,none⟩ 1 1 [.int .i64 kind,.int .i64 n9,.int .i64 m9,.string ss,.slice o ln cp] rfl rfl (World.news_of_block (heap_alloc_new _ _)) (by intro u hu;simp at hu;rcases hu with rfl | rfl | rfl | rfl | rfl <;> rfl) (by decide) (by unfold maxLen;have:=HKK.out;omega) (by have:=HKK.out;omega) (by simp) _ rfl ?_;intro g9 cap9 w9 k1 k2 k3 k4;obtain ⟨BO,BP,BK,BX,⟨d4,d4f⟩,BS,BG,BL,BA⟩:=HPU.out g9 cap9 w9 k1 k2 k3;have HBO:=hide BO;have HBP:=hide BP;have HBK:=hide BK;have HOT:=hide BX;have HSZ9:=hide (And.intro BS (And.intro BG (And.intro BL BA)));clear k1 k2 k3 k4 BO BP BK BX BS BG BL BA HPU)
       go_roundw
       case rel=>exact ⟨q2,.slice (some ⟨g9,0,none⟩) (k+1) cap9,k+1,hide ⟨HBP.out,HBO.out,⟨_,_,rfl⟩,fun e=>(HBK.out e).mono (fun x hx _=>hx.1),tm.out.qs,fun e=>by have h1:=tm.out.kk;have h2:=tm.out.mq;omega⟩⟩
       case measure=>rw [meaB_eq HBP.out,HMEA.out];have h1:=tm.out.kk;have h2:=tm.out.mq;have h3:=HMQ.out;split <;> omega
   ·have e4:(kind == 4)=false:=by simpa using hk4
    have e4':decide (kind=4)=false:=decide_eq_false hk4
    clear hk4 HIS
    go_wp2
    go_loopw [6,7] (fun _ _ wr=>∃ (q2:Pq) (kind n9 m9:Int) (ss:ByteArray) (o:Option Addr) (ln cp:Nat),Hid (Tm p b O A B W v k q.groups mm #[.int .i64 kind,.int .i64 n9,.int .i64 m9,.string ss,.slice o ln cp] q2 wr)) (fun _ _ wr=>meaB b p.ts.length wr)
    case atStart=>exact ⟨_,_,_,_,_,_,_,_,tm5⟩
    case round =>
     obtain ⟨q2,kind,n9,m9,ss,o,ln,cp,tm⟩:=hrel
     obtain ⟨z0,z1,z2,z3,z5,z6,zf1,zf5,zf6⟩:=(Rd.refl tm.out.pb).can
     obtain ⟨t0,t1,t2,t3,t4⟩:=cells5c tm.out.bA
     by_cases h0:q2.code=0
     ·have k1:(q2.code == 0)=true:=by simp [h0]
      have HC2:=hide h0
      rw [h0] at z3
      have HTm:=hide (times_bre q2 b wr tm.out.pb (by rw [tm.out.qs.nx.ts];have:=HOK.out.len;omega) (by have:=(tm.out.qs.g9 h0).1;have:=HOK.out.len;omega) (by rw [tm.out.qs.nx.ts];exact HOK.out.bytes) (by rw [tm.out.qs.nx.ere];exact HER.out) kind n9 m9 ss o ln cp)
      clear h0
      go_wp2_with fail
      refine HTm.out.mono ?_
      rintro e w6 (⟨rfl,gno⟩|⟨low,high,q3,g,rfl,gyes,hg1,hg2,hbq⟩)
      ·have tm6:=hide ((tm.out.rd (Rd.of1 gno)).alloc (.cells #[.int .i64 kind,.int .i64 n9,.int .i64 m9,.string ss,.slice o ln cp] 25))
       clear gno HTm z0 z1 z2 z3 z5 z6 zf1 zf5 zf6 t0 t1 t2 t3 t4 k1
       obtain ⟨w7,hw7⟩:∃ w7,w6.alloc (.cells #[.int .i64 kind,.int .i64 n9,.int .i64 m9,.string ss,.slice o ln cp] 25)=w7:=⟨_,rfl⟩
       rw [hw7] at tm6
       have HC3:=HC2
       obtain ⟨xs,hxs⟩:=tm6.out.row.own
       have HXS:=hide hxs
       have HKK:Hid (k≤300):=hide (by have h1:=tm6.out.kk;have h2:=HMQ.out;have h4:=HOK.out.len;omega)
       have c4v:=(cells5c tm6.out.bo.bO).2.2.2.2
       obtain ⟨t0,t1,t2,t3,t4⟩:=cells5c tm6.out.bA
       have HPU:=hide fun (g cap:Nat) (w9:World)=>tm6.out.push rfl (g:=g) (cap:=cap) (w9:=w9) (xs:=xs) HXS.out
       clear hxs
       go_wp2_with (at_builtin;refine wpList_append_lies _ rfl _ _ 23 rfl 0 25 i0 (.agg zero5) 5 64 Tryd.underlying23 HI.out.1 HI.out.2.1 HI.out.2.2.1 HI.out.2.2.2 rfl (by decide) v k xs rfl (World.ownsRow.alloc HXS.out _) ⟨w7.heap.size,0,none⟩ 1 1 [.int .i64 kind,.int .i64 n9,.int .i64 m9,.string ss,.slice o ln cp] rfl rfl (World.news_of_block (heap_alloc_new _ _)) (by intro u hu;simp at hu;rcases hu with rfl | rfl | rfl | rfl | rfl <;> rfl) (by decide) (by unfold maxLen;have:=HKK.out;omega) (by have:=HKK.out;omega) (by simp) _ rfl ?_;intro g9 cap9 w9 k1 k2 k3 k4;obtain ⟨BO,BP,BK,BX,⟨d4,d4f⟩,BS,BG,BL,BA⟩:=HPU.out g9 cap9 w9 k1 k2 k3;have HBO:=hide BO;have HBP:=hide BP;have HBK:=hide BK;have HOT:=hide BX;have HSZ9:=hide (And.intro BS (And.intro BG (And.intro BL BA)));clear k1 k2 k3 k4 BO BP BK BX BS BG BL BA HPU)
       go_roundw
       case rel=>exact ⟨q2,.slice (some ⟨g9,0,none⟩) (k+1) cap9,k+1,hide ⟨HBP.out,HBO.out,⟨_,_,rfl⟩,fun e=>(HBK.out e).mono (fun x hx _=>hx.1),tm6.out.qs,fun e=>by have h1:=tm6.out.kk;have h2:=tm6.out.mq;omega⟩⟩
       case measure=>rw [meaB_eq HBP.out,HMEA.out];have h1:=tm6.out.kk;have h2:=tm6.out.mq;have h3:=HMQ.out;split <;> omega
      ·obtain ⟨w7,hw7⟩:∃ w7,w6.alloc (.cells #[.int .i64 9,.int .i64 low,.int .i64 high,.string mt0,.slice (some ⟨g,0,none⟩) 1 1] 25)=w7:=⟨_,rfl⟩
       have hb7:Below w6.heap.size w6 w7:=by rw [←hw7];exact (Below.refl _ _).alloc (Nat.le_refl _) _
       have x7:w7.heap[w6.heap.size]?=some (.cells #[.int .i64 9,.int .i64 low,.int .i64 high,.string mt0,.slice (some ⟨g,0,none⟩) 1 1] 25 (0,0)):=by rw [←hw7];exact heap_alloc_new w6 _
       obtain ⟨s0,s1,s2,s3,s4⟩:=cells5c x7
       have HX7:=hide x7
       have tpg:PG b wr w7:=gyes.pg.tr (PG.below hb7)
       have hAl:=tm.out.AB
       have hBB:=tm.out.BB
       have hbo:=tm.out.bo.b
       have hro:=tm.out.bo.ro
       have hoA:=tm.out.oA
       have tmz:Hid (Tm p b O A B W v k q.groups mm #[.int .i64 9,.int .i64 low,.int .i64 high,.string mt0,.slice (some ⟨g,0,none⟩) 1 1] q3 (set5 w7 A (.int .i64 9) (.int .i64 low) (.int .i64 high) (.string mt0) (.slice (some ⟨g,0,none⟩) 1 1))):=hide (by
        refine tm.out.put ⟨_,_,_,_,_,rfl⟩ (gyes.pb.below hb7) tpg _ _ _ _ _ (tm.out.qs.next gyes.nx (by have h1:=hbq.2.1;have h2:=HOK.out;have h3:=tm.out.qs.nx.op;have h4:=tm.out.qs.nx.ts;have h5:=h2.op;have h6:=h2.at_;rw [h4] at h1 ⊢;rw [h3];omega) (by rw [gyes.gr];have:=tm.out.qs.gr;have:=gyes.nx.at_;omega) (fun e=>⟨(hbq.2.2 e).1,by rw [gyes.gr];exact (tm.out.qs.g9 (gyes.nx.code e)).2⟩)) (by have:=tm.out.mq;have:=gyes.nx.at_;omega) (fun e => ?_)
        have hq:=hbq.2.2 e
        have ht:=(tm.out.tree (gyes.nx.code e)).block (W':=w7) fun x hx hl=>tpg.block x hl (by simp;omega)
        rw [gyes.gr]
        exact (ht.rep rfl ((hb7.block g (Array.getElem?_eq_some_iff.1 hg2).1).trans hg2) ⟨by omega,by omega,by omega⟩ 1 hq.2.1 hq.2.2.1 hq.2.2.2).le (by have h1:=hbq.1;have h2:=tm.out.mq;omega))
       have HMZ:Hid (meaB b p.ts.length (set5 w7 A (.int .i64 9) (.int .i64 low) (.int .i64 high) (.string mt0) (.slice (some ⟨g,0,none⟩) 1 1))<meaB b p.ts.length wr):=hide (by
        rw [meaB_eq tmz.out.pb,meaB_eq tm.out.pb,if_pos HC2.out]
        have h1:=(tm.out.qs.g9 HC2.out).1
        have h2:=hbq.1
        split <;> omega)
       have xA7:w7.heap[A]?=some (.cells #[.int .i64 kind,.int .i64 n9,.int .i64 m9,.string ss,.slice o ln cp] 25 (0,0)):=(tpg.block A hAl (by simp;omega)).trans tm.out.bA
       obtain ⟨v0',v1',v2',v3',v4'⟩:=cells5c xA7
       have y0:=fz5c xA7 0
       have y1:=fz5c xA7 1
       have y2:=fz5c xA7 2
       have y3:=fz5c xA7 3
       have y4:=fz5c xA7 4
       unfold set5 at tmz HMZ
       unfold rxV
       clear gyes hg1 hg2 hbq hb7 x7 tpg xA7 HTm z0 z1 z2 z3 z5 z6 zf1 zf5 zf6 t0 t1 t2 t3 t4 k1 hAl hBB hbo hro hoA
       go_wp2
       go_roundw
       case rel=>exact ⟨_,_,_,_,_,_,_,_,tmz⟩
       case measure=>exact HMZ.out
     ·have k1:(q2.code == 0)=false:=by simpa using h0
      have k2:decide (q2.code=0)=false:=decide_eq_false h0
      clear h0 t0 t1 t2 t3 t4
      clear z0 z1 z2 z5 z6 zf1 zf5 zf6
      obtain ⟨xs,hxs⟩:=tm.out.row.own
      have HXS:=hide hxs
      have HKK:Hid (k≤300):=hide (by have h1:=tm.out.kk;have h2:=HMQ.out;have h4:=HOK.out.len;omega)
      have c4v:=(cells5c tm.out.bo.bO).2.2.2.2
      obtain ⟨t0,t1,t2,t3,t4⟩:=cells5c tm.out.bA
      have HPU:=hide fun (g cap:Nat) (w9:World)=>tm.out.push rfl (g:=g) (cap:=cap) (w9:=w9) (xs:=xs) HXS.out
      clear hxs
      go_wp2_with (at_builtin;refine wpList_append_lies _ rfl _ _ 23 rfl 0 25 i0 (.agg zero5) 5 64 Tryd.underlying23 HI.out.1 HI.out.2.1 HI.out.2.2.1 HI.out.2.2.2 rfl (by decide) v k xs rfl (World.ownsRow.alloc HXS.out _) ⟨wr.heap.size,0,none⟩ 1 1 [.int .i64 kind,.int .i64 n9,.int .i64 m9,.string ss,.slice o ln cp] rfl rfl (World.news_of_block (heap_alloc_new _ _)) (by intro u hu;simp at hu;rcases hu with rfl | rfl | rfl | rfl | rfl <;> rfl) (by decide) (by unfold maxLen;have:=HKK.out;omega) (by have:=HKK.out;omega) (by simp) _ rfl ?_;intro g9 cap9 w9 k1 k2 k3 k4;obtain ⟨BO,BP,BK,BX,⟨d4,d4f⟩,BS,BG,BL,BA⟩:=HPU.out g9 cap9 w9 k1 k2 k3;have HBO:=hide BO;have HBP:=hide BP;have HBK:=hide BK;have HOT:=hide BX;have HSZ9:=hide (And.intro BS (And.intro BG (And.intro BL BA)));clear k1 k2 k3 k4 BO BP BK BX BS BG BL BA HPU)
      go_roundw
      case rel=>exact ⟨q2,.slice (some ⟨g9,0,none⟩) (k+1) cap9,k+1,hide ⟨HBP.out,HBO.out,⟨_,_,rfl⟩,fun e=>(HBK.out e).mono (fun x hx _=>hx.1),tm.out.qs,fun e=>by have h1:=tm.out.kk;have h2:=tm.out.mq;omega⟩⟩
      case measure=>rw [meaB_eq HBP.out,HMEA.out];have h1:=tm.out.kk;have h2:=tm.out.mq;have h3:=HMQ.out;split <;> omega
end Go.Proofs.YtfhimmnoipfiaaaDoor.eng
