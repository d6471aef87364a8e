import Derived.Test.YtfhimmnoipfiaaaDoorQ12
namespace Go.Proofs.YtfhimmnoipfiaaaDoor.eng
open Go.ChangeShapes Go.WideShapes Go.ChangeAt Go.RowKit
open bytes places sets tz rex
set_option linter.unusedVariables false
structure GrI (p:Pq) (d:Nat) (r1 r4 r5:Pq):Prop where
 ts:r5.ts=p.ts
 ere:r5.ere=p.ere
 op:r5.open_=p.open_+1
 at4:p.at_+d≤r5.at_
 lim:r5.at_+2*(p.open_+1)≤3*p.ts.length+10
 gr:r5.groups≤r5.at_
 g1:p.groups+1≤r5.groups
 c1:r5.code=0→p.groups+1≤9
theorem grp_made {p r5 q:Pq} {b d R G E:Nat} {W w5 w6 v r1w:World} {cs:Array Value} {r1 r4:Pq} {m:Int} (hm:m=((p.groups+1:Nat):Int)) (hI:GrI p d r1 r4 r5) (hd:1≤d) (hcs:cs.size=5)
  (hp:p.code=0) (hq:q.ts=p.ts∧q.ere=p.ere∧q.open_=p.open_∧q.groups=r5.groups∧q.at_=r5.at_+E) (hE:1≤E∧E≤2) (hW5:W.heap.size≤w5.heap.size) (hb:b<W.heap.size) (hR:W.heap.size≤R)
  (hv:Rd b W q v) (hvw:PG b w6 v) (hR5:R<w5.heap.size) (hG:v.heap[G]?=some (.cells cs 25 (0,0))) (hG6:w6.heap.size≤G)
  (hgood:q.code=0→r5.code=0∧r5.at_+E≤p.ts.length∧r5.groups≤9∧TreeAt w5.heap.size w6 cs (p.groups+1) r5.groups (3*(r5.at_-(p.at_+d))+1)) (h56:w5.heap.size≤w6.heap.size) :
  TrP 1 p b W (rxV 6 m 0 mt0 (.slice (some ⟨G,0,none⟩) 1 1)) q (set5 v R (.int .i64 6) (.int .i64 m) (.int .i64 0) (.string mt0) (.slice (some ⟨G,0,none⟩) 1 1)):=by
 subst hm
 obtain ⟨h1,h2,h3,h4,h5⟩:=hq
 have a1:=hI.at4
 have a2:=hI.lim
 have a3:=hI.gr
 have a4:=hI.g1
 refine ⟨hv.set5 (by omega) hR _ _ _ _ _,⟨h1,h2,h3,by omega,by omega,fun _=>hp⟩,by omega,by omega,by omega,fun hc => ?_⟩
 obtain ⟨k1,k2,k3,k4⟩:=hgood hc
 refine ⟨by omega,by omega,?_⟩
 have t1:TreeAt w5.heap.size v cs (p.groups+1) r5.groups (3*(r5.at_-(p.at_+d))+1):=k4.keep (by omega) hvw
 have t2:TreeAt w5.heap.size (set5 v R (.int .i64 6) (.int .i64 ((p.groups+1:Nat):Int)) (.int .i64 0) (.string mt0) (.slice (some ⟨G,0,none⟩) 1 1)) cs (p.groups+1) r5.groups (3*(r5.at_-(p.at_+d))+1):=t1.block fun x hx _=>set5_other v R x _ _ _ _ _ (by omega)
 rw [h4]
 exact ((t2.group hcs (g:=G) ((set5_other v R G _ _ _ _ _ (by omega)).trans hG) (by omega) 1 (hI.c1 k1)).mono hW5).le (by omega)
set_option maxRecDepth 10000 in
set_option maxHeartbeats 8000000 in
theorem group_ere (n:Nat) (hw:WholeOf n) (p:Pq) (b:Nat) (W:World) (h:PB p b W) (hk:Okp p) (hc:p.code=0) (he:p.ere=true) (d:Nat) (D:Int) (hD:D=(d:Int)) (hd:1≤d∧d≤2) (hl:p.at_+d≤p.ts.length) (hn:p.ts.length-p.at_≤n+1) :
  Calls Tryd.prog 95 #[.pointer (some ⟨b,0,none⟩),.int .i64 D] W (TrR 1 p b W):=by
 subst hD
 obtain ⟨W1,hW1⟩:∃ W1,W.alloc (.cells #[.int .i64 0,.int .i64 0,.int .i64 0,.string ⟨#[]⟩,.slice none 0 0] 25)=W1:=⟨_,rfl⟩
 have hz1:W1.heap.size=W.heap.size+1:=by rw [←hW1];simp
 have hb1:Below W.heap.size W W1:=by rw [←hW1];exact (Below.refl _ _).alloc (Nat.le_refl _) _
 have xR:W1.heap[W.heap.size]?=some (.cells #[.int .i64 0,.int .i64 0,.int .i64 0,.string ⟨#[]⟩,.slice none 0 0] 25 (0,0)):=by rw [←hW1];exact heap_alloc_new W _
 have hbl:=h.lt
 have HRZ:Hid (∀ w,PG b W1 w→w.heap[W.heap.size]?=some (.cells #[.int .i64 0,.int .i64 0,.int .i64 0,.string ⟨#[]⟩,.slice none 0 0] 25 (0,0))):=hide fun w hg=>(hg.block _ (by omega) (by simp;omega)).trans xR
 have HSZ:Hid (W1.heap.size=W.heap.size+1∧b<W.heap.size):=hide ⟨hz1,hbl⟩
 have HBW:=hide hb1
 have rd0:Hid (Rd b W1 p W1):=hide (Rd.refl (h.below hb1))
 obtain ⟨y0,y1,y2,y3,y5,y6,yf1,yf5,yf6⟩:=rd0.out.can
 have HOK:=hide hk
 have HC0:=hide hc
 have HER:=hide he
 obtain ⟨hd1,hd2⟩:=hd
 have hg9:=hk.g9 hc
 clear h hz1 hb1 xR hbl hk he
 by_cases h9:p.groups=9
 ·have k9:((p.groups:Int) == 9)=true:=by simp [h9]
  have HFx:=hide (rd0.out.failx (c:=7) (by decide) (p.at_:Int))
  have H9:=hide h9
  clear h9 hg9 hc
  rw [H9.out] at y5
  go_enter Tryd.func95,Tryd.ntmps95
  go_wp2_with fail
  refine HFx.out.mono ?_
  rintro e w2 ⟨r1,rfl,rd1',kc,kt,ka,ke,kg,ko⟩
  have rd1:=hide rd1'
  have HP1:Hid (r1.ts=p.ts∧r1.at_=p.at_∧r1.ere=p.ere∧r1.groups=p.groups∧r1.open_=p.open_):=hide ⟨kt,ka,ke,kg,ko⟩
  have HC1:Hid (r1.code=0→p.groups+1≤9):=hide fun e=>absurd e kc
  clear HFx rd1' kc kt ka ke kg ko y0 y1 y2 y3 y5 y6 yf1 yf5 yf6 k9
  obtain ⟨r2,w3,e3,hw3,rr2,rd2⟩:=rd1.out.groups1 (by rw [HP1.out.2.2.2.1];have:=HOK.out.gr;have:=HOK.out.at_;have:=HOK.out.len;omega)
  obtain ⟨r3,w4,e4,hw4,rr3,rd3⟩:=rd2.stepn (by rw [rr2];show r1.at_≤_;rw [HP1.out.2.1];have:=HOK.out.at_;have:=HOK.out.len;omega) d (d:Int) rfl (by omega)
  obtain ⟨r4,w5,e5,hw5,rr4,rd4⟩:=rd3.open1 (by rw [rr3,rr2];show r1.open_≤_;rw [HP1.out.2.2.2.2];have:=HOK.out.op;have:=HOK.out.at_;have:=HOK.out.len;omega)
  obtain ⟨a0,a1,a2,a3,a5,a6,af1,af5,af6⟩:=rd1.out.can
  obtain ⟨b0,b1,b2,b3,b5,b6,bf1,bf5,bf6⟩:=rd2.can
  obtain ⟨c0,c1,c2,c3,c5,c6,cf1,cf5,cf6⟩:=rd3.can
  have HQ4:Hid (r4.ts=p.ts∧r4.at_=p.at_+d∧r4.groups=p.groups+1∧r4.ere=p.ere∧r4.open_=p.open_+1∧r4.code=r1.code):=hide (by
   obtain ⟨k1,k2,k3,k4,k5⟩:=HP1.out
   rw [rr4,rr3,rr2]
   exact ⟨k1,by show r1.at_+d=_;rw [k2],by show r1.groups+1=_;rw [k4],k3,by show r1.open_+1=_;rw [k5],rfl⟩)
  have HG2:Hid (r2.groups=p.groups+1):=hide (by rw [rr2];first | done | exact congrArg (· + 1) HP1.out.2.2.2.1)
  have rd4h:=hide rd4
  have HW:=hide (hw r4 b w5 rd4.pb ⟨by rw [HQ4.out.1];exact HOK.out.len,by rw [HQ4.out.1];exact HOK.out.bytes,by rw [HQ4.out.1,HQ4.out.2.1];exact hl,by rw [HQ4.out.2.1,HQ4.out.2.2.2.2.1];have:=HOK.out.op;omega,by rw [HQ4.out.2.1,HQ4.out.2.2.1];have:=HOK.out.gr;omega,by rw [HQ4.out.2.2.1,HQ4.out.2.2.2.2.2];exact HC1.out⟩ (by rw [HQ4.out.1,HQ4.out.2.1];omega))
  clear rr2 rr3 rr4 rd2 rd3 rd4
  go_wp2_with fail
  refine HW.out.mono ?_
  rintro e w6 ⟨kind,n9,m9,ss,o,ln,cp,r5,rfl,tr⟩
  clear HW a0 a1 a2 a3 a5 a6 af1 af5 af6 b0 b1 b2 b3 b5 b6 bf1 bf5 bf6 c0 c1 c2 c3 c5 c6 cf1 cf5 cf6
  obtain ⟨m,hm⟩:∃ m:Int,m=((p.groups+1:Nat):Int):=⟨_,rfl⟩
  have hr2g:(r2.groups:Int)=m:=by rw [HG2.out,hm]
  have HM:=hide hm
  clear hm
  rw [hr2g]
  clear hr2g
  obtain ⟨w7,e7⟩:∃ w7,w6.alloc (.cells #[.int .i64 kind,.int .i64 n9,.int .i64 m9,.string ss,.slice o ln cp] 25)=w7:=⟨_,rfl⟩
  have x7:w7.heap[w6.heap.size]?=some (.cells #[.int .i64 kind,.int .i64 n9,.int .i64 m9,.string ss,.slice o ln cp] 25 (0,0)):=by rw [←e7];exact heap_alloc_new w6 _
  have hb7:Below w6.heap.size w6 w7:=by rw [←e7];exact (Below.refl _ _).alloc (Nat.le_refl _) _
  have hz7:w7.heap.size=w6.heap.size+1:=by rw [←e7];simp
  have HI5:Hid (GrI p d r1 r4 r5):=hide ⟨tr.nx.ts.trans HQ4.out.1,tr.nx.ere.trans HQ4.out.2.2.2.1,tr.nx.op.trans HQ4.out.2.2.2.2.1,by have:=tr.far;rw [HQ4.out.2.1] at this;omega,by have:=tr.lim;rw [HQ4.out.1,HQ4.out.2.2.2.2.1] at this;exact this,tr.gr,by have:=tr.nx.gr;rw [HQ4.out.2.2.1] at this;exact this,fun e=>HC1.out (by rw [←HQ4.out.2.2.2.2.2];exact tr.nx.code e)⟩
  have HTR:Hid (TrP 0 r4 b w5 #[.int .i64 kind,.int .i64 n9,.int .i64 m9,.string ss,.slice o ln cp] r5 w6):=hide tr
  have HTG:Hid (r5.code=0→r5.at_≤p.ts.length):=hide fun e=>by have:=(tr.good e).1;rw [HQ4.out.1] at this;exact this
  have HA:Hid (r5.at_≤1000∧r5.ts.length≤200):=hide ⟨by have:=HI5.out.lim;have:=HOK.out.len;omega,by rw [HI5.out.ts];exact HOK.out.len⟩
  have HS:Hid (W.heap.size≤w5.heap.size∧b<W.heap.size∧W.heap.size<w5.heap.size∧w5.heap.size≤w6.heap.size):=hide (by
   have h1:=rd4h.out.pg.size
   have h2:=tr.rd.pg.size
   have h3:=HSZ.out
   exact ⟨by omega,h3.2,by omega,h2⟩)
  have HB7:Hid (PG b W w7∧PG b w6 w7):=hide ⟨(((PG.below HBW.out).tr rd4h.out.pg).tr tr.rd.pg).tr (PG.below hb7),PG.below hb7⟩
  have hr7:w7.heap[W.heap.size]?=some (.cells #[.int .i64 0,.int .i64 0,.int .i64 0,.string ⟨#[]⟩,.slice none 0 0] 25 (0,0)):=HRZ.out _ ((rd4h.out.pg.tr tr.rd.pg).tr (PG.below hb7))
  have HX7:Hid (∀ w',PG b w7 w'→w'.heap[w6.heap.size]?=some (.cells #[.int .i64 kind,.int .i64 n9,.int .i64 m9,.string ss,.slice o ln cp] 25 (0,0))∧w'.heap[W.heap.size]?=some (.cells #[.int .i64 0,.int .i64 0,.int .i64 0,.string ⟨#[]⟩,.slice none 0 0] 25 (0,0))):=hide fun w' hg=>⟨(hg.block _ (by omega) (by simp;have:=HS.out;omega)).trans x7,(hg.block _ (by have:=HS.out;omega) (by simp;have:=HS.out;omega)).trans hr7⟩
  have rd7:Rd b w7 r5 w7:=⟨(tr.rd.below hb7).pb,PG.refl⟩
  obtain ⟨r6,w8,e8,hw8,rr6,rd6⟩:=rd7.close1 HI5.out.op (by have:=HOK.out.op;have:=HOK.out.at_;have:=HOK.out.len;omega)
  obtain ⟨a0,a1,a2,a3,a5,a6,af1,af5,af6⟩:=rd7.can
  obtain ⟨b0,b1,b2,b3,b5,b6,bf1,bf5,bf6⟩:=rd6.can
  have HF6:Hid (r6.ts=p.ts∧r6.ere=p.ere∧r6.open_=p.open_∧r6.groups=r5.groups∧r6.at_=r5.at_∧r6.code=r5.code):=hide (by rw [rr6];exact ⟨HI5.out.ts,HI5.out.ere,rfl,rfl,rfl,rfl⟩)
  have hb2':r6.ere=p.ere:=HF6.out.2.1
  rw [hb2',HER.out] at b2
  have HIs:=hide (rd6.is (by rw [HF6.out.1];have:=HOK.out.len;omega) (by rw [HF6.out.2.2.2.2.1];have:=HA.out;omega) ⟨#[41]⟩ (by decide))
  clear tr x7 hb7 hz7 hr7 rd7 rd6 rr6 hb2'
  cases hB:r6.is ⟨#[41]⟩ with
  | true =>
   rw [hB] at HIs
   have HB:Hid (r5.code=0∧r5.at_+1≤r5.ts.length):=hide (by
    have h:=is_true hB
    rw [HF6.out.1,HF6.out.2.2.2.2.1,HF6.out.2.2.2.2.2] at h
    rw [HI5.out.ts]
    exact h)
   clear hB
   go_wp2_with fail
   refine HIs.out.mono ?_
   rintro e w9 ⟨rfl,rd9'⟩
   have rd9:=hide rd9'
   have HF:Hid (r6.ts=p.ts∧r6.ere=p.ere∧r6.open_=p.open_∧r6.groups=r5.groups∧r6.at_=r5.at_):=hide ⟨HF6.out.1,HF6.out.2.1,HF6.out.2.2.1,HF6.out.2.2.2.1,HF6.out.2.2.2.2.1⟩
   have HA:Hid (r6.at_≤1000):=hide (by rw [HF6.out.2.2.2.2.1];exact HA.out.1)
   clear HIs rd9' a0 a1 a2 a3 a5 a6 af1 af5 af6 b0 b1 b2 b3 b5 b6 bf1 bf5 bf6
   obtain ⟨qZ,wZ,eZ,hwZ,rZ,rdZ⟩:=rd9.out.stepn (by have:=HA.out;omega) 1 1 rfl (by omega)
   obtain ⟨y0,y1,y2,y3,y5,y6,yf1,yf5,yf6⟩:=rd9.out.can
   have HZ:Hid (Rd b w7 qZ wZ∧qZ.ts=p.ts∧qZ.ere=p.ere∧qZ.open_=p.open_∧qZ.groups=r5.groups∧qZ.at_=r5.at_+1∧qZ.code=r6.code):=hide ⟨rdZ,by rw [rZ];exact HF.out.1,by rw [rZ];exact HF.out.2.1,by rw [rZ];exact HF.out.2.2.1,by rw [rZ];exact HF.out.2.2.2.1,by rw [rZ];show r6.at_+_=_;rw [HF.out.2.2.2.2],by rw [rZ]⟩
   have xa:=(HX7.out _ HZ.out.1.pg).1
   obtain ⟨t0,t1,t2,t3,t4⟩:=cells5c xa
   obtain ⟨V1,hV1⟩:∃ V1,wZ.alloc (.cells #[.int .i64 kind,.int .i64 n9,.int .i64 m9,.string ss,.slice o ln cp] 25)=V1:=⟨_,rfl⟩
   have hbV:Below wZ.heap.size wZ V1:=by rw [←hV1];exact (Below.refl _ _).alloc (Nat.le_refl _) _
   have xg:V1.heap[wZ.heap.size]?=some (.cells #[.int .i64 kind,.int .i64 n9,.int .i64 m9,.string ss,.slice o ln cp] 25 (0,0)):=by rw [←hV1];exact heap_alloc_new wZ _
   obtain ⟨G,hG⟩:∃ G,G=wZ.heap.size:=⟨_,rfl⟩
   rw [←hG] at xg
   have HN:=hide (node_any V1 6 m 0 (some ⟨G,0,none⟩) 1 1)
   have HGG:=hide (And.intro xg (And.intro hG hbV))
   clear rdZ rZ xa xg hbV
   go_wp2_with fail
   (try simp only [←hG])
   clear hG t0 t1 t2 t3 t4 y0 y1 y2 y3 y5 y6 yf1 yf5 yf6
   refine HN.out.mono ?_
   rintro e v9 ⟨rfl,b9⟩
   have HV9:Hid (Rd b w7 qZ v9∧v9.heap[G]?=some (.cells #[.int .i64 kind,.int .i64 n9,.int .i64 m9,.string ss,.slice o ln cp] 25 (0,0))∧w7.heap.size≤G):=hide ⟨(HZ.out.1.below HGG.out.2.2).below b9,(b9.block _ (Array.getElem?_eq_some_iff.1 HGG.out.1).1).trans HGG.out.1,by rw [HGG.out.2.1];exact HZ.out.1.pg.size⟩
   have xr:=(HX7.out _ HV9.out.1.pg).2
   obtain ⟨r0',r1',r2',r3',r4'⟩:=cells5c xr
   have z0:=fz5c xr 0
   have z1:=fz5c xr 1
   have z2:=fz5c xr 2
   have z3:=fz5c xr 3
   have z4:=fz5c xr 4
   have hz7:=HS.out
   have HE:=hide (And.intro (set5_at xr trivial (.int .i64 6) (.int .i64 m) (.int .i64 0) (.string mt0) (.slice (some ⟨G,0,none⟩) 1 1)) (grp_made (W:=W) (w5:=w5) (w6:=w6) (E:=1) (R:=W.heap.size) (r1w:=w6) HM.out HI5.out (by omega) rfl HC0.out ⟨HZ.out.2.1,HZ.out.2.2.1,HZ.out.2.2.2.1,HZ.out.2.2.2.2.1,HZ.out.2.2.2.2.2.1⟩ (by omega) hz7.1 hz7.2.1 (Nat.le_refl _) ⟨HV9.out.1.pb,HB7.out.1.tr HV9.out.1.pg⟩ (HB7.out.2.tr HV9.out.1.pg) hz7.2.2.1 HV9.out.2.1 (by have:=HV9.out.2.2;have:=HB7.out.2.size;omega) (by rw [HZ.out.2.2.2.2.2.2];exact fun hc=>⟨HB.out.1,by have h:=HB.out.2;rw [HI5.out.ts] at h;exact h,(HTR.out.good HB.out.1).2.1,by rw [←HQ4.out.2.2.1];exact (HTR.out.good HB.out.1).2.2.le (by rw [HQ4.out.2.1];omega)⟩) hz7.2.2.2))
   unfold set5 at HE
   unfold rxV at HE ⊢
   clear xr b9 HN HGG HZ hz7
   go_wp2
   generalize (((((v9.setCell ⟨W.heap.size,0,none⟩ (.int .i64 6)).setCell ⟨W.heap.size,1,none⟩ (.int .i64 m)).setCell ⟨W.heap.size,2,none⟩ (.int .i64 0)).setCell ⟨W.heap.size,3,none⟩ (.string mt0)).setCell ⟨W.heap.size,4,none⟩ (.slice (some ⟨G,0,none⟩) 1 1))=Wf at HE ⊢
   obtain ⟨u0,u1,u2,u3,u4⟩:=cells5c HE.out.1
   refine bodyPost_ret (v:=.agg #[.int .i64 6,.int .i64 m,.int .i64 0,.string mt0,.slice (some ⟨G,0,none⟩) 1 1]) ?_ rfl ⟨_,_,_,_,_,_,_,qZ,rfl,HE.out.2⟩
   simp [results,Tryd.results95,go_sem,u0,u1,u2,u3,u4]
  | false =>
   rw [hB] at HIs
   clear hB
   go_wp2_with fail
   refine HIs.out.mono ?_
   rintro e w9 ⟨rfl,rd9'⟩
   have rd9:=hide rd9'
   have HFx:=hide (rd9'.failx (c:=4) (by decide) (r6.at_:Int))
   clear HIs a0 a1 a2 a3 a5 a6 af1 af5 af6 b0 b1 b2 b3 b5 b6 bf1 bf5 bf6
   obtain ⟨b0,b1,b2,b3,b5,b6,bf1,bf5,bf6⟩:=rd9'.can
   clear rd9'
   go_wp2_with fail
   refine HFx.out.mono ?_
   rintro e wA ⟨rA,rfl,rdA',kc,kt,ka,ke,kg,ko⟩
   have rdA:=hide rdA'
   have HF:Hid (rA.ts=p.ts∧rA.ere=p.ere∧rA.open_=p.open_∧rA.groups=r5.groups∧rA.at_=r5.at_):=hide ⟨kt.trans HF6.out.1,ke.trans HF6.out.2.1,ko.trans HF6.out.2.2.1,kg.trans HF6.out.2.2.2.1,ka.trans HF6.out.2.2.2.2.1⟩
   have HA:Hid (rA.at_≤1000):=hide (by rw [HF.out.2.2.2.2];exact HA.out.1)
   have HCd:=hide kc
   clear HFx rdA' kc kt ka ke kg ko b0 b1 b2 b3 b5 b6 bf1 bf5 bf6 rd9
   obtain ⟨qZ,wZ,eZ,hwZ,rZ,rdZ⟩:=rdA.out.stepn (by have:=HA.out;omega) 1 1 rfl (by omega)
   obtain ⟨y0,y1,y2,y3,y5,y6,yf1,yf5,yf6⟩:=rdA.out.can
   have HZ:Hid (Rd b w7 qZ wZ∧qZ.ts=p.ts∧qZ.ere=p.ere∧qZ.open_=p.open_∧qZ.groups=r5.groups∧qZ.at_=r5.at_+1∧qZ.code=rA.code):=hide ⟨rdZ,by rw [rZ];exact HF.out.1,by rw [rZ];exact HF.out.2.1,by rw [rZ];exact HF.out.2.2.1,by rw [rZ];exact HF.out.2.2.2.1,by rw [rZ];show rA.at_+_=_;rw [HF.out.2.2.2.2],by rw [rZ]⟩
   have xa:=(HX7.out _ HZ.out.1.pg).1
   obtain ⟨t0,t1,t2,t3,t4⟩:=cells5c xa
   obtain ⟨V1,hV1⟩:∃ V1,wZ.alloc (.cells #[.int .i64 kind,.int .i64 n9,.int .i64 m9,.string ss,.slice o ln cp] 25)=V1:=⟨_,rfl⟩
   have hbV:Below wZ.heap.size wZ V1:=by rw [←hV1];exact (Below.refl _ _).alloc (Nat.le_refl _) _
   have xg:V1.heap[wZ.heap.size]?=some (.cells #[.int .i64 kind,.int .i64 n9,.int .i64 m9,.string ss,.slice o ln cp] 25 (0,0)):=by rw [←hV1];exact heap_alloc_new wZ _
   obtain ⟨G,hG⟩:∃ G,G=wZ.heap.size:=⟨_,rfl⟩
   rw [←hG] at xg
   have HN:=hide (node_any V1 6 m 0 (some ⟨G,0,none⟩) 1 1)
   have HGG:=hide (And.intro xg (And.intro hG hbV))
   clear rdZ rZ xa xg hbV
   go_wp2_with fail
   (try simp only [←hG])
   clear hG t0 t1 t2 t3 t4 y0 y1 y2 y3 y5 y6 yf1 yf5 yf6
   refine HN.out.mono ?_
   rintro e v9 ⟨rfl,b9⟩
   have HV9:Hid (Rd b w7 qZ v9∧v9.heap[G]?=some (.cells #[.int .i64 kind,.int .i64 n9,.int .i64 m9,.string ss,.slice o ln cp] 25 (0,0))∧w7.heap.size≤G):=hide ⟨(HZ.out.1.below HGG.out.2.2).below b9,(b9.block _ (Array.getElem?_eq_some_iff.1 HGG.out.1).1).trans HGG.out.1,by rw [HGG.out.2.1];exact HZ.out.1.pg.size⟩
   have xr:=(HX7.out _ HV9.out.1.pg).2
   obtain ⟨r0',r1',r2',r3',r4'⟩:=cells5c xr
   have z0:=fz5c xr 0
   have z1:=fz5c xr 1
   have z2:=fz5c xr 2
   have z3:=fz5c xr 3
   have z4:=fz5c xr 4
   have hz7:=HS.out
   have HE:=hide (And.intro (set5_at xr trivial (.int .i64 6) (.int .i64 m) (.int .i64 0) (.string mt0) (.slice (some ⟨G,0,none⟩) 1 1)) (grp_made (W:=W) (w5:=w5) (w6:=w6) (E:=1) (R:=W.heap.size) (r1w:=w6) HM.out HI5.out (by omega) rfl HC0.out ⟨HZ.out.2.1,HZ.out.2.2.1,HZ.out.2.2.2.1,HZ.out.2.2.2.2.1,HZ.out.2.2.2.2.2.1⟩ (by omega) hz7.1 hz7.2.1 (Nat.le_refl _) ⟨HV9.out.1.pb,HB7.out.1.tr HV9.out.1.pg⟩ (HB7.out.2.tr HV9.out.1.pg) hz7.2.2.1 HV9.out.2.1 (by have:=HV9.out.2.2;have:=HB7.out.2.size;omega) (by rw [HZ.out.2.2.2.2.2.2];exact fun hc=>absurd hc HCd.out) hz7.2.2.2))
   unfold set5 at HE
   unfold rxV at HE ⊢
   clear xr b9 HN HGG HZ hz7
   go_wp2
   generalize (((((v9.setCell ⟨W.heap.size,0,none⟩ (.int .i64 6)).setCell ⟨W.heap.size,1,none⟩ (.int .i64 m)).setCell ⟨W.heap.size,2,none⟩ (.int .i64 0)).setCell ⟨W.heap.size,3,none⟩ (.string mt0)).setCell ⟨W.heap.size,4,none⟩ (.slice (some ⟨G,0,none⟩) 1 1))=Wf at HE ⊢
   obtain ⟨u0,u1,u2,u3,u4⟩:=cells5c HE.out.1
   refine bodyPost_ret (v:=.agg #[.int .i64 6,.int .i64 m,.int .i64 0,.string mt0,.slice (some ⟨G,0,none⟩) 1 1]) ?_ rfl ⟨_,_,_,_,_,_,_,qZ,rfl,HE.out.2⟩
   simp [results,Tryd.results95,go_sem,u0,u1,u2,u3,u4]
 ·have k9:((p.groups:Int) == 9)=false:=by rw [beq_eq_false_iff_ne];omega
  have k9':decide ((p.groups:Int)=9)=false:=decide_eq_false (by omega)
  have HP1:Hid (p.ts=p.ts∧p.at_=p.at_∧p.ere=p.ere∧p.groups=p.groups∧p.open_=p.open_):=hide ⟨rfl,rfl,rfl,rfl,rfl⟩
  have HC1:Hid (p.code=0→p.groups+1≤9):=hide fun _=>by omega
  clear h9 hg9 hc
  go_enter Tryd.func95,Tryd.ntmps95
  (try rw [hW1])
  obtain ⟨r2,w3,e3,hw3,rr2,rd2⟩:=rd0.out.groups1 (by rw [HP1.out.2.2.2.1];have:=HOK.out.gr;have:=HOK.out.at_;have:=HOK.out.len;omega)
  obtain ⟨r3,w4,e4,hw4,rr3,rd3⟩:=rd2.stepn (by rw [rr2];show p.at_≤_;rw [HP1.out.2.1];have:=HOK.out.at_;have:=HOK.out.len;omega) d (d:Int) rfl (by omega)
  obtain ⟨r4,w5,e5,hw5,rr4,rd4⟩:=rd3.open1 (by rw [rr3,rr2];show p.open_≤_;rw [HP1.out.2.2.2.2];have:=HOK.out.op;have:=HOK.out.at_;have:=HOK.out.len;omega)
  obtain ⟨a0,a1,a2,a3,a5,a6,af1,af5,af6⟩:=rd0.out.can
  obtain ⟨b0,b1,b2,b3,b5,b6,bf1,bf5,bf6⟩:=rd2.can
  obtain ⟨c0,c1,c2,c3,c5,c6,cf1,cf5,cf6⟩:=rd3.can
  have HQ4:Hid (r4.ts=p.ts∧r4.at_=p.at_+d∧r4.groups=p.groups+1∧r4.ere=p.ere∧r4.open_=p.open_+1∧r4.code=p.code):=hide (by
   obtain ⟨k1,k2,k3,k4,k5⟩:=HP1.out
   rw [rr4,rr3,rr2]
   exact ⟨k1,by show p.at_+d=_;rw [k2],by show p.groups+1=_;rw [k4],k3,by show p.open_+1=_;rw [k5],rfl⟩)
  have HG2:Hid (r2.groups=p.groups+1):=hide (by rw [rr2];first | done | exact congrArg (· + 1) HP1.out.2.2.2.1)
  have rd4h:=hide rd4
  have HW:=hide (hw r4 b w5 rd4.pb ⟨by rw [HQ4.out.1];exact HOK.out.len,by rw [HQ4.out.1];exact HOK.out.bytes,by rw [HQ4.out.1,HQ4.out.2.1];exact hl,by rw [HQ4.out.2.1,HQ4.out.2.2.2.2.1];have:=HOK.out.op;omega,by rw [HQ4.out.2.1,HQ4.out.2.2.1];have:=HOK.out.gr;omega,by rw [HQ4.out.2.2.1,HQ4.out.2.2.2.2.2];exact HC1.out⟩ (by rw [HQ4.out.1,HQ4.out.2.1];omega))
  clear rr2 rr3 rr4 rd2 rd3 rd4
  go_wp2_with fail
  refine HW.out.mono ?_
  rintro e w6 ⟨kind,n9,m9,ss,o,ln,cp,r5,rfl,tr⟩
  clear HW a0 a1 a2 a3 a5 a6 af1 af5 af6 b0 b1 b2 b3 b5 b6 bf1 bf5 bf6 c0 c1 c2 c3 c5 c6 cf1 cf5 cf6
  obtain ⟨m,hm⟩:∃ m:Int,m=((p.groups+1:Nat):Int):=⟨_,rfl⟩
  have hr2g:(r2.groups:Int)=m:=by rw [HG2.out,hm]
  have HM:=hide hm
  clear hm
  rw [hr2g]
  clear hr2g
  obtain ⟨w7,e7⟩:∃ w7,w6.alloc (.cells #[.int .i64 kind,.int .i64 n9,.int .i64 m9,.string ss,.slice o ln cp] 25)=w7:=⟨_,rfl⟩
  have x7:w7.heap[w6.heap.size]?=some (.cells #[.int .i64 kind,.int .i64 n9,.int .i64 m9,.string ss,.slice o ln cp] 25 (0,0)):=by rw [←e7];exact heap_alloc_new w6 _
  have hb7:Below w6.heap.size w6 w7:=by rw [←e7];exact (Below.refl _ _).alloc (Nat.le_refl _) _
  have hz7:w7.heap.size=w6.heap.size+1:=by rw [←e7];simp
  have HI5:Hid (GrI p d p r4 r5):=hide ⟨tr.nx.ts.trans HQ4.out.1,tr.nx.ere.trans HQ4.out.2.2.2.1,tr.nx.op.trans HQ4.out.2.2.2.2.1,by have:=tr.far;rw [HQ4.out.2.1] at this;omega,by have:=tr.lim;rw [HQ4.out.1,HQ4.out.2.2.2.2.1] at this;exact this,tr.gr,by have:=tr.nx.gr;rw [HQ4.out.2.2.1] at this;exact this,fun e=>HC1.out (by rw [←HQ4.out.2.2.2.2.2];exact tr.nx.code e)⟩
  have HTR:Hid (TrP 0 r4 b w5 #[.int .i64 kind,.int .i64 n9,.int .i64 m9,.string ss,.slice o ln cp] r5 w6):=hide tr
  have HTG:Hid (r5.code=0→r5.at_≤p.ts.length):=hide fun e=>by have:=(tr.good e).1;rw [HQ4.out.1] at this;exact this
  have HA:Hid (r5.at_≤1000∧r5.ts.length≤200):=hide ⟨by have:=HI5.out.lim;have:=HOK.out.len;omega,by rw [HI5.out.ts];exact HOK.out.len⟩
  have HS:Hid (W.heap.size≤w5.heap.size∧b<W.heap.size∧W.heap.size<w5.heap.size∧w5.heap.size≤w6.heap.size):=hide (by
   have h1:=rd4h.out.pg.size
   have h2:=tr.rd.pg.size
   have h3:=HSZ.out
   exact ⟨by omega,h3.2,by omega,h2⟩)
  have HB7:Hid (PG b W w7∧PG b w6 w7):=hide ⟨(((PG.below HBW.out).tr rd4h.out.pg).tr tr.rd.pg).tr (PG.below hb7),PG.below hb7⟩
  have hr7:w7.heap[W.heap.size]?=some (.cells #[.int .i64 0,.int .i64 0,.int .i64 0,.string ⟨#[]⟩,.slice none 0 0] 25 (0,0)):=HRZ.out _ ((rd4h.out.pg.tr tr.rd.pg).tr (PG.below hb7))
  have HX7:Hid (∀ w',PG b w7 w'→w'.heap[w6.heap.size]?=some (.cells #[.int .i64 kind,.int .i64 n9,.int .i64 m9,.string ss,.slice o ln cp] 25 (0,0))∧w'.heap[W.heap.size]?=some (.cells #[.int .i64 0,.int .i64 0,.int .i64 0,.string ⟨#[]⟩,.slice none 0 0] 25 (0,0))):=hide fun w' hg=>⟨(hg.block _ (by omega) (by simp;have:=HS.out;omega)).trans x7,(hg.block _ (by have:=HS.out;omega) (by simp;have:=HS.out;omega)).trans hr7⟩
  have rd7:Rd b w7 r5 w7:=⟨(tr.rd.below hb7).pb,PG.refl⟩
  obtain ⟨r6,w8,e8,hw8,rr6,rd6⟩:=rd7.close1 HI5.out.op (by have:=HOK.out.op;have:=HOK.out.at_;have:=HOK.out.len;omega)
  obtain ⟨a0,a1,a2,a3,a5,a6,af1,af5,af6⟩:=rd7.can
  obtain ⟨b0,b1,b2,b3,b5,b6,bf1,bf5,bf6⟩:=rd6.can
  have HF6:Hid (r6.ts=p.ts∧r6.ere=p.ere∧r6.open_=p.open_∧r6.groups=r5.groups∧r6.at_=r5.at_∧r6.code=r5.code):=hide (by rw [rr6];exact ⟨HI5.out.ts,HI5.out.ere,rfl,rfl,rfl,rfl⟩)
  have hb2':r6.ere=p.ere:=HF6.out.2.1
  rw [hb2',HER.out] at b2
  have HIs:=hide (rd6.is (by rw [HF6.out.1];have:=HOK.out.len;omega) (by rw [HF6.out.2.2.2.2.1];have:=HA.out;omega) ⟨#[41]⟩ (by decide))
  clear tr x7 hb7 hz7 hr7 rd7 rd6 rr6 hb2'
  cases hB:r6.is ⟨#[41]⟩ with
  | true =>
   rw [hB] at HIs
   have HB:Hid (r5.code=0∧r5.at_+1≤r5.ts.length):=hide (by
    have h:=is_true hB
    rw [HF6.out.1,HF6.out.2.2.2.2.1,HF6.out.2.2.2.2.2] at h
    rw [HI5.out.ts]
    exact h)
   clear hB
   go_wp2_with fail
   refine HIs.out.mono ?_
   rintro e w9 ⟨rfl,rd9'⟩
   have rd9:=hide rd9'
   have HF:Hid (r6.ts=p.ts∧r6.ere=p.ere∧r6.open_=p.open_∧r6.groups=r5.groups∧r6.at_=r5.at_):=hide ⟨HF6.out.1,HF6.out.2.1,HF6.out.2.2.1,HF6.out.2.2.2.1,HF6.out.2.2.2.2.1⟩
   have HA:Hid (r6.at_≤1000):=hide (by rw [HF6.out.2.2.2.2.1];exact HA.out.1)
   clear HIs rd9' a0 a1 a2 a3 a5 a6 af1 af5 af6 b0 b1 b2 b3 b5 b6 bf1 bf5 bf6
   obtain ⟨qZ,wZ,eZ,hwZ,rZ,rdZ⟩:=rd9.out.stepn (by have:=HA.out;omega) 1 1 rfl (by omega)
   obtain ⟨y0,y1,y2,y3,y5,y6,yf1,yf5,yf6⟩:=rd9.out.can
   have HZ:Hid (Rd b w7 qZ wZ∧qZ.ts=p.ts∧qZ.ere=p.ere∧qZ.open_=p.open_∧qZ.groups=r5.groups∧qZ.at_=r5.at_+1∧qZ.code=r6.code):=hide ⟨rdZ,by rw [rZ];exact HF.out.1,by rw [rZ];exact HF.out.2.1,by rw [rZ];exact HF.out.2.2.1,by rw [rZ];exact HF.out.2.2.2.1,by rw [rZ];show r6.at_+_=_;rw [HF.out.2.2.2.2],by rw [rZ]⟩
   have xa:=(HX7.out _ HZ.out.1.pg).1
   obtain ⟨t0,t1,t2,t3,t4⟩:=cells5c xa
   obtain ⟨V1,hV1⟩:∃ V1,wZ.alloc (.cells #[.int .i64 kind,.int .i64 n9,.int .i64 m9,.string ss,.slice o ln cp] 25)=V1:=⟨_,rfl⟩
   have hbV:Below wZ.heap.size wZ V1:=by rw [←hV1];exact (Below.refl _ _).alloc (Nat.le_refl _) _
   have xg:V1.heap[wZ.heap.size]?=some (.cells #[.int .i64 kind,.int .i64 n9,.int .i64 m9,.string ss,.slice o ln cp] 25 (0,0)):=by rw [←hV1];exact heap_alloc_new wZ _
   obtain ⟨G,hG⟩:∃ G,G=wZ.heap.size:=⟨_,rfl⟩
   rw [←hG] at xg
   have HN:=hide (node_any V1 6 m 0 (some ⟨G,0,none⟩) 1 1)
   have HGG:=hide (And.intro xg (And.intro hG hbV))
   clear rdZ rZ xa xg hbV
   go_wp2_with fail
   (try simp only [←hG])
   clear hG t0 t1 t2 t3 t4 y0 y1 y2 y3 y5 y6 yf1 yf5 yf6
   refine HN.out.mono ?_
   rintro e v9 ⟨rfl,b9⟩
   have HV9:Hid (Rd b w7 qZ v9∧v9.heap[G]?=some (.cells #[.int .i64 kind,.int .i64 n9,.int .i64 m9,.string ss,.slice o ln cp] 25 (0,0))∧w7.heap.size≤G):=hide ⟨(HZ.out.1.below HGG.out.2.2).below b9,(b9.block _ (Array.getElem?_eq_some_iff.1 HGG.out.1).1).trans HGG.out.1,by rw [HGG.out.2.1];exact HZ.out.1.pg.size⟩
   have xr:=(HX7.out _ HV9.out.1.pg).2
   obtain ⟨r0',r1',r2',r3',r4'⟩:=cells5c xr
   have z0:=fz5c xr 0
   have z1:=fz5c xr 1
   have z2:=fz5c xr 2
   have z3:=fz5c xr 3
   have z4:=fz5c xr 4
   have hz7:=HS.out
   have HE:=hide (And.intro (set5_at xr trivial (.int .i64 6) (.int .i64 m) (.int .i64 0) (.string mt0) (.slice (some ⟨G,0,none⟩) 1 1)) (grp_made (W:=W) (w5:=w5) (w6:=w6) (E:=1) (R:=W.heap.size) (r1w:=w6) HM.out HI5.out (by omega) rfl HC0.out ⟨HZ.out.2.1,HZ.out.2.2.1,HZ.out.2.2.2.1,HZ.out.2.2.2.2.1,HZ.out.2.2.2.2.2.1⟩ (by omega) hz7.1 hz7.2.1 (Nat.le_refl _) ⟨HV9.out.1.pb,HB7.out.1.tr HV9.out.1.pg⟩ (HB7.out.2.tr HV9.out.1.pg) hz7.2.2.1 HV9.out.2.1 (by have:=HV9.out.2.2;have:=HB7.out.2.size;omega) (by rw [HZ.out.2.2.2.2.2.2];exact fun hc=>⟨HB.out.1,by have h:=HB.out.2;rw [HI5.out.ts] at h;exact h,(HTR.out.good HB.out.1).2.1,by rw [←HQ4.out.2.2.1];exact (HTR.out.good HB.out.1).2.2.le (by rw [HQ4.out.2.1];omega)⟩) hz7.2.2.2))
   unfold set5 at HE
   unfold rxV at HE ⊢
   clear xr b9 HN HGG HZ hz7
   go_wp2
   generalize (((((v9.setCell ⟨W.heap.size,0,none⟩ (.int .i64 6)).setCell ⟨W.heap.size,1,none⟩ (.int .i64 m)).setCell ⟨W.heap.size,2,none⟩ (.int .i64 0)).setCell ⟨W.heap.size,3,none⟩ (.string mt0)).setCell ⟨W.heap.size,4,none⟩ (.slice (some ⟨G,0,none⟩) 1 1))=Wf at HE ⊢
   obtain ⟨u0,u1,u2,u3,u4⟩:=cells5c HE.out.1
   refine bodyPost_ret (v:=.agg #[.int .i64 6,.int .i64 m,.int .i64 0,.string mt0,.slice (some ⟨G,0,none⟩) 1 1]) ?_ rfl ⟨_,_,_,_,_,_,_,qZ,rfl,HE.out.2⟩
   simp [results,Tryd.results95,go_sem,u0,u1,u2,u3,u4]
  | false =>
   rw [hB] at HIs
   clear hB
   go_wp2_with fail
   refine HIs.out.mono ?_
   rintro e w9 ⟨rfl,rd9'⟩
   have rd9:=hide rd9'
   have HFx:=hide (rd9'.failx (c:=4) (by decide) (r6.at_:Int))
   clear HIs a0 a1 a2 a3 a5 a6 af1 af5 af6 b0 b1 b2 b3 b5 b6 bf1 bf5 bf6
   obtain ⟨b0,b1,b2,b3,b5,b6,bf1,bf5,bf6⟩:=rd9'.can
   clear rd9'
   go_wp2_with fail
   refine HFx.out.mono ?_
   rintro e wA ⟨rA,rfl,rdA',kc,kt,ka,ke,kg,ko⟩
   have rdA:=hide rdA'
   have HF:Hid (rA.ts=p.ts∧rA.ere=p.ere∧rA.open_=p.open_∧rA.groups=r5.groups∧rA.at_=r5.at_):=hide ⟨kt.trans HF6.out.1,ke.trans HF6.out.2.1,ko.trans HF6.out.2.2.1,kg.trans HF6.out.2.2.2.1,ka.trans HF6.out.2.2.2.2.1⟩
   have HA:Hid (rA.at_≤1000):=hide (by rw [HF.out.2.2.2.2];exact HA.out.1)
   have HCd:=hide kc
   clear HFx rdA' kc kt ka ke kg ko b0 b1 b2 b3 b5 b6 bf1 bf5 bf6 rd9
   obtain ⟨qZ,wZ,eZ,hwZ,rZ,rdZ⟩:=rdA.out.stepn (by have:=HA.out;omega) 1 1 rfl (by omega)
   obtain ⟨y0,y1,y2,y3,y5,y6,yf1,yf5,yf6⟩:=rdA.out.can
   have HZ:Hid (Rd b w7 qZ wZ∧qZ.ts=p.ts∧qZ.ere=p.ere∧qZ.open_=p.open_∧qZ.groups=r5.groups∧qZ.at_=r5.at_+1∧qZ.code=rA.code):=hide ⟨rdZ,by rw [rZ];exact HF.out.1,by rw [rZ];exact HF.out.2.1,by rw [rZ];exact HF.out.2.2.1,by rw [rZ];exact HF.out.2.2.2.1,by rw [rZ];show rA.at_+_=_;rw [HF.out.2.2.2.2],by rw [rZ]⟩
   have xa:=(HX7.out _ HZ.out.1.pg).1
   obtain ⟨t0,t1,t2,t3,t4⟩:=cells5c xa
   obtain ⟨V1,hV1⟩:∃ V1,wZ.alloc (.cells #[.int .i64 kind,.int .i64 n9,.int .i64 m9,.string ss,.slice o ln cp] 25)=V1:=⟨_,rfl⟩
   have hbV:Below wZ.heap.size wZ V1:=by rw [←hV1];exact (Below.refl _ _).alloc (Nat.le_refl _) _
   have xg:V1.heap[wZ.heap.size]?=some (.cells #[.int .i64 kind,.int .i64 n9,.int .i64 m9,.string ss,.slice o ln cp] 25 (0,0)):=by rw [←hV1];exact heap_alloc_new wZ _
   obtain ⟨G,hG⟩:∃ G,G=wZ.heap.size:=⟨_,rfl⟩
   rw [←hG] at xg
   have HN:=hide (node_any V1 6 m 0 (some ⟨G,0,none⟩) 1 1)
   have HGG:=hide (And.intro xg (And.intro hG hbV))
   clear rdZ rZ xa xg hbV
   go_wp2_with fail
   (try simp only [←hG])
   clear hG t0 t1 t2 t3 t4 y0 y1 y2 y3 y5 y6 yf1 yf5 yf6
   refine HN.out.mono ?_
   rintro e v9 ⟨rfl,b9⟩
   have HV9:Hid (Rd b w7 qZ v9∧v9.heap[G]?=some (.cells #[.int .i64 kind,.int .i64 n9,.int .i64 m9,.string ss,.slice o ln cp] 25 (0,0))∧w7.heap.size≤G):=hide ⟨(HZ.out.1.below HGG.out.2.2).below b9,(b9.block _ (Array.getElem?_eq_some_iff.1 HGG.out.1).1).trans HGG.out.1,by rw [HGG.out.2.1];exact HZ.out.1.pg.size⟩
   have xr:=(HX7.out _ HV9.out.1.pg).2
   obtain ⟨r0',r1',r2',r3',r4'⟩:=cells5c xr
   have z0:=fz5c xr 0
   have z1:=fz5c xr 1
   have z2:=fz5c xr 2
   have z3:=fz5c xr 3
   have z4:=fz5c xr 4
   have hz7:=HS.out
   have HE:=hide (And.intro (set5_at xr trivial (.int .i64 6) (.int .i64 m) (.int .i64 0) (.string mt0) (.slice (some ⟨G,0,none⟩) 1 1)) (grp_made (W:=W) (w5:=w5) (w6:=w6) (E:=1) (R:=W.heap.size) (r1w:=w6) HM.out HI5.out (by omega) rfl HC0.out ⟨HZ.out.2.1,HZ.out.2.2.1,HZ.out.2.2.2.1,HZ.out.2.2.2.2.1,HZ.out.2.2.2.2.2.1⟩ (by omega) hz7.1 hz7.2.1 (Nat.le_refl _) ⟨HV9.out.1.pb,HB7.out.1.tr HV9.out.1.pg⟩ (HB7.out.2.tr HV9.out.1.pg) hz7.2.2.1 HV9.out.2.1 (by have:=HV9.out.2.2;have:=HB7.out.2.size;omega) (by rw [HZ.out.2.2.2.2.2.2];exact fun hc=>absurd hc HCd.out) hz7.2.2.2))
   unfold set5 at HE
   unfold rxV at HE ⊢
   clear xr b9 HN HGG HZ hz7
   go_wp2
   generalize (((((v9.setCell ⟨W.heap.size,0,none⟩ (.int .i64 6)).setCell ⟨W.heap.size,1,none⟩ (.int .i64 m)).setCell ⟨W.heap.size,2,none⟩ (.int .i64 0)).setCell ⟨W.heap.size,3,none⟩ (.string mt0)).setCell ⟨W.heap.size,4,none⟩ (.slice (some ⟨G,0,none⟩) 1 1))=Wf at HE ⊢
   obtain ⟨u0,u1,u2,u3,u4⟩:=cells5c HE.out.1
   refine bodyPost_ret (v:=.agg #[.int .i64 6,.int .i64 m,.int .i64 0,.string mt0,.slice (some ⟨G,0,none⟩) 1 1]) ?_ rfl ⟨_,_,_,_,_,_,_,qZ,rfl,HE.out.2⟩
   simp [results,Tryd.results95,go_sem,u0,u1,u2,u3,u4]
set_option maxRecDepth 10000 in
set_option maxHeartbeats 8000000 in
theorem group_bre (n:Nat) (hw:WholeOf n) (p:Pq) (b:Nat) (W:World) (h:PB p b W) (hk:Okp p) (hc:p.code=0) (he:p.ere=false) (d:Nat) (D:Int) (hD:D=(d:Int)) (hd:1≤d∧d≤2) (hl:p.at_+d≤p.ts.length) (hn:p.ts.length-p.at_≤n+1) :
  Calls Tryd.prog 95 #[.pointer (some ⟨b,0,none⟩),.int .i64 D] W (TrR 1 p b W):=by
 subst hD
 obtain ⟨W1,hW1⟩:∃ W1,W.alloc (.cells #[.int .i64 0,.int .i64 0,.int .i64 0,.string ⟨#[]⟩,.slice none 0 0] 25)=W1:=⟨_,rfl⟩
 have hz1:W1.heap.size=W.heap.size+1:=by rw [←hW1];simp
 have hb1:Below W.heap.size W W1:=by rw [←hW1];exact (Below.refl _ _).alloc (Nat.le_refl _) _
 have xR:W1.heap[W.heap.size]?=some (.cells #[.int .i64 0,.int .i64 0,.int .i64 0,.string ⟨#[]⟩,.slice none 0 0] 25 (0,0)):=by rw [←hW1];exact heap_alloc_new W _
 have hbl:=h.lt
 have HRZ:Hid (∀ w,PG b W1 w→w.heap[W.heap.size]?=some (.cells #[.int .i64 0,.int .i64 0,.int .i64 0,.string ⟨#[]⟩,.slice none 0 0] 25 (0,0))):=hide fun w hg=>(hg.block _ (by omega) (by simp;omega)).trans xR
 have HSZ:Hid (W1.heap.size=W.heap.size+1∧b<W.heap.size):=hide ⟨hz1,hbl⟩
 have HBW:=hide hb1
 have rd0:Hid (Rd b W1 p W1):=hide (Rd.refl (h.below hb1))
 obtain ⟨y0,y1,y2,y3,y5,y6,yf1,yf5,yf6⟩:=rd0.out.can
 have HOK:=hide hk
 have HC0:=hide hc
 have HER:=hide he
 obtain ⟨hd1,hd2⟩:=hd
 have hg9:=hk.g9 hc
 clear h hz1 hb1 xR hbl hk he
 by_cases h9:p.groups=9
 ·have k9:((p.groups:Int) == 9)=true:=by simp [h9]
  have HFx:=hide (rd0.out.failx (c:=7) (by decide) (p.at_:Int))
  have H9:=hide h9
  clear h9 hg9 hc
  rw [H9.out] at y5
  go_enter Tryd.func95,Tryd.ntmps95
  go_wp2_with fail
  refine HFx.out.mono ?_
  rintro e w2 ⟨r1,rfl,rd1',kc,kt,ka,ke,kg,ko⟩
  have rd1:=hide rd1'
  have HP1:Hid (r1.ts=p.ts∧r1.at_=p.at_∧r1.ere=p.ere∧r1.groups=p.groups∧r1.open_=p.open_):=hide ⟨kt,ka,ke,kg,ko⟩
  have HC1:Hid (r1.code=0→p.groups+1≤9):=hide fun e=>absurd e kc
  clear HFx rd1' kc kt ka ke kg ko y0 y1 y2 y3 y5 y6 yf1 yf5 yf6 k9
  obtain ⟨r2,w3,e3,hw3,rr2,rd2⟩:=rd1.out.groups1 (by rw [HP1.out.2.2.2.1];have:=HOK.out.gr;have:=HOK.out.at_;have:=HOK.out.len;omega)
  obtain ⟨r3,w4,e4,hw4,rr3,rd3⟩:=rd2.stepn (by rw [rr2];show r1.at_≤_;rw [HP1.out.2.1];have:=HOK.out.at_;have:=HOK.out.len;omega) d (d:Int) rfl (by omega)
  obtain ⟨r4,w5,e5,hw5,rr4,rd4⟩:=rd3.open1 (by rw [rr3,rr2];show r1.open_≤_;rw [HP1.out.2.2.2.2];have:=HOK.out.op;have:=HOK.out.at_;have:=HOK.out.len;omega)
  obtain ⟨a0,a1,a2,a3,a5,a6,af1,af5,af6⟩:=rd1.out.can
  obtain ⟨b0,b1,b2,b3,b5,b6,bf1,bf5,bf6⟩:=rd2.can
  obtain ⟨c0,c1,c2,c3,c5,c6,cf1,cf5,cf6⟩:=rd3.can
  have HQ4:Hid (r4.ts=p.ts∧r4.at_=p.at_+d∧r4.groups=p.groups+1∧r4.ere=p.ere∧r4.open_=p.open_+1∧r4.code=r1.code):=hide (by
   obtain ⟨k1,k2,k3,k4,k5⟩:=HP1.out
   rw [rr4,rr3,rr2]
   exact ⟨k1,by show r1.at_+d=_;rw [k2],by show r1.groups+1=_;rw [k4],k3,by show r1.open_+1=_;rw [k5],rfl⟩)
  have HG2:Hid (r2.groups=p.groups+1):=hide (by rw [rr2];first | done | exact congrArg (· + 1) HP1.out.2.2.2.1)
  have rd4h:=hide rd4
  have HW:=hide (hw r4 b w5 rd4.pb ⟨by rw [HQ4.out.1];exact HOK.out.len,by rw [HQ4.out.1];exact HOK.out.bytes,by rw [HQ4.out.1,HQ4.out.2.1];exact hl,by rw [HQ4.out.2.1,HQ4.out.2.2.2.2.1];have:=HOK.out.op;omega,by rw [HQ4.out.2.1,HQ4.out.2.2.1];have:=HOK.out.gr;omega,by rw [HQ4.out.2.2.1,HQ4.out.2.2.2.2.2];exact HC1.out⟩ (by rw [HQ4.out.1,HQ4.out.2.1];omega))
  clear rr2 rr3 rr4 rd2 rd3 rd4
  go_wp2_with fail
  refine HW.out.mono ?_
  rintro e w6 ⟨kind,n9,m9,ss,o,ln,cp,r5,rfl,tr⟩
  clear HW a0 a1 a2 a3 a5 a6 af1 af5 af6 b0 b1 b2 b3 b5 b6 bf1 bf5 bf6 c0 c1 c2 c3 c5 c6 cf1 cf5 cf6
  obtain ⟨m,hm⟩:∃ m:Int,m=((p.groups+1:Nat):Int):=⟨_,rfl⟩
  have hr2g:(r2.groups:Int)=m:=by rw [HG2.out,hm]
  have HM:=hide hm
  clear hm
  rw [hr2g]
  clear hr2g
  obtain ⟨w7,e7⟩:∃ w7,w6.alloc (.cells #[.int .i64 kind,.int .i64 n9,.int .i64 m9,.string ss,.slice o ln cp] 25)=w7:=⟨_,rfl⟩
  have x7:w7.heap[w6.heap.size]?=some (.cells #[.int .i64 kind,.int .i64 n9,.int .i64 m9,.string ss,.slice o ln cp] 25 (0,0)):=by rw [←e7];exact heap_alloc_new w6 _
  have hb7:Below w6.heap.size w6 w7:=by rw [←e7];exact (Below.refl _ _).alloc (Nat.le_refl _) _
  have hz7:w7.heap.size=w6.heap.size+1:=by rw [←e7];simp
  have HI5:Hid (GrI p d r1 r4 r5):=hide ⟨tr.nx.ts.trans HQ4.out.1,tr.nx.ere.trans HQ4.out.2.2.2.1,tr.nx.op.trans HQ4.out.2.2.2.2.1,by have:=tr.far;rw [HQ4.out.2.1] at this;omega,by have:=tr.lim;rw [HQ4.out.1,HQ4.out.2.2.2.2.1] at this;exact this,tr.gr,by have:=tr.nx.gr;rw [HQ4.out.2.2.1] at this;exact this,fun e=>HC1.out (by rw [←HQ4.out.2.2.2.2.2];exact tr.nx.code e)⟩
  have HTR:Hid (TrP 0 r4 b w5 #[.int .i64 kind,.int .i64 n9,.int .i64 m9,.string ss,.slice o ln cp] r5 w6):=hide tr
  have HTG:Hid (r5.code=0→r5.at_≤p.ts.length):=hide fun e=>by have:=(tr.good e).1;rw [HQ4.out.1] at this;exact this
  have HA:Hid (r5.at_≤1000∧r5.ts.length≤200):=hide ⟨by have:=HI5.out.lim;have:=HOK.out.len;omega,by rw [HI5.out.ts];exact HOK.out.len⟩
  have HS:Hid (W.heap.size≤w5.heap.size∧b<W.heap.size∧W.heap.size<w5.heap.size∧w5.heap.size≤w6.heap.size):=hide (by
   have h1:=rd4h.out.pg.size
   have h2:=tr.rd.pg.size
   have h3:=HSZ.out
   exact ⟨by omega,h3.2,by omega,h2⟩)
  have HB7:Hid (PG b W w7∧PG b w6 w7):=hide ⟨(((PG.below HBW.out).tr rd4h.out.pg).tr tr.rd.pg).tr (PG.below hb7),PG.below hb7⟩
  have hr7:w7.heap[W.heap.size]?=some (.cells #[.int .i64 0,.int .i64 0,.int .i64 0,.string ⟨#[]⟩,.slice none 0 0] 25 (0,0)):=HRZ.out _ ((rd4h.out.pg.tr tr.rd.pg).tr (PG.below hb7))
  have HX7:Hid (∀ w',PG b w7 w'→w'.heap[w6.heap.size]?=some (.cells #[.int .i64 kind,.int .i64 n9,.int .i64 m9,.string ss,.slice o ln cp] 25 (0,0))∧w'.heap[W.heap.size]?=some (.cells #[.int .i64 0,.int .i64 0,.int .i64 0,.string ⟨#[]⟩,.slice none 0 0] 25 (0,0))):=hide fun w' hg=>⟨(hg.block _ (by omega) (by simp;have:=HS.out;omega)).trans x7,(hg.block _ (by have:=HS.out;omega) (by simp;have:=HS.out;omega)).trans hr7⟩
  have rd7:Rd b w7 r5 w7:=⟨(tr.rd.below hb7).pb,PG.refl⟩
  obtain ⟨r6,w8,e8,hw8,rr6,rd6⟩:=rd7.close1 HI5.out.op (by have:=HOK.out.op;have:=HOK.out.at_;have:=HOK.out.len;omega)
  obtain ⟨a0,a1,a2,a3,a5,a6,af1,af5,af6⟩:=rd7.can
  obtain ⟨b0,b1,b2,b3,b5,b6,bf1,bf5,bf6⟩:=rd6.can
  have HF6:Hid (r6.ts=p.ts∧r6.ere=p.ere∧r6.open_=p.open_∧r6.groups=r5.groups∧r6.at_=r5.at_∧r6.code=r5.code):=hide (by rw [rr6];exact ⟨HI5.out.ts,HI5.out.ere,rfl,rfl,rfl,rfl⟩)
  have hb2':r6.ere=p.ere:=HF6.out.2.1
  rw [hb2',HER.out] at b2
  have HIs:=hide (rd6.is (by rw [HF6.out.1];have:=HOK.out.len;omega) (by rw [HF6.out.2.2.2.2.1];have:=HA.out;omega) ⟨#[92,41]⟩ (by decide))
  clear tr x7 hb7 hz7 hr7 rd7 rd6 rr6 hb2'
  cases hB:r6.is ⟨#[92,41]⟩ with
  | true =>
   rw [hB] at HIs
   have HB:Hid (r5.code=0∧r5.at_+2≤r5.ts.length):=hide (by
    have h:=is_true hB
    rw [HF6.out.1,HF6.out.2.2.2.2.1,HF6.out.2.2.2.2.2] at h
    rw [HI5.out.ts]
    exact h)
   clear hB
   go_wp2_with fail
   refine HIs.out.mono ?_
   rintro e w9 ⟨rfl,rd9'⟩
   have rd9:=hide rd9'
   have HF:Hid (r6.ts=p.ts∧r6.ere=p.ere∧r6.open_=p.open_∧r6.groups=r5.groups∧r6.at_=r5.at_):=hide ⟨HF6.out.1,HF6.out.2.1,HF6.out.2.2.1,HF6.out.2.2.2.1,HF6.out.2.2.2.2.1⟩
   have HA:Hid (r6.at_≤1000):=hide (by rw [HF6.out.2.2.2.2.1];exact HA.out.1)
   clear HIs rd9' a0 a1 a2 a3 a5 a6 af1 af5 af6 b0 b1 b2 b3 b5 b6 bf1 bf5 bf6
   obtain ⟨qZ,wZ,eZ,hwZ,rZ,rdZ⟩:=rd9.out.stepn (by have:=HA.out;omega) 2 2 rfl (by omega)
   obtain ⟨y0,y1,y2,y3,y5,y6,yf1,yf5,yf6⟩:=rd9.out.can
   have HZ:Hid (Rd b w7 qZ wZ∧qZ.ts=p.ts∧qZ.ere=p.ere∧qZ.open_=p.open_∧qZ.groups=r5.groups∧qZ.at_=r5.at_+2∧qZ.code=r6.code):=hide ⟨rdZ,by rw [rZ];exact HF.out.1,by rw [rZ];exact HF.out.2.1,by rw [rZ];exact HF.out.2.2.1,by rw [rZ];exact HF.out.2.2.2.1,by rw [rZ];show r6.at_+_=_;rw [HF.out.2.2.2.2],by rw [rZ]⟩
   have xa:=(HX7.out _ HZ.out.1.pg).1
   obtain ⟨t0,t1,t2,t3,t4⟩:=cells5c xa
   obtain ⟨V1,hV1⟩:∃ V1,wZ.alloc (.cells #[.int .i64 kind,.int .i64 n9,.int .i64 m9,.string ss,.slice o ln cp] 25)=V1:=⟨_,rfl⟩
   have hbV:Below wZ.heap.size wZ V1:=by rw [←hV1];exact (Below.refl _ _).alloc (Nat.le_refl _) _
   have xg:V1.heap[wZ.heap.size]?=some (.cells #[.int .i64 kind,.int .i64 n9,.int .i64 m9,.string ss,.slice o ln cp] 25 (0,0)):=by rw [←hV1];exact heap_alloc_new wZ _
   obtain ⟨G,hG⟩:∃ G,G=wZ.heap.size:=⟨_,rfl⟩
   rw [←hG] at xg
   have HN:=hide (node_any V1 6 m 0 (some ⟨G,0,none⟩) 1 1)
   have HGG:=hide (And.intro xg (And.intro hG hbV))
   clear rdZ rZ xa xg hbV
   go_wp2_with fail
   (try simp only [←hG])
   clear hG t0 t1 t2 t3 t4 y0 y1 y2 y3 y5 y6 yf1 yf5 yf6
   refine HN.out.mono ?_
   rintro e v9 ⟨rfl,b9⟩
   have HV9:Hid (Rd b w7 qZ v9∧v9.heap[G]?=some (.cells #[.int .i64 kind,.int .i64 n9,.int .i64 m9,.string ss,.slice o ln cp] 25 (0,0))∧w7.heap.size≤G):=hide ⟨(HZ.out.1.below HGG.out.2.2).below b9,(b9.block _ (Array.getElem?_eq_some_iff.1 HGG.out.1).1).trans HGG.out.1,by rw [HGG.out.2.1];exact HZ.out.1.pg.size⟩
   have xr:=(HX7.out _ HV9.out.1.pg).2
   obtain ⟨r0',r1',r2',r3',r4'⟩:=cells5c xr
   have z0:=fz5c xr 0
   have z1:=fz5c xr 1
   have z2:=fz5c xr 2
   have z3:=fz5c xr 3
   have z4:=fz5c xr 4
   have hz7:=HS.out
   have HE:=hide (And.intro (set5_at xr trivial (.int .i64 6) (.int .i64 m) (.int .i64 0) (.string mt0) (.slice (some ⟨G,0,none⟩) 1 1)) (grp_made (W:=W) (w5:=w5) (w6:=w6) (E:=2) (R:=W.heap.size) (r1w:=w6) HM.out HI5.out (by omega) rfl HC0.out ⟨HZ.out.2.1,HZ.out.2.2.1,HZ.out.2.2.2.1,HZ.out.2.2.2.2.1,HZ.out.2.2.2.2.2.1⟩ (by omega) hz7.1 hz7.2.1 (Nat.le_refl _) ⟨HV9.out.1.pb,HB7.out.1.tr HV9.out.1.pg⟩ (HB7.out.2.tr HV9.out.1.pg) hz7.2.2.1 HV9.out.2.1 (by have:=HV9.out.2.2;have:=HB7.out.2.size;omega) (by rw [HZ.out.2.2.2.2.2.2];exact fun hc=>⟨HB.out.1,by have h:=HB.out.2;rw [HI5.out.ts] at h;exact h,(HTR.out.good HB.out.1).2.1,by rw [←HQ4.out.2.2.1];exact (HTR.out.good HB.out.1).2.2.le (by rw [HQ4.out.2.1];omega)⟩) hz7.2.2.2))
   unfold set5 at HE
   unfold rxV at HE ⊢
   clear xr b9 HN HGG HZ hz7
   go_wp2
   generalize (((((v9.setCell ⟨W.heap.size,0,none⟩ (.int .i64 6)).setCell ⟨W.heap.size,1,none⟩ (.int .i64 m)).setCell ⟨W.heap.size,2,none⟩ (.int .i64 0)).setCell ⟨W.heap.size,3,none⟩ (.string mt0)).setCell ⟨W.heap.size,4,none⟩ (.slice (some ⟨G,0,none⟩) 1 1))=Wf at HE ⊢
   obtain ⟨u0,u1,u2,u3,u4⟩:=cells5c HE.out.1
   refine bodyPost_ret (v:=.agg #[.int .i64 6,.int .i64 m,.int .i64 0,.string mt0,.slice (some ⟨G,0,none⟩) 1 1]) ?_ rfl ⟨_,_,_,_,_,_,_,qZ,rfl,HE.out.2⟩
   simp [results,Tryd.results95,go_sem,u0,u1,u2,u3,u4]
  | false =>
   rw [hB] at HIs
   clear hB
   go_wp2_with fail
   refine HIs.out.mono ?_
   rintro e w9 ⟨rfl,rd9'⟩
   have rd9:=hide rd9'
   have HFx:=hide (rd9'.failx (c:=4) (by decide) (r6.at_:Int))
   clear HIs a0 a1 a2 a3 a5 a6 af1 af5 af6 b0 b1 b2 b3 b5 b6 bf1 bf5 bf6
   obtain ⟨b0,b1,b2,b3,b5,b6,bf1,bf5,bf6⟩:=rd9'.can
   clear rd9'
   go_wp2_with fail
   refine HFx.out.mono ?_
   rintro e wA ⟨rA,rfl,rdA',kc,kt,ka,ke,kg,ko⟩
   have rdA:=hide rdA'
   have HF:Hid (rA.ts=p.ts∧rA.ere=p.ere∧rA.open_=p.open_∧rA.groups=r5.groups∧rA.at_=r5.at_):=hide ⟨kt.trans HF6.out.1,ke.trans HF6.out.2.1,ko.trans HF6.out.2.2.1,kg.trans HF6.out.2.2.2.1,ka.trans HF6.out.2.2.2.2.1⟩
   have HA:Hid (rA.at_≤1000):=hide (by rw [HF.out.2.2.2.2];exact HA.out.1)
   have HCd:=hide kc
   clear HFx rdA' kc kt ka ke kg ko b0 b1 b2 b3 b5 b6 bf1 bf5 bf6 rd9
   obtain ⟨qZ,wZ,eZ,hwZ,rZ,rdZ⟩:=rdA.out.stepn (by have:=HA.out;omega) 2 2 rfl (by omega)
   obtain ⟨y0,y1,y2,y3,y5,y6,yf1,yf5,yf6⟩:=rdA.out.can
   have HZ:Hid (Rd b w7 qZ wZ∧qZ.ts=p.ts∧qZ.ere=p.ere∧qZ.open_=p.open_∧qZ.groups=r5.groups∧qZ.at_=r5.at_+2∧qZ.code=rA.code):=hide ⟨rdZ,by rw [rZ];exact HF.out.1,by rw [rZ];exact HF.out.2.1,by rw [rZ];exact HF.out.2.2.1,by rw [rZ];exact HF.out.2.2.2.1,by rw [rZ];show rA.at_+_=_;rw [HF.out.2.2.2.2],by rw [rZ]⟩
   have xa:=(HX7.out _ HZ.out.1.pg).1
   obtain ⟨t0,t1,t2,t3,t4⟩:=cells5c xa
   obtain ⟨V1,hV1⟩:∃ V1,wZ.alloc (.cells #[.int .i64 kind,.int .i64 n9,.int .i64 m9,.string ss,.slice o ln cp] 25)=V1:=⟨_,rfl⟩
   have hbV:Below wZ.heap.size wZ V1:=by rw [←hV1];exact (Below.refl _ _).alloc (Nat.le_refl _) _
   have xg:V1.heap[wZ.heap.size]?=some (.cells #[.int .i64 kind,.int .i64 n9,.int .i64 m9,.string ss,.slice o ln cp] 25 (0,0)):=by rw [←hV1];exact heap_alloc_new wZ _
   obtain ⟨G,hG⟩:∃ G,G=wZ.heap.size:=⟨_,rfl⟩
   rw [←hG] at xg
   have HN:=hide (node_any V1 6 m 0 (some ⟨G,0,none⟩) 1 1)
   have HGG:=hide (And.intro xg (And.intro hG hbV))
   clear rdZ rZ xa xg hbV
   go_wp2_with fail
   (try simp only [←hG])
   clear hG t0 t1 t2 t3 t4 y0 y1 y2 y3 y5 y6 yf1 yf5 yf6
   refine HN.out.mono ?_
   rintro e v9 ⟨rfl,b9⟩
   have HV9:Hid (Rd b w7 qZ v9∧v9.heap[G]?=some (.cells #[.int .i64 kind,.int .i64 n9,.int .i64 m9,.string ss,.slice o ln cp] 25 (0,0))∧w7.heap.size≤G):=hide ⟨(HZ.out.1.below HGG.out.2.2).below b9,(b9.block _ (Array.getElem?_eq_some_iff.1 HGG.out.1).1).trans HGG.out.1,by rw [HGG.out.2.1];exact HZ.out.1.pg.size⟩
   have xr:=(HX7.out _ HV9.out.1.pg).2
   obtain ⟨r0',r1',r2',r3',r4'⟩:=cells5c xr
   have z0:=fz5c xr 0
   have z1:=fz5c xr 1
   have z2:=fz5c xr 2
   have z3:=fz5c xr 3
   have z4:=fz5c xr 4
   have hz7:=HS.out
   have HE:=hide (And.intro (set5_at xr trivial (.int .i64 6) (.int .i64 m) (.int .i64 0) (.string mt0) (.slice (some ⟨G,0,none⟩) 1 1)) (grp_made (W:=W) (w5:=w5) (w6:=w6) (E:=2) (R:=W.heap.size) (r1w:=w6) HM.out HI5.out (by omega) rfl HC0.out ⟨HZ.out.2.1,HZ.out.2.2.1,HZ.out.2.2.2.1,HZ.out.2.2.2.2.1,HZ.out.2.2.2.2.2.1⟩ (by omega) hz7.1 hz7.2.1 (Nat.le_refl _) ⟨HV9.out.1.pb,HB7.out.1.tr HV9.out.1.pg⟩ (HB7.out.2.tr HV9.out.1.pg) hz7.2.2.1 HV9.out.2.1 (by have:=HV9.out.2.2;have:=HB7.out.2.size;omega) (by rw [HZ.out.2.2.2.2.2.2];exact fun hc=>absurd hc HCd.out) hz7.2.2.2))
   unfold set5 at HE
   unfold rxV at HE ⊢
   clear xr b9 HN HGG HZ hz7
   go_wp2
   generalize (((((v9.setCell ⟨W.heap.size,0,none⟩ (.int .i64 6)).setCell ⟨W.heap.size,1,none⟩ (.int .i64 m)).setCell ⟨W.heap.size,2,none⟩ (.int .i64 0)).setCell ⟨W.heap.size,3,none⟩ (.string mt0)).setCell ⟨W.heap.size,4,none⟩ (.slice (some ⟨G,0,none⟩) 1 1))=Wf at HE ⊢
   obtain ⟨u0,u1,u2,u3,u4⟩:=cells5c HE.out.1
   refine bodyPost_ret (v:=.agg #[.int .i64 6,.int .i64 m,.int .i64 0,.string mt0,.slice (some ⟨G,0,none⟩) 1 1]) ?_ rfl ⟨_,_,_,_,_,_,_,qZ,rfl,HE.out.2⟩
   simp [results,Tryd.results95,go_sem,u0,u1,u2,u3,u4]
 ·have k9:((p.groups:Int) == 9)=false:=by rw [beq_eq_false_iff_ne];omega
  have k9':decide ((p.groups:Int)=9)=false:=decide_eq_false (by omega)
  have HP1:Hid (p.ts=p.ts∧p.at_=p.at_∧p.ere=p.ere∧p.groups=p.groups∧p.open_=p.open_):=hide ⟨rfl,rfl,rfl,rfl,rfl⟩
  have HC1:Hid (p.code=0→p.groups+1≤9):=hide fun _=>by omega
  clear h9 hg9 hc
  go_enter Tryd.func95,Tryd.ntmps95
  (try rw [hW1])
  obtain ⟨r2,w3,e3,hw3,rr2,rd2⟩:=rd0.out.groups1 (by rw [HP1.out.2.2.2.1];have:=HOK.out.gr;have:=HOK.out.at_;have:=HOK.out.len;omega)
  obtain ⟨r3,w4,e4,hw4,rr3,rd3⟩:=rd2.stepn (by rw [rr2];show p.at_≤_;rw [HP1.out.2.1];have:=HOK.out.at_;have:=HOK.out.len;omega) d (d:Int) rfl (by omega)
  obtain ⟨r4,w5,e5,hw5,rr4,rd4⟩:=rd3.open1 (by rw [rr3,rr2];show p.open_≤_;rw [HP1.out.2.2.2.2];have:=HOK.out.op;have:=HOK.out.at_;have:=HOK.out.len;omega)
  obtain ⟨a0,a1,a2,a3,a5,a6,af1,af5,af6⟩:=rd0.out.can
  obtain ⟨b0,b1,b2,b3,b5,b6,bf1,bf5,bf6⟩:=rd2.can
  obtain ⟨c0,c1,c2,c3,c5,c6,cf1,cf5,cf6⟩:=rd3.can
  have HQ4:Hid (r4.ts=p.ts∧r4.at_=p.at_+d∧r4.groups=p.groups+1∧r4.ere=p.ere∧r4.open_=p.open_+1∧r4.code=p.code):=hide (by
   obtain ⟨k1,k2,k3,k4,k5⟩:=HP1.out
   rw [rr4,rr3,rr2]
   exact ⟨k1,by show p.at_+d=_;rw [k2],by show p.groups+1=_;rw [k4],k3,by show p.open_+1=_;rw [k5],rfl⟩)
  have HG2:Hid (r2.groups=p.groups+1):=hide (by rw [rr2];first | done | exact congrArg (· + 1) HP1.out.2.2.2.1)
  have rd4h:=hide rd4
  have HW:=hide (hw r4 b w5 rd4.pb ⟨by rw [HQ4.out.1];exact HOK.out.len,by rw [HQ4.out.1];exact HOK.out.bytes,by rw [HQ4.out.1,HQ4.out.2.1];exact hl,by rw [HQ4.out.2.1,HQ4.out.2.2.2.2.1];have:=HOK.out.op;omega,by rw [HQ4.out.2.1,HQ4.out.2.2.1];have:=HOK.out.gr;omega,by rw [HQ4.out.2.2.1,HQ4.out.2.2.2.2.2];exact HC1.out⟩ (by rw [HQ4.out.1,HQ4.out.2.1];omega))
  clear rr2 rr3 rr4 rd2 rd3 rd4
  go_wp2_with fail
  refine HW.out.mono ?_
  rintro e w6 ⟨kind,n9,m9,ss,o,ln,cp,r5,rfl,tr⟩
  clear HW a0 a1 a2 a3 a5 a6 af1 af5 af6 b0 b1 b2 b3 b5 b6 bf1 bf5 bf6 c0 c1 c2 c3 c5 c6 cf1 cf5 cf6
  obtain ⟨m,hm⟩:∃ m:Int,m=((p.groups+1:Nat):Int):=⟨_,rfl⟩
  have hr2g:(r2.groups:Int)=m:=by rw [HG2.out,hm]
  have HM:=hide hm
  clear hm
  rw [hr2g]
  clear hr2g
  obtain ⟨w7,e7⟩:∃ w7,w6.alloc (.cells #[.int .i64 kind,.int .i64 n9,.int .i64 m9,.string ss,.slice o ln cp] 25)=w7:=⟨_,rfl⟩
  have x7:w7.heap[w6.heap.size]?=some (.cells #[.int .i64 kind,.int .i64 n9,.int .i64 m9,.string ss,.slice o ln cp] 25 (0,0)):=by rw [←e7];exact heap_alloc_new w6 _
  have hb7:Below w6.heap.size w6 w7:=by rw [←e7];exact (Below.refl _ _).alloc (Nat.le_refl _) _
  have hz7:w7.heap.size=w6.heap.size+1:=by rw [←e7];simp
  have HI5:Hid (GrI p d p r4 r5):=hide ⟨tr.nx.ts.trans HQ4.out.1,tr.nx.ere.trans HQ4.out.2.2.2.1,tr.nx.op.trans HQ4.out.2.2.2.2.1,by have:=tr.far;rw [HQ4.out.2.1] at this;omega,by have:=tr.lim;rw [HQ4.out.1,HQ4.out.2.2.2.2.1] at this;exact this,tr.gr,by have:=tr.nx.gr;rw [HQ4.out.2.2.1] at this;exact this,fun e=>HC1.out (by rw [←HQ4.out.2.2.2.2.2];exact tr.nx.code e)⟩
  have HTR:Hid (TrP 0 r4 b w5 #[.int .i64 kind,.int .i64 n9,.int .i64 m9,.string ss,.slice o ln cp] r5 w6):=hide tr
  have HTG:Hid (r5.code=0→r5.at_≤p.ts.length):=hide fun e=>by have:=(tr.good e).1;rw [HQ4.out.1] at this;exact this
  have HA:Hid (r5.at_≤1000∧r5.ts.length≤200):=hide ⟨by have:=HI5.out.lim;have:=HOK.out.len;omega,by rw [HI5.out.ts];exact HOK.out.len⟩
  have HS:Hid (W.heap.size≤w5.heap.size∧b<W.heap.size∧W.heap.size<w5.heap.size∧w5.heap.size≤w6.heap.size):=hide (by
   have h1:=rd4h.out.pg.size
   have h2:=tr.rd.pg.size
   have h3:=HSZ.out
   exact ⟨by omega,h3.2,by omega,h2⟩)
  have HB7:Hid (PG b W w7∧PG b w6 w7):=hide ⟨(((PG.below HBW.out).tr rd4h.out.pg).tr tr.rd.pg).tr (PG.below hb7),PG.below hb7⟩
  have hr7:w7.heap[W.heap.size]?=some (.cells #[.int .i64 0,.int .i64 0,.int .i64 0,.string ⟨#[]⟩,.slice none 0 0] 25 (0,0)):=HRZ.out _ ((rd4h.out.pg.tr tr.rd.pg).tr (PG.below hb7))
  have HX7:Hid (∀ w',PG b w7 w'→w'.heap[w6.heap.size]?=some (.cells #[.int .i64 kind,.int .i64 n9,.int .i64 m9,.string ss,.slice o ln cp] 25 (0,0))∧w'.heap[W.heap.size]?=some (.cells #[.int .i64 0,.int .i64 0,.int .i64 0,.string ⟨#[]⟩,.slice none 0 0] 25 (0,0))):=hide fun w' hg=>⟨(hg.block _ (by omega) (by simp;have:=HS.out;omega)).trans x7,(hg.block _ (by have:=HS.out;omega) (by simp;have:=HS.out;omega)).trans hr7⟩
  have rd7:Rd b w7 r5 w7:=⟨(tr.rd.below hb7).pb,PG.refl⟩
  obtain ⟨r6,w8,e8,hw8,rr6,rd6⟩:=rd7.close1 HI5.out.op (by have:=HOK.out.op;have:=HOK.out.at_;have:=HOK.out.len;omega)
  obtain ⟨a0,a1,a2,a3,a5,a6,af1,af5,af6⟩:=rd7.can
  obtain ⟨b0,b1,b2,b3,b5,b6,bf1,bf5,bf6⟩:=rd6.can
  have HF6:Hid (r6.ts=p.ts∧r6.ere=p.ere∧r6.open_=p.open_∧r6.groups=r5.groups∧r6.at_=r5.at_∧r6.code=r5.code):=hide (by rw [rr6];exact ⟨HI5.out.ts,HI5.out.ere,rfl,rfl,rfl,rfl⟩)
  have hb2':r6.ere=p.ere:=HF6.out.2.1
  rw [hb2',HER.out] at b2
  have HIs:=hide (rd6.is (by rw [HF6.out.1];have:=HOK.out.len;omega) (by rw [HF6.out.2.2.2.2.1];have:=HA.out;omega) ⟨#[92,41]⟩ (by decide))
  clear tr x7 hb7 hz7 hr7 rd7 rd6 rr6 hb2'
  cases hB:r6.is ⟨#[92,41]⟩ with
  | true =>
   rw [hB] at HIs
   have HB:Hid (r5.code=0∧r5.at_+2≤r5.ts.length):=hide (by
    have h:=is_true hB
    rw [HF6.out.1,HF6.out.2.2.2.2.1,HF6.out.2.2.2.2.2] at h
    rw [HI5.out.ts]
    exact h)
   clear hB
   go_wp2_with fail
   refine HIs.out.mono ?_
   rintro e w9 ⟨rfl,rd9'⟩
   have rd9:=hide rd9'
   have HF:Hid (r6.ts=p.ts∧r6.ere=p.ere∧r6.open_=p.open_∧r6.groups=r5.groups∧r6.at_=r5.at_):=hide ⟨HF6.out.1,HF6.out.2.1,HF6.out.2.2.1,HF6.out.2.2.2.1,HF6.out.2.2.2.2.1⟩
   have HA:Hid (r6.at_≤1000):=hide (by rw [HF6.out.2.2.2.2.1];exact HA.out.1)
   clear HIs rd9' a0 a1 a2 a3 a5 a6 af1 af5 af6 b0 b1 b2 b3 b5 b6 bf1 bf5 bf6
   obtain ⟨qZ,wZ,eZ,hwZ,rZ,rdZ⟩:=rd9.out.stepn (by have:=HA.out;omega) 2 2 rfl (by omega)
   obtain ⟨y0,y1,y2,y3,y5,y6,yf1,yf5,yf6⟩:=rd9.out.can
   have HZ:Hid (Rd b w7 qZ wZ∧qZ.ts=p.ts∧qZ.ere=p.ere∧qZ.open_=p.open_∧qZ.groups=r5.groups∧qZ.at_=r5.at_+2∧qZ.code=r6.code):=hide ⟨rdZ,by rw [rZ];exact HF.out.1,by rw [rZ];exact HF.out.2.1,by rw [rZ];exact HF.out.2.2.1,by rw [rZ];exact HF.out.2.2.2.1,by rw [rZ];show r6.at_+_=_;rw [HF.out.2.2.2.2],by rw [rZ]⟩
   have xa:=(HX7.out _ HZ.out.1.pg).1
   obtain ⟨t0,t1,t2,t3,t4⟩:=cells5c xa
   obtain ⟨V1,hV1⟩:∃ V1,wZ.alloc (.cells #[.int .i64 kind,.int .i64 n9,.int .i64 m9,.string ss,.slice o ln cp] 25)=V1:=⟨_,rfl⟩
   have hbV:Below wZ.heap.size wZ V1:=by rw [←hV1];exact (Below.refl _ _).alloc (Nat.le_refl _) _
   have xg:V1.heap[wZ.heap.size]?=some (.cells #[.int .i64 kind,.int .i64 n9,.int .i64 m9,.string ss,.slice o ln cp] 25 (0,0)):=by rw [←hV1];exact heap_alloc_new wZ _
   obtain ⟨G,hG⟩:∃ G,G=wZ.heap.size:=⟨_,rfl⟩
   rw [←hG] at xg
   have HN:=hide (node_any V1 6 m 0 (some ⟨G,0,none⟩) 1 1)
   have HGG:=hide (And.intro xg (And.intro hG hbV))
   clear rdZ rZ xa xg hbV
   go_wp2_with fail
   (try simp only [←hG])
   clear hG t0 t1 t2 t3 t4 y0 y1 y2 y3 y5 y6 yf1 yf5 yf6
   refine HN.out.mono ?_
   rintro e v9 ⟨rfl,b9⟩
   have HV9:Hid (Rd b w7 qZ v9∧v9.heap[G]?=some (.cells #[.int .i64 kind,.int .i64 n9,.int .i64 m9,.string ss,.slice o ln cp] 25 (0,0))∧w7.heap.size≤G):=hide ⟨(HZ.out.1.below HGG.out.2.2).below b9,(b9.block _ (Array.getElem?_eq_some_iff.1 HGG.out.1).1).trans HGG.out.1,by rw [HGG.out.2.1];exact HZ.out.1.pg.size⟩
   have xr:=(HX7.out _ HV9.out.1.pg).2
   obtain ⟨r0',r1',r2',r3',r4'⟩:=cells5c xr
   have z0:=fz5c xr 0
   have z1:=fz5c xr 1
   have z2:=fz5c xr 2
   have z3:=fz5c xr 3
   have z4:=fz5c xr 4
   have hz7:=HS.out
   have HE:=hide (And.intro (set5_at xr trivial (.int .i64 6) (.int .i64 m) (.int .i64 0) (.string mt0) (.slice (some ⟨G,0,none⟩) 1 1)) (grp_made (W:=W) (w5:=w5) (w6:=w6) (E:=2) (R:=W.heap.size) (r1w:=w6) HM.out HI5.out (by omega) rfl HC0.out ⟨HZ.out.2.1,HZ.out.2.2.1,HZ.out.2.2.2.1,HZ.out.2.2.2.2.1,HZ.out.2.2.2.2.2.1⟩ (by omega) hz7.1 hz7.2.1 (Nat.le_refl _) ⟨HV9.out.1.pb,HB7.out.1.tr HV9.out.1.pg⟩ (HB7.out.2.tr HV9.out.1.pg) hz7.2.2.1 HV9.out.2.1 (by have:=HV9.out.2.2;have:=HB7.out.2.size;omega) (by rw [HZ.out.2.2.2.2.2.2];exact fun hc=>⟨HB.out.1,by have h:=HB.out.2;rw [HI5.out.ts] at h;exact h,(HTR.out.good HB.out.1).2.1,by rw [←HQ4.out.2.2.1];exact (HTR.out.good HB.out.1).2.2.le (by rw [HQ4.out.2.1];omega)⟩) hz7.2.2.2))
   unfold set5 at HE
   unfold rxV at HE ⊢
   clear xr b9 HN HGG HZ hz7
   go_wp2
   generalize (((((v9.setCell ⟨W.heap.size,0,none⟩ (.int .i64 6)).setCell ⟨W.heap.size,1,none⟩ (.int .i64 m)).setCell ⟨W.heap.size,2,none⟩ (.int .i64 0)).setCell ⟨W.heap.size,3,none⟩ (.string mt0)).setCell ⟨W.heap.size,4,none⟩ (.slice (some ⟨G,0,none⟩) 1 1))=Wf at HE ⊢
   obtain ⟨u0,u1,u2,u3,u4⟩:=cells5c HE.out.1
   refine bodyPost_ret (v:=.agg #[.int .i64 6,.int .i64 m,.int .i64 0,.string mt0,.slice (some ⟨G,0,none⟩) 1 1]) ?_ rfl ⟨_,_,_,_,_,_,_,qZ,rfl,HE.out.2⟩
   simp [results,Tryd.results95,go_sem,u0,u1,u2,u3,u4]
  | false =>
   rw [hB] at HIs
   clear hB
   go_wp2_with fail
   refine HIs.out.mono ?_
   rintro e w9 ⟨rfl,rd9'⟩
   have rd9:=hide rd9'
   have HFx:=hide (rd9'.failx (c:=4) (by decide) (r6.at_:Int))
   clear HIs a0 a1 a2 a3 a5 a6 af1 af5 af6 b0 b1 b2 b3 b5 b6 bf1 bf5 bf6
   obtain ⟨b0,b1,b2,b3,b5,b6,bf1,bf5,bf6⟩:=rd9'.can
   clear rd9'
   go_wp2_with fail
   refine HFx.out.mono ?_
   rintro e wA ⟨rA,rfl,rdA',kc,kt,ka,ke,kg,ko⟩
   have rdA:=hide rdA'
   have HF:Hid (rA.ts=p.ts∧rA.ere=p.ere∧rA.open_=p.open_∧rA.groups=r5.groups∧rA.at_=r5.at_):=hide ⟨kt.trans HF6.out.1,ke.trans HF6.out.2.1,ko.trans HF6.out.2.2.1,kg.trans HF6.out.2.2.2.1,ka.trans HF6.out.2.2.2.2.1⟩
   have HA:Hid (rA.at_≤1000):=hide (by rw [HF.out.2.2.2.2];exact HA.out.1)
   have HCd:=hide kc
   clear HFx rdA' kc kt ka ke kg ko b0 b1 b2 b3 b5 b6 bf1 bf5 bf6 rd9
   obtain ⟨qZ,wZ,eZ,hwZ,rZ,rdZ⟩:=rdA.out.stepn (by have:=HA.out;omega) 2 2 rfl (by omega)
   obtain ⟨y0,y1,y2,y3,y5,y6,yf1,yf5,yf6⟩:=rdA.out.can
   have HZ:Hid (Rd b w7 qZ wZ∧qZ.ts=p.ts∧qZ.ere=p.ere∧qZ.open_=p.open_∧qZ.groups=r5.groups∧qZ.at_=r5.at_+2∧qZ.code=rA.code):=hide ⟨rdZ,by rw [rZ];exact HF.out.1,by rw [rZ];exact HF.out.2.1,by rw [rZ];exact HF.out.2.2.1,by rw [rZ];exact HF.out.2.2.2.1,by rw [rZ];show rA.at_+_=_;rw [HF.out.2.2.2.2],by rw [rZ]⟩
   have xa:=(HX7.out _ HZ.out.1.pg).1
   obtain ⟨t0,t1,t2,t3,t4⟩:=cells5c xa
   obtain ⟨V1,hV1⟩:∃ V1,wZ.alloc (.cells #[.int .i64 kind,.int .i64 n9,.int .i64 m9,.string ss,.slice o ln cp] 25)=V1:=⟨_,rfl⟩
   have hbV:Below wZ.heap.size wZ V1:=by rw [←hV1];exact (Below.refl _ _).alloc (Nat.le_refl _) _
   have xg:V1.heap[wZ.heap.size]?=some (.cells #[.int .i64 kind,.int .i64 n9,.int .i64 m9,.string ss,.slice o ln cp] 25 (0,0)):=by rw [←hV1];exact heap_alloc_new wZ _
   obtain ⟨G,hG⟩:∃ G,G=wZ.heap.size:=⟨_,rfl⟩
   rw [←hG] at xg
   have HN:=hide (node_any V1 6 m 0 (some ⟨G,0,none⟩) 1 1)
   have HGG:=hide (And.intro xg (And.intro hG hbV))
   clear rdZ rZ xa xg hbV
   go_wp2_with fail
   (try simp only [←hG])
   clear hG t0 t1 t2 t3 t4 y0 y1 y2 y3 y5 y6 yf1 yf5 yf6
   refine HN.out.mono ?_
   rintro e v9 ⟨rfl,b9⟩
   have HV9:Hid (Rd b w7 qZ v9∧v9.heap[G]?=some (.cells #[.int .i64 kind,.int .i64 n9,.int .i64 m9,.string ss,.slice o ln cp] 25 (0,0))∧w7.heap.size≤G):=hide ⟨(HZ.out.1.below HGG.out.2.2).below b9,(b9.block _ (Array.getElem?_eq_some_iff.1 HGG.out.1).1).trans HGG.out.1,by rw [HGG.out.2.1];exact HZ.out.1.pg.size⟩
   have xr:=(HX7.out _ HV9.out.1.pg).2
   obtain ⟨r0',r1',r2',r3',r4'⟩:=cells5c xr
   have z0:=fz5c xr 0
   have z1:=fz5c xr 1
   have z2:=fz5c xr 2
   have z3:=fz5c xr 3
   have z4:=fz5c xr 4
   have hz7:=HS.out
   have HE:=hide (And.intro (set5_at xr trivial (.int .i64 6) (.int .i64 m) (.int .i64 0) (.string mt0) (.slice (some ⟨G,0,none⟩) 1 1)) (grp_made (W:=W) (w5:=w5) (w6:=w6) (E:=2) (R:=W.heap.size) (r1w:=w6) HM.out HI5.out (by omega) rfl HC0.out ⟨HZ.out.2.1,HZ.out.2.2.1,HZ.out.2.2.2.1,HZ.out.2.2.2.2.1,HZ.out.2.2.2.2.2.1⟩ (by omega) hz7.1 hz7.2.1 (Nat.le_refl _) ⟨HV9.out.1.pb,HB7.out.1.tr HV9.out.1.pg⟩ (HB7.out.2.tr HV9.out.1.pg) hz7.2.2.1 HV9.out.2.1 (by have:=HV9.out.2.2;have:=HB7.out.2.size;omega) (by rw [HZ.out.2.2.2.2.2.2];exact fun hc=>absurd hc HCd.out) hz7.2.2.2))
   unfold set5 at HE
   unfold rxV at HE ⊢
   clear xr b9 HN HGG HZ hz7
   go_wp2
   generalize (((((v9.setCell ⟨W.heap.size,0,none⟩ (.int .i64 6)).setCell ⟨W.heap.size,1,none⟩ (.int .i64 m)).setCell ⟨W.heap.size,2,none⟩ (.int .i64 0)).setCell ⟨W.heap.size,3,none⟩ (.string mt0)).setCell ⟨W.heap.size,4,none⟩ (.slice (some ⟨G,0,none⟩) 1 1))=Wf at HE ⊢
   obtain ⟨u0,u1,u2,u3,u4⟩:=cells5c HE.out.1
   refine bodyPost_ret (v:=.agg #[.int .i64 6,.int .i64 m,.int .i64 0,.string mt0,.slice (some ⟨G,0,none⟩) 1 1]) ?_ rfl ⟨_,_,_,_,_,_,_,qZ,rfl,HE.out.2⟩
   simp [results,Tryd.results95,go_sem,u0,u1,u2,u3,u4]
end Go.Proofs.YtfhimmnoipfiaaaDoor.eng
