import Derived.Test.YtfhimmnoipfiaaaDoorUPbr
import Derived.Deep.QuietTactic
import Derived.BigQuiet
namespace Go.Proofs.YtfhimmnoipfiaaaDoor.eng
open Go.ChangeShapes Go.WideShapes Go.ChangeAt Go.RowKit
open bytes places sets tz rex
set_option linter.unusedVariables false
theorem KRowP.one {P P':Nat→Prop} {W:World} {cs:Array Value} {g0 g1 g n:Nat} (h:TreeP P' W cs g0 g1 n) (hs:cs.size=5) (hg:W.heap[g]?=some (.cells cs 25 (0,0))) (hP:∀ x,P' x→P x) (hn:¬ P' g) (hPg:P g):KRowP P W (.slice (some ⟨g,0,none⟩) 1 1) 1 g0 g1 n:=by
 obtain ⟨T,M,h1,h2,h3,h4,h5,h6,h7⟩:=h
 refine ⟨[T],M,cs.toList,rfl,⟨by simp [hs],.inr ⟨g,1,cs,rfl,Nat.zero_le _,hg,Nat.le_refl _,by decide,by rw [hs],?_⟩⟩,fun y hy => ?_,KAt.one ⟨cs,hs,fun j _=>by simp,h1⟩,h2,fun x o hx=>⟨hP x (h3 x o hx),fun e => ?_⟩,?_,?_,?_,?_⟩
 ·rw [List.take_of_length_le];simp [hs]
 ·have:y=g:=by simpa [Value.ownBlock] using hy.symm
  rw [this];exact hPg
 ·have:g=x:=by simpa [Value.ownBlock] using e
  subst this
  exact hn (h3 g o hx)
 ·rw [NumK];exact ⟨h4,by rw [NumK];trivial⟩
 ·rw [h5];simp [ngK]
 ·rw [OkK];exact ⟨h6,by rw [OkK];trivial⟩
 ·simp [szK];exact h7
def One1 (p:Pq) (W:World) (v:Value) (q:Pq) (w:World):Prop:=∃ (g:Nat) (kind n9 m9:Int) (ss:ByteArray) (o:Option Addr) (ln cp:Nat),v=.slice (some ⟨g,0,none⟩) 1 1∧W.heap.size<g∧w.heap[g]?=some (.cells #[.int .i64 kind,.int .i64 n9,.int .i64 m9,.string ss,.slice o ln cp] 25 (0,0))∧(q.code=0→TreeAt (W.heap.size+1) w #[.int .i64 kind,.int .i64 n9,.int .i64 m9,.string ss,.slice o ln cp] p.groups q.groups (3*(q.at_-p.at_)+1))
structure Wl (p:Pq) (b:Nat) (W:World) (v:Value) (k:Nat) (q:Pq) (w:World):Prop where
 pb:PB q b w
 pg:PG b W w
 b:b<W.heap.size
 bR:w.heap[W.heap.size]?=some (.cells zero5 25 (0,0))
 vs:∃ o c,v=.slice o k c
 one:k=1→One1 p W v q w
 row:q.code=0→KRowP (fun x=>W.heap.size<x) w v k p.groups q.groups (3*(q.at_-p.at_)+3-2*k)
 qs:Qs p q
 k1:1≤k
 kk:q.code=0→k+p.at_≤q.at_+1
section
variable {p q r:Pq} {b k:Nat} {W w w':World} {v:Value}
theorem Wl.lt (h:Wl p b W v k q w):W.heap.size<w.heap.size:=(Array.getElem?_eq_some_iff.1 h.bR).1
theorem Wl.rd (h:Wl p b W v k q w) (hr:Rd b w q w'):Wl p b W v k q w':=by
 have hb:=h.b
 refine ⟨hr.pb,h.pg.tr hr.pg,hb,(hr.pg.block _ h.lt (by simp;omega)).trans h.bR,h.vs,fun e => ?_,fun e=>(h.row e).block fun x hx hl=>hr.pg.block x hl (by simp;omega),h.qs,h.k1,h.kk⟩
 obtain ⟨g,kind,n9,m9,ss,o,ln,cp,h1,h2,h3,h4⟩:=h.one e
 exact ⟨g,kind,n9,m9,ss,o,ln,cp,h1,h2,(hr.pg.block g (Array.getElem?_eq_some_iff.1 h3).1 (by simp;omega)).trans h3,fun e=>(h4 e).keep (by omega) hr.pg⟩
theorem wl_first {W1 w2:World} {kind n9 m9:Int} {ss:ByteArray} {o:Option Addr} {ln cp:Nat} (hbx:Bx b W.heap.size W W1) (hR:∀ w,PG b W1 w→w.heap[W.heap.size]?=some (.cells zero5 25 (0,0))) (hk:Okp p) (h:TrP 0 p b W1 #[.int .i64 kind,.int .i64 n9,.int .i64 m9,.string ss,.slice o ln cp] q w2) :
  Wl p b W (.slice (some ⟨w2.heap.size,0,none⟩) 1 1) 1 q (w2.alloc (.cells #[.int .i64 kind,.int .i64 n9,.int .i64 m9,.string ss,.slice o ln cp] 25)):=by
 have hs:=h.rd.pg.size
 have hh:=hbx.hi
 have hl:=hbx.bel.size
 have ha:PG b w2 (w2.alloc (.cells #[.int .i64 kind,.int .i64 n9,.int .i64 m9,.string ss,.slice o ln cp] 25)):=PG.alloc _
 have hbb:=hbx.b
 have hg:(w2.alloc (.cells #[.int .i64 kind,.int .i64 n9,.int .i64 m9,.string ss,.slice o ln cp] 25)).heap[w2.heap.size]?=some (.cells #[.int .i64 kind,.int .i64 n9,.int .i64 m9,.string ss,.slice o ln cp] 25 (0,0)):=heap_alloc_new w2 _
 have hk1:=h.nx.at_
 have ht:q.code=0→TreeAt (W.heap.size+1) (w2.alloc (.cells #[.int .i64 kind,.int .i64 n9,.int .i64 m9,.string ss,.slice o ln cp] 25)) #[.int .i64 kind,.int .i64 n9,.int .i64 m9,.string ss,.slice o ln cp] p.groups q.groups (3*(q.at_-p.at_)+1):=fun e=>(((h.good e).2.2.keep (by omega) ha).mono (by omega)).le (by omega)
 refine ⟨h.rd.pb.keep (Below.heap_alloc w2 _ b h.rd.pb.lt),((PG.below hbx.bel).tr h.rd.pg).tr ha,hbb,(hR _ (h.rd.pg.tr ha)),⟨_,_,rfl⟩,fun _=>⟨_,_,_,_,_,_,_,_,rfl,by omega,hg,ht⟩,fun e => ?_,⟨h.nx,h.lim,h.gr,fun e=>⟨(h.good e).1,(h.good e).2.1⟩⟩,Nat.le_refl _,fun _=>by omega⟩
 have h1:TreeP (fun x=>W.heap.size<x∧x<w2.heap.size) w2 #[.int .i64 kind,.int .i64 n9,.int .i64 m9,.string ss,.slice o ln cp] p.groups q.groups (3*(q.at_-p.at_)+1):=((h.good e).2.2.p fun x hx hlt=>⟨by omega,hlt⟩).le (by omega)
 exact (KRowP.one (h1.block (W':=w2.alloc (.cells #[.int .i64 kind,.int .i64 n9,.int .i64 m9,.string ss,.slice o ln cp] 25)) fun x hx hlt=>Below.heap_alloc w2 _ x hlt) rfl hg (fun x hx=>hx.1) (fun hx=>Nat.lt_irrefl _ hx.2) (by show W.heap.size<w2.heap.size;omega)).le (by omega)
theorem Wl.push {r q2:Pq} {w2 w9:World} {g cap:Nat} {xs:List Value} {kind n9 m9:Int} {ss:ByteArray} {o:Option Addr} {ln cp:Nat} (h:Wl p b W v k r w) (hc:r.code=0) (hq:Qs p q) (hqg:q.groups=r.groups) (hqa:r.at_+1≤q.at_) (hw:PG b w w') (ht:TrP 0 q b w' #[.int .i64 kind,.int .i64 n9,.int .i64 m9,.string ss,.slice o ln cp] q2 w2)
  (hx:w2.ownsRow 0 25 5 v k xs) (h1:w9.ownsRow 0 25 5 (.slice (some ⟨g,0,none⟩) (k+1) cap) (k+1) (xs++[.int .i64 kind,.int .i64 n9,.int .i64 m9,.string ss,.slice o ln cp])) (h2:(w2.alloc (.cells #[.int .i64 kind,.int .i64 n9,.int .i64 m9,.string ss,.slice o ln cp] 25)).grownBy w9 v.ownBlock) (h3:v.ownBlock=some g∨g=(w2.alloc (.cells #[.int .i64 kind,.int .i64 n9,.int .i64 m9,.string ss,.slice o ln cp] 25)).heap.size) :
  Wl p b W (.slice (some ⟨g,0,none⟩) (k+1) cap) (k+1) q2 w9:=by
 have hrow:=h.row hc
 have hb:=h.b
 have hl:=h.lt
 have hs1:=hw.size
 have hs2:=ht.rd.pg.size
 have hp2:PG b w w2:=hw.tr ht.rd.pg
 have ha:PG b w2 (w2.alloc (.cells #[.int .i64 kind,.int .i64 n9,.int .i64 m9,.string ss,.slice o ln cp] 25)):=PG.alloc _
 have hpa:=hp2.tr ha
 have hown:=hrow.ownP
 have hrow2:KRowP (fun x=>W.heap.size<x) (w2.alloc (.cells #[.int .i64 kind,.int .i64 n9,.int .i64 m9,.string ss,.slice o ln cp] 25)) v k p.groups r.groups (3*(r.at_-p.at_)+3-2*k):=hrow.block fun x hx hlt=>hpa.block x hlt (by simp;omega)
 have low:∀ x,x<(w2.alloc (.cells #[.int .i64 kind,.int .i64 n9,.int .i64 m9,.string ss,.slice o ln cp] 25)).heap.size→v.ownBlock≠some x→w9.heap[x]?=(w2.alloc (.cells #[.int .i64 kind,.int .i64 n9,.int .i64 m9,.string ss,.slice o ln cp] 25)).heap[x]? := fun x hx hn=>h2.block x hx fun e=>hn e.symm
 have nO:∀ x,x≤W.heap.size→v.ownBlock≠some x:=fun x hx e=>by have:=(hown x e).1;omega
 have hsa:(w2.alloc (.cells #[.int .i64 kind,.int .i64 n9,.int .i64 m9,.string ss,.slice o ln cp] 25)).heap.size=w2.heap.size+1:=by simp
 have hqs:=hq.next ht.nx (by exact ht.lim) ht.gr (fun e=>⟨(ht.good e).1,(ht.good e).2.1⟩)
 have pba:=(ht.rd.alloc (.cells #[.int .i64 kind,.int .i64 n9,.int .i64 m9,.string ss,.slice o ln cp] 25)).pb
 have hk0:=h.kk hc
 have hk1:=h.k1
 have hta:=ht.nx.at_
 refine ⟨(low b pba.lt (nO b (by omega))).trans pba,⟨h2.os.trans (h.pg.tr hpa).os,h2.tape.trans (h.pg.tr hpa).tape,h2.output.trans (h.pg.tr hpa).output,Nat.le_trans (h.pg.tr hpa).size h2.size,fun x hx hn => ?_⟩,hb,?_,⟨_,_,rfl⟩,fun e=>by omega,fun e => ?_,hqs,by omega,fun e=>by omega⟩
 ·exact (low x (by omega) (nO x (by omega))).trans ((h.pg.tr hpa).block x hx hn)
 ·exact (low _ (by omega) (nO _ (Nat.le_refl _))).trans ((hpa.block _ hl (by simp;omega)).trans h.bR)
 ·have htp:TreeP (fun x=>w'.heap.size≤x) (w2.alloc (.cells #[.int .i64 kind,.int .i64 n9,.int .i64 m9,.string ss,.slice o ln cp] 25)) #[.int .i64 kind,.int .i64 n9,.int .i64 m9,.string ss,.slice o ln cp] r.groups q2.groups (3*(q2.at_-q.at_)+1):=by
   rw [←hqg]
   exact (((ht.good e).2.2.keep (by omega) ha).p fun x hx _=>hx).le (by omega)
  refine KRowP.le (hrow2.push htp rfl (fun x hx=>by show W.heap.size<x;have hx:w'.heap.size≤x:=hx;omega) (fun y hy hy'=>by have:=(hown y hy).2;have hy':w'.heap.size≤y:=hy';omega) (xs:=xs) (World.ownsRow.alloc hx _) h1 h2 (h3.imp id fun e'=>by omega) (fun hl'=>by show W.heap.size<g;omega)) ?_
  have h8:=h.qs.nx.at_
  omega
end
set_option maxRecDepth 20000 in
set_option maxHeartbeats 16000000 in
theorem whole_ere (p:Pq) (b:Nat) (W:World) (h:PB p b W) (hk:Okp p) (he:p.ere=true) (hB:∀ (q:Pq) (w:World),PB q b w→Okp q→q.ere=true→p.at_≤q.at_→q.ts=p.ts→Calls Tryd.prog 60 #[.pointer (some ⟨b,0,none⟩)] w (TrR 0 q b w)) :
  Calls Tryd.prog 39 #[.pointer (some ⟨b,0,none⟩)] W (TrR 0 p b W):=by
 obtain ⟨i0,hi0,hz0,hs0,hb0⟩:=info_parts info25
 have HI:=hide (And.intro hi0 (And.intro hz0 (And.intro hs0 hb0)))
 obtain ⟨W1,hW1,hbox⟩:=box_new W
 obtain ⟨hBx,hRZ⟩:=hbox b h.lt
 have HBX:=hide hBx
 have HRZ:=hide hRZ
 have HFirst:=hide (hB p W1 (h.below hBx.bel) hk he (Nat.le_refl _) rfl)
 have HBB:=hide hB
 have HOK:=hide hk
 have HER:=hide he
 clear hi0 hz0 hs0 hb0 hbox hBx hRZ h hk he hB
 go_enter Tryd.func39,Tryd.ntmps39
 (try rw [hW1])
 go_wp2_with fail
 refine HFirst.out.mono ?_
 rintro e w2 ⟨kind,n9,m9,ss,o,ln,cp,q0,rfl,tr⟩
 have wl0:=hide (wl_first HBX.out HRZ.out HOK.out tr)
 clear tr HFirst hW1
 go_wp2
 go_loopw [3] (fun v3 wr=>∃ (v:Value) (k:Nat) (q:Pq),v=v3∧Hid (Wl p b W v k q wr)) (fun _ wr=>meaB b p.ts.length wr)
 case atStart=>exact ⟨_,1,_,rfl,wl0⟩
 case round =>
  obtain ⟨v,k,q,rfl,wl⟩:=hrel
  clear wl0
  obtain ⟨z0,z1,z2,z3,z5,z6,zf1,zf5,zf6⟩:=(Rd.refl wl.out.pb).can
  have z2e:q.ere=true:=by rw [wl.out.qs.nx.ere];exact HER.out
  rw [z2e] at z2
  have HIs:=hide ((Rd.refl wl.out.pb).is (by rw [wl.out.qs.nx.ts];have:=HOK.out.len;omega) (by have:=wl.out.qs.lim;have:=HOK.out.len;omega) ⟨#[124]⟩ (by decide))
  clear z2e
  cases hB:q.is ⟨#[124]⟩ with
  | true =>
   rw [hB] at HIs
   have HS1:=hide (is_true hB)
   clear hB
   go_wp2_with fail
   refine HIs.out.mono ?_
   rintro e w4 ⟨rfl,rd4⟩
   have wl4:=hide (wl.out.rd rd4)
   obtain ⟨a0,a1,a2,a3,a5,a6,af1,af5,af6⟩:=rd4.can
   obtain ⟨q1,hq1⟩:∃ q1:Pq,q1={ q with at_:=q.at_+1 }:=⟨_,rfl⟩
   have hw1:IntKind.i64.wrap ((q.at_:Int)+1)=(q1.at_:Int):=by rw [IntKind.wrap_i64,hq1];show _=((q.at_+1:Nat):Int);have:=wl.out.qs.lim;have:=HOK.out.len;omega
   obtain ⟨w5,hw5⟩:∃ w5,w4.setCell ⟨b,1,none⟩ (.int .i64 (q1.at_:Int))=w5:=⟨_,rfl⟩
   have HL1:Hid (q.at_+1≤p.ts.length∧q.code=0):=hide ⟨by have h:=HS1.out.2;rw [wl.out.qs.nx.ts] at h;exact h,HS1.out.1⟩
   have rd5:Rd b w4 q1 w5:=by rw [←hw5,hq1];exact ⟨rd4.pb.setAt (q.at_+1),PG.set 1 _⟩
   have HQ1:Hid (q1.at_=q.at_+1∧q1.groups=q.groups∧q1.ts=p.ts∧q1.ere=true∧q1.code=0∧q1.open_=p.open_):=hide (by rw [hq1];exact ⟨rfl,rfl,wl.out.qs.nx.ts,(wl.out.qs.nx.ere).trans HER.out,HL1.out.2,wl.out.qs.nx.op⟩)
   have HQs:Hid (Qs p q1):=hide ⟨by rw [hq1];exact wl.out.qs.nx.tr (Nx.at q (Nat.le_succ _)),by rw [HQ1.out.1];have:=HL1.out.1;have:=HOK.out.op;have:=HOK.out.at_;omega,by rw [HQ1.out.1,HQ1.out.2.1];have:=wl.out.qs.gr;omega,fun e=>⟨by rw [HQ1.out.1];exact HL1.out.1,by rw [HQ1.out.2.1];exact (wl.out.qs.g9 HL1.out.2).2⟩⟩
   have rd5h:=hide rd5
   have HBr:=hide (HBB.out q1 w5 rd5.pb ⟨by rw [HQ1.out.2.2.1];exact HOK.out.len,by rw [HQ1.out.2.2.1];exact HOK.out.bytes,by rw [HQ1.out.1,HQ1.out.2.2.1];exact HL1.out.1,by rw [HQ1.out.1,HQ1.out.2.2.2.2.2];have:=HOK.out.op;have:=wl.out.qs.nx.at_;omega,by rw [HQ1.out.1,HQ1.out.2.1];have:=wl.out.qs.gr;omega,fun e=>(HQs.out.g9 e).2⟩ HQ1.out.2.2.2.1 (by rw [HQ1.out.1];have:=wl.out.qs.nx.at_;omega) HQ1.out.2.2.1)
   have HMw:Hid (meaB b p.ts.length wr=p.ts.length+1-q.at_):=hide (by rw [meaB_eq wl.out.pb,if_pos HL1.out.2])
   clear rd4 rd5 hq1 z0 z1 z2 z3 z5 z6 zf1 zf5 zf6 HIs wl
   go_wp2_with fail
   refine HBr.out.mono ?_
   rintro e w6 ⟨kind,n9,m9,ss,o,ln,cp,q2,rfl,tr⟩
   obtain ⟨xs,hxs⟩:=((wl4.out.row HL1.out.2).block (W':=w6) fun x hx hl=>(rd5h.out.pg.tr tr.rd.pg).block x hl (by have:=wl4.out.b;simp;omega)).own
   have HXS:=hide hxs
   have HTR:=hide tr
   have HKK:Hid (k≤300):=hide (by have h1:=wl4.out.kk HL1.out.2;have h2:=HL1.out.1;have h4:=HOK.out.len;omega)
   clear hxs tr HBr a0 a1 a2 a3 a5 a6 af1 af5 af6
   go_wp2_with (at_builtin;refine wpList_append_lies _ rfl _ _ 23 rfl 0 25 i0 (.agg zero5) 5 64 Tryd.underlying23 HI.out.1 HI.out.2.1 HI.out.2.2.1 HI.out.2.2.2 rfl (by decide) v k xs rfl (World.ownsRow.alloc HXS.out _) ⟨w6.heap.size,0,none⟩ 1 1 [.int .i64 kind,.int .i64 n9,.int .i64 m9,.string ss,.slice o ln cp] rfl rfl (World.news_of_block (heap_alloc_new _ _)) (by intro u hu;simp at hu;rcases hu with rfl | rfl | rfl | rfl | rfl <;> rfl) (by decide) (by unfold maxLen;have:=HKK.out;omega) (by have:=HKK.out;omega) (by simp) _ rfl ?_;intro g9 cap9 w9 k1 k2 k3 k4;have wl9:=hide (wl4.out.push HL1.out.2 HQs.out HQ1.out.2.1 (by rw [HQ1.out.1];exact Nat.le_refl _) rd5h.out.pg HTR.out HXS.out k1 k2 k3);clear k1 k2 k3 k4)
   go_roundw
   case rel=>exact ⟨_,k+1,q2,rfl,wl9⟩
   case measure=>rw [meaB_eq wl9.out.pb,HMw.out];have h1:=HTR.out.nx.at_;have h2:=HQ1.out.1;have h3:=HL1.out.1;split <;> omega
  | false =>
   rw [hB] at HIs
   clear hB
   go_wp2_with fail
   refine HIs.out.mono ?_
   rintro e w4 ⟨rfl,rd4⟩
   have wl4:=hide (wl.out.rd rd4)
   clear rd4 HIs wl z0 z1 z2 z3 z5 z6 zf1 zf5 zf6
   by_cases hk1:k=1
   ·subst hk1
    obtain ⟨g,kind,n9,m9,ss,o,ln,cp,rfl,hgl,hgc,htr⟩:=wl4.out.one rfl
    obtain ⟨t0,t1,t2,t3,t4⟩:=cells5c hgc
    have HT1:=hide htr
    clear htr hgc hgl
    have xr:=wl4.out.bR
    obtain ⟨r0',r1',r2',r3',r4'⟩:=cells5c xr
    have z0:=fz5c xr 0
    have z1:=fz5c xr 1
    have z2:=fz5c xr 2
    have z3:=fz5c xr 3
    have z4:=fz5c xr 4
    have HE:Hid ((set5 w4 W.heap.size (.int .i64 kind) (.int .i64 n9) (.int .i64 m9) (.string ss) (.slice o ln cp)).heap[W.heap.size]?=some (.cells #[.int .i64 kind,.int .i64 n9,.int .i64 m9,.string ss,.slice o ln cp] 25 (0,0))∧TrP 0 p b W #[.int .i64 kind,.int .i64 n9,.int .i64 m9,.string ss,.slice o ln cp] q (set5 w4 W.heap.size (.int .i64 kind) (.int .i64 n9) (.int .i64 m9) (.string ss) (.slice o ln cp))):=hide ⟨set5_at xr trivial (.int .i64 kind) (.int .i64 n9) (.int .i64 m9) (.string ss) (.slice o ln cp),⟨⟨wl4.out.pb.set5 (by have:=wl4.out.b;omega) _ _ _ _ _,wl4.out.pg.set5 (Nat.le_refl _) _ _ _ _ _⟩,wl4.out.qs.nx,by have:=wl4.out.qs.nx.at_;omega,wl4.out.qs.lim,wl4.out.qs.gr,fun e=>⟨(wl4.out.qs.g9 e).1,(wl4.out.qs.g9 e).2,((HT1.out e).block fun x hx _=>set5_other _ _ x _ _ _ _ _ (by omega)).mono (Nat.le_succ _)⟩⟩⟩
    unfold set5 at HE
    clear xr
    go_wp2
    generalize (((((w4.setCell ⟨W.heap.size,0,none⟩ (.int .i64 kind)).setCell ⟨W.heap.size,1,none⟩ (.int .i64 n9)).setCell ⟨W.heap.size,2,none⟩ (.int .i64 m9)).setCell ⟨W.heap.size,3,none⟩ (.string ss)).setCell ⟨W.heap.size,4,none⟩ (.slice o ln cp))=Wf at HE ⊢
    obtain ⟨u0,u1,u2,u3,u4⟩:=cells5c HE.out.1
    refine bodyPost_ret (v:=.agg #[.int .i64 kind,.int .i64 n9,.int .i64 m9,.string ss,.slice o ln cp]) ?_ rfl ⟨_,_,_,_,_,_,_,q,rfl,HE.out.2⟩
    simp [results,Tryd.results39,go_sem,u0,u1,u2,u3,u4]
   ·obtain ⟨o9,c9,rfl⟩:=wl4.out.vs
    have n1:((k:Int) == 1)=false:=by rw [beq_eq_false_iff_ne];omega
    have n2:decide ((k:Int)=1)=false:=decide_eq_false (by omega)
    have n3:(k == 1)=false:=by rw [beq_eq_false_iff_ne];exact hk1
    have n4:decide (k=1)=false:=decide_eq_false hk1
    have HND:=hide (node_any w4 8 0 0 o9 k c9)
    have HK2:Hid (2≤k):=hide (by have:=wl4.out.k1;omega)
    clear hk1
    go_wp2_with fail
    refine HND.out.mono ?_
    rintro e wn ⟨rfl,bn⟩
    have wln:=hide (wl4.out.rd ((Rd.refl wl4.out.pb).below bn))
    unfold rxV
    clear HND bn
    have xr:=wln.out.bR
    obtain ⟨r0',r1',r2',r3',r4'⟩:=cells5c xr
    have z0:=fz5c xr 0
    have z1:=fz5c xr 1
    have z2:=fz5c xr 2
    have z3:=fz5c xr 3
    have z4:=fz5c xr 4
    have HE:Hid ((set5 wn W.heap.size (.int .i64 8) (.int .i64 0) (.int .i64 0) (.string mt0) (.slice o9 k c9)).heap[W.heap.size]?=some (.cells #[.int .i64 8,.int .i64 0,.int .i64 0,.string mt0,.slice o9 k c9] 25 (0,0))∧TrP 0 p b W #[.int .i64 8,.int .i64 0,.int .i64 0,.string mt0,.slice o9 k c9] q (set5 wn W.heap.size (.int .i64 8) (.int .i64 0) (.int .i64 0) (.string mt0) (.slice o9 k c9))):=hide ⟨set5_at xr trivial (.int .i64 8) (.int .i64 0) (.int .i64 0) (.string mt0) (.slice o9 k c9),⟨⟨wln.out.pb.set5 (by have:=wln.out.b;omega) _ _ _ _ _,wln.out.pg.set5 (Nat.le_refl _) _ _ _ _ _⟩,wln.out.qs.nx,by have:=wln.out.qs.nx.at_;omega,wln.out.qs.lim,wln.out.qs.gr,fun e=>⟨(wln.out.qs.g9 e).1,(wln.out.qs.g9 e).2,(((wln.out.row e).block (fun x hx _=>set5_other _ _ x _ _ _ _ _ (by omega))).alt (by have h1:=wln.out.kk e;have h2:=(wln.out.qs.g9 e).1;have h3:=HOK.out.len;omega) HK2.out (fun x hx=>by omega)).le (by have h1:=wln.out.kk e;have h2:=HK2.out;have h3:=wln.out.qs.nx.at_;omega)⟩⟩⟩
    unfold set5 at HE
    clear xr
    go_wp2
    generalize (((((wn.setCell ⟨W.heap.size,0,none⟩ (.int .i64 8)).setCell ⟨W.heap.size,1,none⟩ (.int .i64 0)).setCell ⟨W.heap.size,2,none⟩ (.int .i64 0)).setCell ⟨W.heap.size,3,none⟩ (.string mt0)).setCell ⟨W.heap.size,4,none⟩ (.slice o9 k c9))=Wf at HE ⊢
    obtain ⟨u0,u1,u2,u3,u4⟩:=cells5c HE.out.1
    refine bodyPost_ret (v:=.agg #[.int .i64 8,.int .i64 0,.int .i64 0,.string mt0,.slice o9 k c9]) ?_ rfl ⟨_,_,_,_,_,_,_,q,rfl,HE.out.2⟩
    simp [results,Tryd.results39,go_sem,u0,u1,u2,u3,u4]
set_option maxRecDepth 20000 in
set_option maxHeartbeats 16000000 in
theorem whole_bre (p:Pq) (b:Nat) (W:World) (h:PB p b W) (hk:Okp p) (he:p.ere=false) (hB:∀ (q:Pq) (w:World),PB q b w→Okp q→q.ere=false→p.at_≤q.at_→q.ts=p.ts→Calls Tryd.prog 60 #[.pointer (some ⟨b,0,none⟩)] w (TrR 0 q b w)) :
  Calls Tryd.prog 39 #[.pointer (some ⟨b,0,none⟩)] W (TrR 0 p b W):=by
 obtain ⟨i0,hi0,hz0,hs0,hb0⟩:=info_parts info25
 have HI:=hide (And.intro hi0 (And.intro hz0 (And.intro hs0 hb0)))
 obtain ⟨W1,hW1,hbox⟩:=box_new W
 obtain ⟨hBx,hRZ⟩:=hbox b h.lt
 have HBX:=hide hBx
 have HRZ:=hide hRZ
 have HFirst:=hide (hB p W1 (h.below hBx.bel) hk he (Nat.le_refl _) rfl)
 have HBB:=hide hB
 have HOK:=hide hk
 have HER:=hide he
 clear hi0 hz0 hs0 hb0 hbox hBx hRZ h hk he hB
 go_enter Tryd.func39,Tryd.ntmps39
 (try rw [hW1])
 go_wp2_with fail
 refine HFirst.out.mono ?_
 rintro e w2 ⟨kind,n9,m9,ss,o,ln,cp,q0,rfl,tr⟩
 have wl0:=hide (wl_first HBX.out HRZ.out HOK.out tr)
 clear tr HFirst hW1
 go_wp2
 go_loopw [3] (fun v3 wr=>∃ (v:Value) (q:Pq),v=v3∧Hid (Wl p b W v 1 q wr)) (fun _ _=>0)
 case atStart=>exact ⟨_,_,rfl,wl0⟩
 case round =>
  obtain ⟨v,q,rfl,wl⟩:=hrel
  clear wl0
  obtain ⟨z0,z1,z2,z3,z5,z6,zf1,zf5,zf6⟩:=(Rd.refl wl.out.pb).can
  have z2e:q.ere=false:=by rw [wl.out.qs.nx.ere];exact HER.out
  rw [z2e] at z2
  clear z2e
  obtain ⟨g,kind,n9,m9,ss,o,ln,cp,rfl,hgl,hgc,htr⟩:=wl.out.one rfl
  obtain ⟨t0,t1,t2,t3,t4⟩:=cells5c hgc
  have HT1:=hide htr
  clear htr hgc hgl
  have xr:=wl.out.bR
  obtain ⟨r0',r1',r2',r3',r4'⟩:=cells5c xr
  have z0:=fz5c xr 0
  have z1:=fz5c xr 1
  have z2:=fz5c xr 2
  have z3:=fz5c xr 3
  have z4:=fz5c xr 4
  have HE:Hid ((set5 wr W.heap.size (.int .i64 kind) (.int .i64 n9) (.int .i64 m9) (.string ss) (.slice o ln cp)).heap[W.heap.size]?=some (.cells #[.int .i64 kind,.int .i64 n9,.int .i64 m9,.string ss,.slice o ln cp] 25 (0,0))∧TrP 0 p b W #[.int .i64 kind,.int .i64 n9,.int .i64 m9,.string ss,.slice o ln cp] q (set5 wr W.heap.size (.int .i64 kind) (.int .i64 n9) (.int .i64 m9) (.string ss) (.slice o ln cp))):=hide ⟨set5_at xr trivial (.int .i64 kind) (.int .i64 n9) (.int .i64 m9) (.string ss) (.slice o ln cp),⟨⟨wl.out.pb.set5 (by have:=wl.out.b;omega) _ _ _ _ _,wl.out.pg.set5 (Nat.le_refl _) _ _ _ _ _⟩,wl.out.qs.nx,by have:=wl.out.qs.nx.at_;omega,wl.out.qs.lim,wl.out.qs.gr,fun e=>⟨(wl.out.qs.g9 e).1,(wl.out.qs.g9 e).2,((HT1.out e).block fun x hx _=>set5_other _ _ x _ _ _ _ _ (by omega)).mono (Nat.le_succ _)⟩⟩⟩
  unfold set5 at HE
  clear xr
  go_wp2
  generalize (((((wr.setCell ⟨W.heap.size,0,none⟩ (.int .i64 kind)).setCell ⟨W.heap.size,1,none⟩ (.int .i64 n9)).setCell ⟨W.heap.size,2,none⟩ (.int .i64 m9)).setCell ⟨W.heap.size,3,none⟩ (.string ss)).setCell ⟨W.heap.size,4,none⟩ (.slice o ln cp))=Wf at HE ⊢
  obtain ⟨u0,u1,u2,u3,u4⟩:=cells5c HE.out.1
  refine bodyPost_ret (v:=.agg #[.int .i64 kind,.int .i64 n9,.int .i64 m9,.string ss,.slice o ln cp]) ?_ rfl ⟨_,_,_,_,_,_,_,q,rfl,HE.out.2⟩
  simp [results,Tryd.results39,go_sem,u0,u1,u2,u3,u4]
theorem whole_any:∀ n,WholeOf n
 | n=>by
  intro p b W h hk hn
  have hw:∀ q:Pq,p.at_≤q.at_→q.ts=p.ts→q.at_<q.ts.length→∃ m,WholeOf m∧q.ts.length-q.at_≤m+1:=fun q h1 h2 h3=>by
   rw [h2] at h3 ⊢
   have:n-1<n:=by omega
   exact ⟨n-1,whole_any (n-1),by omega⟩
  cases he:p.ere with
  | true=>exact whole_ere p b W h hk he fun q w hq ho hqe h1 h2=>branch_ere q b w hq ho hqe (hw q h1 h2)
  | false=>exact whole_bre p b W h hk he fun q w hq ho hqe h1 h2=>branch_bre q b w hq ho hqe (hw q h1 h2)
termination_by n=>n
end Go.Proofs.YtfhimmnoipfiaaaDoor.eng
