import Derived.Test.YtfhimmnoipfiaaaDoorQ11
import Derived.Test.YtfhimmnoipfiaaaDoorULaw3
import Derived.Test.YtfhimmnoipfiaaaDoorUChn
import Derived.Deep.QuietTactic
import Derived.BigQuiet
namespace Go.Proofs.YtfhimmnoipfiaaaDoor.eng
open Go.ChangeShapes Go.WideShapes Go.ChangeAt Go.RowKit
open bytes places sets tz rex
set_option linter.unusedVariables false
theorem chain_at (a:B2) (L:Nat) {t i j e:Nat} (h:(allM a L (L+2) (-1) 0)[t]?=some (i,j)) (he:(t=0∧e=0)∨∃ i' t',t=t'+1∧(allM a L (L+2) (-1) 0)[t']?=some (i',e)):i≤j∧j≤L∧e≤i∧(0<t→j≠e):=by
 obtain ⟨h1,h2,h3,h4,h5⟩:=allM_at a L (L+2) (-1) 0 t i j h
 rcases he with ⟨rfl,rfl⟩|⟨i',t',rfl,h6⟩
 ·exact ⟨h1,h2,h3,fun h=>by omega⟩
 ·obtain ⟨k1,k2⟩:=h5 t' i' e rfl h6
  exact ⟨h1,h2,k1,fun _ hj=>k2 ⟨by omega,by omega⟩⟩
theorem allM_len (a:B2) (L:Nat):∀ (f:Nat) (last:Int) (p:Nat),(allM a L f last p).length≤f
 | 0,last,p=>by simp [allM]
 | f+1,last,p=>by
  rw [allM]
  cases hf:firstB a L p with
  | none=>simp
  | some x =>
   obtain ⟨i,j⟩:=x
   have:=allM_len a L f (j:Int) (if i=j then j+1 else j)
   simp only [List.length_append]
   split <;> simp <;> omega
def L4 (W:World) (a1 a2:Option Addr) (N:Nat) (S:Nat→Nat→List Int) (RES:List (Nat×Nat)):Prop :=
 ∀ t i j,RES[t]?=some (i,j)→∃ g1 g2 q1 q2 d1 d2,a1=some ⟨g1,0,none⟩∧a2=some ⟨g2,0,none⟩∧W.cell? ⟨g1,t,none⟩=some (.slice (some ⟨q1,0,none⟩) N d1)∧W.cell? ⟨g2,t,none⟩=some (.slice (some ⟨q2,0,none⟩) N d2)∧Spn W q1 (S i j)∧Spn W q2 (S i j)
theorem L4.drawn {W W':World} {a1 a2:Option Addr} {N:Nat} {S:Nat→Nat→List Int} {RES:List (Nat×Nat)} (h:L4 W a1 a2 N S RES) (hd:Drawn W W'):L4 W' a1 a2 N S RES:=by
 obtain ⟨n,rfl⟩:=hd
 intro t i j hij
 obtain ⟨g1,g2,q1,q2,d1,d2,y1,y2,y3,y4,y5,y6⟩:=h t i j hij
 exact ⟨g1,g2,q1,q2,d1,d2,y1,y2,y3,y4,y5.of_block rfl,y6.of_block rfl⟩
theorem owns_shape {W:World} {base n:Nat} {v:Value} {rs:List Rw} (h:W.ownsRow base 28 1 v rs.length (rs.map (Rw.v n))):∃ a c,v=.slice a rs.length c∧∀ t,∀ r,rs[t]?=some r→∃ g,a=some ⟨g,0,none⟩∧W.cell? ⟨g,t,none⟩=some (r.v n):=by
 rcases h.2 with ⟨h1,h2⟩|⟨g,cap,cur,h1,h2,h3,h4,h5,h6,h7⟩
 ·refine ⟨none,0,by rw [h1,h2],fun t r hr => ?_⟩
  have:=(List.getElem?_eq_some_iff.1 hr).1
  omega
 ·refine ⟨_,_,h1,fun t r hr=>⟨g,rfl,?_⟩⟩
  have ht:=(List.getElem?_eq_some_iff.1 hr).1
  have e:(rs.map (Rw.v n))[t]?=some (r.v n):=by rw [List.getElem?_map,hr];rfl
  rw [←h7,List.getElem?_take,if_pos (by omega)] at e
  simp only [World.cell?,h3]
  simpa using e
theorem l4_of {W:World} {b1 b2:Nat} {ts:List Int} {T:Tr} {v1 v2:Value} {rs1 rs2:List Rw} {RES:List (Nat×Nat)}
  (e1:rs1.map Rw.ij=RES) (e2:rs2.map Rw.ij=RES) (o1:W.ownsRow b1 28 1 v1 rs1.length (rs1.map (Rw.v (ngT T)))) (o2:W.ownsRow b2 28 1 v2 rs2.length (rs2.map (Rw.v (ngT T))))
  (s1:∀ r∈rs1,Spn W r.g (sp ts T r.i r.j (outs0 r.i r.j (ngT T)))) (s2:∀ r∈rs2,Spn W r.g (sp ts T r.i r.j (outs0 r.i r.j (ngT T)))) :
  ∃ a1 c1 a2 c2,v1=.slice a1 RES.length c1∧v2=.slice a2 RES.length c2∧L4 W a1 a2 (2*ngT T+2) (fun i j=>sp ts T i j (outs0 i j (ngT T))) RES:=by
 obtain ⟨a1,c1,h1,k1⟩:=owns_shape o1
 obtain ⟨a2,c2,h2,k2⟩:=owns_shape o2
 have l1:rs1.length=RES.length:=by rw [←e1,List.length_map]
 have l2:rs2.length=RES.length:=by rw [←e2,List.length_map]
 refine ⟨a1,c1,a2,c2,by rw [h1,l1],by rw [h2,l2],fun t i j h => ?_⟩
 have ht:=(List.getElem?_eq_some_iff.1 h).1
 have q1:rs1[t]?=some (rs1[t]'(by omega)):=List.getElem?_eq_getElem _
 have q2:rs2[t]?=some (rs2[t]'(by omega)):=List.getElem?_eq_getElem _
 generalize hr1:rs1[t]'(by omega)=r1 at q1
 generalize hr2:rs2[t]'(by omega)=r2 at q2
 have m1:r1.ij=(i,j):=by
  rw [←e1,List.getElem?_map,q1] at h
  simpa using h
 have m2:r2.ij=(i,j):=by
  rw [←e2,List.getElem?_map,q2] at h
  simpa using h
 obtain ⟨g1,f1,x1⟩:=k1 t r1 q1
 obtain ⟨g2,f2,x2⟩:=k2 t r2 q2
 have y1:=s1 r1 (List.mem_of_getElem? q1)
 have y2:=s2 r2 (List.mem_of_getElem? q2)
 simp only [Rw.ij,Prod.mk.injEq] at m1 m2
 rw [m1.1,m1.2] at y1
 rw [m2.1,m2.2] at y2
 exact ⟨g1,g2,r1.g,r2.g,r1.cap,r2.cap,f1,f2,x1,x2,y1,y2⟩
def Grp (S:List Int) (i j k:Nat) (a b:Int):Prop:=S[k]?=some a∧S[k+1]?=some b∧(a = -1∨(0≤a∧(i:Int)≤a∧a≤b∧b≤(j:Int)))
theorem grp_of (ts:List Int) {T:Tr} (h:NumT 0 T) {i j q:Nat} (hij:i≤j) (hq:q<ngT T+1):∃ a b,Grp (sp ts T i j (outs0 i j (ngT T))) i j (2*q) a b:=by
 have hl:(sp ts T i j (outs0 i j (ngT T))).length=2*ngT T+2:=by rw [sp_len ts h hij];simp [outs0]
 have hw:=sp_within ts h (n:=ngT T) hij
 generalize sp ts T i j (outs0 i j (ngT T))=S at *
 have e1:S[2*q]?=some (S[2*q]'(by omega)):=List.getElem?_eq_getElem _
 have e2:S[2*q+1]?=some (S[2*q+1]'(by omega)):=List.getElem?_eq_getElem _
 refine ⟨_,_,e1,e2,?_⟩
 rcases hw q _ _ e1 e2 with h1 | h1
 ·exact .inl h1.1
 ·exact .inr ⟨by omega,h1⟩
structure One (W:World) (a1 a2:Option Addr) (N L t e:Nat) (i j g1 g2 q1 q2 d1 d2:Nat) (S:List Int):Prop where
 ea1:a1=some ⟨g1,0,none⟩
 ea2:a2=some ⟨g2,0,none⟩
 x1:W.cell? ⟨g1,t,none⟩=some (.slice (some ⟨q1,0,none⟩) N d1)
 x2:W.cell? ⟨g2,t,none⟩=some (.slice (some ⟨q2,0,none⟩) N d2)
 s1:Spn W q1 S
 s2:Spn W q2 S
 len:S.length=N
 m0:S[0]?=some (i:Int)
 m1:S[1]?=some (j:Int)
 ij:i≤j
 jl:j≤L
 ei:e≤i
 je:0<t→j≠e
 grp:∀ q,2*q<N→∃ a b,Grp S i j (2*q) a b
set_option maxRecDepth 20000 in
set_option maxHeartbeats 16000000 in
theorem law4_any (w:World) (a1 a2:Option Addr) (n1 k1 n2 k2:Nat) (h1:n1≤1048576) (h2:n2≤1048576) (ht:TabIn w) (hz:0<w.heap.size)
  (hrx:Calls Tryd.prog 5 #[.slice a1 n1 k1] w (RxDrawn w)) (hwo:∀ W,Below w.heap.size w W→Calls Tryd.prog 6 #[.slice a2 n2 k2] W (WoDrawn W)) :
  Calls Tryd.prog 4 #[.slice a1 n1 k1,.slice a2 n2 k2] w fun e w'=>e=.returned (.bool true)∧Below w.heap.size w w':=by
 have l1:¬ (1048576:Int)<(n1:Int):=by omega
 have l2:¬ (1048576:Int)<(n2:Int):=by omega
 have H1:=hide hrx
 have H2:=hide hwo
 have H0:=hide (And.intro ht hz)
 clear hrx hwo ht hz
 go_enter Tryd.func4,Tryd.ntmps4
 go_wp2_with fail
 refine H1.out.mono ?_
 rintro e w1 ⟨cs,T,M,rfl,hT,hR,hIn,hb1⟩
 obtain ⟨kind,n9,m9,ss,o,ln,cp,rfl,hN⟩:=nd_of hR
 obtain ⟨Wb,hWb⟩:∃ Wb,w1.alloc (.cells (rxV kind n9 m9 ss (.slice o ln cp)) 25)=Wb:=⟨_,rfl⟩
 have hBb:Below w1.heap.size w1 Wb:=by rw [←hWb];exact (Below.refl _ _).alloc (Nat.le_refl _) _
 have hbx:Wb.heap[w1.heap.size]?=some (.cells (rxV kind n9 m9 ss (.slice o ln cp)) 25 (0,0)):=by rw [←hWb];exact heap_alloc_new w1 _
 have hzb:Wb.heap.size=w1.heap.size+1:=by rw [←hWb];simp
 have hall:∀ W,Below Wb.heap.size Wb W→Below w.heap.size w W∧In M W∧TabIn W∧0<W.heap.size∧W.heap[w1.heap.size]?=some (.cells (rxV kind n9 m9 ss (.slice o ln cp)) 25 (0,0)):=fun W h=>by
  have hx:=(hb1.trans (hBb.mono hb1.size)).trans (h.mono (by have:=hb1.size;have:=hBb.size;omega))
  exact ⟨hx,(hIn.below hBb).below h,tab_below H0.out.1 H0.out.2 hx,Nat.lt_of_lt_of_le H0.out.2 hx.size,(h.block _ (by omega)).trans hbx⟩
 have HW:=hide (H2.out Wb (hall Wb (Below.refl _ _)).1)
 have HALL:=hide hall
 have HT:=hide (And.intro hT hR)
 unfold rxV at hWb ⊢
 clear H1 H2 hIn hb1 hN hBb hbx hzb hall hT hR
 go_wp2_with fail
 (try rw [hWb])
 clear hWb
 refine HW.out.mono ?_
 rintro e w2 ⟨ts,rfl,hl,hts,hb2⟩
 have hng:=HT.out.1.ng
 have HNum:=hide HT.out.1.num
 have HMa:Hid (∀ W,Below Wb.heap.size Wb W→Calls Tryd.prog 13 #[.agg (rxV kind n9 m9 ss (.slice o ln cp)),.string (strOfNums ts)] W fun e w'=>AllHit ts T (allM (rex.mt ts T) ts.length (ts.length+2) (-1) 0) W w' e):=hide fun W h=>MatchAll_top ts hl hts T HT.out.1 M W kind n9 m9 ss o ln cp (HALL.out W h).2.1 (HALL.out W h).2.2.1 (HALL.out W h).2.2.2.1 HT.out.2
 have HMs:Hid (∀ W,Below Wb.heap.size Wb W→Calls Tryd.prog 14 #[.agg (rxV kind n9 m9 ss (.slice o ln cp)),.string (strOfNums ts)] W fun e w'=>∃ (v:Value) (rs:List Rw),e=.returned (.tuple #[v,.int .i64 0])∧rs.map Rw.ij=allM (rex.mt ts T) ts.length (ts.length+2) (-1) 0∧AS ts T W rs v w'):=hide fun W h=>MatchAll_spec ts hl hts HT.out.1 HT.out.2 W (HALL.out W h).2.1
 have HB:Hid (∀ W,Below Wb.heap.size Wb W→Below w.heap.size w W∧W.heap[w1.heap.size]?=some (.cells #[.int .i64 kind,.int .i64 n9,.int .i64 m9,.string ss,.slice o ln cp] 25 (0,0))):=hide fun W h=>⟨(HALL.out W h).1,(HALL.out W h).2.2.2.2⟩
 have HCH:Hid (∀ t i j e,(allM (rex.mt ts T) ts.length (ts.length+2) (-1) 0)[t]?=some (i,j)→((t=0∧e=0)∨∃ i' t',t=t'+1∧(allM (rex.mt ts T) ts.length (ts.length+2) (-1) 0)[t']?=some (i',e))→i≤j∧j≤ts.length∧e≤i∧(0<t→j≠e)):=hide fun t i j e h h'=>chain_at _ _ h h'
 obtain ⟨RES,hRES⟩:∃ RES,RES=allM (rex.mt ts T) ts.length (ts.length+2) (-1) 0:=⟨_,rfl⟩
 rw [←hRES] at HMa HMs HCH
 have HRN:Hid (RES.length≤ts.length+2):=hide (by rw [hRES];exact allM_len _ _ _ _ _)
 have hS:=strOfNums_size ts
 generalize strOfNums ts=SS at *
 obtain ⟨q0,q1,q2,q3,q4⟩:=cells5 (HB.out w2 hb2).2
 have G2:=hide hb2
 unfold rxV at HMa HMs
 clear HW HALL HT H0 hts hb2 hRES
 go_wp2_with fail
 refine (HMa.out w2 G2.out).mono ?_
 rintro e w3 ⟨v1,rs1,rfl,e1,f3,o1,s1⟩
 have G3:=hide (G2.out.trans (f3.mono G2.out.size))
 have HO1:=hide (And.intro e1 (And.intro o1 (fun r hr=>(s1 r hr).2.2)))
 obtain ⟨r0,r1,r2,r3,r4⟩:=cells5 (HB.out w3 G3.out).2
 clear f3 q0 q1 q2 q3 q4 e1 o1 s1 HMa
 go_wp2_with fail
 refine (HMs.out w3 G3.out).mono ?_
 rintro e w4 ⟨v2,rs2,rfl,e2,hA⟩
 have G4:=hide (G3.out.trans (hA.bel.mono G3.out.size))
 obtain ⟨a1,c1,a2,c2,rfl,rfl,hL4⟩:=l4_of HO1.out.1 e2 (ownsRow_of_block HO1.out.2.1 fun g hg=>hA.bel.block g (ownsRow_lt HO1.out.2.1 hg)) hA.own (fun r hr=>(HO1.out.2.2 r hr).of_block (hA.bel.block _ (HO1.out.2.2 r hr).lt)) (fun r hr=>(hA.rows r hr).2.2)
 have HE:Hid (∀ W,Drawn w4 W→Below w.heap.size w W):=hide fun W hd=>by
  obtain ⟨n,rfl⟩:=hd
  exact (HB.out _ (below_drewN G4.out n)).1
 obtain ⟨N,hN⟩:∃ N,N=2*ngT T+2:=⟨_,rfl⟩
 obtain ⟨L,hL⟩:∃ L,L=ts.length:=⟨_,rfl⟩
 have HOne:Hid (∀ t i j e W,Drawn w4 W→RES[t]?=some (i,j)→((t=0∧e=0)∨∃ i' t',t=t'+1∧RES[t']?=some (i',e))→∃ g1 g2 q1 q2 d1 d2 S,One W a1 a2 N L t e i j g1 g2 q1 q2 d1 d2 S):=by
  refine hide fun t i j e W hd h h' => ?_
  obtain ⟨g1,g2,q1,q2,d1,d2,y1,y2,y3,y4,y5,y6⟩:=(hL4.drawn hd) t i j h
  obtain ⟨z1,z2,z3,z4⟩:=HCH.out t i j e h h'
  refine ⟨g1,g2,q1,q2,d1,d2,_,y1,y2,by rw [hN];exact y3,by rw [hN];exact y4,y5,y6,?_,?_,?_,z1,by omega,z3,z4,fun q hq=>grp_of ts HNum.out z1 (by omega)⟩
  ·rw [sp_len ts HNum.out z1,hN];simp [outs0]
  ·rw [sp_low ts HNum.out z1 _ (by omega)];rfl
  ·rw [sp_low ts HNum.out z1 _ (by omega)];rfl
 have hN2:2≤N:=by omega
 have hnr:RES.length≤24:=by have:=HRN.out;omega
 have hN1:N≤100:=by omega
 rw [←hL] at hS
 obtain ⟨n,hn⟩:∃ n,n=RES.length:=⟨_,rfl⟩
 rw [←hn]
 have hnr2:n≤24:=by omega
 clear hnr
 have HRL:=hide hn
 clear r0 r1 r2 r3 r4 hL4 hA e2 HO1 HMs HCH HB HNum hng hl hN hL hn
 go_wp2
 go_loopw [11,12,13,14] (fun v11 v12 _ _ wr=>∃ (t e:Nat),t≤n∧v11=.int .i64 (e:Int)∧v12=.int .i64 (t:Int)∧Hid (Drawn w4 wr∧((t=0∧e=0)∨∃ i' t',t=t'+1∧RES[t']?=some (i',e)))) (fun _ v12 _ _ _=>n-(intOf v12).toNat)
 case atStart=>exact ⟨0,0,by omega,rfl,rfl,hide ⟨⟨0,rfl⟩,.inl ⟨rfl,rfl⟩⟩⟩
 case round =>
  obtain ⟨t,e,htn,rfl,rfl,HX⟩:=hrel
  by_cases htl:t<n
  ·have hti:(t:Int)<(n:Int):=by omega
   have htw:IntKind.i64.wrap ((t:Int)+1)=((t+1:Nat):Int):=by rw [IntKind.wrap_i64];omega
   obtain ⟨ij,hij⟩:∃ ij,RES[t]?=some ij:=⟨_,List.getElem?_eq_getElem (by rw [←HRL.out];exact htl)⟩
   obtain ⟨i,j⟩:=ij
   obtain ⟨g1,g2,q1,q2,d1,d2,S,hO⟩:=HOne.out t i j e wr HX.out.1 hij HX.out.2
   obtain rfl:=hO.ea1
   obtain rfl:=hO.ea2
   have x1:=hO.x1
   have x2:=hO.x2
   have hje:=hO.je
   have hij1:=hO.ij
   have hei:=hO.ei
   have hjl:=hO.jl
   have HSQ:Hid (∀ m,Calls Tryd.prog 11 #[.slice (some ⟨q1,0,none⟩) N d1,.slice (some ⟨q2,0,none⟩) N d2] (wr.drewN m) fun e w'=>e=.returned (.bool true)∧∃ k,w'=(wr.drewN m).drewN k):=hide fun m=>same_quiet (wr.drewN m) q1 q2 d1 d2 N S (hO.s1.of_block rfl) (hO.s2.of_block rfl) hO.len hN1
   have m0:wr.cell? ⟨q1,0,none⟩=some (.int .i64 (i:Int)):=hO.s1.cell hO.m0
   have m1:wr.cell? ⟨q1,1,none⟩=some (.int .i64 (j:Int)):=hO.s1.cell hO.m1
   have HGr:Hid (∀ q,2*q<N→∃ a b,wr.cell? ⟨q1,2*q,none⟩=some (.int .i64 a)∧wr.cell? ⟨q1,2*q+1,none⟩=some (.int .i64 b)∧(a = -1∨(0≤a∧(i:Int)≤a∧a≤b∧b≤(j:Int)))):=hide fun q hq=>by
    obtain ⟨a,b,y1,y2,y3⟩:=hO.grp q hq
    exact ⟨a,b,hO.s1.cell y1,hO.s1.cell y2,y3⟩
   have HM:Hid (∀ (W:World) (a:Addr),Drawn w4 W→W.cell? a=wr.cell? a):=hide fun W a hd=>by
    obtain ⟨n1,e1⟩:=HX.out.1
    obtain ⟨n2,e2⟩:=hd
    rw [e1,e2];rfl
   have HMM:Hid (∀ W,Drawn w4 W→W.cell? ⟨q1,0,none⟩=some (.int .i64 (i:Int))∧W.cell? ⟨q1,1,none⟩=some (.int .i64 (j:Int))):=hide fun W hd=>⟨(HM.out W _ hd).trans m0,(HM.out W _ hd).trans m1⟩
   have HGG:Hid (∀ W q,Drawn w4 W→2*q<N→∃ a b,W.cell? ⟨q1,2*q,none⟩=some (.int .i64 a)∧W.cell? ⟨q1,2*q+1,none⟩=some (.int .i64 b)∧(a = -1∨(0≤a∧(i:Int)≤a∧a≤b∧b≤(j:Int)))):=hide fun W q hd hq=>by
    obtain ⟨a,b,y1,y2,y3⟩:=HGr.out q hq
    exact ⟨a,b,(HM.out W _ hd).trans y1,(HM.out W _ hd).trans y2,y3⟩
   clear HM HGr
   have HEv:Hid (N % 2=0):=hide (by
    have hG:=hO.grp
    have hl:=hO.len
    by_cases hh:N % 2=0
    ·exact hh
    ·obtain ⟨a,b,y1,y2,y3⟩:=hG (N / 2) (by omega)
     have:=(List.getElem?_eq_some_iff.1 y2).1
     omega)
   have HIJ:=hide hij
   have b1:decide ((i:Int)<(e:Int))=false:=by simp;omega
   have b2:decide ((j:Int)<(i:Int))=false:=by simp;omega
   have b3:decide ((SS.size:Int)<(j:Int))=false:=by simp;omega
   have b1':decide (i<e)=false:=decide_eq_false (by omega)
   have b2':decide (j<i)=false:=decide_eq_false (by omega)
   have b3':decide (L<j)=false:=decide_eq_false (by omega)
   have p0:(0:Int)<(N:Int):=by omega
   have p1:(1:Int)<(N:Int):=by omega
   have p2:0<N:=by omega
   have p3:1<N:=by omega
   clear hO hij
   have HTT:Hid (t=0∨(0<t∧j≠e)):=hide (by omega)
   rcases HTT.out with h0 | ⟨ht0,hne⟩
   ·have b4:decide ((0:Int)<(t:Int))=false:=by simp;omega
    have b4'':decide (0<t)=false:=by simp;omega
    clear HTT HOne h0
    go_wp2
    go_quiet ((go_at_call 11;exact Calls.quiet_of (HSQ.out _)))
    go_wp2
    go_loopw [14] (fun v14 wr=>∃ k:Nat,k≤N∧v14=.int .i64 (k:Int)∧Hid (Drawn w4 wr∧k % 2=0)) (fun v14 _=>N-(intOf v14).toNat)
    case atStart=>exact ⟨2,by omega,rfl,hide ⟨HX.out.1.trans ⟨_,rfl⟩,rfl⟩⟩
    case round =>
     obtain ⟨k,hkn,rfl,HY⟩:=hrel
     obtain ⟨m0',m1'⟩:=HMM.out _ HY.out.1
     by_cases hkl:k<N
     ·obtain ⟨a,b,y1,y2,y3⟩:=HGG.out _ (k / 2) HY.out.1 (by omega)
      have hkk:2*(k / 2)=k:=by have:=HY.out.2;omega
      rw [hkk] at y1 y2
      have hk1:k+1<N:=by have:=HEv.out;have:=HY.out.2;omega
      have hki:(k:Int)<(N:Int):=by omega
      have hki1:((k+1:Nat):Int)<(N:Int):=by omega
      have hkw:IntKind.i64.wrap ((k:Int)+1)=((k+1:Nat):Int):=by rw [IntKind.wrap_i64];omega
      have hkw2:IntKind.i64.wrap ((k:Int)+2)=((k+2:Nat):Int):=by rw [IntKind.wrap_i64];omega
      clear hkk
      have c6:k<N:=hkl
      have hk1':(k:Int)+1<(N:Int):=by omega
      rcases y3 with rfl | ⟨a0,a1,a2,a3⟩
      ·go_wp2
       go_quiet (fail)
       go_wp2
       go_roundw
       case rel=>exact ⟨k+2,by omega,by simp,hide ⟨HY.out.1.trans ⟨_,rfl⟩,by have:=HY.out.2;omega⟩⟩
       case measure=>simp [intOf];omega
      ·have b6:decide (a<(i:Int))=false:=by simp;omega
       have b9:(0:Int)≤a:=a0
       have b7:decide ((j:Int)<b)=false:=by simp;omega
       have b8:decide (b<a)=false:=by simp;omega
       go_wp2
       go_quiet (fail)
       go_wp2
       go_roundw
       case rel=>exact ⟨k+2,by omega,by simp,hide ⟨HY.out.1.trans ⟨_,rfl⟩,by have:=HY.out.2;omega⟩⟩
       case measure=>simp [intOf];omega
     ·have hki:¬ (k:Int)<(N:Int):=by omega
      go_wp2
      go_roundw
      case rel=>exact ⟨t+1,j,by omega,rfl,by simp,hide ⟨HY.out.1,.inr ⟨i,t,rfl,HIJ.out⟩⟩⟩
      case measure=>simp [intOf];omega
   ·have b4:(0:Int)<(t:Int):=by omega
    have b4':decide ((0:Int)<(t:Int))=true:=by simp;omega
    have b4'':decide (0<t)=true:=by simp;omega
    have b5:((j:Int) == (e:Int))=false:=by simp;omega
    have b5':decide ((j:Int)=(e:Int))=false:=by simp;omega
    have b5'':decide (j=e)=false:=by simp;omega
    clear HTT HOne hje hne
    go_wp2
    go_quiet ((go_at_call 11;exact Calls.quiet_of (HSQ.out _)))
    go_wp2
    go_loopw [14] (fun v14 wr=>∃ k:Nat,k≤N∧v14=.int .i64 (k:Int)∧Hid (Drawn w4 wr∧k % 2=0)) (fun v14 _=>N-(intOf v14).toNat)
    case atStart=>exact ⟨2,by omega,rfl,hide ⟨HX.out.1.trans ⟨_,rfl⟩,rfl⟩⟩
    case round =>
     obtain ⟨k,hkn,rfl,HY⟩:=hrel
     obtain ⟨m0',m1'⟩:=HMM.out _ HY.out.1
     by_cases hkl:k<N
     ·obtain ⟨a,b,y1,y2,y3⟩:=HGG.out _ (k / 2) HY.out.1 (by omega)
      have hkk:2*(k / 2)=k:=by have:=HY.out.2;omega
      rw [hkk] at y1 y2
      have hk1:k+1<N:=by have:=HEv.out;have:=HY.out.2;omega
      have hki:(k:Int)<(N:Int):=by omega
      have hki1:((k+1:Nat):Int)<(N:Int):=by omega
      have hkw:IntKind.i64.wrap ((k:Int)+1)=((k+1:Nat):Int):=by rw [IntKind.wrap_i64];omega
      have hkw2:IntKind.i64.wrap ((k:Int)+2)=((k+2:Nat):Int):=by rw [IntKind.wrap_i64];omega
      clear hkk
      have c6:k<N:=hkl
      have hk1':(k:Int)+1<(N:Int):=by omega
      rcases y3 with rfl | ⟨a0,a1,a2,a3⟩
      ·go_wp2
       go_quiet (fail)
       go_wp2
       go_roundw
       case rel=>exact ⟨k+2,by omega,by simp,hide ⟨HY.out.1.trans ⟨_,rfl⟩,by have:=HY.out.2;omega⟩⟩
       case measure=>simp [intOf];omega
      ·have b6:decide (a<(i:Int))=false:=by simp;omega
       have b9:(0:Int)≤a:=a0
       have b7:decide ((j:Int)<b)=false:=by simp;omega
       have b8:decide (b<a)=false:=by simp;omega
       go_wp2
       go_quiet (fail)
       go_wp2
       go_roundw
       case rel=>exact ⟨k+2,by omega,by simp,hide ⟨HY.out.1.trans ⟨_,rfl⟩,by have:=HY.out.2;omega⟩⟩
       case measure=>simp [intOf];omega
     ·have hki:¬ (k:Int)<(N:Int):=by omega
      go_wp2
      go_roundw
      case rel=>exact ⟨t+1,j,by omega,rfl,by simp,hide ⟨HY.out.1,.inr ⟨i,t,rfl,HIJ.out⟩⟩⟩
      case measure=>simp [intOf];omega
  ·have hti:¬ (t:Int)<(n:Int):=by omega
   have HEE:=hide (HE.out _ HX.out.1)
   go_wp2
   go_ret
   exact ⟨rfl,HEE.out⟩
end Go.Proofs.YtfhimmnoipfiaaaDoor.eng
