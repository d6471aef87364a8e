import Derived.Test.YtcfdmbkiinjmaaaGreatZ01
import Derived.LoopTactic
import Derived.BigRegion
import Derived.OwnWalk
import Derived.Deep.AppendLies
set_option linter.unusedVariables false
open Go.ChangeShapes Go.WideShapes Go.ChangeAt Go.RowKit
namespace Go.Proofs.YtcfdmbkiinjmaaaGreat.mk3
open mem grp shape mk1 mk2
theorem next {A:World} {a b:List En} (h:Ok A (a++b)) (hn:shape.Nd (a++b)) (Q:Int):Ok (marked A a Q) b∧shape.Nd b:=⟨Ok.marked h.right a Q hn.apart,hn.right⟩
theorem headed {A:World} {b i:Nat} {v:Value} {es:List En} (h:Ok A (.head b i v::es)) (hn:shape.Nd (.head b i v::es)):A.cell? ⟨b,i,none⟩=some v∧Ok A es∧shape.Nd es :=
 ⟨head_has h (by simp),fun e he=>h e (List.mem_cons_of_mem _ he),Nd.right (a:=[.head b i v]) hn⟩
structure Ms where
 ao:Option Addr
 b:Nat
 o:Nat
 cap:Nat
 xs:List Rs
structure Pe where
 log:Rs
 votes:Sl
 next:Sl
 mat:Sl
structure Ps where
 ao:Option Addr
 b:Nat
 o:Nat
 cap:Nat
 xs:List Pe
def zP:Pe:=⟨zR,zS,zS,zS⟩
def Pe.Good (p:Pe):Prop:=p.log.Good∧p.votes.Good∧p.next.Good∧p.mat.Good
def msgE (b o:Nat) (r:Rs):List En:=.leaf b o .int::.leaf b (o+1) .int::.leaf b (o+2) .int::.leaf b (o+3) .int::.leaf b (o+4) .int::.leaf b (o+5) .int::.leaf b (o+6) .int::.leaf b (o+7) .bool::.head b (o+8) (.slice r.ao r.xs.length r.cap)::r.es
def peerE (b o:Nat) (p:Pe):List En:=.leaf b o .bool::.leaf b (o+1) .int::.leaf b (o+2) .int::.leaf b (o+3) .int::.leaf b (o+4) .int::.head b (o+5) (.slice p.log.ao p.log.xs.length p.log.cap)::(p.log.es++.head b (o+6) (.slice p.votes.ao p.votes.n p.votes.cap)::(plain p.votes.b .bool p.votes.o p.votes.n++.head b (o+7) (.slice p.next.ao p.next.n p.next.cap)::(plain p.next.b .int p.next.o p.next.n++.head b (o+8) (.slice p.mat.ao p.mat.n p.mat.cap)::plain p.mat.b .int p.mat.o p.mat.n)))
def Ms.f (m:Ms) (j:Nat):List En:=msgE m.b (m.o+j*9) (m.xs.getD j zR)
def Ms.es (m:Ms):List En:=rowE m.f m.xs.length
def Ms.Good (m:Ms):Prop:=(0<m.xs.length→m.ao=some ⟨m.b,m.o,none⟩)∧(m.xs.length≤m.cap∧m.cap≤maxLen)∧∀ x∈m.xs,x.Good
def Ps.f (m:Ps) (j:Nat):List En:=peerE m.b (m.o+j*9) (m.xs.getD j zP)
def Ps.es (m:Ps):List En:=rowE m.f m.xs.length
def Ps.Good (m:Ps):Prop:=(0<m.xs.length→m.ao=some ⟨m.b,m.o,none⟩)∧(m.xs.length≤m.cap∧m.cap≤maxLen)∧∀ x∈m.xs,x.Good
theorem msgE_count (b o:Nat) (r:Rs):count (msgE b o r)=count r.es+8:=by simp [msgE,count]
theorem peerE_count (b o:Nat) (p:Pe):count (peerE b o p)=5+count p.log.es+p.votes.n+p.next.n+p.mat.n:=by
 simp [peerE,count,count_append,plain_count]
 omega
theorem msgE_mark {A:World} {b o:Nat} {s:Rs} {Q:Int} (hs:s.Good) (h:Ok A (msgE b o s)) (hn:shape.Nd (msgE b o s)) (h0:0≤Q) (hq:Q+1+1+1+1+1+1+1+1+count s.es≤4611686018427387904) :
  (((∃ v,A.cell? ⟨b,o,none⟩=some v)∧A.frozen? ⟨b,o,none⟩=false)∧((∃ v,A.cell? ⟨b,o+1,none⟩=some v)∧A.frozen? ⟨b,o+1,none⟩=false)∧((∃ v,A.cell? ⟨b,o+2,none⟩=some v)∧A.frozen? ⟨b,o+2,none⟩=false)∧((∃ v,A.cell? ⟨b,o+3,none⟩=some v)∧A.frozen? ⟨b,o+3,none⟩=false)∧((∃ v,A.cell? ⟨b,o+4,none⟩=some v)∧A.frozen? ⟨b,o+4,none⟩=false)∧((∃ v,A.cell? ⟨b,o+5,none⟩=some v)∧A.frozen? ⟨b,o+5,none⟩=false)∧((∃ v,A.cell? ⟨b,o+6,none⟩=some v)∧A.frozen? ⟨b,o+6,none⟩=false)∧((∃ v,A.cell? ⟨b,o+7,none⟩=some v)∧A.frozen? ⟨b,o+7,none⟩=false))∧A.cell? ⟨b,o+8,none⟩=some (.slice s.ao s.xs.length s.cap) ∧
  Hid (Calls Tryz.prog 31 #[.slice s.ao s.xs.length s.cap,.int .i64 (Q+1+1+1+1+1+1+1+1)] ((((((((A.setCell ⟨b,o,none⟩ (.int .i64 (Q))).setCell ⟨b,o+1,none⟩ (.int .i64 (Q+1))).setCell ⟨b,o+2,none⟩ (.int .i64 (Q+1+1))).setCell ⟨b,o+3,none⟩ (.int .i64 (Q+1+1+1))).setCell ⟨b,o+4,none⟩ (.int .i64 (Q+1+1+1+1))).setCell ⟨b,o+5,none⟩ (.int .i64 (Q+1+1+1+1+1))).setCell ⟨b,o+6,none⟩ (.int .i64 (Q+1+1+1+1+1+1))).setCell ⟨b,o+7,none⟩ (.bool ((Q+1+1+1+1+1+1+1) % 3 == 0))) fun e w'=>e=.returned (.int .i64 (Q+1+1+1+1+1+1+1+1+count s.es))∧w'=marked A (msgE b o s) Q):=by
 refine ⟨⟨leaf_has (k:=.int) h (by simp [msgE]),leaf_has (k:=.int) h (by simp [msgE]),leaf_has (k:=.int) h (by simp [msgE]),leaf_has (k:=.int) h (by simp [msgE]),leaf_has (k:=.int) h (by simp [msgE]),leaf_has (k:=.int) h (by simp [msgE]),leaf_has (k:=.int) h (by simp [msgE]),leaf_has (k:=.bool) h (by simp [msgE])⟩,head_has h (by simp [msgE]),?_⟩
 have hsp:msgE b o s=[.leaf b o .int,.leaf b (o+1) .int,.leaf b (o+2) .int,.leaf b (o+3) .int,.leaf b (o+4) .int,.leaf b (o+5) .int,.leaf b (o+6) .int,.leaf b (o+7) .bool]++.head b (o+8) (.slice s.ao s.xs.length s.cap)::s.es:=rfl
 obtain ⟨o1,n1⟩:=next (hsp ▸ h) (hsp ▸ hn) Q
 obtain ⟨_,o2,n2⟩:=headed o1 n1
 have hW:marked A [.leaf b o .int,.leaf b (o+1) .int,.leaf b (o+2) .int,.leaf b (o+3) .int,.leaf b (o+4) .int,.leaf b (o+5) .int,.leaf b (o+6) .int,.leaf b (o+7) .bool] Q=((((((((A.setCell ⟨b,o,none⟩ (.int .i64 (Q))).setCell ⟨b,o+1,none⟩ (.int .i64 (Q+1))).setCell ⟨b,o+2,none⟩ (.int .i64 (Q+1+1))).setCell ⟨b,o+3,none⟩ (.int .i64 (Q+1+1+1))).setCell ⟨b,o+4,none⟩ (.int .i64 (Q+1+1+1+1))).setCell ⟨b,o+5,none⟩ (.int .i64 (Q+1+1+1+1+1))).setCell ⟨b,o+6,none⟩ (.int .i64 (Q+1+1+1+1+1+1))).setCell ⟨b,o+7,none⟩ (.bool ((Q+1+1+1+1+1+1+1) % 3 == 0))):=by simp only [marked,Kd.val]
 have hW2:marked A (msgE b o s) Q=marked ((((((((A.setCell ⟨b,o,none⟩ (.int .i64 (Q))).setCell ⟨b,o+1,none⟩ (.int .i64 (Q+1))).setCell ⟨b,o+2,none⟩ (.int .i64 (Q+1+1))).setCell ⟨b,o+3,none⟩ (.int .i64 (Q+1+1+1))).setCell ⟨b,o+4,none⟩ (.int .i64 (Q+1+1+1+1))).setCell ⟨b,o+5,none⟩ (.int .i64 (Q+1+1+1+1+1))).setCell ⟨b,o+6,none⟩ (.int .i64 (Q+1+1+1+1+1+1))).setCell ⟨b,o+7,none⟩ (.bool ((Q+1+1+1+1+1+1+1) % 3 == 0))) s.es (Q+1+1+1+1+1+1+1+1):=by simp only [msgE,marked,Kd.val]
 rw [hW2]
 rw [hW] at o2
 exact markRecS_any _ s hs o2 n2 (Q+1+1+1+1+1+1+1+1) (by omega) hq
theorem msgE_held {A:World} {b o:Nat} {s:Rs} {Q:Int} (hs:s.Good) (h:Held A (msgE b o s) Q) (h0:0≤Q) (hq:Q+1+1+1+1+1+1+1+1+count s.es≤4611686018427387904) :
  (A.cell? ⟨b,o,none⟩=some (.int .i64 (Q))∧A.cell? ⟨b,o+1,none⟩=some (.int .i64 (Q+1))∧A.cell? ⟨b,o+2,none⟩=some (.int .i64 (Q+1+1))∧A.cell? ⟨b,o+3,none⟩=some (.int .i64 (Q+1+1+1))∧A.cell? ⟨b,o+4,none⟩=some (.int .i64 (Q+1+1+1+1))∧A.cell? ⟨b,o+5,none⟩=some (.int .i64 (Q+1+1+1+1+1))∧A.cell? ⟨b,o+6,none⟩=some (.int .i64 (Q+1+1+1+1+1+1))∧A.cell? ⟨b,o+7,none⟩=some (.bool ((Q+1+1+1+1+1+1+1) % 3 == 0)))∧A.cell? ⟨b,o+8,none⟩=some (.slice s.ao s.xs.length s.cap) ∧
  Hid (Calls Tryz.prog 34 #[.slice s.ao s.xs.length s.cap,.int .i64 (Q+1+1+1+1+1+1+1+1)] A fun e w'=>e=.returned (.int .i64 (Q+1+1+1+1+1+1+1+1+count s.es))∧w'=A):=by
 simp only [msgE,Held,Kd.val] at h
 obtain ⟨h0,h1,h2,h3,h4,h5,h6,h7,h8,h9⟩:=h
 exact ⟨⟨h0,h1,h2,h3,h4,h5,h6,h7⟩,h8,heldRecS_any _ s hs _ h9 (by omega) hq⟩
set_option maxRecDepth 40000 in
set_option maxHeartbeats 4000000 in
theorem markMsgS_any (w:World) (r:Ms) (hg:r.Good) (h:Ok w r.es) (hn:shape.Nd r.es) (q:Int) (h0:0≤q) (hq:q+count r.es≤4611686018427387904) :
  Calls Tryz.prog 30 #[.slice r.ao r.xs.length r.cap,.int .i64 q] w fun e w'=>e=.returned (.int .i64 (q+count r.es))∧w'=marked w r.es q:=by
 obtain ⟨ha,⟨hc,hm⟩,hx⟩:=hg
 unfold maxLen at hm
 have HStep:Hid (∀ k Q A,k<r.xs.length→Q=q+count (rowE r.f k)→A=marked w (rowE r.f k) q→∃ (ao:Option Addr) (m cap z:Nat),r.ao=some ⟨r.b,r.o,none⟩∧(0≤Q∧Q+1+1+1+1+1+1+1+1+(z:Int)≤4611686018427387904)∧(((∃ v,A.cell? ⟨r.b,r.o+k*9,none⟩=some v)∧A.frozen? ⟨r.b,r.o+k*9,none⟩=false)∧((∃ v,A.cell? ⟨r.b,r.o+k*9+1,none⟩=some v)∧A.frozen? ⟨r.b,r.o+k*9+1,none⟩=false)∧((∃ v,A.cell? ⟨r.b,r.o+k*9+2,none⟩=some v)∧A.frozen? ⟨r.b,r.o+k*9+2,none⟩=false)∧((∃ v,A.cell? ⟨r.b,r.o+k*9+3,none⟩=some v)∧A.frozen? ⟨r.b,r.o+k*9+3,none⟩=false)∧((∃ v,A.cell? ⟨r.b,r.o+k*9+4,none⟩=some v)∧A.frozen? ⟨r.b,r.o+k*9+4,none⟩=false)∧((∃ v,A.cell? ⟨r.b,r.o+k*9+5,none⟩=some v)∧A.frozen? ⟨r.b,r.o+k*9+5,none⟩=false)∧((∃ v,A.cell? ⟨r.b,r.o+k*9+6,none⟩=some v)∧A.frozen? ⟨r.b,r.o+k*9+6,none⟩=false)∧((∃ v,A.cell? ⟨r.b,r.o+k*9+7,none⟩=some v)∧A.frozen? ⟨r.b,r.o+k*9+7,none⟩=false))∧A.cell? ⟨r.b,r.o+k*9+8,none⟩=some (.slice ao m cap)∧Hid (Calls Tryz.prog 31 #[.slice ao m cap,.int .i64 (Q+1+1+1+1+1+1+1+1)] ((((((((A.setCell ⟨r.b,r.o+k*9,none⟩ (.int .i64 (Q))).setCell ⟨r.b,r.o+k*9+1,none⟩ (.int .i64 (Q+1))).setCell ⟨r.b,r.o+k*9+2,none⟩ (.int .i64 (Q+1+1))).setCell ⟨r.b,r.o+k*9+3,none⟩ (.int .i64 (Q+1+1+1))).setCell ⟨r.b,r.o+k*9+4,none⟩ (.int .i64 (Q+1+1+1+1))).setCell ⟨r.b,r.o+k*9+5,none⟩ (.int .i64 (Q+1+1+1+1+1))).setCell ⟨r.b,r.o+k*9+6,none⟩ (.int .i64 (Q+1+1+1+1+1+1))).setCell ⟨r.b,r.o+k*9+7,none⟩ (.bool ((Q+1+1+1+1+1+1+1) % 3 == 0))) fun e w'=>e=.returned (.int .i64 (Q+1+1+1+1+1+1+1+1+(z:Int)))∧Hid (Q+1+1+1+1+1+1+1+1+(z:Int)=q+count (rowE r.f (k+1))∧w'=marked w (rowE r.f (k+1)) q))):=fun k Q A hk hQ hA=>by
  obtain ⟨o1,o2⟩:=rowE_ok h hn hk q
  rw [←hA] at o1
  have hle:=rowE_le (f:=r.f) hk
  have hes:count (rowE r.f r.xs.length)=count r.es:=rfl
  have hc2:=rowE_count r.f k
  have hfin:marked A (r.f k) Q=marked w (rowE r.f (k+1)) q:=by rw [hA,hQ,rowE_next]
  have hgx:=hx _ (getD_mem (d:=zR) hk)
  have hcnt:count (r.f k)=count (r.xs.getD k zR).es+8:=msgE_count _ _ _
  obtain ⟨z1,z2,z3⟩:=msgE_mark (Q:=Q) hgx o1 o2 (by omega) (by omega)
  refine ⟨_,_,_,count (r.xs.getD k zR).es,ha (by omega),⟨by omega,by omega⟩,z1,z2,z3.out.mono ?_⟩
  rintro e w' ⟨e1,e2⟩
  exact ⟨e1,by omega,e2.trans hfin⟩
 have HFin:Hid (∀ Q wr,Q=q+count (rowE r.f r.xs.length)→wr=marked w (rowE r.f r.xs.length) q→Q=q+count r.es∧wr=marked w r.es q):=fun Q wr a b=>⟨a,b⟩
 have HS0:Hid (q=q+count (rowE r.f 0)∧w=marked w (rowE r.f 0) q):=⟨by simp [rowE,count],rfl⟩
 obtain ⟨c,hce⟩:∃ c,c=count r.es:=⟨_,rfl⟩
 rw [←hce] at HFin hq ⊢
 obtain ⟨W',hW'⟩:∃ W',W'=marked w r.es q:=⟨_,rfl⟩
 rw [←hW'] at HFin ⊢
 obtain ⟨n,hne⟩:∃ n,n=r.xs.length:=⟨_,rfl⟩
 rw [←hne] at HStep HFin hc ⊢
 obtain ⟨ro,hro⟩:∃ ro,ro=r.ao:=⟨_,rfl⟩
 rw [←hro] at HStep ⊢
 obtain ⟨rb,hrb⟩:∃ rb,rb=r.b:=⟨_,rfl⟩
 rw [←hrb] at HStep
 obtain ⟨oo,hoo⟩:∃ oo,oo=r.o:=⟨_,rfl⟩
 rw [←hoo] at HStep
 obtain ⟨rc,hrc⟩:∃ rc,rc=r.cap:=⟨_,rfl⟩
 rw [←hrc] at hc hm ⊢
 clear ha hx h hn hce hW' hne hro hrb hoo hrc
 go_enter Tryz.func30,Tryz.ntmps30
 go_wp2
 go_loopw [1,5] (fun q' i wr=>∃ (k:Nat) (Q:Int),k≤n∧i=.int .i64 k∧q'=.int .i64 Q∧Hid (Q=q+count (rowE r.f k)∧wr=marked w (rowE r.f k) q)) (fun _ i _=>n-(intOf i).toNat)
 case atStart=>exact ⟨0,q,by omega,rfl,rfl,HS0⟩
 case round =>
  obtain ⟨k,Q,hk,rfl,rfl,HR⟩:=hrel
  by_cases hlt:k<n
  ·have hltI:(k:Int)<n:=by omega
   obtain ⟨ao,m,cap,z,rfl,⟨hQ0,hQm⟩,⟨⟨⟨v0,c0⟩,f0⟩,⟨⟨v1,c1⟩,f1⟩,⟨⟨v2,c2⟩,f2⟩,⟨⟨v3,c3⟩,f3⟩,⟨⟨v4,c4⟩,f4⟩,⟨⟨v5,c5⟩,f5⟩,⟨⟨v6,c6⟩,f6⟩,⟨⟨v7,c7⟩,f7⟩⟩,c8,HC⟩:=HStep.out k Q wr hlt HR.out.1 HR.out.2
   clear HR
   go_wp2_with (go_at_call 31;refine HC.out.mono ?_;rintro e w9 ⟨rfl,HN⟩)
   go_roundw
   case rel=>exact ⟨k+1,_,by omega,by go_num,rfl,HN⟩
   case measure=>simp [intOf];omega
  ·have hlt2:¬ (k:Int)<n:=by omega
   obtain rfl:k=n:=by omega
   have HE:=hide (HFin.out Q wr HR.out.1 HR.out.2)
   go_wp2
   go_ret
   exact ⟨by rw [HE.out.1];rfl,HE.out.2⟩
set_option maxRecDepth 40000 in
set_option maxHeartbeats 4000000 in
theorem heldMsgS_any (w:World) (r:Ms) (hg:r.Good) (q:Int) (h:Held w r.es q) (h0:0≤q) (hq:q+count r.es≤4611686018427387904) :
  Calls Tryz.prog 33 #[.slice r.ao r.xs.length r.cap,.int .i64 q] w fun e w'=>e=.returned (.int .i64 (q+count r.es))∧w'=w:=by
 obtain ⟨ha,⟨hc,hm⟩,hx⟩:=hg
 unfold maxLen at hm
 have HStep:Hid (∀ k Q,k<r.xs.length→Q=q+count (rowE r.f k)→∃ (ao:Option Addr) (m cap z:Nat),r.ao=some ⟨r.b,r.o,none⟩∧(0≤Q∧Q+1+1+1+1+1+1+1+1+(z:Int)≤4611686018427387904)∧(w.cell? ⟨r.b,r.o+k*9,none⟩=some (.int .i64 (Q))∧w.cell? ⟨r.b,r.o+k*9+1,none⟩=some (.int .i64 (Q+1))∧w.cell? ⟨r.b,r.o+k*9+2,none⟩=some (.int .i64 (Q+1+1))∧w.cell? ⟨r.b,r.o+k*9+3,none⟩=some (.int .i64 (Q+1+1+1))∧w.cell? ⟨r.b,r.o+k*9+4,none⟩=some (.int .i64 (Q+1+1+1+1))∧w.cell? ⟨r.b,r.o+k*9+5,none⟩=some (.int .i64 (Q+1+1+1+1+1))∧w.cell? ⟨r.b,r.o+k*9+6,none⟩=some (.int .i64 (Q+1+1+1+1+1+1))∧w.cell? ⟨r.b,r.o+k*9+7,none⟩=some (.bool ((Q+1+1+1+1+1+1+1) % 3 == 0)))∧w.cell? ⟨r.b,r.o+k*9+8,none⟩=some (.slice ao m cap)∧Hid (Calls Tryz.prog 34 #[.slice ao m cap,.int .i64 (Q+1+1+1+1+1+1+1+1)] w fun e w'=>e=.returned (.int .i64 (Q+1+1+1+1+1+1+1+1+(z:Int)))∧w'=w)∧Hid (Q+1+1+1+1+1+1+1+1+(z:Int)=q+count (rowE r.f (k+1)))):=fun k Q hk hQ=>by
  have o1:=rowE_held h hk
  have hle:=rowE_le (f:=r.f) hk
  have hes:count (rowE r.f r.xs.length)=count r.es:=rfl
  have hc2:=rowE_count r.f k
  have hgx:=hx _ (getD_mem (d:=zR) hk)
  rw [←hQ] at o1
  have hcnt:count (r.f k)=count (r.xs.getD k zR).es+8:=msgE_count _ _ _
  obtain ⟨z1,z2,z3⟩:=msgE_held (Q:=Q) hgx o1 (by omega) (by omega)
  exact ⟨_,_,_,count (r.xs.getD k zR).es,ha (by omega),⟨by omega,by omega⟩,z1,z2,z3,by show _=_;omega⟩
 have HFin:Hid (∀ Q,Q=q+count (rowE r.f r.xs.length)→Q=q+count r.es):=fun Q a=>a
 have HS0:Hid (q=q+count (rowE r.f 0)):=by show _=_;simp [rowE,count]
 obtain ⟨c,hce⟩:∃ c,c=count r.es:=⟨_,rfl⟩
 rw [←hce] at HFin hq ⊢
 obtain ⟨n,hne⟩:∃ n,n=r.xs.length:=⟨_,rfl⟩
 rw [←hne] at HStep HFin hc ⊢
 obtain ⟨ro,hro⟩:∃ ro,ro=r.ao:=⟨_,rfl⟩
 rw [←hro] at HStep ⊢
 obtain ⟨rb,hrb⟩:∃ rb,rb=r.b:=⟨_,rfl⟩
 rw [←hrb] at HStep
 obtain ⟨oo,hoo⟩:∃ oo,oo=r.o:=⟨_,rfl⟩
 rw [←hoo] at HStep
 obtain ⟨rc,hrc⟩:∃ rc,rc=r.cap:=⟨_,rfl⟩
 rw [←hrc] at hc hm ⊢
 clear ha hx h hce hne hro hrb hoo hrc
 go_enter Tryz.func33,Tryz.ntmps33
 go_wp2
 go_loopw [1,5] (fun q' i wr=>∃ (k:Nat) (Q:Int),k≤n∧i=.int .i64 k∧q'=.int .i64 Q∧wr=w∧Hid (Q=q+count (rowE r.f k))) (fun _ i _=>n-(intOf i).toNat)
 case atStart=>exact ⟨0,q,by omega,rfl,rfl,rfl,HS0⟩
 case round =>
  obtain ⟨k,Q,hk,rfl,rfl,hwr,HR⟩:=hrel
  subst hwr
  by_cases hlt:k<n
  ·have hltI:(k:Int)<n:=by omega
   obtain ⟨ao,m,cap,z,rfl,⟨hQ0,hQm⟩,⟨c0,c1,c2,c3,c4,c5,c6,c7⟩,c8,HC,HN⟩:=HStep.out k Q hlt HR.out
   clear HR
   have hnn:¬ Q+1+1+1+1+1+1+1+1+(z:Int)<0:=by omega
   go_wp2_with (go_at_call 34;refine HC.out.mono ?_;rintro e w9 ⟨rfl,e9⟩;obtain rfl:=e9.symm)
   go_roundw
   case rel=>exact ⟨k+1,_,by omega,by go_num,rfl,trivial,HN⟩
   case measure=>simp [intOf];omega
  ·have hlt2:¬ (k:Int)<n:=by omega
   obtain rfl:k=n:=by omega
   have HE:=hide (HFin.out Q HR.out)
   go_wp2
   go_ret
   exact ⟨by rw [HE.out];rfl,rfl⟩
end Go.Proofs.YtcfdmbkiinjmaaaGreat.mk3
namespace Go.Proofs.YtcfdmbkiinjmaaaGreat.mk4
open mem grp shape mk1 mk2 mk3
set_option maxRecDepth 40000 in
set_option maxHeartbeats 4000000 in
theorem markPeerS_any (w:World) (r:Ps) (hg:r.Good) (h:Ok w r.es) (hn:shape.Nd r.es) (q:Int) (h0:0≤q) (hq:q+count r.es≤4611686018427387904) :
  Calls Tryz.prog 29 #[.slice r.ao r.xs.length r.cap,.int .i64 q] w fun e w'=>e=.returned (.int .i64 (q+count r.es))∧w'=marked w r.es q:=by
 obtain ⟨ha,⟨hc,hm⟩,hx⟩:=hg
 unfold maxLen at hm
 have HStep:Hid (∀ k Q A,k<r.xs.length→Q=q+count (rowE r.f k)→A=marked w (rowE r.f k) q→∃ (a1:Option Addr) (n1 k1 z1:Nat) (a2:Option Addr) (z2 k2:Nat) (a3:Option Addr) (z3 k3:Nat) (a4:Option Addr) (z4 k4:Nat),r.ao=some ⟨r.b,r.o,none⟩∧(0≤Q∧Q+1+1+1+1+1+(z1:Int)+(z2:Int)+(z3:Int)+(z4:Int)≤4611686018427387904)∧(((∃ v,A.cell? ⟨r.b,r.o+k*9,none⟩=some v)∧A.frozen? ⟨r.b,r.o+k*9,none⟩=false)∧((∃ v,A.cell? ⟨r.b,r.o+k*9+1,none⟩=some v)∧A.frozen? ⟨r.b,r.o+k*9+1,none⟩=false)∧((∃ v,A.cell? ⟨r.b,r.o+k*9+2,none⟩=some v)∧A.frozen? ⟨r.b,r.o+k*9+2,none⟩=false)∧((∃ v,A.cell? ⟨r.b,r.o+k*9+3,none⟩=some v)∧A.frozen? ⟨r.b,r.o+k*9+3,none⟩=false)∧((∃ v,A.cell? ⟨r.b,r.o+k*9+4,none⟩=some v)∧A.frozen? ⟨r.b,r.o+k*9+4,none⟩=false))∧A.cell? ⟨r.b,r.o+k*9+5,none⟩=some (.slice a1 n1 k1)∧Hid (Calls Tryz.prog 31 #[.slice a1 n1 k1,.int .i64 (Q+1+1+1+1+1)] (((((A.setCell ⟨r.b,r.o+k*9,none⟩ (.bool ((Q) % 3 == 0))).setCell ⟨r.b,r.o+k*9+1,none⟩ (.int .i64 (Q+1))).setCell ⟨r.b,r.o+k*9+2,none⟩ (.int .i64 (Q+1+1))).setCell ⟨r.b,r.o+k*9+3,none⟩ (.int .i64 (Q+1+1+1))).setCell ⟨r.b,r.o+k*9+4,none⟩ (.int .i64 (Q+1+1+1+1))) fun e w2=>e=.returned (.int .i64 (Q+1+1+1+1+1+(z1:Int)))∧w2.cell? ⟨r.b,r.o+k*9+6,none⟩=some (.slice a2 z2 k2)∧Hid (Calls Tryz.prog 52 #[.slice a2 z2 k2,.int .i64 (Q+1+1+1+1+1+(z1:Int))] w2 fun e w3=>e=.returned (.int .i64 (Q+1+1+1+1+1+(z1:Int)+(z2:Int)))∧w3.cell? ⟨r.b,r.o+k*9+7,none⟩=some (.slice a3 z3 k3)∧Hid (Calls Tryz.prog 13 #[.slice a3 z3 k3,.int .i64 (Q+1+1+1+1+1+(z1:Int)+(z2:Int))] w3 fun e w4=>e=.returned (.int .i64 (Q+1+1+1+1+1+(z1:Int)+(z2:Int)+(z3:Int)))∧w4.cell? ⟨r.b,r.o+k*9+8,none⟩=some (.slice a4 z4 k4)∧Hid (Calls Tryz.prog 13 #[.slice a4 z4 k4,.int .i64 (Q+1+1+1+1+1+(z1:Int)+(z2:Int)+(z3:Int))] w4 fun e w5=>e=.returned (.int .i64 (Q+1+1+1+1+1+(z1:Int)+(z2:Int)+(z3:Int)+(z4:Int)))∧Hid (Q+1+1+1+1+1+(z1:Int)+(z2:Int)+(z3:Int)+(z4:Int)=q+count (rowE r.f (k+1))∧w5=marked w (rowE r.f (k+1)) q)))))):=fun k Q A hk hQ hA=>by
  obtain ⟨o1,o2⟩:=rowE_ok h hn hk q
  rw [←hA] at o1
  have hle:=rowE_le (f:=r.f) hk
  have hes:count (rowE r.f r.xs.length)=count r.es:=rfl
  have hc2:=rowE_count r.f k
  have hfin:marked A (r.f k) Q=marked w (rowE r.f (k+1)) q:=by rw [hA,hQ,rowE_next]
  have hgx:=hx _ (getD_mem (d:=zP) hk)
  obtain ⟨p,hp⟩:∃ p,r.xs.getD k zP=p:=⟨_,rfl⟩
  rw [hp] at hgx
  have hfe:r.f k=peerE r.b (r.o+k*9) p:=by rw [←hp];rfl
  have hcnt:count (r.f k)=5+count p.log.es+p.votes.n+p.next.n+p.mat.n:=by rw [hfe,peerE_count]
  rw [hfe] at o1 o2 hfin
  obtain ⟨g1,g2,g3,g4⟩:=hgx
  refine ⟨p.log.ao,p.log.xs.length,p.log.cap,count p.log.es,p.votes.ao,p.votes.n,p.votes.cap,p.next.ao,p.next.n,p.next.cap,p.mat.ao,p.mat.n,p.mat.cap,ha (by omega),⟨by omega,by omega⟩,⟨leaf_has (k:=.bool) o1 (by simp [peerE]),leaf_has (k:=.int) o1 (by simp [peerE]),leaf_has (k:=.int) o1 (by simp [peerE]),leaf_has (k:=.int) o1 (by simp [peerE]),leaf_has (k:=.int) o1 (by simp [peerE])⟩,head_has o1 (by simp [peerE]),?_⟩
  obtain ⟨q1,m1⟩:=next (a:=[.leaf r.b (r.o+k*9) .bool,.leaf r.b (r.o+k*9+1) .int,.leaf r.b (r.o+k*9+2) .int,.leaf r.b (r.o+k*9+3) .int,.leaf r.b (r.o+k*9+4) .int]) o1 o2 Q
  obtain ⟨_,q1,m1⟩:=headed q1 m1
  have hW:marked A [.leaf r.b (r.o+k*9) .bool,.leaf r.b (r.o+k*9+1) .int,.leaf r.b (r.o+k*9+2) .int,.leaf r.b (r.o+k*9+3) .int,.leaf r.b (r.o+k*9+4) .int] Q=(((((A.setCell ⟨r.b,r.o+k*9,none⟩ (.bool ((Q) % 3 == 0))).setCell ⟨r.b,r.o+k*9+1,none⟩ (.int .i64 (Q+1))).setCell ⟨r.b,r.o+k*9+2,none⟩ (.int .i64 (Q+1+1))).setCell ⟨r.b,r.o+k*9+3,none⟩ (.int .i64 (Q+1+1+1))).setCell ⟨r.b,r.o+k*9+4,none⟩ (.int .i64 (Q+1+1+1+1))):=by simp only [marked,Kd.val]
  rw [hW] at q1
  refine (markRecS_any _ p.log g1 q1.left m1.left (Q+1+1+1+1+1) (by omega) (by omega)).mono ?_
  rintro e w2 ⟨rfl,ew2⟩
  obtain ⟨q2,m2⟩:=next q1 m1 (Q+1+1+1+1+1)
  obtain ⟨c6,q2,m2⟩:=headed q2 m2
  refine ⟨rfl,by rw [ew2];exact c6,?_⟩
  rw [ew2]
  refine (markBoolS_any _ p.votes.ao p.votes.b p.votes.o p.votes.n p.votes.cap g2.1 g2.2.1 g2.2.2 q2.left _ (by omega) (by omega)).mono ?_
  rintro e w3 ⟨rfl,ew3⟩
  obtain ⟨q3,m3⟩:=next q2 m2 (Q+1+1+1+1+1+count p.log.es)
  obtain ⟨c7,q3,m3⟩:=headed q3 m3
  refine ⟨rfl,by rw [ew3];exact c7,?_⟩
  rw [ew3]
  refine (markIntS_any _ p.next.ao p.next.b p.next.o p.next.n p.next.cap g3.1 g3.2.1 g3.2.2 q3.left _ (by omega) (by omega)).mono ?_
  rintro e w4 ⟨rfl,ew4⟩
  obtain ⟨q4,m4⟩:=next q3 m3 (Q+1+1+1+1+1+count p.log.es+p.votes.n)
  obtain ⟨c8,q4,m4⟩:=headed q4 m4
  refine ⟨rfl,by rw [ew4];exact c8,?_⟩
  rw [ew4]
  refine (markIntS_any _ p.mat.ao p.mat.b p.mat.o p.mat.n p.mat.cap g4.1 g4.2.1 g4.2.2 q4 _ (by omega) (by omega)).mono ?_
  rintro e w5 ⟨rfl,ew5⟩
  refine ⟨rfl,by omega,?_⟩
  rw [ew5,←hfin]
  simp only [peerE,marked,marked_append,plain_count,Kd.val]
 have HFin:Hid (∀ Q wr,Q=q+count (rowE r.f r.xs.length)→wr=marked w (rowE r.f r.xs.length) q→Q=q+count r.es∧wr=marked w r.es q):=fun Q wr a b=>⟨a,b⟩
 have HS0:Hid (q=q+count (rowE r.f 0)∧w=marked w (rowE r.f 0) q):=⟨by simp [rowE,count],rfl⟩
 obtain ⟨c,hce⟩:∃ c,c=count r.es:=⟨_,rfl⟩
 rw [←hce] at HFin hq ⊢
 obtain ⟨W',hW'⟩:∃ W',W'=marked w r.es q:=⟨_,rfl⟩
 rw [←hW'] at HFin ⊢
 obtain ⟨n,hne⟩:∃ n,n=r.xs.length:=⟨_,rfl⟩
 rw [←hne] at HStep HFin hc ⊢
 obtain ⟨ro,hro⟩:∃ ro,ro=r.ao:=⟨_,rfl⟩
 rw [←hro] at HStep ⊢
 obtain ⟨rb,hrb⟩:∃ rb,rb=r.b:=⟨_,rfl⟩
 rw [←hrb] at HStep
 obtain ⟨oo,hoo⟩:∃ oo,oo=r.o:=⟨_,rfl⟩
 rw [←hoo] at HStep
 obtain ⟨rc,hrc⟩:∃ rc,rc=r.cap:=⟨_,rfl⟩
 rw [←hrc] at hc hm ⊢
 clear ha hx h hn hce hW' hne hro hrb hoo hrc
 go_enter Tryz.func29,Tryz.ntmps29
 go_wp2
 go_loopw [1,5] (fun q' i wr=>∃ (k:Nat) (Q:Int),k≤n∧i=.int .i64 k∧q'=.int .i64 Q∧Hid (Q=q+count (rowE r.f k)∧wr=marked w (rowE r.f k) q)) (fun _ i _=>n-(intOf i).toNat)
 case atStart=>exact ⟨0,q,by omega,rfl,rfl,HS0⟩
 case round =>
  obtain ⟨k,Q,hk,rfl,rfl,HR⟩:=hrel
  by_cases hlt:k<n
  ·have hltI:(k:Int)<n:=by omega
   obtain ⟨a1,n1,k1,z1,a2,z2,k2,a3,z3,k3,a4,z4,k4,rfl,⟨hQ0,hQm⟩,⟨⟨⟨v0,c0⟩,f0⟩,⟨⟨v1,c1⟩,f1⟩,⟨⟨v2,c2⟩,f2⟩,⟨⟨v3,c3⟩,f3⟩,⟨⟨v4,c4⟩,f4⟩⟩,c5,HC⟩:=HStep.out k Q wr hlt HR.out.1 HR.out.2
   clear HR
   go_wp2_with fail
   refine HC.out.mono ?_
   rintro e w2 ⟨rfl,c6,HC2⟩
   go_wp2_with fail
   refine HC2.out.mono ?_
   rintro e w3 ⟨rfl,c7,HC3⟩
   go_wp2_with fail
   refine HC3.out.mono ?_
   rintro e w4 ⟨rfl,c8,HC4⟩
   go_wp2_with fail
   refine HC4.out.mono ?_
   rintro e w5 ⟨rfl,HN⟩
   go_wp2
   go_roundw
   case rel=>exact ⟨k+1,_,by omega,by go_num,rfl,HN⟩
   case measure=>simp [intOf];omega
  ·have hlt2:¬ (k:Int)<n:=by omega
   obtain rfl:k=n:=by omega
   have HE:=hide (HFin.out Q wr HR.out.1 HR.out.2)
   go_wp2
   go_ret
   exact ⟨by rw [HE.out.1];rfl,HE.out.2⟩
set_option maxRecDepth 40000 in
set_option maxHeartbeats 4000000 in
theorem heldPeerS_any (w:World) (r:Ps) (hg:r.Good) (q:Int) (h:Held w r.es q) (h0:0≤q) (hq:q+count r.es≤4611686018427387904) :
  Calls Tryz.prog 32 #[.slice r.ao r.xs.length r.cap,.int .i64 q] w fun e w'=>e=.returned (.int .i64 (q+count r.es))∧w'=w:=by
 obtain ⟨ha,⟨hc,hm⟩,hx⟩:=hg
 unfold maxLen at hm
 have HStep:Hid (∀ k Q,k<r.xs.length→Q=q+count (rowE r.f k)→∃ (a1:Option Addr) (n1 k1 z1:Nat) (a2:Option Addr) (z2 k2:Nat) (a3:Option Addr) (z3 k3:Nat) (a4:Option Addr) (z4 k4:Nat),r.ao=some ⟨r.b,r.o,none⟩∧(0≤Q∧Q+1+1+1+1+1+(z1:Int)+(z2:Int)+(z3:Int)+(z4:Int)≤4611686018427387904)∧(w.cell? ⟨r.b,r.o+k*9,none⟩=some (.bool ((Q) % 3 == 0))∧w.cell? ⟨r.b,r.o+k*9+1,none⟩=some (.int .i64 (Q+1))∧w.cell? ⟨r.b,r.o+k*9+2,none⟩=some (.int .i64 (Q+1+1))∧w.cell? ⟨r.b,r.o+k*9+3,none⟩=some (.int .i64 (Q+1+1+1))∧w.cell? ⟨r.b,r.o+k*9+4,none⟩=some (.int .i64 (Q+1+1+1+1)))∧(w.cell? ⟨r.b,r.o+k*9+5,none⟩=some (.slice a1 n1 k1)∧w.cell? ⟨r.b,r.o+k*9+6,none⟩=some (.slice a2 z2 k2)∧w.cell? ⟨r.b,r.o+k*9+7,none⟩=some (.slice a3 z3 k3)∧w.cell? ⟨r.b,r.o+k*9+8,none⟩=some (.slice a4 z4 k4))∧Hid (Calls Tryz.prog 34 #[.slice a1 n1 k1,.int .i64 (Q+1+1+1+1+1)] w fun e w'=>e=.returned (.int .i64 (Q+1+1+1+1+1+(z1:Int)))∧w'=w)∧Hid (Calls Tryz.prog 53 #[.slice a2 z2 k2,.int .i64 (Q+1+1+1+1+1+(z1:Int))] w fun e w'=>e=.returned (.int .i64 (Q+1+1+1+1+1+(z1:Int)+(z2:Int)))∧w'=w)∧Hid (Calls Tryz.prog 15 #[.slice a3 z3 k3,.int .i64 (Q+1+1+1+1+1+(z1:Int)+(z2:Int))] w fun e w'=>e=.returned (.int .i64 (Q+1+1+1+1+1+(z1:Int)+(z2:Int)+(z3:Int)))∧w'=w)∧Hid (Calls Tryz.prog 15 #[.slice a4 z4 k4,.int .i64 (Q+1+1+1+1+1+(z1:Int)+(z2:Int)+(z3:Int))] w fun e w'=>e=.returned (.int .i64 (Q+1+1+1+1+1+(z1:Int)+(z2:Int)+(z3:Int)+(z4:Int)))∧w'=w)∧Hid (Q+1+1+1+1+1+(z1:Int)+(z2:Int)+(z3:Int)+(z4:Int)=q+count (rowE r.f (k+1)))):=fun k Q hk hQ=>by
  have o1:=rowE_held h hk
  have hle:=rowE_le (f:=r.f) hk
  have hes:count (rowE r.f r.xs.length)=count r.es:=rfl
  have hc2:=rowE_count r.f k
  have hgx:=hx _ (getD_mem (d:=zP) hk)
  rw [←hQ] at o1
  obtain ⟨p,hp⟩:∃ p,r.xs.getD k zP=p:=⟨_,rfl⟩
  rw [hp] at hgx
  have hfe:r.f k=peerE r.b (r.o+k*9) p:=by rw [←hp];rfl
  have hcnt:count (r.f k)=5+count p.log.es+p.votes.n+p.next.n+p.mat.n:=by rw [hfe,peerE_count]
  rw [hfe] at o1
  obtain ⟨g1,g2,g3,g4⟩:=hgx
  simp only [peerE,Held,Kd.val,Held.append,plain_count] at o1
  obtain ⟨h1,h2,h3,h4,h5,h6,h7,h8,h9,h10,h11,h12,h13⟩:=o1
  exact ⟨p.log.ao,p.log.xs.length,p.log.cap,count p.log.es,p.votes.ao,p.votes.n,p.votes.cap,p.next.ao,p.next.n,p.next.cap,p.mat.ao,p.mat.n,p.mat.cap,ha (by omega),⟨by omega,by omega⟩,⟨h1,h2,h3,h4,h5⟩,⟨h6,h8,h10,h12⟩,
   heldRecS_any _ p.log g1 _ h7 (by omega) (by omega),
   heldBoolS_any _ p.votes.ao p.votes.b p.votes.o p.votes.n p.votes.cap g2.1 g2.2.1 g2.2.2 _ h9 (by omega) (by omega),
   heldIntS_any _ p.next.ao p.next.b p.next.o p.next.n p.next.cap g3.1 g3.2.1 g3.2.2 _ h11 (by omega) (by omega),
   heldIntS_any _ p.mat.ao p.mat.b p.mat.o p.mat.n p.mat.cap g4.1 g4.2.1 g4.2.2 _ h13 (by omega) (by omega),by show _=_;omega⟩
 have HFin:Hid (∀ Q,Q=q+count (rowE r.f r.xs.length)→Q=q+count r.es):=fun Q a=>a
 have HS0:Hid (q=q+count (rowE r.f 0)):=by show _=_;simp [rowE,count]
 obtain ⟨c,hce⟩:∃ c,c=count r.es:=⟨_,rfl⟩
 rw [←hce] at HFin hq ⊢
 obtain ⟨n,hne⟩:∃ n,n=r.xs.length:=⟨_,rfl⟩
 rw [←hne] at HStep HFin hc ⊢
 obtain ⟨ro,hro⟩:∃ ro,ro=r.ao:=⟨_,rfl⟩
 rw [←hro] at HStep ⊢
 obtain ⟨rb,hrb⟩:∃ rb,rb=r.b:=⟨_,rfl⟩
 rw [←hrb] at HStep
 obtain ⟨oo,hoo⟩:∃ oo,oo=r.o:=⟨_,rfl⟩
 rw [←hoo] at HStep
 obtain ⟨rc,hrc⟩:∃ rc,rc=r.cap:=⟨_,rfl⟩
 rw [←hrc] at hc hm ⊢
 clear ha hx h hce hne hro hrb hoo hrc
 go_enter Tryz.func32,Tryz.ntmps32
 go_wp2
 go_loopw [1,5] (fun q' i wr=>∃ (k:Nat) (Q:Int),k≤n∧i=.int .i64 k∧q'=.int .i64 Q∧wr=w∧Hid (Q=q+count (rowE r.f k))) (fun _ i _=>n-(intOf i).toNat)
 case atStart=>exact ⟨0,q,by omega,rfl,rfl,rfl,HS0⟩
 case round =>
  obtain ⟨k,Q,hk,rfl,rfl,hwr,HR⟩:=hrel
  subst hwr
  by_cases hlt:k<n
  ·have hltI:(k:Int)<n:=by omega
   obtain ⟨a1,n1,k1,z1,a2,z2,k2,a3,z3,k3,a4,z4,k4,rfl,⟨hQ0,hQm⟩,⟨c0,c1,c2,c3,c4⟩,⟨c5,c6,c7,c8⟩,HC,HC2,HC3,HC4,HN⟩:=HStep.out k Q hlt HR.out
   clear HR
   have hn1:¬ Q+1+1+1+1+1+(z1:Int)<0:=by omega
   have hn2:¬ Q+1+1+1+1+1+(z1:Int)+(z2:Int)<0:=by omega
   have hn3:¬ Q+1+1+1+1+1+(z1:Int)+(z2:Int)+(z3:Int)<0:=by omega
   have hn4:¬ Q+1+1+1+1+1+(z1:Int)+(z2:Int)+(z3:Int)+(z4:Int)<0:=by omega
   go_wp2_with fail
   refine HC.out.mono ?_
   rintro e w9 ⟨rfl,e9⟩
   obtain rfl:=e9.symm
   go_wp2_with fail
   refine HC2.out.mono ?_
   rintro e w9 ⟨rfl,e9⟩
   obtain rfl:=e9.symm
   go_wp2_with fail
   refine HC3.out.mono ?_
   rintro e w9 ⟨rfl,e9⟩
   obtain rfl:=e9.symm
   go_wp2_with fail
   refine HC4.out.mono ?_
   rintro e w9 ⟨rfl,e9⟩
   obtain rfl:=e9.symm
   go_wp2
   go_roundw
   case rel=>exact ⟨k+1,_,by omega,by go_num,rfl,trivial,HN⟩
   case measure=>simp [intOf];omega
  ·have hlt2:¬ (k:Int)<n:=by omega
   obtain rfl:k=n:=by omega
   have HE:=hide (HFin.out Q HR.out)
   go_wp2
   go_ret
   exact ⟨by rw [HE.out];rfl,rfl⟩
end Go.Proofs.YtcfdmbkiinjmaaaGreat.mk4
namespace Go.Proofs.YtcfdmbkiinjmaaaGreat.mk5
open mem grp shape mk1 mk2 mk3 mk4
theorem Ok.below {w w':World} {es:List En} (h:Ok w es) (hb:Below w.heap.size w w'):Ok w' es:=fun e he=>by
 have hx:=h e he
 cases e with
 | leaf b i k =>
  obtain ⟨⟨v,hv⟩,hf⟩:=hx
  have hlt:=World.block_lt_of_cell? w _ hv
  refine ⟨⟨v,(hb.cell hlt).trans hv⟩,?_⟩
  have hbb:=hb.block b hlt
  unfold World.frozen? at hf ⊢
  rw [hbb]
  exact hf
 | head b i v =>
  have hlt:=World.block_lt_of_cell? w _ hx
  exact (hb.cell hlt).trans hx
theorem Ok.lt {w:World} {es:List En} (h:Ok w es):∀ e∈es,e.at.1<w.heap.size:=fun e he=>by
 have hx:=h e he
 cases e with
 | leaf b i k=>obtain ⟨⟨v,hv⟩,hf⟩:=hx;exact World.block_lt_of_cell? w _ hv
 | head b i v=>exact World.block_lt_of_cell? w _ hx
theorem Held.lt {w:World}:∀ (es:List En) (q:Int),Held w es q→∀ e∈es,e.at.1<w.heap.size
 | [],q,h,e,he=>by simp at he
 | .leaf b i k::es,q,h,e,he=>by
  rcases List.mem_cons.1 he with rfl | he
  ·exact World.block_lt_of_cell? w _ h.1
  ·exact Held.lt es _ h.2 e he
 | .head b i v::es,q,h,e,he=>by
  rcases List.mem_cons.1 he with rfl | he
  ·exact World.block_lt_of_cell? w _ h.1
  ·exact Held.lt es _ h.2 e he
set_option maxRecDepth 20000 in
set_option maxHeartbeats 2000000 in
theorem markEventS_any (w:World) (r:Rs) (hg:r.Good) (h:Ok w r.es) (hn:Nd r.es) (q:Int) (h0:0≤q) (hq:q+count r.es≤4611686018427387904) :
  Calls Tryz.prog 11 #[.slice r.ao r.xs.length r.cap,.int .i64 q] w fun e w'=>e=.returned (.int .i64 (q+count r.es))∧w'=marked w r.es q:=by
 obtain ⟨ha,⟨hc,hm⟩,hx⟩:=hg
 unfold maxLen at hm
 have HStep:Hid (∀ k Q wr,k<r.xs.length→Q=q+count (rowE r.f k)→wr=marked w (rowE r.f k) q→∃ (ao:Option Addr) (n cap:Nat),r.ao=some ⟨r.b,r.o,none⟩∧0≤Q∧Q+1+1+n≤4611686018427387904∧((∃ v,wr.cell? ⟨r.b,r.o+k*3,none⟩=some v)∧wr.frozen? ⟨r.b,r.o+k*3,none⟩=false∧(∃ v,wr.cell? ⟨r.b,r.o+k*3+1,none⟩=some v)∧wr.frozen? ⟨r.b,r.o+k*3+1,none⟩=false)∧wr.cell? ⟨r.b,r.o+k*3+2,none⟩=some (.slice ao n cap) ∧
   Hid (Calls Tryz.prog 28 #[.slice ao n cap,.int .i64 (Q+1+1)] ((wr.setCell ⟨r.b,r.o+k*3,none⟩ (.int .i64 Q)).setCell ⟨r.b,r.o+k*3+1,none⟩ (.int .i64 (Q+1))) fun e w'=>e=.returned (.int .i64 (Q+1+1+n))∧Hid (Q+1+1+n=q+count (rowE r.f (k+1))∧w'=marked w (rowE r.f (k+1)) q))):=fun k Q wr hk hQ hwr=>by
  subst hwr
  obtain ⟨o1,o2⟩:=rowE_ok h hn hk q
  have hle:=rowE_le (f:=r.f) hk
  have hcnt:count (r.f k)=(r.xs.getD k zS).n+1+1:=recE_count _ _ _
  have hes:count (rowE r.f r.xs.length)=count r.es:=rfl
  obtain ⟨z1,z2,z3⟩:=recE_mark (Q:=Q) (hx _ (getD_mem (d:=zS) hk)) o1 o2 (by omega) (by omega)
  refine ⟨_,_,_,ha (by omega),by omega,by omega,z1,z2,z3.mono ?_⟩
  rintro e w' ⟨e1,e2⟩
  have hc2:=rowE_count r.f k
  refine ⟨e1,by omega,?_⟩
  rw [e2,←rowE_next,hQ]
  rfl
 have HFin:Hid (∀ Q wr,Q=q+count (rowE r.f r.xs.length)→wr=marked w (rowE r.f r.xs.length) q→Q=q+count r.es∧wr=marked w r.es q):=fun Q wr a b=>⟨a,b⟩
 have HS0:Hid (q=q+count (rowE r.f 0)∧w=marked w (rowE r.f 0) q):=⟨by simp [rowE,count],rfl⟩
 obtain ⟨c,hce⟩:∃ c,c=count r.es:=⟨_,rfl⟩
 rw [←hce] at HFin hq ⊢
 obtain ⟨W',hW'⟩:∃ W',W'=marked w r.es q:=⟨_,rfl⟩
 rw [←hW'] at HFin ⊢
 obtain ⟨n,hne⟩:∃ n,n=r.xs.length:=⟨_,rfl⟩
 rw [←hne] at HStep HFin hc ⊢
 obtain ⟨ro,hro⟩:∃ ro,ro=r.ao:=⟨_,rfl⟩
 rw [←hro] at HStep ⊢
 obtain ⟨rb,hrb⟩:∃ rb,rb=r.b:=⟨_,rfl⟩
 rw [←hrb] at HStep
 obtain ⟨oo,hoo⟩:∃ oo,oo=r.o:=⟨_,rfl⟩
 rw [←hoo] at HStep
 obtain ⟨rc,hrc⟩:∃ rc,rc=r.cap:=⟨_,rfl⟩
 rw [←hrc] at hc hm ⊢
 clear ha hx h hn hce hW' hne hro hrb hoo hrc
 go_enter Tryz.func11,Tryz.ntmps11
 go_wp2
 go_loopw [1,5] (fun q' i wr=>∃ (k:Nat) (Q:Int),k≤n∧i=.int .i64 k∧q'=.int .i64 Q∧Hid (Q=q+count (rowE r.f k)∧wr=marked w (rowE r.f k) q)) (fun _ i _=>n-(intOf i).toNat)
 case atStart=>exact ⟨0,q,by omega,rfl,rfl,HS0⟩
 case round =>
  obtain ⟨k,Q,hk,rfl,rfl,HR⟩:=hrel
  by_cases hlt:k<n
  ·have hltI:(k:Int)<n:=by omega
   obtain ⟨ao,m,cap,rfl,hQ0,hQm,⟨⟨v0,c0⟩,f0,⟨v1,c1⟩,f1⟩,c2,HC⟩:=HStep.out k Q wr hlt HR.out.1 HR.out.2
   clear HR
   go_wp2_with (go_at_call 28;refine HC.out.mono ?_;rintro e w9 ⟨rfl,HN⟩)
   go_roundw
   case rel=>exact ⟨k+1,_,by omega,by go_num,rfl,HN⟩
   case measure=>simp [intOf];omega
  ·have hlt2:¬ (k:Int)<n:=by omega
   obtain rfl:k=n:=by omega
   have HE:=hide (HFin.out Q wr HR.out.1 HR.out.2)
   go_wp2
   go_ret
   exact ⟨by rw [HE.out.1];rfl,HE.out.2⟩
structure Cu where
 p:Ps
 m:Ms
 c:Rs
def Cu.es (u:Cu):List En:=u.p.es++(u.m.es++u.c.es)
def Cu.Good (u:Cu):Prop:=u.p.Good∧u.m.Good∧u.c.Good
def Cu.v (u:Cu) (cf:Bool):Value:=.agg #[.slice u.p.ao u.p.xs.length u.p.cap,.slice u.m.ao u.m.xs.length u.m.cap,.slice u.c.ao u.c.xs.length u.c.cap,.bool cf]
theorem Cu.count (u:Cu):shape.count u.es=shape.count u.p.es+shape.count u.m.es+shape.count u.c.es:=by
 simp only [Cu.es,count_append]
 omega
set_option maxRecDepth 20000 in
set_option maxHeartbeats 2000000 in
theorem markCluster_any (w:World) (u:Cu) (cf:Bool) (hg:u.Good) (h:Ok w u.es) (hn:shape.Nd u.es) (q:Int) (h0:0≤q) (hq:q+shape.count u.es≤4611686018427387904) :
  Calls Tryz.prog 12 #[.agg #[.slice u.p.ao u.p.xs.length u.p.cap,.slice u.m.ao u.m.xs.length u.m.cap,.slice u.c.ao u.c.xs.length u.c.cap,.bool cf],.int .i64 q] w fun e w'=>e=.returned (.int .i64 (q+shape.count u.es))∧w'=marked (w.alloc (.cells #[.slice u.p.ao u.p.xs.length u.p.cap,.slice u.m.ao u.m.xs.length u.m.cap,.slice u.c.ao u.c.xs.length u.c.cap,.bool cf] 28)) u.es q:=by
 obtain ⟨W,hW⟩:∃ W,w.alloc (.cells #[.slice u.p.ao u.p.xs.length u.p.cap,.slice u.m.ao u.m.xs.length u.m.cap,.slice u.c.ao u.c.xs.length u.c.cap,.bool cf] 28)=W:=⟨_,rfl⟩
 have bW:Below w.heap.size w W:=by rw [←hW];exact more (Below.refl _ _) _
 have xW:W.heap[w.heap.size]?=some (.cells #[.slice u.p.ao u.p.xs.length u.p.cap,.slice u.m.ao u.m.xs.length u.m.cap,.slice u.c.ao u.c.xs.length u.c.cap,.bool cf] 28 (0,0)):=by rw [←hW];exact heap_alloc_new w _
 have hO:=Ok.below h bW
 have hlt:=Ok.lt h
 have hct:=u.count
 rw [hct] at hq ⊢
 obtain ⟨g1,g2,g3⟩:=hg
 have far:∀ (es:List En) (X:World) (z:Int) (i:Nat) (x:Value),(∀ e∈es,e.at.1<w.heap.size)→X.cell? ⟨w.heap.size,i,none⟩=some x→(marked X es z).cell? ⟨w.heap.size,i,none⟩=some x:=fun es X z i x hes hX=>(marked_other es X z _ _ (fun e he e'=>by have:=hes e he;rw [e'] at this;exact Nat.lt_irrefl _ this)).trans hX
 have b0:W.cell? ⟨w.heap.size,0,none⟩=some (.slice u.p.ao u.p.xs.length u.p.cap):=cell_of xW rfl
 have b1:W.cell? ⟨w.heap.size,1,none⟩=some (.slice u.m.ao u.m.xs.length u.m.cap):=cell_of xW rfl
 have b2:W.cell? ⟨w.heap.size,2,none⟩=some (.slice u.c.ao u.c.xs.length u.c.cap):=cell_of xW rfl
 obtain ⟨z1,hz1⟩:∃ z,z=shape.count u.p.es:=⟨_,rfl⟩
 obtain ⟨z2,hz2⟩:∃ z,z=shape.count u.m.es:=⟨_,rfl⟩
 obtain ⟨z3,hz3⟩:∃ z,z=shape.count u.c.es:=⟨_,rfl⟩
 have hne1:∀ e∈u.p.es,e.at.1<w.heap.size:=fun e he=>hlt e (by simp [Cu.es,he])
 have hne2:∀ e∈u.m.es,e.at.1<w.heap.size:=fun e he=>hlt e (by simp [Cu.es,he])
 have H:Hid (Calls Tryz.prog 29 #[.slice u.p.ao u.p.xs.length u.p.cap,.int .i64 q] W fun e w2=>e=.returned (.int .i64 (q+z1))∧w2.cell? ⟨w.heap.size,1,none⟩=some (.slice u.m.ao u.m.xs.length u.m.cap)∧Hid (Calls Tryz.prog 30 #[.slice u.m.ao u.m.xs.length u.m.cap,.int .i64 (q+z1)] w2 fun e w3=>e=.returned (.int .i64 (q+z1+z2))∧w3.cell? ⟨w.heap.size,2,none⟩=some (.slice u.c.ao u.c.xs.length u.c.cap)∧Hid (Calls Tryz.prog 31 #[.slice u.c.ao u.c.xs.length u.c.cap,.int .i64 (q+z1+z2)] w3 fun e w4=>e=.returned (.int .i64 (q+z1+z2+z3))∧Hid (w4=marked W u.es q)))):=by
  have hO':Ok W (u.p.es++(u.m.es++u.c.es)):=hO
  have hn':shape.Nd (u.p.es++(u.m.es++u.c.es)):=hn
  refine (markPeerS_any W u.p g1 hO'.left hn'.left q h0 (by omega)).mono ?_
  rintro e w2 ⟨rfl,ew2⟩
  obtain ⟨o2,n2⟩:=next hO' hn' q
  refine ⟨by rw [hz1],by rw [ew2];exact far _ _ _ _ _ hne1 b1,?_⟩
  rw [ew2,hz1]
  refine (markMsgS_any _ u.m g2 o2.left n2.left _ (by omega) (by omega)).mono ?_
  rintro e w3 ⟨rfl,ew3⟩
  obtain ⟨o3,n3⟩:=next o2 n2 (q+shape.count u.p.es)
  refine ⟨by rw [hz2],by rw [ew3];exact far _ _ _ _ _ hne2 (far _ _ _ _ _ hne1 b2),?_⟩
  rw [ew3,hz2]
  refine (markRecS_any _ u.c g3 o3 n3 _ (by omega) (by omega)).mono ?_
  rintro e w4 ⟨rfl,ew4⟩
  refine ⟨by rw [hz3],?_⟩
  show w4=_
  rw [ew4]
  simp only [Cu.es,marked_append]
 rw [←hz1,←hz2,←hz3] at hq ⊢
 obtain ⟨W',hW'⟩:∃ W',W'=marked W u.es q:=⟨_,rfl⟩
 have HF:Hid (W'=marked (w.alloc (.cells #[.slice u.p.ao u.p.xs.length u.p.cap,.slice u.m.ao u.m.xs.length u.m.cap,.slice u.c.ao u.c.xs.length u.c.cap,.bool cf] 28)) u.es q):=by show _=_;rw [hW,hW']
 rw [←hW'] at H
 have HG:Hid (q+z1+z2+z3=q+((z1+z2+z3:Nat):Int)):=by show _=_;omega
 clear hW' hO h hn g1 g2 g3 hlt hct far hne1 hne2 hz1 hz2 hz3 xW bW
 obtain ⟨p1,e1⟩:∃ x,u.p.ao=x:=⟨_,rfl⟩
 obtain ⟨p2,e2⟩:∃ x,u.p.xs.length=x:=⟨_,rfl⟩
 obtain ⟨p3,e3⟩:∃ x,u.p.cap=x:=⟨_,rfl⟩
 obtain ⟨p4,e4⟩:∃ x,u.m.ao=x:=⟨_,rfl⟩
 obtain ⟨p5,e5⟩:∃ x,u.m.xs.length=x:=⟨_,rfl⟩
 obtain ⟨p6,e6⟩:∃ x,u.m.cap=x:=⟨_,rfl⟩
 obtain ⟨p7,e7⟩:∃ x,u.c.ao=x:=⟨_,rfl⟩
 obtain ⟨p8,e8⟩:∃ x,u.c.xs.length=x:=⟨_,rfl⟩
 obtain ⟨p9,e9⟩:∃ x,u.c.cap=x:=⟨_,rfl⟩
 rw [e1,e2,e3,e4,e5,e6,e7,e8,e9] at hW HF ⊢
 rw [e1,e2,e3] at H b0
 rw [e4,e5,e6] at H b1
 rw [e7,e8,e9] at H b2
 have HF2:Hid (∀ X,X=W'→X=marked (w.alloc (.cells #[.slice p1 p2 p3,.slice p4 p5 p6,.slice p7 p8 p9,.bool cf] 28)) u.es q):=fun X hX=>by rw [hX];exact HF.out
 clear HF e1 e2 e3 e4 e5 e6 e7 e8 e9
 go_enter Tryz.func12,Tryz.ntmps12
 go_wp2_with fail
 (try rw [hW])
 refine H.out.mono ?_
 rintro e w2 ⟨rfl,c1,H2⟩
 go_wp2_with fail
 refine H2.out.mono ?_
 rintro e w3 ⟨rfl,c2,H3⟩
 go_wp2_with fail
 refine H3.out.mono ?_
 rintro e w4 ⟨rfl,H4⟩
 go_wp2
 go_ret
 exact ⟨by rw [←HG.out];rfl,HF2.out _ H4.out⟩
set_option maxRecDepth 20000 in
set_option maxHeartbeats 2000000 in
theorem heldCluster_any (w:World) (u:Cu) (cf:Bool) (hg:u.Good) (q:Int) (h:Held w u.es q) (h0:0≤q) (hq:q+shape.count u.es≤4611686018427387904) :
  Calls Tryz.prog 14 #[.agg #[.slice u.p.ao u.p.xs.length u.p.cap,.slice u.m.ao u.m.xs.length u.m.cap,.slice u.c.ao u.c.xs.length u.c.cap,.bool cf],.int .i64 q] w fun e w'=>e=.returned (.int .i64 (q+shape.count u.es))∧Below w.heap.size w w':=by
 obtain ⟨W,hW⟩:∃ W,w.alloc (.cells #[.slice u.p.ao u.p.xs.length u.p.cap,.slice u.m.ao u.m.xs.length u.m.cap,.slice u.c.ao u.c.xs.length u.c.cap,.bool cf] 28)=W:=⟨_,rfl⟩
 have bW:Below w.heap.size w W:=by rw [←hW];exact more (Below.refl _ _) _
 have xW:W.heap[w.heap.size]?=some (.cells #[.slice u.p.ao u.p.xs.length u.p.cap,.slice u.m.ao u.m.xs.length u.m.cap,.slice u.c.ao u.c.xs.length u.c.cap,.bool cf] 28 (0,0)):=by rw [←hW];exact heap_alloc_new w _
 have hH:=h.below bW (Held.lt _ _ h)
 have hct:=u.count
 rw [hct] at hq ⊢
 obtain ⟨g1,g2,g3⟩:=hg
 have b0:W.cell? ⟨w.heap.size,0,none⟩=some (.slice u.p.ao u.p.xs.length u.p.cap):=cell_of xW rfl
 have b1:W.cell? ⟨w.heap.size,1,none⟩=some (.slice u.m.ao u.m.xs.length u.m.cap):=cell_of xW rfl
 have b2:W.cell? ⟨w.heap.size,2,none⟩=some (.slice u.c.ao u.c.xs.length u.c.cap):=cell_of xW rfl
 simp only [Cu.es,Held.append] at hH
 obtain ⟨h1,h2,h3⟩:=hH
 have H1:Hid (Calls Tryz.prog 32 #[.slice u.p.ao u.p.xs.length u.p.cap,.int .i64 q] W fun e w2=>e=.returned (.int .i64 (q+shape.count u.p.es))∧w2=W):=heldPeerS_any W u.p g1 q h1 h0 (by omega)
 have H2:Hid (Calls Tryz.prog 33 #[.slice u.m.ao u.m.xs.length u.m.cap,.int .i64 (q+shape.count u.p.es)] W fun e w2=>e=.returned (.int .i64 (q+shape.count u.p.es+shape.count u.m.es))∧w2=W):=heldMsgS_any W u.m g2 _ h2 (by omega) (by omega)
 have H3:Hid (Calls Tryz.prog 34 #[.slice u.c.ao u.c.xs.length u.c.cap,.int .i64 (q+shape.count u.p.es+shape.count u.m.es)] W fun e w2=>e=.returned (.int .i64 (q+shape.count u.p.es+shape.count u.m.es+shape.count u.c.es))∧w2=W):=heldRecS_any W u.c g3 _ h3 (by omega) (by omega)
 obtain ⟨z1,hz1⟩:∃ z,z=shape.count u.p.es:=⟨_,rfl⟩
 obtain ⟨z2,hz2⟩:∃ z,z=shape.count u.m.es:=⟨_,rfl⟩
 obtain ⟨z3,hz3⟩:∃ z,z=shape.count u.c.es:=⟨_,rfl⟩
 rw [←hz1] at H1 H2 H3 hq ⊢
 rw [←hz2] at H2 H3 hq ⊢
 rw [←hz3] at H3 hq ⊢
 have HG:Hid (q+z1+z2+z3=q+((z1+z2+z3:Nat):Int)):=by show _=_;omega
 have n1:¬ q+(z1:Int)<0:=by omega
 have n2:¬ q+(z1:Int)+z2<0:=by omega
 have n3:¬ q+(z1:Int)+z2+z3<0:=by omega
 have HB:=hide bW
 clear h g1 g2 g3 hct hz1 hz2 hz3 xW bW h1 h2 h3
 obtain ⟨p1,e1⟩:∃ x,u.p.ao=x:=⟨_,rfl⟩
 obtain ⟨p2,e2⟩:∃ x,u.p.xs.length=x:=⟨_,rfl⟩
 obtain ⟨p3,e3⟩:∃ x,u.p.cap=x:=⟨_,rfl⟩
 obtain ⟨p4,e4⟩:∃ x,u.m.ao=x:=⟨_,rfl⟩
 obtain ⟨p5,e5⟩:∃ x,u.m.xs.length=x:=⟨_,rfl⟩
 obtain ⟨p6,e6⟩:∃ x,u.m.cap=x:=⟨_,rfl⟩
 obtain ⟨p7,e7⟩:∃ x,u.c.ao=x:=⟨_,rfl⟩
 obtain ⟨p8,e8⟩:∃ x,u.c.xs.length=x:=⟨_,rfl⟩
 obtain ⟨p9,e9⟩:∃ x,u.c.cap=x:=⟨_,rfl⟩
 rw [e1,e2,e3,e4,e5,e6,e7,e8,e9] at hW ⊢
 rw [e1,e2,e3] at H1 b0
 rw [e4,e5,e6] at H2 b1
 rw [e7,e8,e9] at H3 b2
 clear e1 e2 e3 e4 e5 e6 e7 e8 e9
 go_enter Tryz.func14,Tryz.ntmps14
 go_wp2_with fail
 (try rw [hW])
 refine H1.out.mono ?_
 rintro e w2 ⟨rfl,e9⟩
 obtain rfl:=e9.symm
 go_wp2_with fail
 refine H2.out.mono ?_
 rintro e w2 ⟨rfl,e9⟩
 obtain rfl:=e9.symm
 go_wp2_with fail
 refine H3.out.mono ?_
 rintro e w2 ⟨rfl,e9⟩
 obtain rfl:=e9.symm
 go_wp2
 go_ret
 exact ⟨by rw [←HG.out];rfl,HB.out⟩
end Go.Proofs.YtcfdmbkiinjmaaaGreat.mk5
namespace Go.Proofs.YtcfdmbkiinjmaaaGreat.look
open Raft mem grp
theorem Nd.logc {w:World} {M:Fz} {O:Lb} {b k:Nat} {p:Peer} {us:List RV} {lv vv nv mv:Value} (h:Nd w M O b k p us lv vv nv mv) {i:Nat} {r:Rc} (hi:p.log[i]?=some r) :
  ∃ g cap o n c,lv=.slice (some ⟨g,0,none⟩) p.log.length cap∧p.log.length≤cap∧cap≤maxLen∧w.cell? ⟨g,i*3,none⟩=some (.int .i64 r.term)∧w.cell? ⟨g,i*3+1,none⟩=some (.int .i64 r.index)∧w.cell? ⟨g,i*3+2,none⟩=some (.slice o n c)∧BytesM M (.slice o n c) r.data∧r.data.length≤1000:=by
 have hlen:us.length=p.log.length:=by rw [←h.recs];simp
 rw [←h.recs,List.getElem?_map,Option.map_eq_some_iff] at hi
 obtain ⟨x,hx,rfl⟩:=hi
 have hlt:=(List.getElem?_eq_some_iff.1 hx).1
 obtain ⟨g,cap,e,h1,h2,h3,h4⟩:=own_at h.log (by omega)
 have hf:=fun j hj=>flat_get recCells 3 recCells_len us i j x hx hj
 obtain ⟨q1,q2⟩:=h.data x (List.mem_iff_getElem?.2 ⟨i,hx⟩)
 obtain ⟨⟨ao,cp,e2,_⟩,_⟩:=id q1
 refine ⟨g,cap,ao,_,cp,by rw [e,hlen],by omega,h2,?_,?_,?_,by rw [←e2];exact q1,q2⟩
 ·have:=h3 (i*3+0) (.int .i64 x.r.term) (by rw [hf 0 (by decide)];rfl)
  simpa using this
 ·exact h3 (i*3+1) (.int .i64 x.r.index) (by rw [hf 1 (by decide)];rfl)
 ·rw [←e2];exact h3 (i*3+2) x.dv (by rw [hf 2 (by decide)];rfl)
theorem Nd.logs {w:World} {M:Fz} {O:Lb} {b k:Nat} {p:Peer} {us:List RV} {lv vv nv mv:Value} (h:Nd w M O b k p us lv vv nv mv):∃ o c,lv=.slice o p.log.length c∧p.log.length≤c∧c≤maxLen:=by
 have hlen:us.length=p.log.length:=by rw [←h.recs];simp
 obtain ⟨o,c,e⟩:=own_slice h.log
 have h1:=h.log
 rw [e] at h1
 obtain ⟨_,h2,h3⟩:=own_cap h1
 exact ⟨o,c,by rw [e,hlen],by omega,h3⟩
theorem last_any (w:World) (M:Fz) (O:Lb) (b k:Nat) (p:Peer) (h:Nod w M O b k p) :
  Calls Tryz.prog 87 #[.pointer (some ⟨b,0,none⟩)] w fun r w'=>r=.returned (.int .i64 (p.log.length:Nat))∧w'=w:=by
 obtain ⟨us,lv,vv,nv,mv,h⟩:=h
 obtain ⟨o,c,rfl,h1,h2⟩:=Nd.logs h
 unfold maxLen at h2
 have c2:=cell_of (i:=2) h.blk rfl
 clear h
 go_enter Tryz.func87,Tryz.ntmps87
 go_wp2
 go_ret
 exact ⟨rfl,rfl⟩
theorem term_any (w:World) (M:Fz) (O:Lb) (b k:Nat) (p:Peer) (h:Nod w M O b k p) (i:Nat) (hi:i≤p.log.length) :
  Calls Tryz.prog 95 #[.pointer (some ⟨b,0,none⟩),.int .i64 i] w fun r w'=>r=.returned (.int .i64 (termAt p.log i:Nat))∧w'=w:=by
 obtain ⟨us,lv,vv,nv,mv,h⟩:=h
 cases i with
 | zero =>
  have HT:Hid ((termAt p.log 0:Nat)=0):=by unfold Hid termAt;rw [if_pos rfl]
  clear h
  go_enter Tryz.func95,Tryz.ntmps95
  go_wp2
  go_ret
  exact ⟨by rw [HT.out];rfl,rfl⟩
 | succ i =>
  obtain ⟨r,hr⟩:∃ r,p.log[i]?=some r:=⟨_,List.getElem?_eq_getElem (by omega)⟩
  obtain ⟨g,cap,o,n,c,rfl,h1,h2,q0,_⟩:=Nd.logc h hr
  have HT:Hid ((termAt p.log (i+1):Nat)=r.term):=by
   unfold Hid termAt
   rw [if_neg (by omega),Nat.add_sub_cancel,hr]
  unfold maxLen at h2
  have c2:=cell_of (i:=2) h.blk rfl
  have e1:¬ ((i:Int)+1=0):=by omega
  clear h hr
  go_enter Tryz.func95,Tryz.ntmps95
  go_wp2
  go_ret
  exact ⟨by rw [HT.out];rfl,rfl⟩
theorem has_any (w:World) (M:Fz) (O:Lb) (b k:Nat) (p:Peer) (h:Nod w M O b k p) (i t:Nat) :
  Calls Tryz.prog 92 #[.pointer (some ⟨b,0,none⟩),.int .i64 i,.int .i64 t] w fun r w'=>r=.returned (.bool (decide (i≤p.log.length∧termAt p.log i=t)))∧w'=w:=by
 have HL:=last_any w M O b k p h
 by_cases hi:i≤p.log.length
 ·have HT:=term_any w M O b k p h i hi
  have hiI:(i:Int)≤p.log.length:=by omega
  have HE:Hid (decide (i≤p.log.length∧termAt p.log i=t)=((termAt p.log i:Int) == (t:Int))):=by
   unfold Hid
   by_cases e:termAt p.log i=t
   ·simp [hi,e]
   ·have:¬ ((termAt p.log i:Int)=t):=by omega
    simp [e,this]
  rw [HE.out]
  clear hi
  generalize termAt p.log i=T at *
  generalize p.log.length=L at *
  clear HE
  go_enter Tryz.func92,Tryz.ntmps92
  go_wp2_with (first | (refine HL.mono ?_;rintro e w' ⟨rfl,rfl⟩) | (refine HT.mono ?_;rintro e w' ⟨rfl,rfl⟩))
  go_ret
  exact ⟨rfl,rfl⟩
 ·have hiI:¬ (i:Int)≤p.log.length:=by omega
  have HE:Hid (decide (i≤p.log.length∧termAt p.log i=t)=false):=by
   unfold Hid
   simp [hi]
  rw [HE.out]
  clear hi HE
  generalize p.log.length=L at *
  go_enter Tryz.func92,Tryz.ntmps92
  go_wp2_with (first | (refine HL.mono ?_;rintro e w' ⟨rfl,rfl⟩))
  go_ret
  exact ⟨rfl,rfl⟩
theorem lastTerm_at (l:List Rc):lastTerm l=termAt l l.length:=by
 unfold lastTerm termAt
 cases e:l.getLast? with
 | none =>
  have:l=[]:=List.getLast?_eq_none_iff.1 e
  subst this
  rfl
 | some r =>
  have hne:l≠[]:=fun h=>by subst h;cases e
  have hpos:0<l.length:=List.length_pos_iff.2 hne
  rw [if_neg (by omega)]
  rw [List.getLast?_eq_getElem?] at e
  rw [e]
theorem notAhead_any (w:World) (M:Fz) (O:Lb) (b k:Nat) (p:Peer) (h:Nod w M O b k p) (i t:Nat) :
  Calls Tryz.prog 102 #[.pointer (some ⟨b,0,none⟩),.int .i64 i,.int .i64 t] w fun r w'=>r=.returned (.bool (decide (lastTerm p.log<t∨t=lastTerm p.log∧p.log.length≤i)))∧w'=w:=by
 have HL:=last_any w M O b k p h
 have HT:=term_any w M O b k p h p.log.length (Nat.le_refl _)
 rw [lastTerm_at]
 generalize termAt p.log p.log.length=T at *
 generalize p.log.length=L at *
 by_cases h1:T<t
 ·have hI:(T:Int)<t:=by omega
  have HE:Hid (decide (T<t∨t=T∧L≤i)=true):=by unfold Hid;simp [h1]
  rw [HE.out]
  clear HE
  go_enter Tryz.func102,Tryz.ntmps102
  go_wp2_with (first | (refine HL.mono ?_;rintro e w' ⟨rfl,rfl⟩) | (refine HT.mono ?_;rintro e w' ⟨rfl,rfl⟩))
  go_ret
  refine ⟨?_,rfl⟩
  first | rfl | (simp [*];done)
 ·have hI:¬ (T:Int)<t:=by omega
  by_cases h2:t=T
  ·subst h2
   have HE:Hid (decide (t<t∨t=t∧L≤i)=decide ((L:Int)≤i)):=by unfold Hid;simp
   rw [HE.out]
   clear HE
   go_enter Tryz.func102,Tryz.ntmps102
   go_wp2_with (first | (refine HL.mono ?_;rintro e w' ⟨rfl,rfl⟩) | (refine HT.mono ?_;rintro e w' ⟨rfl,rfl⟩))
   go_ret
   refine ⟨?_,rfl⟩
   first | rfl | simp
  ·have hI2:((t:Int) == T)=false:=by simp;omega
   have HE:Hid (decide (T<t∨t=T∧L≤i)=false):=by unfold Hid;simp [h1,h2]
   rw [HE.out]
   clear HE
   go_enter Tryz.func102,Tryz.ntmps102
   go_wp2_with (first | (refine HL.mono ?_;rintro e w' ⟨rfl,rfl⟩) | (refine HT.mono ?_;rintro e w' ⟨rfl,rfl⟩))
   go_ret
   refine ⟨?_,rfl⟩
   first | rfl | (simp [*];done)
theorem voteFor_any (w:World) (n:Nat) (hn:n≤1000):Calls Tryz.prog 97 #[.int .i64 n] w fun r w'=>r=.returned (.int .i64 ((n+1:Nat):Int))∧w'=w:=by
 have e:((n+1:Nat):Int)=(n:Int)+1:=by omega
 rw [e]
 have h1:(n:Int)≤1000:=by omega
 go_enter Tryz.func97,Tryz.ntmps97
 go_wp2
 go_ret
 exact ⟨rfl,rfl⟩
theorem majority_any (w:World) (n:Nat) (h1:1≤n) (h2:n≤7):Calls Tryz.prog 105 #[.int .i64 n] w fun r w'=>r=.returned (.int .i64 (most n:Nat))∧w'=w:=by
 have e1:¬ (n:Int)<1:=by omega
 have e2:¬ (7:Int)<n:=by omega
 have HE:Hid ((n:Int) / 2+1=(most n:Nat)):=by unfold Hid most;omega
 go_enter Tryz.func105,Tryz.ntmps105
 go_wp2
 go_ret
 refine ⟨?_,rfl⟩
 show Ending.returned (.int .i64 ((n:Int) / 2+1))=_
 rw [HE.out]
theorem Gr.pvs {w:World} {M:Fz} {O:Lb} {d hd:Nat} {nb:List Nat} {c:Cl} {pv cv:Value} {bs:List Nat} {us:List MV} {cs:List RV} (h:Gr w M O d hd nb c pv cv bs us cs):∃ o cp,pv=.slice o c.peers.length cp∧c.peers.length≤cp∧cp≤maxLen:=by
 obtain ⟨ao,cap,rfl,h1,h2,_⟩:=h.peers
 have:=h.len
 exact ⟨ao,cap,by rw [this],by omega,h2⟩
theorem most_any (w:World) (M:Fz) (O:Lb) (d:Nat) (nb:List Nat) (c:Cl) (h:G w M O d nb c) (h1:1≤c.peers.length) (h2:c.peers.length≤7) :
  Calls Tryz.prog 99 #[.pointer (some ⟨d,0,none⟩)] w fun r w'=>r=.returned (.int .i64 (most c.peers.length:Nat))∧w'=w:=by
 obtain ⟨hd,pv,cv,bs,us,cs,h⟩:=h
 obtain ⟨o,cp,rfl,_,h3⟩:=Gr.pvs h
 unfold maxLen at h3
 have c2:=cell_of (i:=2) h.blk rfl
 have HM:=majority_any w c.peers.length h1 h2
 clear h
 generalize c.peers.length=n at *
 go_enter Tryz.func99,Tryz.ntmps99
 go_wp2_with (refine HM.mono ?_;rintro e w' ⟨rfl,rfl⟩)
 go_ret
 exact ⟨rfl,rfl⟩
theorem count_snoc {α:Type} (f:α→Bool) (l:List α) (i:Nat) (x:α) (h:l[i]?=some x):(l.take (i+1)).countP f=(l.take i).countP f+(if f x then 1 else 0):=by
 have hlt:=(List.getElem?_eq_some_iff.1 h).1
 have e:l[i]=x:=by have:=List.getElem?_eq_getElem hlt;rw [h] at this;exact (Option.some.inj this).symm
 rw [List.take_succ_eq_append_getElem hlt,List.countP_append,e]
 simp [List.countP_cons]
theorem votesHad_any (w:World) (M:Fz) (O:Lb) (b k:Nat) (p:Peer) (h:Nod w M O b k p) (hl:p.votes.length≤7) :
  Calls Tryz.prog 98 #[.pointer (some ⟨b,0,none⟩)] w fun r w'=>r=.returned (.int .i64 (p.votes.countP id:Nat))∧w'=w:=by
 obtain ⟨us,lv,vv,nv,mv,h⟩:=h
 have hv:=h.votes
 obtain ⟨o,cp,rfl⟩:=own_slice hv
 obtain ⟨_,_,hcp⟩:=own_cap hv
 unfold maxLen at hcp
 have c7:=cell_of (i:=7) h.blk rfl
 have HC:Hid (∀ i x,p.votes[i]?=some x→∃ g,o=some ⟨g,0,none⟩∧w.cell? ⟨g,i,none⟩=some (.bool x)):=fun i x hx=>by
  have hlt:=(List.getElem?_eq_some_iff.1 hx).1
  obtain ⟨g,cap,e,_,_,h3,_⟩:=own_at hv (by omega)
  simp only [Value.slice.injEq] at e
  exact ⟨g,e.1,h3 i _ (by rw [List.getElem?_map,hx];rfl)⟩
 obtain ⟨L,hL⟩:∃ L,L=p.votes.length:=⟨_,rfl⟩
 have HL:=hide hL
 rw [←hL] at c7 hl
 have HR:Hid ((p.votes.take L).countP id=p.votes.countP id):=by unfold Hid;rw [hL,List.take_length]
 clear h hv hL
 go_enter Tryz.func98,Tryz.ntmps98
 go_wp2
 go_loop [3,11] (fun n i=>∃ j:Nat,j≤L∧i=.int .i64 j∧n=.int .i64 ((p.votes.take j).countP id:Nat)) (fun _ i=>L-(intOf i).toNat)
 case atStart=>exact ⟨0,Nat.zero_le _,rfl,by simp⟩
 case round =>
  obtain ⟨j,hj,rfl,rfl⟩:=hrel
  have hcn:(p.votes.take j).countP id≤j:=by
   refine Nat.le_trans List.countP_le_length ?_
   rw [List.length_take];omega
  by_cases hlt:j<L
  ·obtain ⟨x,hx⟩:∃ x,p.votes[j]?=some x:=⟨_,List.getElem?_eq_getElem (by rw [←HL.out];exact hlt)⟩
   obtain ⟨g,rfl,hc⟩:=HC.out j x hx
   have HS:=hide (count_snoc id p.votes j x hx)
   have hltI:(j:Int)<L:=by omega
   obtain ⟨cn,hcn2⟩:∃ cn,cn=(p.votes.take j).countP id:=⟨_,rfl⟩
   rw [←hcn2] at hcn ⊢
   rw [←hcn2] at HS
   clear hx hcn2
   cases x with
   | true =>
    go_wp2
    go_round
    case rel=>exact ⟨j+1,by omega,by go_num,by rw [HS.out];simp⟩
    case measure=>simp [intOf];omega
   | false =>
    go_wp2
    go_round
    case rel=>exact ⟨j+1,by omega,by go_num,by rw [HS.out];simp⟩
    case measure=>simp [intOf];omega
  ·have hltI:¬ (j:Int)<L:=by omega
   obtain rfl:j=L:=by omega
   rw [HR.out]
   go_wp2
   go_ret
   exact ⟨rfl,rfl⟩
theorem reaching_any (w:World) (M:Fz) (O:Lb) (b k:Nat) (p:Peer) (h:Nod w M O b k p) (hl:p.mat.length≤7) (i:Nat) :
  Calls Tryz.prog 101 #[.pointer (some ⟨b,0,none⟩),.int .i64 i] w fun r w'=>r=.returned (.int .i64 (p.mat.countP (fun m=>decide (i≤m)):Nat))∧w'=w:=by
 obtain ⟨us,lv,vv,nv,mv,h⟩:=h
 have hv:=h.mat
 obtain ⟨o,cp,rfl⟩:=own_slice hv
 obtain ⟨_,_,hcp⟩:=own_cap hv
 unfold maxLen at hcp
 have c7:=cell_of (i:=9) h.blk rfl
 have HC:Hid (∀ (j x:Nat),p.mat[j]?=some x→∃ g,o=some ⟨g,0,none⟩∧w.cell? ⟨g,j,none⟩=some (.int .i64 x)):=fun j x hx=>by
  have hlt:=(List.getElem?_eq_some_iff.1 hx).1
  obtain ⟨g,cap,e,_,_,h3,_⟩:=own_at hv (by omega)
  simp only [Value.slice.injEq] at e
  exact ⟨g,e.1,h3 j _ (by rw [List.getElem?_map,hx];rfl)⟩
 obtain ⟨L,hL⟩:∃ L,L=p.mat.length:=⟨_,rfl⟩
 have HL:=hide hL
 rw [←hL] at c7 hl
 have HR:Hid ((p.mat.take L).countP (fun m=>decide (i≤m))=p.mat.countP (fun m=>decide (i≤m))):=by unfold Hid;rw [hL,List.take_length]
 clear h hv hL
 go_enter Tryz.func101,Tryz.ntmps101
 go_wp2
 go_loop [5,13] (fun n i'=>∃ j:Nat,j≤L∧i'=.int .i64 j∧n=.int .i64 ((p.mat.take j).countP (fun m=>decide (i≤m)):Nat)) (fun _ i'=>L-(intOf i').toNat)
 case atStart=>exact ⟨0,Nat.zero_le _,rfl,by simp⟩
 case round =>
  obtain ⟨j,hj,rfl,rfl⟩:=hrel
  have hcn:(p.mat.take j).countP (fun m=>decide (i≤m))≤j:=by
   refine Nat.le_trans List.countP_le_length ?_
   rw [List.length_take];omega
  by_cases hlt:j<L
  ·obtain ⟨x,hx⟩:∃ x,p.mat[j]?=some x:=⟨_,List.getElem?_eq_getElem (by rw [←HL.out];exact hlt)⟩
   obtain ⟨g,rfl,hc⟩:=HC.out j x hx
   have HS:=hide (count_snoc (fun m=>decide (i≤m)) p.mat j x hx)
   have hltI:(j:Int)<L:=by omega
   obtain ⟨cn,hcn2⟩:∃ cn,cn=(p.mat.take j).countP (fun m=>decide (i≤m)):=⟨_,rfl⟩
   rw [←hcn2] at hcn ⊢
   rw [←hcn2] at HS
   clear hx hcn2
   by_cases hx:i≤x
   ·have hxI:(i:Int)≤x:=by omega
    go_wp2
    go_round
    case rel=>exact ⟨j+1,by omega,by go_num,by rw [HS.out];simp [hx]⟩
    case measure=>simp [intOf];omega
   ·have hxI:¬ (i:Int)≤x:=by omega
    go_wp2
    go_round
    case rel=>exact ⟨j+1,by omega,by go_num,by rw [HS.out];simp [hx]⟩
    case measure=>simp [intOf];omega
  ·have hltI:¬ (j:Int)<L:=by omega
   obtain rfl:j=L:=by omega
   rw [HR.out]
   go_wp2
   go_ret
   exact ⟨rfl,rfl⟩
end Go.Proofs.YtcfdmbkiinjmaaaGreat.look
namespace Go.Proofs.YtcfdmbkiinjmaaaGreat.ndw
open Raft mem grp YtcfdmbkiinjmaaaGreat.look
def sets (w:World) (b:Nat):List (Nat×Value)→World
 | []=>w
 | (i,v)::l=>sets (w.setCell ⟨b,i,none⟩ v) b l
def setsA (cur:Array Value):List (Nat×Value)→Array Value
 | []=>cur
 | (i,v)::l=>setsA (cur.setIfInBounds i v) l
theorem sets_at:∀ (l:List (Nat×Value)) {w:World} {b t:Nat} {cur:Array Value},w.heap[b]?=some (.cells cur t (0,0))→(sets w b l).heap[b]?=some (.cells (setsA cur l) t (0,0))
 | [],_,_,_,_,h=>h
 | (i,v)::l,_,_,_,_,h=>sets_at l (set_at h i v rfl)
theorem sets_ne:∀ (l:List (Nat×Value)) (w:World) {b x:Nat},x≠b→(sets w b l).heap[x]?=w.heap[x]?
 | [],_,_,_,_=>rfl
 | (i,v)::l,w,b,x,h=>(sets_ne l _ h).trans (Below.heap_setCell w ⟨b,i,none⟩ v x h)
theorem sets_aft {S:Nat→Prop} {M M':Fz} {O O':Lb} {w:World} {b lb:Nat} (hl:O' b=some lb) (hs:S lb):∀ (l:List (Nat×Value)) {w':World},Aft S M O w M' O' w'→Aft S M O w M' O' (sets w' b l)
 | [],_,h=>h
 | (i,v)::l,_,h=>sets_aft hl hs l (h.set hl hs i v)
section
variable {w:World} {M:Fz} {O:Lb} {b k:Nat} {p:Peer} {us:List RV} {lv vv nv mv:Value}
theorem NDid.sets {W:World} (st:Sta M O w) (h:Nd w M O b k p us lv vv nv mv) (hW:Below w.heap.size w W) (l:List (Nat×Value)) (p':Peer) (vv' nv' mv':Value)
  (hc:setsA #[.int .i64 p.term,.int .i64 p.vote,lv,.int .i64 k,.bool p.up,.int .i64 p.commit,.int .i64 p.role,vv,nv,mv] l=#[.int .i64 p'.term,.int .i64 p'.vote,lv,.int .i64 k,.bool p'.up,.int .i64 p'.commit,.int .i64 p'.role,vv',nv',mv'])
  (hl:p'.log=p.log) (hv:(vv'=vv∧p'.votes=p.votes)∨(vv'=.slice none 0 0∧p'.votes=[])) (hn:(nv'=nv∧p'.next=p.next)∨(nv'=.slice none 0 0∧p'.next=[]))
  (hm:(mv'=mv∧p'.mat=p.mat)∨(mv'=.slice none 0 0∧p'.mat=[])):NDid M O w b k p' (ndw.sets W b l):=by
 refine ⟨M,O,sets_aft (S:=(· = 3+k)) h.own rfl l ((Aft.refl _ st).below hW),⟨us,lv,vv',nv',mv',?_⟩⟩
 have h1:Nd W M O b k p us lv vv nv mv:=h.keep (fun x hx=>hW.block x (st.ok x _ hx).2) (Le.refl _) (fun _ hx=>hx)
 have hb:=sets_at l h1.blk
 rw [hc] at hb
 exact h1.put p' hb (fun x hx=>sets_ne l W hx) hl hv hn hm
theorem Nd.cs (h:Nd w M O b k p us lv vv nv mv):(w.cell? ⟨b,0,none⟩=some (.int .i64 p.term)∧w.cell? ⟨b,1,none⟩=some (.int .i64 p.vote)∧w.cell? ⟨b,2,none⟩=some lv∧w.cell? ⟨b,3,none⟩=some (.int .i64 k)∧w.cell? ⟨b,4,none⟩=some (.bool p.up)∧w.cell? ⟨b,5,none⟩=some (.int .i64 p.commit)∧w.cell? ⟨b,6,none⟩=some (.int .i64 p.role)∧w.cell? ⟨b,7,none⟩=some vv∧w.cell? ⟨b,8,none⟩=some nv∧w.cell? ⟨b,9,none⟩=some mv) ∧
  (w.frozen? ⟨b,0,none⟩=false∧w.frozen? ⟨b,1,none⟩=false∧w.frozen? ⟨b,2,none⟩=false∧w.frozen? ⟨b,3,none⟩=false∧w.frozen? ⟨b,4,none⟩=false∧w.frozen? ⟨b,5,none⟩=false∧w.frozen? ⟨b,6,none⟩=false∧w.frozen? ⟨b,7,none⟩=false∧w.frozen? ⟨b,8,none⟩=false∧w.frozen? ⟨b,9,none⟩=false) :=
 ⟨⟨cell_of h.blk rfl,cell_of h.blk rfl,cell_of h.blk rfl,cell_of h.blk rfl,cell_of h.blk rfl,cell_of h.blk rfl,cell_of h.blk rfl,cell_of h.blk rfl,cell_of h.blk rfl,cell_of h.blk rfl⟩,
  ⟨frozen_of h.blk _,frozen_of h.blk _,frozen_of h.blk _,frozen_of h.blk _,frozen_of h.blk _,frozen_of h.blk _,frozen_of h.blk _,frozen_of h.blk _,frozen_of h.blk _,frozen_of h.blk _⟩⟩
theorem drewN_below (w:World) (m:Nat):Below w.heap.size w (w.drewN m):=⟨rfl,rfl,rfl,Nat.le_refl _,fun _ _=>rfl⟩
theorem Nd.sl (h:Nd w M O b k p us lv vv nv mv):∃ lo lc vo vc no nc mo mc,lv=.slice lo p.log.length lc∧vv=.slice vo p.votes.length vc∧nv=.slice no p.next.length nc∧mv=.slice mo p.mat.length mc∧p.log.length≤lc∧lc≤9223372036854775807:=by
 obtain ⟨o,c,e,h1,h2⟩:=Nd.logs h
 obtain ⟨vo,vc,e1⟩:=own_slice h.votes
 obtain ⟨no,nc,e2⟩:=own_slice h.next
 obtain ⟨mo,mc,e3⟩:=own_slice h.mat
 unfold maxLen at h2
 exact ⟨o,c,vo,vc,no,nc,mo,mc,e,e1,e2,e3,h1,by omega⟩
end
def downP (p:Peer) (t:Nat):Peer:={ p with term:=max p.term t,vote:=if p.term<t then 0 else p.vote,role:=0,votes:=[],next:=[],mat:=[] }
theorem down_put (c:Cl) (k t:Nat):c.down k t=c.put k (downP (c.at k) t):=rfl
theorem stepDown_any (w:World) (M:Fz) (O:Lb) (b k:Nat) (p:Peer) (st:Sta M O w) (h:Nod w M O b k p) (t:Nat) :
  Calls Tryz.prog 76 #[.pointer (some ⟨b,0,none⟩),.int .i64 t] w fun r w'=>r=.returned (.tuple #[])∧NDid M O w b k (downP p t) w':=by
 obtain ⟨us,lv,vv,nv,mv,h⟩:=h
 have c0:=cell_of (i:=0) h.blk rfl
 have f:=frozen_of h.blk
 have f0:=f 0
 have f1:=f 1
 have f6:=f 6
 have f7:=f 7
 have f8:=f 8
 have f9:=f 9
 have c1:=cell_of (i:=1) h.blk rfl
 have c6:=cell_of (i:=6) h.blk rfl
 have c7:=cell_of (i:=7) h.blk rfl
 have c8:=cell_of (i:=8) h.blk rfl
 have c9:=cell_of (i:=9) h.blk rfl
 by_cases ht:p.term<t
 ·have htI:(p.term:Int)<t:=by omega
  have e1:max p.term t=t:=by omega
  have HF:=hide (NDid.sets st h (Below.refl _ _) [(0,.int .i64 t),(1,.int .i64 0),(6,.int .i64 0),(7,.slice none 0 0),(8,.slice none 0 0),(9,.slice none 0 0)] (downP p t) (.slice none 0 0) (.slice none 0 0) (.slice none 0 0) (by simp [downP,e1,ht,setsA]) rfl (.inr ⟨rfl,rfl⟩) (.inr ⟨rfl,rfl⟩) (.inr ⟨rfl,rfl⟩))
  clear h st f
  go_enter Tryz.func76,Tryz.ntmps76
  go_wp2
  go_end0
  exact ⟨rfl,HF.out⟩
 ·have htI:¬ (p.term:Int)<t:=by omega
  have e1:max p.term t=p.term:=by omega
  have HF:=hide (NDid.sets st h (Below.refl _ _) [(6,.int .i64 0),(7,.slice none 0 0),(8,.slice none 0 0),(9,.slice none 0 0)] (downP p t) (.slice none 0 0) (.slice none 0 0) (.slice none 0 0) (by simp [downP,e1,ht,setsA]) rfl (.inr ⟨rfl,rfl⟩) (.inr ⟨rfl,rfl⟩) (.inr ⟨rfl,rfl⟩))
  clear h st f
  go_enter Tryz.func76,Tryz.ntmps76
  go_wp2
  go_end0
  exact ⟨rfl,HF.out⟩
def crashP (p:Peer):Peer:=⟨false,p.term,p.vote,0,0,p.log,[],[],[]⟩
set_option maxHeartbeats 1600000 in
theorem crash_any (w:World) (M:Fz) (O:Lb) (b k:Nat) (p:Peer) (st:Sta M O w) (h:Nod w M O b k p) :
  Calls Tryz.prog 68 #[.pointer (some ⟨b,0,none⟩)] w fun r w'=>r=.returned (.tuple #[])∧NDid M O w b k (crashP p) w':=by
 obtain ⟨us,lv,vv,nv,mv,h⟩:=h
 obtain ⟨lo,lc,vo,vc,no,nc,mo,mc,rfl,rfl,rfl,rfl,h1,h2⟩:=Nd.sl h
 obtain ⟨⟨c0,c1,c2,c3,c4,c5,c6,c7,c8,c9⟩,⟨f0,f1,f2,f3,f4,f5,f6,f7,f8,f9⟩⟩:=Nd.cs h
 have HF:Hid (NDid M O w b k (crashP p) (sets w b [(0,.int .i64 p.term),(1,.int .i64 p.vote),(2,.slice lo p.log.length lc),(3,.int .i64 k),(4,.bool false),(5,.int .i64 0),(6,.int .i64 0),(7,.slice none 0 0),(8,.slice none 0 0),(9,.slice none 0 0)])):=by
  refine NDid.sets st h (Below.refl _ _) _ (crashP p) (.slice none 0 0) (.slice none 0 0) (.slice none 0 0) ?_ rfl (.inr ⟨rfl,rfl⟩) (.inr ⟨rfl,rfl⟩) (.inr ⟨rfl,rfl⟩)
  simp [crashP,setsA]
 clear h st
 go_enter Tryz.func68,Tryz.ntmps68
 go_wp2
 go_region_law (fail)
 all_goals
  go_wp2
  go_end0
  exact ⟨rfl,HF.out.drew⟩
def grantP (p:Peer) (f:Nat) (ok:Bool):Peer:=if ok then { p with vote:=f+1 } else p
def okV (p:Peer) (m:Msg):Bool:=decide (m.term=p.term∧(p.vote=0∨p.vote=m.frm+1)∧(lastTerm p.log<m.b∨m.b=lastTerm p.log∧p.log.length≤m.a))
def msgA (m:Msg) (lv:Value):Array Value:=#[.int .i64 m.kind,.int .i64 m.frm,.int .i64 m.to,.int .i64 m.term,.int .i64 m.a,.int .i64 m.b,.int .i64 m.c,.bool m.ok,lv]
end Go.Proofs.YtcfdmbkiinjmaaaGreat.ndw
namespace Go.Proofs.YtcfdmbkiinjmaaaGreat.grant
open Raft mem grp YtcfdmbkiinjmaaaGreat.look ndw
theorem Nod.below {w w':World} {M:Fz} {O:Lb} {b k:Nat} {p:Peer} (st:Sta M O w) (h:Nod w M O b k p) (hb:Below w.heap.size w w'):Nod w' M O b k p:=by
 obtain ⟨us,lv,vv,nv,mv,hn⟩:=h
 exact ⟨us,lv,vv,nv,mv,hn.keep (fun x hx=>hb.block x (st.ok x _ hx).2) (Le.refl _) (fun _ hx=>hx)⟩
theorem NDid.same {w w':World} {M:Fz} {O:Lb} {b k:Nat} {p:Peer} (st:Sta M O w) (h:Nod w M O b k p) (hb:Below w.heap.size w w'):NDid M O w b k p w' :=
 ⟨M,O,(Aft.refl _ st).below hb,Nod.below st h hb⟩
def GrantE (w:World) (b frm term pt pv:Nat) (ahd:Bool) (r:Ending) (w':World):Prop :=
 (r=.returned (.bool true)∧term=pt∧(pv=0∨pv=frm+1)∧ahd=true∧∃ ob q,w'=(sets (w.alloc ob) b [(1,.int .i64 ((frm+1:Nat):Int))]).drewN q) ∨
 (r=.returned (.bool false)∧¬ (term=pt∧(pv=0∨pv=frm+1)∧ahd=true)∧∃ ob q,w'=(w.alloc ob).drewN q)
set_option maxHeartbeats 1600000 in
theorem grants_core (w:World) (b kind frm «to» term a b2 c2 pt pv:Nat) (ok ahd:Bool) (o:Option Addr) (n c:Nat) (hf:frm≤1000)
  (c0:∀ ob,(w.alloc ob).cell? ⟨b,0,none⟩=some (.int .i64 pt)) (c1:∀ ob,(w.alloc ob).cell? ⟨b,1,none⟩=some (.int .i64 pv)) (f1:∀ ob,(w.alloc ob).frozen? ⟨b,1,none⟩=false)
  (HA:Hid (∀ ob q,Calls Tryz.prog 102 #[.pointer (some ⟨b,0,none⟩),.int .i64 a,.int .i64 b2] ((w.alloc ob).drewN q) fun r w'=>r=.returned (.bool ahd)∧w'=(w.alloc ob).drewN q)) :
  Calls Tryz.prog 90 #[.pointer (some ⟨b,0,none⟩),.agg #[.int .i64 kind,.int .i64 frm,.int .i64 «to»,.int .i64 term,.int .i64 a,.int .i64 b2,.int .i64 c2,.bool ok,.slice o n c]] w fun r w'=>GrantE w b frm term pt pv ahd r w':=by
 have HV:Hid (∀ ob,Calls Tryz.prog 97 #[.int .i64 frm] (w.alloc ob) fun r w'=>r=.returned (.int .i64 ((frm+1:Nat):Int))∧w'=w.alloc ob):=fun ob=>voteFor_any _ frm hf
 by_cases h1:term=pt
 ·subst h1
  by_cases h2:pv=0
  ·subst h2
   cases ahd
   ·skip
    go_enter Tryz.func90,Tryz.ntmps90
    go_wp2_with (refine (HV.out _).mono ?_;rintro e w' ⟨rfl,rfl⟩)
    go_quiet (first | (go_at_call 102;refine Calls.quiet_of_same (HA.out _ _)))
    go_wp2
    go_ret
    exact .inr ⟨rfl,by simp,_,_,rfl⟩
   ·skip
    go_enter Tryz.func90,Tryz.ntmps90
    go_wp2_with (refine (HV.out _).mono ?_;rintro e w' ⟨rfl,rfl⟩)
    go_quiet (first | (go_at_call 102;refine Calls.quiet_of_same (HA.out _ _)))
    go_wp2
    go_ret
    exact .inl ⟨rfl,rfl,.inl rfl,rfl,_,_,rfl⟩
  ·by_cases h3:pv=frm+1
   ·subst h3
    have e3:¬ ((frm:Int)+1=0):=by omega
    cases ahd
    ·skip
     go_enter Tryz.func90,Tryz.ntmps90
     go_wp2_with (refine (HV.out _).mono ?_;rintro e w' ⟨rfl,rfl⟩)
     go_quiet (first | (go_at_call 102;refine Calls.quiet_of_same (HA.out _ _)))
     go_wp2
     go_ret
     exact .inr ⟨rfl,by simp,_,_,rfl⟩
    ·skip
     go_enter Tryz.func90,Tryz.ntmps90
     go_wp2_with (refine (HV.out _).mono ?_;rintro e w' ⟨rfl,rfl⟩)
     go_quiet (first | (go_at_call 102;refine Calls.quiet_of_same (HA.out _ _)))
     go_wp2
     go_ret
     exact .inl ⟨rfl,rfl,.inr rfl,rfl,_,_,rfl⟩
   ·have e2:((pv:Int) == 0)=false:=by simp;omega
    have e3:((pv:Int) == (frm:Int)+1)=false:=by simp;omega
    go_enter Tryz.func90,Tryz.ntmps90
    go_wp2_with (refine (HV.out _).mono ?_;rintro e w' ⟨rfl,rfl⟩)
    go_quiet (first | (go_at_call 102;refine Calls.quiet_of_same (HA.out _ _)))
    go_wp2
    go_ret
    exact .inr ⟨rfl,(fun h=>by rcases h.2.1 with h | h <;> omega),_,_,rfl⟩
 ·have e1:((term:Int) != (pt:Int))=true:=by simp;omega
  cases hd:((pv:Int) == 0)
  ·cases hd2:((pv:Int) == (frm:Int)+1)
   ·skip
    go_enter Tryz.func90,Tryz.ntmps90
    go_wp2_with (refine (HV.out _).mono ?_;rintro e w' ⟨rfl,rfl⟩)
    go_quiet (first | (go_at_call 102;refine Calls.quiet_of_same (HA.out _ _)))
    go_wp2
    go_ret
    exact .inr ⟨rfl,(fun h=>h1 h.1),_,_,rfl⟩
   ·skip
    go_enter Tryz.func90,Tryz.ntmps90
    go_wp2_with (refine (HV.out _).mono ?_;rintro e w' ⟨rfl,rfl⟩)
    go_quiet (first | (go_at_call 102;refine Calls.quiet_of_same (HA.out _ _)))
    go_wp2
    go_ret
    exact .inr ⟨rfl,(fun h=>h1 h.1),_,_,rfl⟩
  ·skip
   go_enter Tryz.func90,Tryz.ntmps90
   go_wp2_with (refine (HV.out _).mono ?_;rintro e w' ⟨rfl,rfl⟩)
   go_quiet (first | (go_at_call 102;refine Calls.quiet_of_same (HA.out _ _)))
   go_wp2
   go_ret
   exact .inr ⟨rfl,(fun h=>h1 h.1),_,_,rfl⟩
theorem grants_any (w:World) (M:Fz) (O:Lb) (b k:Nat) (p:Peer) (st:Sta M O w) (h:Nod w M O b k p) (m:Msg) (o:Option Addr) (n c:Nat) (hf:m.frm≤1000) :
  Calls Tryz.prog 90 #[.pointer (some ⟨b,0,none⟩),.agg (msgA m (.slice o n c))] w fun r w'=>r=.returned (.bool (okV p m))∧NDid M O w b k (grantP p m.frm (okV p m)) w':=by
 have hal:∀ ob,Below w.heap.size w (w.alloc ob):=fun ob=>more (Below.refl _ _) _
 obtain ⟨us,lv,vv,nv,mv,hn⟩:=id h
 have hN:∀ ob,Nd (w.alloc ob) M O b k p us lv vv nv mv:=fun ob=>hn.keep (fun x hx=>(hal ob).block x (st.ok x _ hx).2) (Le.refl _) (fun _ hx=>hx)
 refine (grants_core w b m.kind m.frm m.to m.term m.a m.b m.c p.term p.vote m.ok (decide (lastTerm p.log<m.b∨m.b=lastTerm p.log∧p.log.length≤m.a)) o n c hf (fun ob=>(Nd.cs (hN ob)).1.1) (fun ob=>(Nd.cs (hN ob)).1.2.1) (fun ob=>(Nd.cs (hN ob)).2.2.1)
  (fun ob q=>notAhead_any _ M O b k p (Nod.below (st.below (hal ob)) ⟨us,lv,vv,nv,mv,hN ob⟩ (drewN_below _ q)) m.a m.b)).mono ?_
 rintro r w' (⟨rfl,h1,h2,h3,ob,q,rfl⟩|⟨rfl,h1,ob,q,rfl⟩)
 ·have e:okV p m=true:=by unfold okV;simp only [decide_eq_true_eq] at h3 ⊢;exact ⟨h1,h2,h3⟩
  rw [e]
  refine ⟨rfl,NDid.below ?_ (drewN_below _ q)⟩
  obtain ⟨M',O',a,h4⟩:=NDid.sets (st.below (hal ob)) (hN ob) (Below.refl _ _) [(1,.int .i64 ((m.frm+1:Nat):Int))] { p with vote:=m.frm+1 } vv nv mv rfl rfl (.inl ⟨rfl,rfl⟩) (.inl ⟨rfl,rfl⟩) (.inl ⟨rfl,rfl⟩)
  exact ⟨M',O',((Aft.refl _ st).below (hal ob)).trans a,h4⟩
 ·have e:okV p m=false:=by
   unfold okV
   simp only [decide_eq_false_iff_not]
   simp only [decide_eq_true_eq] at h1
   exact h1
  rw [e]
  exact ⟨rfl,NDid.same st h ((hal ob).trans ((drewN_below _ q).mono (hal ob).size))⟩
end Go.Proofs.YtcfdmbkiinjmaaaGreat.grant
namespace Go.Proofs.YtcfdmbkiinjmaaaGreat.stand
open Raft mem grp YtcfdmbkiinjmaaaGreat.look ndw grant
theorem info4:(Tryz.prog.info? 4).map (fun i=>(i.zero,i.size,i.bytes))=some (some (.bool false),1,1):=by kernel_rfl
theorem info3:(Tryz.prog.info? 3).map (fun i=>(i.zero,i.size,i.bytes))=some (some (.int .i64 0),1,8):=by kernel_rfl
theorem own_set {w:World} {base e:Nat} {g n cap:Nat} {xs:List Value} (h:w.ownsRow base e 1 (.slice (some ⟨g,0,none⟩) n cap) n xs) (i:Nat) (v:Value):(w.setCell ⟨g,i,none⟩ v).ownsRow base e 1 (.slice (some ⟨g,0,none⟩) n cap) n (xs.set i v):=(World.ownsRow.stored h i v).1
theorem made_false (n:Nat):(madeCells (Value.bool false).cells (n*1)).toList=List.replicate n (.bool false):=by
 rw [Nat.mul_one]
 exact (toList_madeCells_one (.bool false) n).trans (by simp)
theorem made_zero (n:Nat):(madeCells (Value.int .i64 0).cells (n*1)).toList=List.replicate n (.int .i64 0):=by
 rw [Nat.mul_one]
 exact (toList_madeCells_one (.int .i64 0) n).trans (by simp)
def standP (p:Peer) (k n:Nat):Peer:={ p with term:=p.term+1,vote:=k+1,role:=1,votes:=(List.replicate n false).set k true }
theorem stand_end {w w1:World} {M:Fz} {O:Lb} {b k n:Nat} {p:Peer} {us:List RV} {lv vv nv mv:Value} (st:Sta M O w) (hn:Nd w M O b k p us lv vv nv mv) (hk:k<n) (W0:World) (hW0:W0=sets w b [(0,.int .i64 ((p.term:Int)+1)),(1,.int .i64 ((k:Int)+1)),(6,.int .i64 1)])
  (hO:w1.ownsRow W0.heap.size 4 1 (.slice (some ⟨W0.heap.size,0,none⟩) n n) n (List.replicate n (.bool false))) (hG:W0.grownBy w1 none) :
  NDid M O w b k (standP p k n) ((w1.setCell ⟨b,7,none⟩ (.slice (some ⟨W0.heap.size,0,none⟩) n n)).setCell ⟨W0.heap.size,k,none⟩ (.bool true)):=by
 have a0:Aft (· = 3+k) M O w M O W0:=by rw [hW0];exact sets_aft (S:=(· = 3+k)) hn.own rfl _ (Aft.refl _ st)
 have a1:Aft (· = 3+k) M O w M O w1:=a0.grown hG (fun _ h=>by cases h)
 have hsz:w.heap.size≤W0.heap.size:=a0.size
 have hg1:=row_lt hO (g:=W0.heap.size) rfl
 have hbl:=(st.ok b _ hn.own).2
 have a2:=a1.label (b:=W0.heap.size) (l:=3+k) hsz hg1.2 (st.inn.fresh hsz) rfl
 have hbO:lab O W0.heap.size (3+k) b=some (3+k):=by rw [lab_ne O _ (by omega)];exact hn.own
 have a3:=(a2.set hbO rfl 7 (.slice (some ⟨W0.heap.size,0,none⟩) n n)).set (lab_at O W0.heap.size (3+k)) rfl k (.bool true)
 refine ⟨M,_,a3,us,lv,.slice (some ⟨W0.heap.size,0,none⟩) n n,nv,mv,?_⟩
 have hbb:w1.heap[b]?=some (.cells #[.int .i64 ((p.term:Int)+1),.int .i64 ((k:Int)+1),lv,.int .i64 k,.bool p.up,.int .i64 p.commit,.int .i64 1,vv,nv,mv] 89 (0,0)):=by
  rw [hG.block b (by omega) (by simp),hW0]
  exact sets_at _ hn.blk
 obtain ⟨n1,n2,n3,n4⟩:=hn.ne
 have hbk:∀ x,x<w.heap.size→x≠b→((w1.setCell ⟨b,7,none⟩ (.slice (some ⟨W0.heap.size,0,none⟩) n n)).setCell ⟨W0.heap.size,k,none⟩ (.bool true)).heap[x]?=w.heap[x]? := fun x hx hxb=>by
  rw [Below.heap_setCell _ _ _ x (by show x≠W0.heap.size;omega),Below.heap_setCell _ _ _ x hxb,hG.block x (by omega) (by simp),hW0]
  exact sets_ne _ w hxb
 have hrow:∀ {e sz:Nat} {v:Value} {m:Nat} {xs:List Value},w.ownsRow 0 e sz v m xs→v.ownBlock≠some b→((w1.setCell ⟨b,7,none⟩ (.slice (some ⟨W0.heap.size,0,none⟩) n n)).setCell ⟨W0.heap.size,k,none⟩ (.bool true)).ownsRow 0 e sz v m xs:=fun h hne=>row_kept h fun g hg=>hbk g (row_lt h hg).2 (fun e=>hne (e ▸ hg))
 refine ⟨?_,hbO,hrow hn.log n1,hn.recs,hn.data,?_,hrow hn.next n3,hrow hn.mat n4,?_,hn.apart⟩
 ·have h7:=set_at hbb 7 (.slice (some ⟨W0.heap.size,0,none⟩) n n) rfl
  have h8:(((w1.setCell ⟨b,7,none⟩ (.slice (some ⟨W0.heap.size,0,none⟩) n n)).setCell ⟨W0.heap.size,k,none⟩ (.bool true)).heap[b]?)=((w1.setCell ⟨b,7,none⟩ (.slice (some ⟨W0.heap.size,0,none⟩) n n)).heap[b]?):=Below.heap_setCell _ _ _ b (by show b≠W0.heap.size;omega)
  rw [h8,h7]
  simp [standP]
 ·have h1:(w1.setCell ⟨b,7,none⟩ (.slice (some ⟨W0.heap.size,0,none⟩) n n)).ownsRow W0.heap.size 4 1 (.slice (some ⟨W0.heap.size,0,none⟩) n n) n (List.replicate n (.bool false)):=row_kept hO fun g hg=>by
   simp only [Value.ownBlock,Option.some.injEq] at hg
   exact Below.heap_setCell _ _ _ g (by show g≠b;omega)
  have h2:=own_set h1 k (.bool true)
  obtain ⟨q1,q2⟩:=h2
  have e1:(standP p k n).votes.length=n:=by simp [standP]
  have e2:(standP p k n).votes.map Value.bool=(List.replicate n (.bool false)).set k (.bool true):=by simp [standP,List.map_set]
  rw [e1,e2]
  refine ⟨q1,?_⟩
  rcases q2 with q2 | ⟨g,cap,cur,r1,r2,r3⟩
  ·exact .inl q2
  ·exact .inr ⟨g,cap,cur,r1,Nat.zero_le _,r3⟩
 ·intro v hv g hg
  simp only [List.mem_cons,List.not_mem_nil,or_false] at hv
  rcases hv with rfl | rfl | rfl | rfl
  ·rw [lab_ne O _ (by have:=(row_lt hn.log hg).2;omega)];exact hn.lab _ (by simp) g hg
  ·simp only [Value.ownBlock,Option.some.injEq] at hg
   subst hg;exact lab_at _ _ _
  ·rw [lab_ne O _ (by have:=(row_lt hn.next hg).2;omega)];exact hn.lab _ (by simp) g hg
  ·rw [lab_ne O _ (by have:=(row_lt hn.mat hg).2;omega)];exact hn.lab _ (by simp) g hg
set_option maxHeartbeats 1600000 in
theorem stand_any (w:World) (M:Fz) (O:Lb) (b k n:Nat) (p:Peer) (st:Sta M O w) (h:Nod w M O b k p) (hk:k<n) (hn7:n≤7) (hp:p.term<1000000) :
  Calls Tryz.prog 84 #[.pointer (some ⟨b,0,none⟩),.int .i64 n] w fun r w'=>r=.returned (.tuple #[])∧NDid M O w b k (standP p k n) w':=by
 obtain ⟨us,lv,vv,nv,mv,h⟩:=h
 obtain ⟨⟨c0,c1,c2,c3,c4,c5,c6,c7,c8,c9⟩,⟨f0,f1,f2,f3,f4,f5,f6,f7,f8,f9⟩⟩:=Nd.cs h
 obtain ⟨i0,hi,hz0,hz1,hz2⟩:=info_parts info4
 have HI:Hid (Tryz.prog.info? 4=some i0∧i0.zero=some (.bool false)∧i0.size=1∧i0.bytes=1):=⟨hi,hz0,hz1,hz2⟩
 obtain ⟨W0,hW0⟩:∃ W0,(((w.setCell ⟨b,0,none⟩ (.int .i64 ((p.term:Int)+1))).setCell ⟨b,1,none⟩ (.int .i64 ((k:Int)+1))).setCell ⟨b,6,none⟩ (.int .i64 1))=W0:=⟨_,rfl⟩
 have HV:Hid (∀ wx,Calls Tryz.prog 97 #[.int .i64 k] wx fun r w'=>r=.returned (.int .i64 ((k:Int)+1))∧w'=wx):=fun wx=>voteFor_any wx k (by omega)
 have HE:Hid (∀ w1,w1.ownsRow W0.heap.size 4 1 (.slice (some ⟨W0.heap.size,0,none⟩) n n) n (List.replicate n (.bool false))→W0.grownBy w1 none→NDid M O w b k (standP p k n) ((w1.setCell ⟨b,7,none⟩ (.slice (some ⟨W0.heap.size,0,none⟩) n n)).setCell ⟨W0.heap.size,k,none⟩ (.bool true))):=fun w1 h1 h2=>stand_end st h hk W0 hW0.symm h1 h2
 have hW0b:W0.heap[b]?=some (.cells #[.int .i64 ((p.term:Int)+1),.int .i64 ((k:Int)+1),lv,.int .i64 k,.bool p.up,.int .i64 p.commit,.int .i64 1,vv,nv,mv] 89 (0,0)):=by
  rw [←hW0]
  exact sets_at [(0,.int .i64 ((p.term:Int)+1)),(1,.int .i64 ((k:Int)+1)),(6,.int .i64 1)] h.blk
 have hbl:b<W0.heap.size:=(Array.getElem?_eq_some_iff.1 hW0b).1
 have HB:Hid (∀ w1,W0.grownBy w1 none→w1.heap[b]?=some (.cells #[.int .i64 ((p.term:Int)+1),.int .i64 ((k:Int)+1),lv,.int .i64 k,.bool p.up,.int .i64 p.commit,.int .i64 1,vv,nv,mv] 89 (0,0))):=fun w1 hg=>(hg.block b hbl (by simp)).trans hW0b
 have hpI:(p.term:Int)<1000000:=by omega
 have hkI:(k:Int)<n:=by omega
 have hne:¬ (b=W0.heap.size):=by omega
 have hne2:¬ (W0.heap.size=b):=by omega
 clear hi hz0 hz1 hz2 hW0b h st hbl
 go_enter Tryz.func84,Tryz.ntmps84
 go_wp2_with (first
  | (at_make;refine wpList_make_full _ rfl _ _ 64 rfl W0.heap.size 4 i0 (.bool false) 1 Tryz.underlying64 HI.out.1 HI.out.2.1 HI.out.2.2.1 .i64 .i64 _ _ n rfl rfl rfl rfl (by rw [HI.out.2.2.2];omega) (by unfold maxLen;omega) (Nat.le_refl _) ?_
     intro w1 hown1 hgrow1
     have hb1:=HB.out w1 hgrow1
     have t7:=cell_of (i:=7) hb1 (v:=vv) rfl
     have t3:=cell_of (i:=3) hb1 (v:=.int .i64 k) rfl
     have g7:=frozen_of hb1 7
     rw [made_false] at hown1
     have HO1:=hide hown1
     have HG1:=hide hgrow1
     clear hown1 hgrow1 hb1)
  | (go_at_call 97;refine (HV.out _).mono ?_;rintro e w' ⟨rfl,rfl⟩))
 have hbx:w1.heap[b]?=_:=HB.out w1 HG1.out
 have hO2:(w1.setCell ⟨b,7,none⟩ (.slice (some ⟨W0.heap.size,0,none⟩) n n)).ownsRow W0.heap.size 4 1 (.slice (some ⟨W0.heap.size,0,none⟩) n n) n (List.replicate n (.bool false)):=row_kept HO1.out fun g hg=>by
  simp only [Value.ownBlock,Option.some.injEq] at hg
  exact Below.heap_setCell _ _ _ g (by show g≠b;omega)
 obtain ⟨w2,hw2⟩:∃ w2,w1.setCell ⟨b,7,none⟩ (.slice (some ⟨W0.heap.size,0,none⟩) n n)=w2:=⟨_,rfl⟩
 have hF:=HE.out w1 HO1.out HG1.out
 have hb2:=set_at hbx 7 (.slice (some ⟨W0.heap.size,0,none⟩) n n) rfl
 rw [hw2] at hO2 hF hb2 ⊢
 have HF:=hide hF
 have u7:=cell_of (i:=7) hb2 (v:=.slice (some ⟨W0.heap.size,0,none⟩) n n) rfl
 have u3:=cell_of (i:=3) hb2 (v:=.int .i64 k) rfl
 obtain ⟨g',cap',e',_,_,hc',hf'⟩:=own_at hO2 (by omega)
 simp only [Value.slice.injEq,Option.some.injEq,Addr.mk.injEq] at e'
 have eg:g'=W0.heap.size:=e'.1.1.symm
 subst eg
 clear e'
 have u8:=hc' k (.bool false) (by rw [List.getElem?_replicate,if_pos hk])
 have u9:=hf' k
 clear hw2 hF hb2 hO2 hbx hc' hf' HO1 HG1 HE HB hW0 hne hne2
 generalize W0.heap.size=Z at *
 go_region_law (fail)
 all_goals
  go_wp2
  go_end0
  exact ⟨rfl,HF.out.drew⟩
end Go.Proofs.YtcfdmbkiinjmaaaGreat.stand
namespace Go.Proofs.YtcfdmbkiinjmaaaGreat.rows2
open Raft mem grp YtcfdmbkiinjmaaaGreat.look ndw grant stand
section
variable {w:World} {M:Fz} {O:Lb} {b k:Nat} {p:Peer} {us:List RV} {lv vv nv mv:Value}
theorem rowt {w:World} {base e sz:Nat} {v:Value} {n:Nat} {xs:List Value} (h:w.ownsRow base e sz v n xs) {g:Nat} (hg:v.ownBlock=some g):∃ cur,w.heap[g]?=some (.cells cur e (0,0)):=by
 obtain ⟨h1,⟨rfl,_⟩|⟨g',cap,cur,rfl,hb,hh,_⟩⟩:=h
 ·simp [Value.ownBlock] at hg
 ·simp only [Value.ownBlock,Option.some.injEq] at hg
  subst hg
  exact ⟨cur,hh⟩
theorem setv_keep {w:World} {g i:Nat} {v:Value} (x:Nat) (h:x≠g):(w.setCell ⟨g,i,none⟩ v).heap[x]?=w.heap[x]? := Below.heap_setCell w ⟨g,i,none⟩ v x h
theorem NDid.setVotes (st:Sta M O w) {g n c:Nat} (h:Nd w M O b k p us lv (.slice (some ⟨g,0,none⟩) n c) nv mv) (i:Nat) (x:Bool):NDid M O w b k { p with votes:=p.votes.set i x } (w.setCell ⟨g,i,none⟩ (.bool x)):=by
 have hO:O g=some (3+k):=h.lab (.slice (some ⟨g,0,none⟩) n c) (by simp) g rfl
 obtain ⟨cur,hg⟩:=rowt h.votes (g:=g) rfl
 obtain ⟨n1,n2,n3,n4⟩:=h.ne
 have hgb:g≠b:=fun e=>n2 (by rw [e];rfl)
 refine ⟨M,O,(Aft.refl (· = 3+k) st).set hO rfl i (.bool x),us,lv,.slice (some ⟨g,0,none⟩) n c,nv,mv,?_⟩
 have hn:n=p.votes.length:=by have:=(own_cap h.votes).1;exact this
 have e1:(w.setCell ⟨g,i,none⟩ (.bool x)).ownsRow 0 4 1 (.slice (some ⟨g,0,none⟩) n c) (p.votes.set i x).length ((p.votes.set i x).map Value.bool):=by
  rw [List.length_set,List.map_set]
  have h2:=h.votes
  rw [←hn] at h2 ⊢
  exact own_set h2 i (.bool x)
 exact { blk:=(setv_keep b (Ne.symm hgb)).trans h.blk,own:=h.own,log:=row_kept h.log fun y hy=>setv_keep y (fun e=>type_ne h.log hg (by decide) (e ▸ hy)),recs:=h.recs,data:=h.data,votes:=e1,next:=row_kept h.next fun y hy=>setv_keep y (fun e=>type_ne h.next hg (by decide) (e ▸ hy)),mat:=row_kept h.mat fun y hy=>setv_keep y (fun e=>type_ne h.mat hg (by decide) (e ▸ hy)),lab:=h.lab,apart:=h.apart }
theorem NDid.setNext (st:Sta M O w) {g n c:Nat} (h:Nd w M O b k p us lv vv (.slice (some ⟨g,0,none⟩) n c) mv) (i x:Nat):NDid M O w b k { p with next:=p.next.set i x } (w.setCell ⟨g,i,none⟩ (.int .i64 x)):=by
 have hO:O g=some (3+k):=h.lab (.slice (some ⟨g,0,none⟩) n c) (by simp) g rfl
 obtain ⟨cur,hg⟩:=rowt h.next (g:=g) rfl
 obtain ⟨n1,n2,n3,n4⟩:=h.ne
 have hgb:g≠b:=fun e=>n3 (by rw [e];rfl)
 refine ⟨M,O,(Aft.refl (· = 3+k) st).set hO rfl i (.int .i64 x),us,lv,vv,.slice (some ⟨g,0,none⟩) n c,mv,?_⟩
 have hn:n=p.next.length:=by have:=(own_cap h.next).1;exact this
 have e1:(w.setCell ⟨g,i,none⟩ (.int .i64 x)).ownsRow 0 3 1 (.slice (some ⟨g,0,none⟩) n c) (p.next.set i x).length ((p.next.set i x).map fun (n:Nat)=>Value.int .i64 (n:Int)):=by
  rw [List.length_set,List.map_set]
  have h2:=h.next
  rw [←hn] at h2 ⊢
  exact own_set h2 i (.int .i64 x)
 exact { blk:=(setv_keep b (Ne.symm hgb)).trans h.blk,own:=h.own,log:=row_kept h.log fun y hy=>setv_keep y (fun e=>type_ne h.log hg (by decide) (e ▸ hy)),recs:=h.recs,data:=h.data,votes:=row_kept h.votes fun y hy=>setv_keep y (fun e=>type_ne h.votes hg (by decide) (e ▸ hy)),next:=e1,mat:=row_kept h.mat fun y hy=>setv_keep y (fun e=>h.apart g rfl (e ▸ hy)),lab:=h.lab,apart:=h.apart }
theorem NDid.setMat (st:Sta M O w) {g n c:Nat} (h:Nd w M O b k p us lv vv nv (.slice (some ⟨g,0,none⟩) n c)) (i x:Nat):NDid M O w b k { p with mat:=p.mat.set i x } (w.setCell ⟨g,i,none⟩ (.int .i64 x)):=by
 have hO:O g=some (3+k):=h.lab (.slice (some ⟨g,0,none⟩) n c) (by simp) g rfl
 obtain ⟨cur,hg⟩:=rowt h.mat (g:=g) rfl
 obtain ⟨n1,n2,n3,n4⟩:=h.ne
 have hgb:g≠b:=fun e=>n4 (by rw [e];rfl)
 refine ⟨M,O,(Aft.refl (· = 3+k) st).set hO rfl i (.int .i64 x),us,lv,vv,nv,.slice (some ⟨g,0,none⟩) n c,?_⟩
 have hn:n=p.mat.length:=by have:=(own_cap h.mat).1;exact this
 have e1:(w.setCell ⟨g,i,none⟩ (.int .i64 x)).ownsRow 0 3 1 (.slice (some ⟨g,0,none⟩) n c) (p.mat.set i x).length ((p.mat.set i x).map fun (n:Nat)=>Value.int .i64 (n:Int)):=by
  rw [List.length_set,List.map_set]
  have h2:=h.mat
  rw [←hn] at h2 ⊢
  exact own_set h2 i (.int .i64 x)
 exact { blk:=(setv_keep b (Ne.symm hgb)).trans h.blk,own:=h.own,log:=row_kept h.log fun y hy=>setv_keep y (fun e=>type_ne h.log hg (by decide) (e ▸ hy)),recs:=h.recs,data:=h.data,votes:=row_kept h.votes fun y hy=>setv_keep y (fun e=>type_ne h.votes hg (by decide) (e ▸ hy)),next:=row_kept h.next fun y hy=>setv_keep y (fun e=>h.apart y hy (by rw [e];rfl)),mat:=e1,lab:=h.lab,apart:=h.apart }
end
theorem own_base {w:World} {base e sz:Nat} {v:Value} {n:Nat} {xs:List Value} (h:w.ownsRow base e sz v n xs):w.ownsRow 0 e sz v n xs:=by
 obtain ⟨h1,h2 | ⟨g,cap,cur,r1,r2,r3⟩⟩:=h
 ·exact ⟨h1,.inl h2⟩
 ·exact ⟨h1,.inr ⟨g,cap,cur,r1,Nat.zero_le _,r3⟩⟩
end Go.Proofs.YtcfdmbkiinjmaaaGreat.rows2
namespace Go.Proofs.YtcfdmbkiinjmaaaGreat.clone
open Raft mem grp YtcfdmbkiinjmaaaGreat.look ndw grant stand rows2
theorem info35:(Tryz.prog.info? 74).map (fun i=>(i.zero,i.size,i.bytes))=some (some (.agg #[.int .i64 0,.int .i64 0,.slice none 0 0]),3,40):=by kernel_rfl
theorem litE {w:World} {k base e sz:Nat} (h:w.heap[k]?=some (.cells #[] e (0,0))) (hb:base≤k):w.ownsRow base e sz (.slice (some ⟨k,0,none⟩) 0 0) 0 [] :=
 ⟨by simp,.inr ⟨k,0,#[],rfl,hb,h,Nat.le_refl _,by simp [maxLen],by simp,by simp⟩⟩
def CloneE (w:World) (e sz m:Nat) (news:List Value) (r:Ending) (w':World):Prop:=∃ v,r=.returned v∧w'.ownsRow w.heap.size e sz v m news∧Below w.heap.size w w'
theorem nil28 (W:World):Sem.run Tryz.prog (binOp .eql 26 (.slice none 0 0) (.slice none 0 0)) W=.ok (.bool true) W:=by kernel_rfl
theorem some28 (ad:Addr) (n c:Nat) (W:World):Sem.run Tryz.prog (binOp .eql 26 (.slice (some ad) n c) (.slice none 0 0)) W=.ok (.bool false) W:=by kernel_rfl
theorem clone_recs_nil (w:World):Calls Tryz.prog 104 #[.slice none 0 0] w fun r w'=>CloneE w 74 3 0 [] r w':=by
 have HE:Hid (CloneE w 74 3 0 [] (.returned (.slice none 0 0)) w):=⟨_,rfl,World.ownsRow_nil _ _ _ _,Below.refl _ _⟩
 have hq:=nil28
 go_enter Tryz.func104,Tryz.ntmps104
 go_wp2
 go_ret
 exact HE.out
set_option maxHeartbeats 800000 in
theorem clone_recs (w:World) (ad:Addr) (m c:Nat) (news:List Value) (hl:news.length=m*3) (hnews:∀ j u,news[j]?=some u→w.cell? (ad.add j)=some u) (h1:∀ u∈news,u.oneCell'=true) (hm:m≤1000) :
  Calls Tryz.prog 104 #[.slice (some ad) m c] w fun r w'=>CloneE w 74 3 m news r w':=by
 obtain ⟨i0,hi,hz0,hz1,hz2⟩:=info_parts info35
 have HI:Hid (Tryz.prog.info? 74=some i0∧i0.zero=some (.agg #[.int .i64 0,.int .i64 0,.slice none 0 0])∧i0.size=3∧i0.bytes=40):=⟨hi,hz0,hz1,hz2⟩
 obtain ⟨W,hW⟩:∃ W,w.alloc (.cells #[] 74)=W:=⟨_,rfl⟩
 have bW:Below w.heap.size w W:=by rw [←hW];exact more (Below.refl _ _) _
 have hbx:W.heap[w.heap.size]?=some (.cells #[] 74 (0,0)):=by rw [←hW];exact heap_alloc_new w _
 have HO:Hid (W.ownsRow w.heap.size 74 3 (.slice (some ⟨w.heap.size,0,none⟩) 0 0) 0 []):=litE hbx (Nat.le_refl _)
 have HN:Hid (∀ j u,news[j]?=some u→W.cell? (ad.add j)=some u):=fun j u hu=>by
  have h2:=hnews j u hu
  have hlt:(ad.add j).block<w.heap.size:=World.block_lt_of_cell? w _ h2
  rw [World.cell?_of_block (bW.block _ hlt)]
  exact h2
 have H1:=hide h1
 have HL:=hide hl
 have HM:=hide hm
 have HS:Hid (w.heap.size≤W.heap.size):=bW.size
 have HF:Hid (∀ v w',w'.ownsRow w.heap.size 74 3 v (0+m) ([]++news)→W.grownBy w' (some w.heap.size)→CloneE w 74 3 m news (.returned v) w'):=fun v w' q1 q2=>by
  rw [Nat.zero_add,List.nil_append] at q1
  exact ⟨v,rfl,q1,bW.grown q2 bW.size (fun k hk=>by simp only [Option.some.injEq] at hk;omega)⟩
 clear hi hz0 hz1 hz2 bW hbx hnews h1 hl
 have hq:=some28 ad m c
 go_enter Tryz.func104,Tryz.ntmps104
 go_wp2_with (at_builtin;refine wpList_append_own _ rfl _ _ 26 rfl w.heap.size 74 i0 (.agg #[.int .i64 0,.int .i64 0,.slice none 0 0]) 3 40 Tryz.underlying26 HI.out.1 HI.out.2.1 HI.out.2.2.1 HI.out.2.2.2 rfl (by decide) _ 0 [] rfl HO.out ad m c news rfl HL.out HN.out H1.out (by unfold maxLen;have:=HM.out;omega) (by have:=HM.out;omega) HS.out ?_;intro v w' q1 q2 _;have HC:=hide (HF.out v w' q1 q2);clear q1 q2)
 go_ret
 exact HC.out
theorem nil55 (W:World):Sem.run Tryz.prog (binOp .eql 64 (.slice none 0 0) (.slice none 0 0)) W=.ok (.bool true) W:=by kernel_rfl
theorem some55 (ad:Addr) (n c:Nat) (W:World):Sem.run Tryz.prog (binOp .eql 64 (.slice (some ad) n c) (.slice none 0 0)) W=.ok (.bool false) W:=by kernel_rfl
theorem clone_bools_nil (w:World):Calls Tryz.prog 71 #[.slice none 0 0] w fun r w'=>CloneE w 4 1 0 [] r w':=by
 have HE:Hid (CloneE w 4 1 0 [] (.returned (.slice none 0 0)) w):=⟨_,rfl,World.ownsRow_nil _ _ _ _,Below.refl _ _⟩
 have hq:=nil55
 go_enter Tryz.func71,Tryz.ntmps71
 go_wp2
 go_ret
 exact HE.out
set_option maxHeartbeats 800000 in
theorem clone_bools (w:World) (ad:Addr) (m c:Nat) (news:List Value) (hl:news.length=m*1) (hnews:∀ j u,news[j]?=some u→w.cell? (ad.add j)=some u) (h1:∀ u∈news,u.oneCell'=true) (hm:m≤1000) :
  Calls Tryz.prog 71 #[.slice (some ad) m c] w fun r w'=>CloneE w 4 1 m news r w':=by
 obtain ⟨i0,hi,hz0,hz1,hz2⟩:=info_parts info4
 have HI:Hid (Tryz.prog.info? 4=some i0∧i0.zero=some (.bool false)∧i0.size=1∧i0.bytes=1):=⟨hi,hz0,hz1,hz2⟩
 obtain ⟨W,hW⟩:∃ W,w.alloc (.cells #[] 4)=W:=⟨_,rfl⟩
 have bW:Below w.heap.size w W:=by rw [←hW];exact more (Below.refl _ _) _
 have hbx:W.heap[w.heap.size]?=some (.cells #[] 4 (0,0)):=by rw [←hW];exact heap_alloc_new w _
 have HO:Hid (W.ownsRow w.heap.size 4 1 (.slice (some ⟨w.heap.size,0,none⟩) 0 0) 0 []):=litE hbx (Nat.le_refl _)
 have HN:Hid (∀ j u,news[j]?=some u→W.cell? (ad.add j)=some u):=fun j u hu=>by
  have h2:=hnews j u hu
  have hlt:(ad.add j).block<w.heap.size:=World.block_lt_of_cell? w _ h2
  rw [World.cell?_of_block (bW.block _ hlt)]
  exact h2
 have H1:=hide h1
 have HL:=hide hl
 have HM:=hide hm
 have HS:Hid (w.heap.size≤W.heap.size):=bW.size
 have HF:Hid (∀ v w',w'.ownsRow w.heap.size 4 1 v (0+m) ([]++news)→W.grownBy w' (some w.heap.size)→CloneE w 4 1 m news (.returned v) w'):=fun v w' q1 q2=>by
  rw [Nat.zero_add,List.nil_append] at q1
  exact ⟨v,rfl,q1,bW.grown q2 bW.size (fun k hk=>by simp only [Option.some.injEq] at hk;omega)⟩
 clear hi hz0 hz1 hz2 bW hbx hnews h1 hl
 have hq:=some55 ad m c
 go_enter Tryz.func71,Tryz.ntmps71
 go_wp2_with (at_builtin;refine wpList_append_own _ rfl _ _ 64 rfl w.heap.size 4 i0 (.bool false) 1 1 Tryz.underlying64 HI.out.1 HI.out.2.1 HI.out.2.2.1 HI.out.2.2.2 rfl (by decide) _ 0 [] rfl HO.out ad m c news rfl HL.out HN.out H1.out (by unfold maxLen;have:=HM.out;omega) (by have:=HM.out;omega) HS.out ?_;intro v w' q1 q2 _;have HC:=hide (HF.out v w' q1 q2);clear q1 q2)
 go_ret
 exact HC.out
theorem nil31 (W:World):Sem.run Tryz.prog (binOp .eql 29 (.slice none 0 0) (.slice none 0 0)) W=.ok (.bool true) W:=by kernel_rfl
theorem some31 (ad:Addr) (n c:Nat) (W:World):Sem.run Tryz.prog (binOp .eql 29 (.slice (some ad) n c) (.slice none 0 0)) W=.ok (.bool false) W:=by kernel_rfl
theorem clone_ints_nil (w:World):Calls Tryz.prog 72 #[.slice none 0 0] w fun r w'=>CloneE w 3 1 0 [] r w':=by
 have HE:Hid (CloneE w 3 1 0 [] (.returned (.slice none 0 0)) w):=⟨_,rfl,World.ownsRow_nil _ _ _ _,Below.refl _ _⟩
 have hq:=nil31
 go_enter Tryz.func72,Tryz.ntmps72
 go_wp2
 go_ret
 exact HE.out
set_option maxHeartbeats 800000 in
theorem clone_ints (w:World) (ad:Addr) (m c:Nat) (news:List Value) (hl:news.length=m*1) (hnews:∀ j u,news[j]?=some u→w.cell? (ad.add j)=some u) (h1:∀ u∈news,u.oneCell'=true) (hm:m≤1000) :
  Calls Tryz.prog 72 #[.slice (some ad) m c] w fun r w'=>CloneE w 3 1 m news r w':=by
 obtain ⟨i0,hi,hz0,hz1,hz2⟩:=info_parts info3
 have HI:Hid (Tryz.prog.info? 3=some i0∧i0.zero=some (.int .i64 0)∧i0.size=1∧i0.bytes=8):=⟨hi,hz0,hz1,hz2⟩
 obtain ⟨W,hW⟩:∃ W,w.alloc (.cells #[] 3)=W:=⟨_,rfl⟩
 have bW:Below w.heap.size w W:=by rw [←hW];exact more (Below.refl _ _) _
 have hbx:W.heap[w.heap.size]?=some (.cells #[] 3 (0,0)):=by rw [←hW];exact heap_alloc_new w _
 have HO:Hid (W.ownsRow w.heap.size 3 1 (.slice (some ⟨w.heap.size,0,none⟩) 0 0) 0 []):=litE hbx (Nat.le_refl _)
 have HN:Hid (∀ j u,news[j]?=some u→W.cell? (ad.add j)=some u):=fun j u hu=>by
  have h2:=hnews j u hu
  have hlt:(ad.add j).block<w.heap.size:=World.block_lt_of_cell? w _ h2
  rw [World.cell?_of_block (bW.block _ hlt)]
  exact h2
 have H1:=hide h1
 have HL:=hide hl
 have HM:=hide hm
 have HS:Hid (w.heap.size≤W.heap.size):=bW.size
 have HF:Hid (∀ v w',w'.ownsRow w.heap.size 3 1 v (0+m) ([]++news)→W.grownBy w' (some w.heap.size)→CloneE w 3 1 m news (.returned v) w'):=fun v w' q1 q2=>by
  rw [Nat.zero_add,List.nil_append] at q1
  exact ⟨v,rfl,q1,bW.grown q2 bW.size (fun k hk=>by simp only [Option.some.injEq] at hk;omega)⟩
 clear hi hz0 hz1 hz2 bW hbx hnews h1 hl
 have hq:=some31 ad m c
 go_enter Tryz.func72,Tryz.ntmps72
 go_wp2_with (at_builtin;refine wpList_append_own _ rfl _ _ 29 rfl w.heap.size 3 i0 (.int .i64 0) 1 8 Tryz.underlying29 HI.out.1 HI.out.2.1 HI.out.2.2.1 HI.out.2.2.2 rfl (by decide) _ 0 [] rfl HO.out ad m c news rfl HL.out HN.out H1.out (by unfold maxLen;have:=HM.out;omega) (by have:=HM.out;omega) HS.out ?_;intro v w' q1 q2 _;have HC:=hide (HF.out v w' q1 q2);clear q1 q2)
 go_ret
 exact HC.out
end Go.Proofs.YtcfdmbkiinjmaaaGreat.clone
namespace Go.Proofs.YtcfdmbkiinjmaaaGreat.behind
open Raft mem grp YtcfdmbkiinjmaaaGreat.look ndw grant stand rows2 clone
def BehE (w:World) (M:Fz) (l:List Rc) (r:Ending) (w':World):Prop :=
 ∃ (M':Fz) (o:Option Addr) (n lc:Nat),r=.returned (.slice o n lc)∧Le M M'∧In M' w'∧RecsM M' (.slice o n lc) l∧Below w.heap.size w w'∧∀ b,M' b≠none→M b≠none∨w.heap.size≤b
theorem flat_drop (us:List RV) (i:Nat):(us.flatMap recCells).drop (i*3)=(us.drop i).flatMap recCells:=by
 induction us generalizing i with
 | nil=>simp
 | cons x us ih =>
  cases i with
  | zero=>simp
  | succ i =>
   rw [List.drop_succ_cons,List.flatMap_cons,Nat.succ_mul,Nat.add_comm (i*3) 3,←List.drop_drop]
   have:(recCells x++us.flatMap recCells).drop 3=us.flatMap recCells:=by simp [recCells]
   rw [this,ih]
theorem beh_of {w w':World} {M:Fz} {us:List RV} {m:Nat} (hI:In M w) (hm:us.length=m) (hd:∀ x∈us,BytesM M x.dv x.r.data∧x.r.data.length≤1000) {r:Ending} (h:CloneE w 74 3 m (us.flatMap recCells) r w'):BehE w M (us.map (·.r)) r w':=by
 obtain ⟨v,rfl,hO,hb⟩:=h
 obtain ⟨M',h1,h2,h3,h4⟩:=RowM.freeze hO (hI.below hb) (fun g hg=>hI.fresh (row_lt hO hg).1)
 obtain ⟨o,c,rfl⟩:=own_slice hO
 subst hm
 exact ⟨M',o,_,c,rfl,h1,h2,⟨us,rfl,h3,fun x hx=>⟨(hd x hx).1.le h1,(hd x hx).2⟩⟩,hb,fun b hb'=>by
  rcases h4 b hb' with h5 | h5
  ·exact .inl h5
  ·exact .inr (row_lt hO h5).1⟩
theorem rec_ones {M:Fz} (us:List RV) (h:∀ x∈us,BytesM M x.dv x.r.data∧x.r.data.length≤1000):∀ y∈us.flatMap recCells,y.oneCell'=true:=by
 intro y hy
 obtain ⟨x,hx,hy⟩:=List.mem_flatMap.1 hy
 obtain ⟨⟨⟨ao,cap,e,_⟩,_⟩,_⟩:=h x hx
 simp only [recCells,List.mem_cons,List.not_mem_nil,or_false] at hy
 rcases hy with rfl | rfl | rfl
 ·rfl
 ·rfl
 ·rw [e];rfl
set_option maxHeartbeats 800000 in
theorem behind_any (w:World) (M:Fz) (O:Lb) (b k:Nat) (p:Peer) (st:Sta M O w) (h:Nod w M O b k p) (i:Nat) (hi:i≤p.log.length) (hl:p.log.length≤1000) :
  Calls Tryz.prog 96 #[.pointer (some ⟨b,0,none⟩),.int .i64 i] w fun r w'=>BehE w M (p.log.drop i) r w':=by
 obtain ⟨us,lv,vv,nv,mv,h⟩:=h
 have hlen:us.length=p.log.length:=by rw [←h.recs];simp
 obtain ⟨⟨_,_,c2,_⟩,_⟩:=Nd.cs h
 have hrow:=h.log
 have hdm:p.log.drop i=(us.drop i).map (·.r):=by rw [←h.recs,List.map_drop]
 have hdd:∀ x∈us.drop i,BytesM M x.dv x.r.data∧x.r.data.length≤1000:=fun x hx=>h.data x (List.mem_of_mem_drop hx)
 rw [hdm]
 rcases hrow with ⟨h1,⟨rfl,e0⟩|⟨g,cap,cur,rfl,hb0,hh,hc,hm,hs,ht⟩⟩
 ·have e1:us=[]:=List.length_eq_zero_iff.1 e0
  subst e1
  obtain rfl:i=0:=by simp at hlen;omega
  have HC:Hid (Calls Tryz.prog 104 #[.slice none 0 0] w fun r w'=>BehE w M ([]:List Rc) r w'):=by
   refine (clone_recs_nil w).mono ?_
   intro r w' h5
   exact beh_of (us:=[]) st.inn rfl (by simp) h5
  clear h hdd hdm
  go_enter Tryz.func96,Tryz.ntmps96
  go_wp2_with (go_at_call 104;refine HC.out.mono ?_;rintro rr w' ⟨M',o,n,lc,rfl,q1,q2,q3,q4,q5⟩;have HQ:Hid (BehE w M ([]:List Rc) (.returned (.slice o n lc)) w'):=⟨M',o,n,lc,rfl,q1,q2,q3,q4,q5⟩;clear q1 q2 q3 q4 q5)
  go_ret
  exact HQ.out
 ·have hcells:∀ j u,(us.flatMap recCells)[j]?=some u→w.cell? ⟨g,j,none⟩=some u:=fun j u hu=>by
   refine cell_of hh ?_
   have hj:j<us.length*3:=by rw [←h1];exact (List.getElem?_eq_some_iff.1 hu).1
   rw [←ht,List.getElem?_take_of_lt hj] at hu
   simpa using hu
  have hdl:(us.drop i).length=us.length-i:=by simp
  have hfl:((us.drop i).flatMap recCells).length=(us.length-i)*3:=by rw [flat_len recCells 3 recCells_len,hdl]
  unfold maxLen at hm
  by_cases hci:cap=i
  ·subst hci
   have hL:us.length=cap:=by omega
   have hnil:us.drop cap=[]:=List.drop_eq_nil_of_le (by omega)
   rw [hnil]
   have HC:Hid (Calls Tryz.prog 104 #[.slice (some ⟨g,0,none⟩) 0 0] w fun r w'=>BehE w M ([]:List Rc) r w'):=by
    refine (clone_recs w ⟨g,0,none⟩ 0 0 [] rfl (by simp) (by simp) (by omega)).mono ?_
    intro r w' h5
    exact beh_of (us:=[]) st.inn rfl (by simp) h5
   rw [hL] at c2
   clear h hdd hdm hcells hh ht hs hnil hfl hdl hL h1
   go_enter Tryz.func96,Tryz.ntmps96
   go_wp2_with (go_at_call 104;refine HC.out.mono ?_;rintro rr w' ⟨M',o,n,lc,rfl,q1,q2,q3,q4,q5⟩;have HQ:Hid (BehE w M ([]:List Rc) (.returned (.slice o n lc)) w'):=⟨M',o,n,lc,rfl,q1,q2,q3,q4,q5⟩;clear q1 q2 q3 q4 q5)
   go_ret
   exact HQ.out
  ·have HC:Hid (Calls Tryz.prog 104 #[.slice (some ⟨g,i*3,none⟩) (us.length-i) (cap-i)] w fun r w'=>BehE w M ((us.drop i).map (·.r)) r w'):=by
    refine (clone_recs w ⟨g,i*3,none⟩ (us.length-i) (cap-i) ((us.drop i).flatMap recCells) hfl (fun j u hu => ?_) (rec_ones _ hdd) (by omega)).mono ?_
    ·rw [addr_add]
     rw [←flat_drop,List.getElem?_drop] at hu
     exact hcells _ u hu
    ·intro r w' h5
     exact beh_of st.inn hdl hdd h5
   have hiI:(i:Int)≤us.length:=by omega
   have hcI:¬ (cap=i):=hci
   generalize us.length=L at *
   have hL1:L≤1000:=by omega
   clear h hdd hdm hcells hh ht hs hfl hdl h1 hlen hi hl
   go_enter Tryz.func96,Tryz.ntmps96
   go_wp2_with (go_at_call 104;refine HC.out.mono ?_;rintro rr w' ⟨M',o,n,lc,rfl,q1,q2,q3,q4,q5⟩;have HQ:Hid (BehE w M ((us.drop i).map (·.r)) (.returned (.slice o n lc)) w'):=⟨M',o,n,lc,rfl,q1,q2,q3,q4,q5⟩;clear q1 q2 q3 q4 q5)
   go_ret
   exact HQ.out
end Go.Proofs.YtcfdmbkiinjmaaaGreat.behind
namespace Go.Proofs.YtcfdmbkiinjmaaaGreat.join
open bytes pile
set_option maxHeartbeats 800000 in
theorem join_own (w:World) (p:Value) (us:List Value) (xss:List (List Int)) (hp:RdS w p us) (ht:Texts w us xss) (hl:xss.flatten.length≤140737488355328) :
  Calls Tryz.prog 70 #[p] w fun e w'=>∃ v,e=.returned v∧Own w' w.heap.size v xss.flatten∧Below w.heap.size w w':=by
 have HP:Hid (RdS w p us∧Texts w us xss):=⟨hp,ht⟩
 obtain ⟨T,hT⟩:∃ T,T=xss.flatten.length:=⟨_,rfl⟩
 have HT:Hid (T=xss.flatten.length):=hT
 rw [←hT] at hl
 clear hT
 have hlu:=ht.1
 obtain ⟨ao,ca,rfl,ha1,ha2,ha3⟩:=hp
 unfold maxLen at ha2
 obtain ⟨i0,hi,hz0,hz1,hz2⟩:=info_parts info5
 have HI:Hid (Tryz.prog.info? 5=some i0∧i0.zero=some (.int .u8 0)∧i0.size=1∧i0.bytes=1):=⟨hi,hz0,hz1,hz2⟩
 clear hi hz0 hz1 hz2
 have HLU:Hid (us.length=xss.length):=hlu
 clear hlu ht
 go_enter Tryz.func70,Tryz.ntmps70
 go_wp2
 go_loop [3,11] (fun s i=>∃ k:Nat,k≤us.length∧i=.int .i64 k∧s=.int .i64 (sizeTo xss k)) (fun _ i=>us.length-(intOf i).toNat)
 case atStart=>exact ⟨0,by omega,rfl,by simp [sizeTo]⟩
 case round =>
  obtain ⟨k,hk,rfl,rfl⟩:=hrel
  have hsz:sizeTo xss k≤T:=by rw [HT.out];exact sizeTo_le xss k
  by_cases hlt:k<us.length
  ·obtain ⟨ab,aoff,rfl,hca⟩:=ha3 (by omega)
   have hc:=hca k hlt
   have hs1:=sizeTo_succ (xss:=xss) (k:=k) (by rw [←HLU.out];exact hlt)
   have hs2:sizeTo xss (k+1)≤T:=by rw [HT.out];exact sizeTo_le xss (k+1)
   have hbnd:sizeTo xss k+(xss.getD k []).length≤140737488355328:=by omega
   have HS:Hid (sizeTo xss (k+1)=sizeTo xss k+(xss.getD k []).length):=hs1
   obtain ⟨⟨bo,cb,he,_⟩,_⟩:=HP.out.2.2 k hlt
   rw [he] at hc
   clear hs1 hs2 he hca ha3
   generalize (xss.getD k []).length=L at hc hbnd HS
   generalize sizeTo xss k=S at hsz hbnd HS
   go_wp2
   go_round
   case rel=>exact ⟨k+1,by omega,by go_num,by rw [HS.out];go_num⟩
   case measure=>simp [intOf];omega
  ·have hkk:sizeTo xss k=T:=by
    rw [HT.out]
    unfold sizeTo
    rw [List.take_of_length_le (by rw [←HLU.out];omega)]
   rw [hkk]
   clear hkk hsz
   go_wp2_with (at_make;refine wpList_make_own _ rfl _ _ 42 rfl w.heap.size 5 i0 (.int .u8 0) 1 Tryz.underlying42 HI.out.1 HI.out.2.1 HI.out.2.2.1 .i64 .i64 _ T rfl rfl rfl (by rw [HI.out.2.2.2];omega) (by unfold maxLen;omega) (Nat.le_refl _) ?_;intro w1 hown1 hgrow1)
   have HW:Hid (Own w1 w.heap.size (.slice (some ⟨w.heap.size,0,none⟩) 0 T) []∧Below w.heap.size w w1) :=
    hide ⟨⟨by simp,hown1⟩,(Below.refl _ _).grown hgrow1 (Nat.le_refl _) (by simp)⟩
   clear hown1 hgrow1 HI
   go_loopw [6,24] (fun v i wr=>∃ k:Nat,k≤us.length∧i=.int .i64 k∧Hid (Own wr w.heap.size v (xss.take k).flatten∧Below w.heap.size w wr)) (fun _ i _=>us.length-(intOf i).toNat)
   case atStart=>exact ⟨0,by omega,rfl,HW⟩
   case round =>
    clear HW
    obtain ⟨k,hk,rfl,HR⟩:=hrel
    by_cases hlt:k<us.length
    ·obtain ⟨ab,aoff,rfl,hca⟩:=ha3 (by omega)
     have hck:=hca k hlt
     have hc:wr.cell? ⟨ab,aoff+k,none⟩=some (us.getD k (.slice none 0 0)):=(HR.out.2.cell (cell_lt hck)).trans hck
     have HA:Hid (RdA wr (us.getD k (.slice none 0 0)) (xss.getD k [])):=(HP.out.2.2 k hlt).below HR.out.2 (Nat.le_refl _)
     have hs1:=flat_succ (xss:=xss) (k:=k) (by rw [←HLU.out];exact hlt)
     have HS:Hid ((xss.take (k+1)).flatten=(xss.take k).flatten++xss.getD k []):=hs1
     have hbnd:(xss.take k).flatten.length+(xss.getD k []).length≤140737488355328:=by
      have:=sizeTo_le xss (k+1)
      rw [←HT.out,sizeTo,hs1,List.length_append] at this
      omega
     have HB:Hid ((xss.take k).flatten.length+(xss.getD k []).length≤140737488355328):=hbnd
     have hsz:=HR.out.2.size
     clear hs1 hca ha3 hck hbnd
     generalize us.getD k (.slice none 0 0)=u at hc HA
     generalize xss.getD k []=ys at HA HS HB
     go_wp2_with (at_builtin;refine wpList_append_rd _ rfl _ _ 42 rfl Tryz.underlying42 info5 w.heap.size _ _ rfl HR.out.1 u ys rfl HA.out HB.out hsz ?_;intro v' w2 hown2 hgrow2)
     go_roundw
     case rel=>exact ⟨k+1,by omega,by go_num,hide ⟨by rw [HS.out];exact hown2,HR.out.2.grown hgrow2 hsz (fun j hj=>(HR.out.1.lt j hj).1)⟩⟩
     case measure=>simp [intOf];omega
    ·go_wp2
     go_ret
     have hfin:=HR.out
     rw [List.take_of_length_le (by rw [←HLU.out];omega)] at hfin
     exact ⟨_,rfl,hfin.1,hfin.2⟩
end Go.Proofs.YtcfdmbkiinjmaaaGreat.join
namespace Go.Proofs.YtcfdmbkiinjmaaaGreat.own
open Raft mem grp
def ownB (v:Value):List Nat:=v.ownBlock.toList
def Own1 (M:Fz) (lo e:Nat) (v:Value):Prop:=v=.slice none 0 0∨∃ g n cap cur,v=.slice (some ⟨g,0,none⟩) n cap∧lo≤g∧M g=some (.cells cur e (0,0))
theorem Own1.le {M M':Fz} {lo e:Nat} {v:Value} (h:Own1 M lo e v) (hl:Le M M'):Own1 M' lo e v:=by
 rcases h with h | ⟨g,n,cap,cur,h1,h2,h3⟩
 ·exact .inl h
 ·exact .inr ⟨g,n,cap,cur,h1,h2,hl _ _ h3⟩
theorem Own1.mono {M:Fz} {lo lo' e:Nat} {v:Value} (h:Own1 M lo e v) (hl:lo'≤lo):Own1 M lo' e v:=by
 rcases h with h | ⟨g,n,cap,cur,h1,h2,h3⟩
 ·exact .inl h
 ·exact .inr ⟨g,n,cap,cur,h1,by omega,h3⟩
theorem Own1.blk {M:Fz} {lo e:Nat} {v:Value} (h:Own1 M lo e v) {b:Nat} (hb:b∈ownB v):lo≤b∧M b≠none:=by
 rcases h with rfl | ⟨g,n,cap,cur,rfl,h2,h3⟩
 ·simp [ownB,Value.ownBlock] at hb
 ·simp only [ownB,Value.ownBlock,Option.toList_some,List.mem_singleton] at hb
  subst hb
  exact ⟨h2,by rw [h3];simp⟩
theorem ownB_nd (v:Value):(ownB v).Nodup:=by
 unfold ownB
 cases v.ownBlock <;> simp
theorem ownB_mem {v:Value} {b:Nat}:b∈ownB v↔v.ownBlock=some b:=by
 unfold ownB
 cases h:v.ownBlock <;> simp [eq_comm]
theorem freeze1 {M:Fz} {w:World} {base e sz:Nat} {v:Value} {n:Nat} {xs:List Value} (h:w.ownsRow base e sz v n xs) (hI:In M w) (hM:∀ g,v.ownBlock=some g→M g=none) :
  ∃ M',Le M M'∧In M' w∧RowM M' v n sz xs∧(∀ b,M' b≠none→M b≠none∨v.ownBlock=some b)∧Own1 M' base e v:=by
 obtain ⟨h1,⟨rfl,rfl⟩|⟨g,cap,cur,rfl,hb,hg,hnc,hcm,hcs,ht⟩⟩:=h
 ·obtain rfl:xs=[]:=List.length_eq_zero_iff.1 (by omega)
  exact ⟨M,Le.refl M,hI,RowM.nil M sz,fun b hb=>.inl hb,.inl rfl⟩
 ·refine ⟨add M g (.cells cur e (0,0)),Le.add (hM g rfl) _,hI.add hg,⟨_,cap,rfl,hnc,hcm,h1,(fun h=>by cases h),fun hp=>⟨g,0,rfl,fun i v hv => ?_⟩⟩,fun b hb => ?_,.inr ⟨g,n,cap,cur,rfl,hb,add_at ..⟩⟩
  ·have hi:i<n*sz:=by rw [←h1];exact (List.getElem?_eq_some_iff.1 hv).1
   rw [←ht,List.getElem?_take_of_lt hi] at hv
   simp only [cellM,add_at,Nat.zero_add]
   simpa using hv
  ·by_cases e:b=g
   ·exact .inr (by simp [Value.ownBlock,e])
   ·rw [add_other e] at hb;exact .inl hb
theorem nd_app {a b:List Nat} (ha:a.Nodup) (hb:b.Nodup) (h:∀ x∈a,x∉b):(a++b).Nodup:=by
 rw [List.nodup_append]
 exact ⟨ha,hb,fun x hx y hy e=>h x hx (e ▸ hy)⟩
def recsB (v:Value) (us:List RV):List Nat:=ownB v++us.flatMap (fun x=>ownB x.dv)
structure RecsS (M:Fz) (lo:Nat) (v:Value) (us:List RV):Prop where
 rd:RecsV M v us
 row:Own1 M lo 74 v
 data:∀ x∈us,Own1 M lo 5 x.dv
 nd:(recsB v us).Nodup
theorem RecsS.le {M M':Fz} {lo:Nat} {v:Value} {us:List RV} (h:RecsS M lo v us) (hl:Le M M'):RecsS M' lo v us:=⟨h.rd.le hl,h.row.le hl,fun x hx=>(h.data x hx).le hl,h.nd⟩
theorem RecsS.mono {M:Fz} {lo lo':Nat} {v:Value} {us:List RV} (h:RecsS M lo v us) (hl:lo'≤lo):RecsS M lo' v us:=⟨h.rd,h.row.mono hl,fun x hx=>(h.data x hx).mono hl,h.nd⟩
theorem RecsS.blk {M:Fz} {lo:Nat} {v:Value} {us:List RV} (h:RecsS M lo v us) {b:Nat} (hb:b∈recsB v us):lo≤b∧M b≠none:=by
 rcases List.mem_append.1 hb with hb | hb
 ·exact h.row.blk hb
 ·obtain ⟨x,hx,hb⟩:=List.mem_flatMap.1 hb
  exact (h.data x hx).blk hb
structure MS where
 m:Msg
 lv:Value
 us:List RV
def MS.mv (x:MS):MV:=⟨x.m,x.lv⟩
structure MsgsS (M:Fz) (lo:Nat) (v:Value) (ms:List MS):Prop where
 rd:RowM M v ms.length 9 ((ms.map MS.mv).flatMap msgCells)
 row:Own1 M lo 69 v
 each:∀ x∈ms,RecsS M lo x.lv x.us∧x.us.map (·.r)=x.m.log
 nd:(ownB v++ms.flatMap (fun x=>recsB x.lv x.us)).Nodup
theorem MsgsS.le {M M':Fz} {lo:Nat} {v:Value} {ms:List MS} (h:MsgsS M lo v ms) (hl:Le M M'):MsgsS M' lo v ms:=⟨h.rd.le hl,h.row.le hl,fun x hx=>⟨(h.each x hx).1.le hl,(h.each x hx).2⟩,h.nd⟩
theorem MsgsS.mono {M:Fz} {lo lo':Nat} {v:Value} {ms:List MS} (h:MsgsS M lo v ms) (hl:lo'≤lo):MsgsS M lo' v ms:=⟨h.rd,h.row.mono hl,fun x hx=>⟨(h.each x hx).1.mono hl,(h.each x hx).2⟩,h.nd⟩
theorem MsgsS.blk {M:Fz} {lo:Nat} {v:Value} {ms:List MS} (h:MsgsS M lo v ms) {b:Nat} (hb:b∈ownB v++ms.flatMap (fun x=>recsB x.lv x.us)):lo≤b∧M b≠none:=by
 rcases List.mem_append.1 hb with hb | hb
 ·exact h.row.blk hb
 ·obtain ⟨x,hx,hb⟩:=List.mem_flatMap.1 hb
  exact (h.each x hx).1.blk hb
theorem MsgsS.msgs {M:Fz} {lo:Nat} {v:Value} {ms:List MS} (h:MsgsS M lo v ms):MsgsV M v (ms.map MS.mv):=⟨by rw [List.length_map];exact h.rd,fun x hx=>by
 obtain ⟨y,hy,rfl⟩:=List.mem_map.1 hx
 obtain ⟨h1,h2⟩:=h.each y hy
 exact ⟨y.us,h2,h1.rd⟩⟩
structure PS where
 p:Peer
 lv:Value
 vv:Value
 nv:Value
 mv:Value
 us:List RV
def PS.bl (x:PS):List Nat:=recsB x.lv x.us++(ownB x.vv++(ownB x.nv++ownB x.mv))
structure PeerS (M:Fz) (lo:Nat) (x:PS):Prop where
 log:RecsS M lo x.lv x.us
 recs:x.us.map (·.r)=x.p.log
 votes:RowM M x.vv x.p.votes.length 1 (x.p.votes.map Value.bool)∧Own1 M lo 4 x.vv
 next:RowM M x.nv x.p.next.length 1 (x.p.next.map (fun (n:Nat)=>Value.int .i64 (n:Int)))∧Own1 M lo 3 x.nv
 mat:RowM M x.mv x.p.mat.length 1 (x.p.mat.map (fun (n:Nat)=>Value.int .i64 (n:Int)))∧Own1 M lo 3 x.mv
 nd:x.bl.Nodup
theorem PeerS.le {M M':Fz} {lo:Nat} {x:PS} (h:PeerS M lo x) (hl:Le M M'):PeerS M' lo x:=⟨h.log.le hl,h.recs,⟨h.votes.1.le hl,h.votes.2.le hl⟩,⟨h.next.1.le hl,h.next.2.le hl⟩,⟨h.mat.1.le hl,h.mat.2.le hl⟩,h.nd⟩
theorem PeerS.mono {M:Fz} {lo lo':Nat} {x:PS} (h:PeerS M lo x) (hl:lo'≤lo):PeerS M lo' x:=⟨h.log.mono hl,h.recs,⟨h.votes.1,h.votes.2.mono hl⟩,⟨h.next.1,h.next.2.mono hl⟩,⟨h.mat.1,h.mat.2.mono hl⟩,h.nd⟩
theorem PeerS.blk {M:Fz} {lo:Nat} {x:PS} (h:PeerS M lo x) {b:Nat} (hb:b∈x.bl):lo≤b∧M b≠none:=by
 simp only [PS.bl,List.mem_append] at hb
 rcases hb with hb | hb | hb | hb
 ·exact h.log.blk hb
 ·exact h.votes.2.blk hb
 ·exact h.next.2.blk hb
 ·exact h.mat.2.blk hb
end Go.Proofs.YtcfdmbkiinjmaaaGreat.own
namespace Go.Proofs.YtcfdmbkiinjmaaaGreat.copy
open Raft mem grp YtcfdmbkiinjmaaaGreat.look ndw grant stand rows2 clone behind
open own
open bytes (Rd Own)
open pile (RdA RdS Texts)
open join (join_own)
def RecsR (w:World) (v:Value) (us:List RV):Prop:=∃ ao cap,v=.slice ao us.length cap∧us.length≤cap∧cap≤maxLen ∧
 (0<us.length→∃ b off,ao=some ⟨b,off,none⟩∧∀ i u,(us.flatMap recCells)[i]?=some u→w.cell? ⟨b,off+i,none⟩=some u)
theorem RecsR.own {w:World} {base:Nat} {v:Value} {us:List RV} (h:w.ownsRow base 74 3 v us.length (us.flatMap recCells)):RecsR w v us:=by
 obtain ⟨o,c,rfl⟩:=own_slice h
 obtain ⟨_,h1,h2⟩:=own_cap h
 refine ⟨o,c,rfl,h1,h2,fun hp => ?_⟩
 obtain ⟨g,cap,e,_,_,hc,_⟩:=own_at h hp
 simp only [Value.slice.injEq,true_and] at e
 obtain ⟨rfl,rfl⟩:=e
 exact ⟨g,0,rfl,fun i u hu=>by rw [Nat.zero_add];exact hc i u hu⟩
theorem RecsR.row {M:Fz} {w:World} {v:Value} {us:List RV} (hI:In M w) (h:RowM M v us.length 3 (us.flatMap recCells)):RecsR w v us:=by
 obtain ⟨ao,cap,rfl,h1,h2,_,_,h5⟩:=h
 refine ⟨ao,cap,rfl,h1,h2,fun hp => ?_⟩
 obtain ⟨b,off,rfl,hc⟩:=h5 hp
 exact ⟨b,off,rfl,fun i u hu=>hI.cell (hc i u hu)⟩
theorem bytes_rd {M:Fz} {w:World} {v:Value} {xs:List Int} (hI:In M w) (h:BytesM M v xs):RdA w v xs:=by
 obtain ⟨⟨ao,cap,rfl,h1,h2,h3,h4,h5⟩,hx⟩:=h
 refine ⟨⟨ao,cap,rfl,h1,h2,hx,fun hp => ?_⟩,fun n c e => ?_⟩
 ·obtain ⟨b,off,rfl,hc⟩:=h5 hp
  refine ⟨b,off,rfl,fun i hi=>hI.cell (hc i _ ?_)⟩
  rw [List.getElem?_map,List.getElem?_eq_getElem hi,List.getD_eq_getElem?_getD,List.getElem?_eq_getElem hi]
  rfl
 ·simp only [Value.slice.injEq] at e
  obtain ⟨rfl,_,_⟩:=e
  obtain ⟨e1,e2⟩:=h4 rfl
  rw [e1,e2]
def RI (w:World) (M:Fz) (us:List RV) (k:Nat) (v:Value) (wr:World):Prop:=∃ (M':Fz) (us':List RV),us'.map (·.r)=(us.take k).map (·.r)∧Le M M'∧In M' wr∧wr.ownsRow w.heap.size 74 3 v k (us'.flatMap recCells)∧(∀ g,v.ownBlock=some g→M' g=none)∧(∀ x∈us',BytesM M' x.dv x.r.data∧x.r.data.length≤1000)∧Below w.heap.size w wr∧(∀ b,M' b≠none→M b≠none∨w.heap.size≤b)∧(∀ x∈us',Own1 M' w.heap.size 5 x.dv)∧(us'.flatMap (fun x=>ownB x.dv)).Nodup
def CopE (w:World) (M:Fz) (l:List Rc) (r:Ending) (w':World):Prop :=
 ∃ (M':Fz) (o:Option Addr) (n lc:Nat) (us:List RV),r=.returned (.slice o n lc)∧Le M M'∧In M' w'∧us.map (·.r)=l∧RecsS M' w.heap.size (.slice o n lc) us∧Below w.heap.size w w'∧∀ b,M' b≠none→M b≠none∨w.heap.size≤b
theorem RI.fin {w wr:World} {M:Fz} {us:List RV} {v:Value} (h:RI w M us us.length v wr):CopE w M (us.map (·.r)) (.returned v) wr:=by
 obtain ⟨M',us',e,h1,h2,h3,h4,h5,h6,h7,h8,h9⟩:=h
 rw [List.take_length] at e
 obtain ⟨M2,q1,q2,q3,q4,q5⟩:=freeze1 h3 h2 h4
 have hv:=fun g (hg:v.ownBlock=some g)=>h4 g hg
 obtain ⟨o,c,rfl⟩:=own_slice h3
 have hl:us.length=us'.length:=by have:=congrArg List.length e;simpa using this.symm
 rw [hl] at q3
 refine ⟨M2,o,us.length,c,us',rfl,h1.trans q1,q2,e,⟨⟨by rw [hl];exact q3,fun x hx=>⟨(h5 x hx).1.le q1,(h5 x hx).2⟩⟩,q5,fun x hx=>(h8 x hx).le q1,?_⟩,h6,fun b hb => ?_⟩
 ·refine nd_app (ownB_nd _) h9 (fun b hb hb2 => ?_)
  obtain ⟨x,hx,hb3⟩:=List.mem_flatMap.1 hb2
  exact ((h8 x hx).blk hb3).2 (hv b (ownB_mem.1 hb))
 ·rcases q4 b hb with g | g
  ·exact h7 b g
  ·exact .inr (row_lt h3 g).1
theorem RI.step {w wr:World} {M:Fz} {us:List RV} {k:Nat} {v:Value} (h:RI w M us k v wr) {x:RV} (hx:us[k]?=some x) (hd:BytesM M x.dv x.r.data∧x.r.data.length≤1000) {ro:Option Addr} {rn rc:Nat} (hdv:x.dv=.slice ro rn rc) {W1 W2:World} (hW1:wr.alloc (.cells #[.int .i64 x.r.term,.int .i64 x.r.index,.slice ro rn rc] 74)=W1) (hW2:W1.alloc (.cells #[.slice ro rn rc] 42)=W2) :
  Calls Tryz.prog 70 #[.slice (some ⟨W1.heap.size,0,none⟩) 1 1] W2 fun r w5=>∃ (o5:Option Addr) (n5 c5:Nat) (X Y:World),r=.returned (.slice o5 n5 c5)∧w5.setCell ⟨wr.heap.size,2,none⟩ (.slice o5 n5 c5)=X∧X.alloc (.cells #[.int .i64 x.r.term,.int .i64 x.r.index,.slice o5 n5 c5] 74)=Y ∧
   ((w5.cell? ⟨wr.heap.size,0,none⟩=some (.int .i64 x.r.term)∧w5.cell? ⟨wr.heap.size,1,none⟩=some (.int .i64 x.r.index)∧w5.cell? ⟨wr.heap.size,2,none⟩=some (.slice ro rn rc)∧w5.frozen? ⟨wr.heap.size,2,none⟩=false) ∧
    (X.cell? ⟨wr.heap.size,0,none⟩=some (.int .i64 x.r.term)∧X.cell? ⟨wr.heap.size,1,none⟩=some (.int .i64 x.r.index)∧X.cell? ⟨wr.heap.size,2,none⟩=some (.slice o5 n5 c5))) ∧
   Hid (∃ ys,Y.ownsRow w.heap.size 74 3 v k ys∧(∀ j u,([.int .i64 x.r.term,.int .i64 x.r.index,.slice o5 n5 c5]:List Value)[j]?=some u→Y.cell? ((⟨X.heap.size,0,none⟩:Addr).add j)=some u)∧w.heap.size≤Y.heap.size ∧
    ∀ g cap w',w'.ownsRow w.heap.size 74 3 (.slice (some ⟨g,0,none⟩) (k+1) cap) (k+1) (ys++[.int .i64 x.r.term,.int .i64 x.r.index,.slice o5 n5 c5])→Y.grownBy w' v.ownBlock→(v.ownBlock=some g∨g=Y.heap.size)→RI w M us (k+1) (.slice (some ⟨g,0,none⟩) (k+1) cap) w'):=by
 obtain ⟨M',us',e,h1,h2,h3,h4,h5,h6,h7,h8,h9⟩:=h
 have b1:Below wr.heap.size wr W1:=by rw [←hW1];exact more (Below.refl _ _) _
 have e1:W1.heap.size=wr.heap.size+1:=by rw [←hW1];exact World.size_alloc ..
 have e2:W2.heap.size=wr.heap.size+2:=by rw [←hW2,World.size_alloc,e1]
 have b2:Below W1.heap.size W1 W2:=by rw [←hW2];exact more (Below.refl _ _) _
 have hB1:W1.heap[wr.heap.size]?=some (.cells #[.int .i64 x.r.term,.int .i64 x.r.index,.slice ro rn rc] 74 (0,0)):=by rw [←hW1];exact heap_alloc_new wr _
 have hB2:W2.heap[W1.heap.size]?=some (.cells #[.slice ro rn rc] 42 (0,0)):=by rw [←hW2];exact heap_alloc_new W1 _
 have b12:Below wr.heap.size wr W2:=b1.trans (b2.mono (by omega))
 have hdW:RdA W2 x.dv x.r.data:=bytes_rd (h2.below b12) (hd.1.le h1)
 refine (join_own W2 (.slice (some ⟨W1.heap.size,0,none⟩) 1 1) [x.dv] [x.r.data] ⟨_,1,rfl,Nat.le_refl _,by simp [maxLen],fun _=>⟨W1.heap.size,0,rfl,fun i hi => ?_⟩⟩ ⟨rfl,fun i hi => ?_⟩ (by simp;omega)).mono ?_
 ·obtain rfl:i=0:=by simp at hi;omega
  rw [hdv]
  exact cell_of hB2 rfl
 ·obtain rfl:i=0:=by simp at hi;omega
  exact hdW
 rintro r w5 ⟨v5,rfl,ho5,b5⟩
 rw [show ([x.r.data]:List (List Int)).flatten=x.r.data from by simp] at ho5
 obtain ⟨o5,c5,rfl⟩:=own_slice ho5.2
 have b5w:Below wr.heap.size wr w5:=b12.trans (b5.mono (by omega))
 have hB5:w5.heap[wr.heap.size]?=some (.cells #[.int .i64 x.r.term,.int .i64 x.r.index,.slice ro rn rc] 74 (0,0)):=((b5.block _ (by omega)).trans (b2.block _ (by omega))).trans hB1
 have s5:=b5.size
 obtain ⟨X,hX⟩:∃ X,w5.setCell ⟨wr.heap.size,2,none⟩ (.slice o5 x.r.data.length c5)=X:=⟨_,rfl⟩
 obtain ⟨Y,hY⟩:∃ Y,X.alloc (.cells #[.int .i64 x.r.term,.int .i64 x.r.index,.slice o5 x.r.data.length c5] 74)=Y:=⟨_,rfl⟩
 have bX:Below wr.heap.size wr X:=by rw [←hX];exact b5w.setCell (Nat.le_refl _) _
 have sX:X.heap.size=w5.heap.size:=by rw [←hX];simp [World.setCell]
 have hBX:X.heap[wr.heap.size]?=some (.cells #[.int .i64 x.r.term,.int .i64 x.r.index,.slice o5 x.r.data.length c5] 74 (0,0)):=by
  rw [←hX]
  exact set_at hB5 2 _ (by simp)
 have bY:Below wr.heap.size wr Y:=by rw [←hY];exact bX.alloc (by omega) _
 have sY:Y.heap.size=X.heap.size+1:=by rw [←hY];exact World.size_alloc ..
 have hBY:Y.heap[X.heap.size]?=some (.cells #[.int .i64 x.r.term,.int .i64 x.r.index,.slice o5 x.r.data.length c5] 74 (0,0)):=by rw [←hY];exact heap_alloc_new X _
 have h5M:∀ g,(Value.slice o5 x.r.data.length c5).ownBlock=some g→M' g=none:=fun g hg=>h2.fresh (by have:=(row_lt ho5.2 hg).1;omega)
 obtain ⟨M2,q1,q2,q3,q4,q5⟩:=freeze1 ho5.2 (h2.below b5w) h5M
 have hMB:M2 wr.heap.size=none:=by
  cases em:M2 wr.heap.size with
  | none=>rfl
  | some o =>
   rcases q4 wr.heap.size (by rw [em];simp) with g | g
   ·exact absurd (h2.fresh (Nat.le_refl _)) g
   ·have:=(row_lt ho5.2 g).1;omega
 have hIX:In M2 X:=by rw [←hX];exact q2.set hMB _
 have hIY:In M2 Y:=by rw [←hY];exact hIX.below (more (Below.refl _ _) _)
 have hvM:∀ g,v.ownBlock=some g→M2 g=none:=fun g hg=>by
  cases em:M2 g with
  | none=>rfl
  | some o =>
   rcases q4 g (by rw [em];simp) with g' | g'
   ·exact absurd (h4 g hg) g'
   ·have:=(row_lt ho5.2 g').1;have:=(row_lt h3 hg).2;omega
 refine ⟨o5,_,c5,X,Y,rfl,hX,hY,⟨⟨cell_of hB5 rfl,cell_of hB5 rfl,cell_of hB5 rfl,frozen_of hB5 _⟩,cell_of hBX rfl,cell_of hBX rfl,cell_of hBX rfl⟩,us'.flatMap recCells,row_kept h3 (fun g hg=>bY.block g (row_lt h3 hg).2),?_,Nat.le_trans h6.size bY.size,?_⟩
 ·intro j u hu
  have e9:((⟨X.heap.size,0,none⟩:Addr).add j)=⟨X.heap.size,j,none⟩:=by
   rw [pile.add_at,Nat.zero_add]
  rw [e9]
  refine cell_of hBY ?_
  simpa using hu
 ·intro g cap w' p1 p2 p3
  have hk:k<us.length:=(List.getElem?_eq_some_iff.1 hx).1
  have hIw:=hIY.grown p2 hvM
  refine ⟨M2,us'++[⟨x.r,.slice o5 x.r.data.length c5⟩],?_,h1.trans q1,hIw,?_,?_,?_,?_,?_,?_,?_⟩
  ·rw [List.map_append,e,List.take_add_one,hx]
   simp
  ·rw [List.flatMap_append]
   simpa [recCells] using p1
  ·intro g' hg'
   obtain rfl:g=g':=by simpa [Value.ownBlock] using hg'
   rcases p3 with p3 | p3
   ·exact hvM g p3
   ·exact hIY.fresh (by omega)
  ·intro y hy
   rcases List.mem_append.1 hy with hy | hy
   ·exact ⟨(h5 y hy).1.le q1,(h5 y hy).2⟩
   ·rw [List.mem_singleton.1 hy]
    exact ⟨⟨q3,ho5.1⟩,hd.2⟩
  ·exact (h6.trans (bY.mono h6.size)).grown p2 (Nat.le_trans h6.size bY.size) (fun g' hg'=>(row_lt h3 hg').1)
  ·intro b hb
   rcases q4 b hb with g' | g'
   ·exact h7 b g'
   ·right
    have:=(row_lt ho5.2 g').1
    have:=h6.size
    omega
  ·intro y hy
   rcases List.mem_append.1 hy with hy | hy
   ·exact (h8 y hy).le q1
   ·rw [List.mem_singleton.1 hy]
    exact q5.mono (by have:=h6.size;omega)
  ·rw [List.flatMap_append]
   refine nd_app h9 (by simpa using ownB_nd _) (fun b hb hb2 => ?_)
   obtain ⟨y,hy,hb3⟩:=List.mem_flatMap.1 hb
   have hlo:=h2.lt (Option.ne_none_iff_exists'.1 ((h8 y hy).blk hb3).2).choose_spec
   have hnew:(Value.slice o5 x.r.data.length c5).ownBlock=some b:=ownB_mem.1 (by simpa using hb2)
   have:=(row_lt ho5.2 hnew).1
   omega
set_option maxRecDepth 20000 in
set_option maxHeartbeats 2000000 in
theorem copyRecs_any (w:World) (M:Fz) (v:Value) (us:List RV) (hI:In M w) (hv:RecsR w v us) (hd:∀ x∈us,BytesM M x.dv x.r.data∧x.r.data.length≤1000) (hl:us.length≤1000) :
  Calls Tryz.prog 46 #[v] w fun r w'=>CopE w M (us.map (·.r)) r w':=by
 obtain ⟨ao,cap,rfl,hc1,hc2,hcell⟩:=hv
 unfold maxLen at hc2
 obtain ⟨n,hn⟩:∃ n,n=us.length:=⟨_,rfl⟩
 have HL:=hide hn
 have HFin:Hid (∀ v wr,RI w M us n v wr→CopE w M (us.map (·.r)) (.returned v) wr):=fun v wr h=>by rw [hn] at h;exact h.fin
 have HCell:Hid (∀ k,k<n→∃ g off x ro rn rc,ao=some ⟨g,off,none⟩∧us[k]?=some x∧x.dv=.slice ro rn rc∧(BytesM M x.dv x.r.data∧x.r.data.length≤1000)∧∀ wr,Below w.heap.size w wr→(wr.cell? ⟨g,off+k*3,none⟩=some (.int .i64 x.r.term)∧wr.cell? ⟨g,off+k*3+1,none⟩=some (.int .i64 x.r.index)∧wr.cell? ⟨g,off+k*3+2,none⟩=some (.slice ro rn rc))):=fun k hk=>by
  obtain ⟨x,hx⟩:∃ x,us[k]?=some x:=⟨_,List.getElem?_eq_getElem (by omega)⟩
  obtain ⟨g,off,rfl,hc⟩:=hcell (by omega)
  have hf:=fun i hi=>flat_get recCells 3 recCells_len us k i x hx hi
  have hdx:=hd x (List.mem_of_getElem? hx)
  obtain ⟨⟨ao2,cp,e2,_⟩,_⟩:=id hdx.1
  have z0:=hc (k*3+0) (.int .i64 x.r.term) (by rw [hf 0 (by decide)];rfl)
  have z1:=hc (k*3+1) (.int .i64 x.r.index) (by rw [hf 1 (by decide)];rfl)
  have z2:=hc (k*3+2) x.dv (by rw [hf 2 (by decide)];rfl)
  rw [e2] at z2
  refine ⟨g,off,x,ao2,_,cp,rfl,hx,e2,hdx,fun wr hb=>⟨?_,?_,?_⟩⟩
  ·exact (hb.cell (World.block_lt_of_cell? w _ z0)).trans z0
  ·exact (hb.cell (World.block_lt_of_cell? w _ z1)).trans z1
  ·exact (hb.cell (World.block_lt_of_cell? w _ z2)).trans z2
 have H0:Hid (RI w M us 0 (.slice none 0 0) w):=⟨M,[],rfl,Le.refl _,hI,World.ownsRow_nil _ _ _ _,by simp [Value.ownBlock],by simp,Below.refl _ _,fun b hb=>.inl hb,by simp,by simp⟩
 obtain ⟨i0,hii,hz0,hz1,hz2⟩:=info_parts info35
 have HI3:Hid (Tryz.prog.info? 74=some i0∧i0.zero=some (.agg #[.int .i64 0,.int .i64 0,.slice none 0 0])∧i0.size=3∧i0.bytes=40):=⟨hii,hz0,hz1,hz2⟩
 rw [←hn] at hl hc1 ⊢
 clear hcell hd hI hn hii hz0 hz1 hz2
 go_enter Tryz.func46,Tryz.ntmps46
 go_wp2
 go_loopw [3,8] (fun v i wr=>∃ k:Nat,k≤n∧i=.int .i64 k∧Hid (RI w M us k v wr)) (fun _ i _=>n-(intOf i).toNat)
 case atStart=>exact ⟨0,Nat.zero_le _,rfl,H0⟩
 case round =>
  obtain ⟨k,hk,rfl,HR⟩:=hrel
  by_cases hlt:k<n
  ·have hltI:(k:Int)<n:=by omega
   obtain ⟨g,off,x,ro,rn,rc,rfl,hx,edv,hdx,hfar⟩:=HCell.out k hlt
   have hb0:Below w.heap.size w wr:=by obtain ⟨_,_,_,_,_,_,_,_,hb,_⟩:=HR.out;exact hb
   obtain ⟨q0,q1,q2⟩:=hfar wr hb0
   obtain ⟨W1,hW1⟩:∃ W1,wr.alloc (.cells #[.int .i64 x.r.term,.int .i64 x.r.index,.slice ro rn rc] 74)=W1:=⟨_,rfl⟩
   obtain ⟨W2,hW2⟩:∃ W2,W1.alloc (.cells #[.slice ro rn rc] 42)=W2:=⟨_,rfl⟩
   have HJ:=hide (HR.out.step hx hdx edv hW1 hW2)
   have hbox:W1.heap[wr.heap.size]?=some (.cells #[.int .i64 x.r.term,.int .i64 x.r.index,.slice ro rn rc] 74 (0,0)):=by rw [←hW1];exact heap_alloc_new wr _
   have s0:=cell_of (i:=0) hbox (v:=.int .i64 x.r.term) rfl
   have s1:=cell_of (i:=1) hbox (v:=.int .i64 x.r.index) rfl
   have s2:=cell_of (i:=2) hbox (v:=.slice ro rn rc) rfl
   clear hx hdx edv hfar hb0 hbox
   go_wp2_with (first
    | (go_at_call 70;refine HJ.out.mono ?_;rintro rr w5 ⟨o5,n5,c5,X,Y,rfl,hX,hY,⟨⟨t0,t1,t2,t3⟩,u0,u1,u2⟩,HE⟩)
    | (at_builtin;obtain ⟨ys,y1,y2,y3,y4⟩:=HE.out;refine wpList_append_lies _ rfl _ _ 26 rfl w.heap.size 74 i0 (.agg #[.int .i64 0,.int .i64 0,.slice none 0 0]) 3 40 Tryz.underlying26 HI3.out.1 HI3.out.2.1 HI3.out.2.2.1 HI3.out.2.2.2 rfl (by decide) _ k ys rfl y1 ⟨X.heap.size,0,none⟩ 1 1 [.int .i64 x.r.term,.int .i64 x.r.index,.slice o5 n5 c5] rfl rfl y2 (fun u' hu'=>by simp only [List.mem_cons,List.not_mem_nil,or_false] at hu';rcases hu' with rfl | rfl | rfl <;> rfl) (by decide) (by unfold maxLen;omega) (by omega) y3 _ rfl ?_;intro g2 cap2 w2 z1 z2 z3 z4;have HN:=hide (y4 g2 cap2 w2 z1 z2 z3);clear z1 z2 z3 z4 y1 y2 y3 y4))
   go_roundw
   case rel=>exact ⟨k+1,by omega,by go_num,HN⟩
   case measure=>simp [intOf];omega
  ·have hlt2:¬ (k:Int)<n:=by omega
   obtain rfl:k=n:=by omega
   go_wp2
   go_ret
   exact HFin.out _ _ HR.out
end Go.Proofs.YtcfdmbkiinjmaaaGreat.copy
