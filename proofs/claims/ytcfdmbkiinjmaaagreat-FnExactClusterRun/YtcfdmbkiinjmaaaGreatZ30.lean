/- Proved: laws.FnExactClusterRun returns true at every number and every row of events, and leaves its arguments as they were: impl's ClusterRun answers as the specification's, every field; it writes into no argument, and its answer owns its memory, behind another call too. No condition. -/
import Derived.Test.YtcfdmbkiinjmaaaGreatZ29
import Derived.Test.YtcfdmbkiinjmaaaGreatZ05
import Derived.Test.YtcfdmbkiinjmaaaGreatZ27
import Derived.Test.YtcfdmbkiinjmaaaGreatZ26
import Derived.Test.YtcfdmbkiinjmaaaGreatZ01
import Derived.Deep.QuietTactic
import Derived.BigQuiet
import Derived.Deep.RegionLaw
import Derived.Deep.RegionHeldLaw
import Derived.OpenShut
import Derived.ShutString
import Derived.ChangeOld
import Derived.Lib.SmallJoins
import Derived.Deep.SlicePairs
import Derived.Test.YtcfdmbkiinjmaaaGreatRows
import Derived.WalkKit
import Derived.ProofKit
set_option linter.unusedVariables false
open Go.ChangeShapes Go.WideShapes Go.ChangeAt Go.RowKit
namespace Go.Proofs.YtcfdmbkiinjmaaaGreat.happen
open Raft mem grp YtcfdmbkiinjmaaaGreat.look ndw grant stand lead rows2 post postb say lookb lookc commit too elect tick vote arrive deliv prop onmsg onpeer
theorem msg_any (w:World) (M:Fz) (O:Lb) (d:Nat) (nb:List Nat) (c:Cl) (h:G w M O d nb c) (n:Nat) (h1:1≤n) (h7:n≤7) (hg:Go.Proofs.YtcfdmbkiinjmaaaGreat.Raft.Good n c) (e:Ev) (hk:e.kind=2∨e.kind=3∨e.kind=4) (eo:Option Addr) (el ec:Nat) :
  Calls Tryz.prog 43 #[.pointer (some ⟨d,0,none⟩),.agg #[.int .i64 e.kind,.int .i64 e.n,.slice eo el ec]] w fun r w'=>r=.returned (.int .i64 (c.event e).2)∧Did M O w d nb (c.event e).1 w':=by
 obtain ⟨hB,hC,s,hR⟩:=hg
 unfold Cl.event
 rw [if_pos hk]
 by_cases hN:e.n<0∨(c.net.length:Int)≤e.n
 ·rw [if_pos hN]
  exact onMsg_none w M O d nb c h e.kind e.n hN eo el ec
 ·rw [if_neg hN]
  obtain ⟨N,hN2⟩:∃ N:Nat,e.n=(N:Int):=⟨e.n.toNat,by omega⟩
  have hlt:N<c.net.length:=by omega
  obtain ⟨m,hm⟩:∃ m,c.net[N]?=some m:=⟨_,List.getElem?_eq_getElem hlt⟩
  have ht:e.n.toNat=N:=by omega
  rw [ht,hm,hN2]
  dsimp only
  rcases hk with hk | hk | hk
  ·rw [if_pos hk,hk]
   exact onMsg_2 w M O d nb c h n h1 h7 s hR hC hB N m hm eo el ec
  ·rw [if_neg (by omega),if_pos hk,hk]
   exact onMsg_3 w M O d nb c h hB N m hm eo el ec
  ·rw [if_neg (by omega),if_neg (by omega),hk]
   exact onMsg_4 w M O d nb c h hB N m hm eo el ec
theorem peer_any (w:World) (M:Fz) (O:Lb) (d:Nat) (nb:List Nat) (c:Cl) (h:G w M O d nb c) (n:Nat) (h1:1≤n) (h7:n≤7) (hg:Go.Proofs.YtcfdmbkiinjmaaaGreat.Raft.Good n c) (e:Ev) (hk:e.kind=1∨e.kind=5∨e.kind=6∨e.kind=7) (eo:Option Addr) (el ec:Nat) (hd:BytesM M (.slice eo el ec) e.data) :
  Calls Tryz.prog 44 #[.pointer (some ⟨d,0,none⟩),.agg #[.int .i64 e.kind,.int .i64 e.n,.slice eo el ec]] w fun r w'=>r=.returned (.int .i64 (c.event e).2)∧Did M O w d nb (c.event e).1 w':=by
 obtain ⟨hB,hC,s,hR⟩:=hg
 unfold Cl.event
 rw [if_neg (by omega),if_pos hk]
 by_cases hN:e.n<0∨(c.peers.length:Int)≤e.n
 ·rw [if_pos hN]
  exact onPeer_none w M O d nb c h e.kind e.n hN eo el ec
 ·rw [if_neg hN]
  obtain ⟨N,hN2⟩:∃ N:Nat,e.n=(N:Int):=⟨e.n.toNat,by omega⟩
  have hlt:N<c.peers.length:=by omega
  have ht:e.n.toNat=N:=by omega
  rw [ht,hN2]
  dsimp only
  obtain ⟨b,hb⟩:∃ b,nb[N]?=some b:=⟨_,List.getElem?_eq_getElem (by rw [h.len];exact hlt)⟩
  have hF:Fine c.peers.length (c.at N):=by rw [hR.len];exact fine hR hB (by rw [←hR.len];exact hlt)
  have hch:c.chosen.length≤1000:=by have:=hB.chosen;omega
  have p1:1≤c.peers.length:=by rw [hR.len];exact h1
  have p7:c.peers.length≤7:=by rw [hR.len];exact h7
  by_cases h6:e.kind=6
  ·cases hup:(c.at N).up with
   | true =>
    rw [if_pos (by simp [h6]),h6]
    exact onPeer_on w M O d nb c h N b hb hup eo el ec
   | false =>
    rw [if_neg (by simp [h6]),if_neg (by omega),if_neg (by omega),if_pos h6,h6]
    exact onPeer_6 w M O d nb c h N b hb hup eo el ec
  ·cases hup:(c.at N).up with
   | false =>
    rw [if_pos (by simp [h6])]
    exact onPeer_off w M O d nb c h N b hb e.kind (by simp [h6]) hup eo el ec
   | true =>
    rw [if_neg (by simp [h6])]
    rcases hk with hk | hk | hk | hk
    ·rw [if_pos hk,hk]
     exact onPeer_1 w M O d nb c h N b hb p1 p7 hF hch hup eo el ec
    ·rw [if_neg (by omega),if_pos hk,hk]
     exact onPeer_5 w M O d nb c h N b hb hup eo el ec
    ·exact absurd hk h6
    ·rw [if_neg (by omega),if_neg (by omega),if_neg (by omega),hk]
     by_cases hr:(c.at N).role=2
     ·rw [if_neg (by omega)]
      by_cases hs:1000<e.data.length∨(c.at N).log.length=100
      ·rw [if_pos hs]
       exact onPeer_7z w M O d nb c h N b hb p1 p7 hF hch hup eo el ec e.data hd hr hs
      ·rw [if_neg hs]
       have hx:=onPeer_7 w M O d nb c h N b hb p1 p7 hF hch hup eo el ec e.data hd hr hs
       dsimp only at hx
       rw [hup] at hx
       exact hx
     ·rw [if_pos hr]
      exact onPeer_7s w M O d nb c h N b hb p1 p7 hF hch hup eo el ec e.data hd hr
set_option maxHeartbeats 2000000 in
theorem happen_any (w:World) (M:Fz) (O:Lb) (d:Nat) (nb:List Nat) (c:Cl) (h:G w M O d nb c) (n:Nat) (h1:1≤n) (h7:n≤7) (hg:Go.Proofs.YtcfdmbkiinjmaaaGreat.Raft.Good n c) (e:Ev) (eo:Option Addr) (el ec:Nat) (hd:BytesM M (.slice eo el ec) e.data) :
  Calls Tryz.prog 22 #[.pointer (some ⟨d,0,none⟩),.agg #[.int .i64 e.kind,.int .i64 e.n,.slice eo el ec]] w fun r w'=>r=.returned (.int .i64 (c.event e).2)∧Did M O w d nb (c.event e).1 w':=by
 have st:=h.sta
 obtain ⟨W,hW⟩:∃ W,w.alloc (.cells #[.int .i64 e.kind,.int .i64 e.n,.slice eo el ec] 48)=W:=⟨_,rfl⟩
 have bW:Below w.heap.size w W:=by rw [←hW];exact more (Below.refl _ _) _
 have hbox:W.heap[w.heap.size]?=some (.cells #[.int .i64 e.kind,.int .i64 e.n,.slice eo el ec] 48 (0,0)):=by rw [←hW];exact heap_alloc_new w _
 have hGW:=h.below bW
 have m0:=cell_of (i:=0) hbox (v:=.int .i64 e.kind) rfl
 have m1:=cell_of (i:=1) hbox (v:=.int .i64 e.n) rfl
 have m2:=cell_of (i:=2) hbox (v:=.slice eo el ec) rfl
 obtain ⟨R,hRr⟩:∃ R,R=(c.event e).2:=⟨_,rfl⟩
 obtain ⟨C,hCc⟩:∃ C,C=(c.event e).1:=⟨_,rfl⟩
 have HM:Hid (e.kind=2∨e.kind=3∨e.kind=4→Calls Tryz.prog 43 #[.pointer (some ⟨d,0,none⟩),.agg #[.int .i64 e.kind,.int .i64 e.n,.slice eo el ec]] W fun r w'=>r=.returned (.int .i64 R)∧Did M O w d nb C w'):=fun hk=>by
  refine (msg_any W M O d nb c hGW n h1 h7 hg e hk eo el ec).mono ?_
  rintro r w' ⟨rfl,hd⟩
  rw [hRr,hCc]
  exact ⟨rfl,Did.from st bW hd⟩
 have HP:Hid (e.kind=1∨e.kind=5∨e.kind=6∨e.kind=7→Calls Tryz.prog 44 #[.pointer (some ⟨d,0,none⟩),.agg #[.int .i64 e.kind,.int .i64 e.n,.slice eo el ec]] W fun r w'=>r=.returned (.int .i64 R)∧Did M O w d nb C w'):=fun hk=>by
  refine (peer_any W M O d nb c hGW n h1 h7 hg e hk eo el ec hd).mono ?_
  rintro r w' ⟨rfl,hd⟩
  rw [hRr,hCc]
  exact ⟨rfl,Did.from st bW hd⟩
 have HN:Hid (¬ (e.kind=2∨e.kind=3∨e.kind=4)→¬ (e.kind=1∨e.kind=5∨e.kind=6∨e.kind=7)→R=3∧Did M O w d nb C W):=fun g1 g2=>by
  have e1:c.event e=(c,3):=by unfold Cl.event;rw [if_neg g1,if_neg g2]
  rw [hRr,hCc,e1]
  exact ⟨rfl,M,O,(Aft.refl _ st).below bW,hGW⟩
 rw [←hRr,←hCc]
 generalize e.kind=K at *
 generalize e.n=N at *
 clear hbox hGW bW h st hRr hCc hd hg h1 h7
 by_cases g1:K=2∨K=3∨K=4
 ·rcases g1 with rfl | rfl | rfl
  all_goals
   go_enter Tryz.func22,Tryz.ntmps22
   go_wp2_with (go_at_call 43;refine (HM.out (by simp)).mono ?_;rintro rr w5 ⟨rfl,hd5⟩;have HD5:=hide hd5;clear hd5)
   go_ret
   exact ⟨rfl,HD5.out⟩
 ·by_cases g2:K=1∨K=5∨K=6∨K=7
  ·rcases g2 with rfl | rfl | rfl | rfl
   all_goals
    go_enter Tryz.func22,Tryz.ntmps22
    go_wp2_with (go_at_call 44;refine (HP.out (by simp)).mono ?_;rintro rr w5 ⟨rfl,hd5⟩;have HD5:=hide hd5;clear hd5)
    go_ret
    exact ⟨rfl,HD5.out⟩
  ·obtain ⟨rfl,hd5⟩:=HN.out g1 g2
   have HD5:=hide hd5
   have k2:(K == 2)=false:=by simp;omega
   have k3:(K == 3)=false:=by simp;omega
   have k4:(K == 4)=false:=by simp;omega
   have k1:(K == 1)=false:=by simp;omega
   have k5:(K == 5)=false:=by simp;omega
   have k6:(K == 6)=false:=by simp;omega
   have k7:(K == 7)=false:=by simp;omega
   clear hd5 g1 g2 HM HP HN
   go_enter Tryz.func22,Tryz.ntmps22
   go_wp2
   go_ret
   exact ⟨rfl,HD5.out⟩
end Go.Proofs.YtcfdmbkiinjmaaaGreat.happen
namespace Go.Proofs.YtcfdmbkiinjmaaaGreat.crun
open Raft mem grp YtcfdmbkiinjmaaaGreat.look ndw grant stand rows2 clone behind post copy msgs postb ntold gtold gt8 new happen own
theorem info3:(Tryz.prog.info? 3).map (fun i=>(i.zero,i.size,i.bytes))=some (some (.int .i64 0),1,8):=by kernel_rfl
structure EV where
 e:Ev
 dv:Value
def evCells (x:EV):List Value:=[.int .i64 x.e.kind,.int .i64 x.e.n,x.dv]
def EvsV (M:Fz) (v:Value) (us:List EV):Prop:=RowM M v us.length 3 (us.flatMap evCells)∧∀ x∈us,BytesM M x.dv x.e.data
def ints (l:List Int):List Value:=l.map (fun i=>Value.int .i64 i)
theorem run_snoc:∀ (es:List Ev) (e:Ev) (c:Cl),c.run (es++[e])=(((c.run es).1.event e).1,(c.run es).2++[((c.run es).1.event e).2])
 | [],e,c=>by simp [Cl.run]
 | a::es,e,c=>by simp [Cl.run,run_snoc es e]
theorem run_len:∀ (es:List Ev) (c:Cl),(c.run es).2.length=es.length
 | [],c=>rfl
 | a::es,c=>by simp [Cl.run,run_len es]
theorem run_take (es:List Ev) (k:Nat) (e:Ev) (h:es[k]?=some e) (c:Cl):c.run (es.take (k+1))=(((c.run (es.take k)).1.event e).1,(c.run (es.take k)).2++[((c.run (es.take k)).1.event e).2]):=by
 rw [List.take_add_one,h]
 exact run_snoc _ _ _
theorem good_run {n:Nat}:∀ (es:List Ev) (c:Cl),Raft.Good n c→Raft.Good n (c.run es).1
 | [],_,h=>h
 | e::es,_,h=>good_run es _ (h.event e)
theorem lb_run {n:Nat}:∀ (es:List Ev) (c:Cl),LB n c→LB n (c.run es).1
 | [],_,h=>h
 | e::es,_,h=>lb_run es _ (h.event e)
theorem G.grown {w w':World} {M:Fz} {O:Lb} {d:Nat} {nb:List Nat} {c:Cl} {row:Option Nat} (h:G w M O d nb c) (p:w.grownBy w' row) (hr:∀ g,row=some g→O g=none∧M g=none):G w' M O d nb c:=by
 obtain ⟨hd,pv,cv,bs,us,cs,h⟩:=h
 have hk:∀ l x,O x=some l→w'.heap[x]?=w.heap[x]? := fun l x hx=>p.block x (h.st.ok x l hx).2 (fun e=>by have:=(hr x e.symm).1;rw [hx] at this;cases this)
 exact ⟨hd,pv,cv,bs,us,cs,
  { st:=⟨h.st.inn.grown p (fun k e=>(hr k e).2),fun b l hb=>⟨(h.st.ok b l hb).1,Nat.lt_of_lt_of_le (h.st.ok b l hb).2 p.size⟩⟩
    blk:=(hk _ d h.own).trans h.blk
    own:=h.own
    peers:=h.peers
    len:=h.len
    nodes:=fun j b p' hb hp=>by
     obtain ⟨us',lv,vv,nv,mv,hnd⟩:=h.nodes j b p' hb hp
     exact ⟨us',lv,vv,nv,mv,hnd.keep (fun x hx=>hk _ x hx) (Le.refl _) (fun _ hx=>hx)⟩
    post:=h.post.keep (fun x hx=>hk _ x hx) (Le.refl _) (fun _ hx=>hx)
    nets:=h.nets
    chos:=h.chos.keep (fun x hx=>hk _ x hx) (Le.refl _) (fun _ hx=>hx)
    chosen:=h.chosen }⟩
def noLb:Lb:=fun _=>none
theorem noSta {M:Fz} {w:World} (h:In M w):Sta M noLb w:=⟨h,fun b l hb=>by cases hb⟩
theorem aft_below {M M':Fz} {O':Lb} {w w':World} (h:Aft (fun _=>True) M noLb w M' O' w'):Below w.heap.size w w':=⟨h.os,h.tape,h.output,h.size,fun k hk=>h.keep k hk (fun l hl=>by cases hl)⟩
def CI (W:World) (M:Fz) (d:Nat) (c:Cl) (ks:List Int) (k:Nat) (v:Value) (wr:World):Prop:=∃ M' O' nb,Aft (fun _=>True) M noLb W M' O' wr∧G wr M' O' d nb c∧wr.ownsRow W.heap.size 3 1 v k (ints ks)∧∀ g,v.ownBlock=some g→O' g=none∧M' g=none
theorem CI.below {W:World} {M:Fz} {d:Nat} {c:Cl} {ks:List Int} {k:Nat} {v:Value} {wr:World} (h:CI W M d c ks k v wr):Below W.heap.size W wr:=by
 obtain ⟨M',O',nb,a,_⟩:=h
 exact aft_below a
theorem CI.step {W:World} {M:Fz} {d:Nat} {c:Cl} {ks:List Int} {k:Nat} {so:Option Addr} {sn sc:Nat} {wr:World} (h:CI W M d c ks k (.slice so sn sc) wr) {n:Nat} (h1:1≤n) (h7:n≤7) (hg:Raft.Good n c) (e:Ev) (eo:Option Addr) (el ec:Nat) (hd:BytesM M (.slice eo el ec) e.data) {X:World} (hX:wr.alloc (.cells #[.int .i64 e.kind,.int .i64 e.n,.slice eo el ec] 48)=X) :
  Calls Tryz.prog 22 #[.pointer (some ⟨d,0,none⟩),.agg #[.int .i64 e.kind,.int .i64 e.n,.slice eo el ec]] X fun r w5=>∃ Y,r=.returned (.int .i64 (c.event e).2)∧w5.alloc (.cells #[.int .i64 (c.event e).2] 3)=Y ∧
   Hid (∃ ys,Y.ownsRow W.heap.size 3 1 (.slice so sn sc) k ys∧(∀ j u,([.int .i64 (c.event e).2]:List Value)[j]?=some u→Y.cell? ((⟨w5.heap.size,0,none⟩:Addr).add j)=some u)∧W.heap.size≤Y.heap.size ∧
    ∀ g cap w',w'.ownsRow W.heap.size 3 1 (.slice (some ⟨g,0,none⟩) (k+1) cap) (k+1) (ys++[.int .i64 (c.event e).2])→Y.grownBy w' (Value.slice so sn sc).ownBlock→((Value.slice so sn sc).ownBlock=some g∨g=Y.heap.size)→CI W M d (c.event e).1 (ks++[(c.event e).2]) (k+1) (.slice (some ⟨g,0,none⟩) (k+1) cap) w'):=by
 obtain ⟨M',O',nb,a,hG,hr,hf⟩:=h
 have bX:Below wr.heap.size wr X:=by rw [←hX];exact more (Below.refl _ _) _
 have aX:=a.below bX
 refine (happen_any X M' O' d nb c (hG.below bX) n h1 h7 hg e eo el ec (hd.le a.le)).mono ?_
 rintro r w5 ⟨rfl,M2,O2,a5,hG5⟩
 obtain ⟨Y,hY⟩:∃ Y,w5.alloc (.cells #[.int .i64 (c.event e).2] 3)=Y:=⟨_,rfl⟩
 have bY:Below w5.heap.size w5 Y:=by rw [←hY];exact more (Below.refl _ _) _
 have hBY:Y.heap[w5.heap.size]?=some (.cells #[.int .i64 (c.event e).2] 3 (0,0)):=by rw [←hY];exact heap_alloc_new w5 _
 have aY:=(aX.trans a5).below bY
 have old:∀ g,(Value.slice so sn sc).ownBlock=some g→g<X.heap.size∧O2 g=none∧M2 g=none∧Y.heap[g]?=wr.heap[g]? := fun g hg'=>by
  have hl:=(row_lt hr hg').2
  have hlX:g<X.heap.size:=Nat.lt_of_lt_of_le hl bX.size
  obtain ⟨o1,m1⟩:=hf g hg'
  refine ⟨hlX,(a5.lab g hlX).trans o1,?_,?_⟩
  ·cases em:M2 g with
   | none=>rfl
   | some o =>
    rcases a5.newM g (by rw [em];simp) with g' | g'
    ·exact absurd m1 g'
    ·omega
  ·exact (bY.block g (Nat.lt_of_lt_of_le hlX a5.size)).trans ((a5.keep g hlX (fun l hl'=>by rw [o1] at hl';cases hl')).trans (bX.block g hl))
 refine ⟨Y,rfl,hY,ints ks,row_kept hr (fun g hg'=>(old g hg').2.2.2),?_,aY.size,?_⟩
 ·intro j u hu
  rw [pile.add_at,Nat.zero_add]
  exact cell_of hBY (by simpa using hu)
 ·intro g cap w' p1 p2 p3
  have hfr:∀ x,(Value.slice so sn sc).ownBlock=some x→O2 x=none∧M2 x=none:=fun x hx=>⟨(old x hx).2.1,(old x hx).2.2.1⟩
  refine ⟨M2,O2,nb,new.Aft.grownNew aY p2 (fun x hx=>⟨(row_lt hr hx).1,(hfr x hx).2⟩),crun.G.grown (hG5.below bY) p2 hfr,by simpa [ints] using p1,?_⟩
  intro g' hg'
  obtain rfl:g=g':=by simpa [Value.ownBlock] using hg'
  rcases p3 with p3 | p3
  ·exact hfr g p3
  ·refine ⟨?_,aY.inn.fresh (by omega)⟩
   cases eo2:O2 g with
   | none=>rfl
   | some l=>have:=(aY.ok g l eo2).2;omega
def RunE (w:World) (M:Fz) (c:Cl) (ks:List Int) (r:Ending) (w':World):Prop :=
 ∃ (p1:Option Addr) (p2 p3:Nat) (n1:Option Addr) (n2 n3:Nat) (c1:Option Addr) (c2 c3:Nat) (k1:Option Addr) (k3:Nat),r=.returned (.tuple #[.agg #[.slice p1 p2 p3,.slice n1 n2 n3,.slice c1 c2 c3,.bool c.conflict],.slice k1 ks.length k3,.int .i64 0])∧∃ M',FP w M w' M'∧CluV M' c (.slice p1 p2 p3) (.slice n1 n2 n3) (.slice c1 c2 c3)∧RowM M' (.slice k1 ks.length k3) ks.length 1 (ints ks)
def RunS (w:World) (M:Fz) (c:Cl) (ks:List Int) (r:Ending) (w':World):Prop :=
 ∃ (p1:Option Addr) (p2 p3:Nat) (n1:Option Addr) (n2 n3:Nat) (c1:Option Addr) (c2 c3:Nat) (k1:Option Addr) (k3:Nat),r=.returned (.tuple #[.agg #[.slice p1 p2 p3,.slice n1 n2 n3,.slice c1 c2 c3,.bool c.conflict],.slice k1 ks.length k3,.int .i64 0])∧∃ M' ps ms us,FP w M w' M'∧CluS M' w.heap.size c (.slice p1 p2 p3) (.slice n1 n2 n3) (.slice c1 c2 c3) ps ms us∧RowM M' (.slice k1 ks.length k3) ks.length 1 (ints ks)∧Own1 M' w.heap.size 3 (.slice k1 ks.length k3)∧(∀ b∈ownB (.slice k1 ks.length k3),b∉peersB (.slice p1 p2 p3) ps++(msgsB (.slice n1 n2 n3) ms++recsB (.slice c1 c2 c3) us))
theorem CluS.le {M M':Fz} {lo:Nat} {c:Cl} {pv nv cv:Value} {ps:List PS} {ms:List MS} {us:List RV} (h:CluS M lo c pv nv cv ps ms us) (hl:Le M M'):CluS M' lo c pv nv cv ps ms us:=⟨h.1,h.2.1.le hl,h.2.2.1,h.2.2.2.1.le hl,h.2.2.2.2.1,h.2.2.2.2.2.1.le hl,h.2.2.2.2.2.2⟩
theorem CluS.mono {M:Fz} {lo lo':Nat} {c:Cl} {pv nv cv:Value} {ps:List PS} {ms:List MS} {us:List RV} (h:CluS M lo c pv nv cv ps ms us) (hl:lo'≤lo):CluS M lo' c pv nv cv ps ms us:=⟨h.1,h.2.1.mono hl,h.2.2.1,h.2.2.2.1.mono hl,h.2.2.2.2.1,h.2.2.2.2.2.1.mono hl,h.2.2.2.2.2.2⟩
theorem CluS.blk {M:Fz} {lo:Nat} {c:Cl} {pv nv cv:Value} {ps:List PS} {ms:List MS} {us:List RV} (h:CluS M lo c pv nv cv ps ms us) {b:Nat} (hb:b∈peersB pv ps++(msgsB nv ms++recsB cv us)):lo≤b∧M b≠none:=by
 rcases List.mem_append.1 hb with hb | hb
 ·exact h.2.1.blk hb
 ·rcases List.mem_append.1 hb with hb | hb
  ·exact h.2.2.2.1.blk hb
  ·exact h.2.2.2.2.2.1.blk hb
set_option maxRecDepth 20000 in
set_option maxHeartbeats 2000000 in
theorem crun_good (w:World) (M:Fz) (hI:In M w) (n:Nat) (h1:1≤n) (h7:n≤7) (vo:Option Addr) (vn vc:Nat) (us:List EV) (hv:EvsV M (.slice vo vn vc) us) (hl:us.length≤300) :
  Calls Tryz.prog 7 #[.int .i64 n,.slice vo vn vc] w fun r w'=>RunS w M ((Cl.begin n).run (us.map (·.e))).1 ((Cl.begin n).run (us.map (·.e))).2 r w':=by
 obtain ⟨W,hW⟩:∃ W,w.alloc (.cells #[.slice none 0 0,.slice none 0 0,.slice none 0 0,.bool false] 28)=W:=⟨_,rfl⟩
 have bW:Below w.heap.size w W:=by rw [←hW];exact more (Below.refl _ _) _
 have sW:W.heap.size=w.heap.size+1:=by rw [←hW];exact World.size_alloc ..
 have hbx:W.heap[w.heap.size]?=some (.cells #[.slice none 0 0,.slice none 0 0,.slice none 0 0,.bool false] 28 (0,0)):=by rw [←hW];exact heap_alloc_new w _
 have hIW:In M W:=hI.below bW
 obtain ⟨⟨vo',vc',ev,hvc1,hvc2,hvl,hvn,hve⟩,hvb⟩:=hv
 obtain ⟨rfl,rfl,rfl⟩:vo'=vo∧us.length=vn∧vc'=vc:=by simp only [Value.slice.injEq] at ev;exact ⟨ev.1.symm,ev.2.1.symm,ev.2.2.symm⟩
 obtain ⟨L,eL⟩:∃ L,us.length=L:=⟨_,rfl⟩
 obtain ⟨es,ees⟩:∃ es,us.map (·.e)=es:=⟨_,rfl⟩
 have eLs:es.length=L:=by rw [←ees,List.length_map,eL]
 rw [eL,ees]
 have HNew:Hid (∀ wx,Below W.heap.size W wx→Calls Tryz.prog 21 #[.int .i64 n] wx fun r w'=>∃ d,r=.returned (.pointer (some ⟨d,0,none⟩))∧Hid (CI W M d (Cl.begin n) [] 0 (.slice none 0 0) w')):=fun wx hx=>by
  refine (newGroup_any wx M noLb (noSta (hIW.below hx)) n h7).mono ?_
  rintro r w' ⟨d,nb,M',O',rfl,a,hG⟩
  have b9:=aft_below a
  have a9:Aft (fun _=>True) M noLb W M' O' w' :=
   { os:=a.os.trans hx.os,tape:=a.tape.trans hx.tape,output:=a.output.trans hx.output,size:=Nat.le_trans hx.size a.size,le:=a.le,inn:=a.inn,
     lab:=fun b hb=>a.lab b (Nat.lt_of_lt_of_le hb hx.size),ok:=a.ok,newM:=fun b hb=>(a.newM b hb).imp id (fun h=>Nat.le_trans hx.size h),newL:=fun _ _ _ _=>trivial,keep:=fun b hb hk=>(a.keep b (Nat.lt_of_lt_of_le hb hx.size) hk).trans (hx.block b hb) }
  exact ⟨d,rfl,M',O',nb,a9,hG,World.ownsRow_nil _ _ _ _,by simp [Value.ownBlock]⟩
 have HCell:Hid (∀ k,k<L→∃ eb off x eo el ec,vo'=some ⟨eb,off,none⟩∧us[k]?=some x∧x.dv=.slice eo el ec∧BytesM M (.slice eo el ec) x.e.data∧es[k]?=some x.e∧∀ wr,Below W.heap.size W wr→(wr.cell? ⟨eb,off+k*3,none⟩=some (.int .i64 x.e.kind)∧wr.cell? ⟨eb,off+k*3+1,none⟩=some (.int .i64 x.e.n)∧wr.cell? ⟨eb,off+k*3+2,none⟩=some (.slice eo el ec))):=fun k hk=>by
  obtain ⟨x,hx⟩:∃ x,us[k]?=some x:=⟨_,List.getElem?_eq_getElem (by omega)⟩
  have hbx:=hvb x (List.mem_of_getElem? hx)
  obtain ⟨eb,off,rfl,hc⟩:=hve (by omega)
  obtain ⟨⟨eo,ec,edv,_⟩,_⟩:=id hbx
  have hf:=fun i hi=>flat_get evCells 3 (fun _=>rfl) us k i x hx hi
  have z0:=hc (k*3+0) (.int .i64 x.e.kind) (by rw [hf 0 (by decide)];rfl)
  have z1:=hc (k*3+1) (.int .i64 x.e.n) (by rw [hf 1 (by decide)];rfl)
  have z2:=hc (k*3+2) x.dv (by rw [hf 2 (by decide)];rfl)
  rw [edv] at z2
  exact ⟨eb,off,x,eo,_,ec,rfl,hx,edv,edv ▸ hbx,by rw [←ees,List.getElem?_map,hx];rfl,fun wr hb=>⟨(hIW.below hb).cell z0,(hIW.below hb).cell z1,(hIW.below hb).cell z2⟩⟩
 have HG:Hid (∀ k,Raft.Good n ((Cl.begin n).run (es.take k)).1):=fun k=>good_run _ _ (Raft.Good.begin n)
 have HTk:Hid (∀ k e,es[k]?=some e→(Cl.begin n).run (es.take (k+1))=((((Cl.begin n).run (es.take k)).1.event e).1,((Cl.begin n).run (es.take k)).2++[(((Cl.begin n).run (es.take k)).1.event e).2])):=fun k e h=>run_take es k e h _
 have HB:Hid (Bd ((Cl.begin n).run es).1∧LB n ((Cl.begin n).run es).1):=⟨(good_run _ _ (Raft.Good.begin n)).1,lb_run _ _ (LB.begin n)⟩
 obtain ⟨C,eC⟩:∃ C,((Cl.begin n).run es).1=C:=⟨_,rfl⟩
 obtain ⟨K,eK⟩:∃ K,((Cl.begin n).run es).2=K:=⟨_,rfl⟩
 have hKL:K.length=L:=by rw [←eK,run_len,eLs]
 have HEnd:Hid (∀ d v wr,CI W M d ((Cl.begin n).run (es.take L)).1 ((Cl.begin n).run (es.take L)).2 L v wr→CI W M d C K L v wr):=fun d v wr h=>by rw [←eLs,List.take_length,eC,eK,eLs] at h;exact h
 rw [eC] at HB
 rw [eC,eK]
 have HTold:Hid (∀ d so sc wr,CI W M d C K L (.slice so L sc) wr→Calls Tryz.prog 23 #[.pointer (some ⟨d,0,none⟩)] wr fun r w5=>∃ (p1:Option Addr) (p2 p3:Nat) (n1:Option Addr) (n2 n3:Nat) (c1:Option Addr) (c2 c3:Nat),r=.returned (.agg #[.slice p1 p2 p3,.slice n1 n2 n3,.slice c1 c2 c3,.bool C.conflict])∧w5.heap[w.heap.size]?=some (.cells #[.slice none 0 0,.slice none 0 0,.slice none 0 0,.bool false] 28 (0,0))∧Hid (RunS w M C K (.returned (.tuple #[.agg #[.slice p1 p2 p3,.slice n1 n2 n3,.slice c1 c2 c3,.bool C.conflict],.slice so L sc,.int .i64 0])) (sets w5 w.heap.size [(0,.slice p1 p2 p3),(1,.slice n1 n2 n3),(2,.slice c1 c2 c3),(3,.bool C.conflict)]))):=fun d so sc wr h=>by
  obtain ⟨M',O',nb,a,hG,hr,hf⟩:=h
  refine (gtold_any wr M' O' d nb C hG HB.out.1 n h1 h7 HB.out.2).mono ?_
  rintro r w5 ⟨p1,p2,p3,n1,n2,n3,c1,c2,c3,rfl,M2,ps,ms,cs9,f5,hC⟩
  have b5:Below W.heap.size W w5:=(aft_below a).trans (f5.below.mono a.size)
  have hr5:w5.ownsRow W.heap.size 3 1 (.slice so L sc) L (ints K):=row_kept hr (fun g hg=>f5.below.block g (row_lt hr hg).2)
  obtain ⟨M3,q1,q2,q3,q4,q5⟩:=freeze1 hr5 f5.inn (fun g hg=>by
   cases em:M2 g with
   | none=>rfl
   | some o =>
    rcases f5.new g (by rw [em];simp) with g' | g'
    ·exact absurd (hf g hg).2 g'
    ·have:=(row_lt hr hg).2;omega)
  have hw9:w5.heap[w.heap.size]?=some (.cells #[.slice none 0 0,.slice none 0 0,.slice none 0 0,.bool false] 28 (0,0)):=(b5.block _ (by omega)).trans hbx
  have hnew:∀ b,M3 b≠none→M b≠none∨W.heap.size≤b:=fun b hb=>by
   rcases q4 b hb with g | g
   ·rcases f5.new b g with g' | g'
    ·exact a.newM b g'
    ·exact .inr (Nat.le_trans a.size g')
   ·exact .inr (row_lt hr5 g).1
  refine ⟨p1,p2,p3,n1,n2,n3,c1,c2,c3,rfl,hw9,p1,p2,p3,n1,n2,n3,c1,c2,c3,so,sc,by rw [hKL],M3,ps,ms,cs9,⟨(a.le.trans f5.le).trans q1,?_,sets_belowB (Nat.le_refl _) _ _ (bW.trans (b5.mono bW.size)),fun b hb=>(hnew b hb).imp id (fun h=>by omega)⟩,crun.CluS.mono (crun.CluS.le hC q1) (by have:=a.size;omega),by rw [hKL];exact q3,by rw [hKL];exact q5.mono (by omega),fun b hb hb2 => ?_⟩
  ·intro x o hx
   refine (sets_ne _ w5 ?_).trans (q2 x o hx)
   rintro rfl
   rcases hnew _ (by rw [hx];simp) with g' | g'
   ·exact g' (hI.fresh (Nat.le_refl _))
   ·omega
  ·rw [hKL] at hb
   have h8:=(row_lt hr (ownB_mem.1 hb)).2
   have h9:=(crun.CluS.blk hC hb2).1
   omega
 obtain ⟨i0,hii,hz0,hz1,hz2⟩:=info_parts info3
 have HI3:Hid (Tryz.prog.info? 3=some i0∧i0.zero=some (.int .i64 0)∧i0.size=1∧i0.bytes=8):=⟨hii,hz0,hz1,hz2⟩
 have hL1:¬ ((4096:Int)<L):=by omega
 have hL2:¬ ((300:Int)<L):=by omega
 have hn1:¬ ((n:Int)<1):=by omega
 have hn2:¬ ((7:Int)<n):=by omega
 clear hii hz0 hz1 hz2 hve hvb hvn hvl hvc1 hIW hI ees eLs eC eK hKL HB hl ev eL bW sW hbx
 go_enter Tryz.func7,Tryz.ntmps7
 go_wp2_with (go_at_call 21;refine (HNew.out _ (Below.refl _ _)).mono ?_;rintro rr w1 ⟨d,rfl,HC1⟩)
 go_loopw [8,30] (fun v i wr=>∃ (k:Nat) (so:Option Addr) (sc:Nat),k≤L∧v=.slice so k sc∧i=.int .i64 k∧Hid (CI W M d ((Cl.begin n).run (es.take k)).1 ((Cl.begin n).run (es.take k)).2 k v wr)) (fun _ i _=>L-(intOf i).toNat)
 case atStart=>exact ⟨0,none,0,Nat.zero_le _,rfl,rfl,HC1⟩
 case round =>
  obtain ⟨k,so,sc,hk,rfl,rfl,HR⟩:=hrel
  by_cases hlt:k<L
  ·have hltI:(k:Int)<L:=by omega
   obtain ⟨eb,off,x,eo,el,ec,rfl,hx,edv,hbt,hxe,hfar⟩:=HCell.out k hlt
   obtain ⟨q0,q1,q2⟩:=hfar wr HR.out.below
   obtain ⟨X,hX⟩:∃ X,wr.alloc (.cells #[.int .i64 x.e.kind,.int .i64 x.e.n,.slice eo el ec] 48)=X:=⟨_,rfl⟩
   have HJ:=hide (CI.step HR.out h1 h7 (HG.out k) x.e eo el ec hbt hX)
   have hbox:X.heap[wr.heap.size]?=some (.cells #[.int .i64 x.e.kind,.int .i64 x.e.n,.slice eo el ec] 48 (0,0)):=by rw [←hX];exact heap_alloc_new wr _
   have s0:=cell_of (i:=0) hbox (v:=.int .i64 x.e.kind) rfl
   have s1:=cell_of (i:=1) hbox (v:=.int .i64 x.e.n) rfl
   have s2:=cell_of (i:=2) hbox (v:=.slice eo el ec) rfl
   have HK1:=hide (HTk.out k x.e hxe)
   obtain ⟨CD,eCD⟩:∃ CD,(((Cl.begin n).run (es.take k)).1.event x.e).2=CD:=⟨_,rfl⟩
   rw [eCD] at HJ HK1
   clear hx edv hbt hxe hfar hbox HCell HNew HG HTk HEnd HTold eCD
   go_wp2_with (first
    | (go_at_call 22;refine HJ.out.mono ?_;rintro rr w5 ⟨Y,rfl,hY,HE⟩)
    | (at_builtin;obtain ⟨ys,y1,y2,y3,y4⟩:=HE.out;refine wpList_append_lies _ rfl _ _ 29 rfl W.heap.size 3 i0 (.int .i64 0) 1 8 Tryz.underlying29 HI3.out.1 HI3.out.2.1 HI3.out.2.2.1 HI3.out.2.2.2 rfl (by decide) _ k ys rfl y1 ⟨w5.heap.size,0,none⟩ 1 1 [.int .i64 CD] rfl rfl y2 (fun u' hu'=>by simp only [List.mem_cons,List.not_mem_nil,or_false] at hu';rcases hu' with rfl;rfl) (by decide) (by unfold maxLen;omega) (by omega) y3 _ rfl ?_;intro g2 cap2 w2 z1 z2 z3 z4;have HN:=hide (y4 g2 cap2 w2 z1 z2 z3);clear z1 z2 z3 z4 y1 y2 y3 y4))
   go_roundw
   case rel=>exact ⟨k+1,_,_,by omega,rfl,by go_num,by rw [HK1.out];exact HN⟩
   case measure=>simp [intOf];omega
  ·have hlt2:¬ (k:Int)<L:=by omega
   obtain rfl:k=L:=by omega
   have HE0:=hide (HTold.out d so sc wr (HEnd.out _ _ _ HR.out))
   clear HCell HNew HG HTk HEnd HTold
   go_wp2_with (go_at_call 23;refine HE0.out.mono ?_;rintro rr w5 ⟨p1,p2,p3,n1,n2,n3,c1,c2,c3,rfl,hw9,HE⟩;have z0:=cell_of (i:=0) hw9 (v:=.slice none 0 0) rfl;have z1:=cell_of (i:=1) hw9 (v:=.slice none 0 0) rfl;have z2:=cell_of (i:=2) hw9 (v:=.slice none 0 0) rfl;have z3:=cell_of (i:=3) hw9 (v:=.bool false) rfl;have f0:=frozen_of hw9 0;have f1:=frozen_of hw9 1;have f2:=frozen_of hw9 2;have f3:=frozen_of hw9 3;have HW9:=hide hw9;clear hw9)
   obtain ⟨WF,hWF⟩:∃ WF,sets w5 w.heap.size [(0,.slice p1 p2 p3),(1,.slice n1 n2 n3),(2,.slice c1 c2 c3),(3,.bool C.conflict)]=WF:=⟨_,rfl⟩
   have hblk:WF.heap[w.heap.size]?=some (.cells #[.slice p1 p2 p3,.slice n1 n2 n3,.slice c1 c2 c3,.bool C.conflict] 28 (0,0)):=by
    rw [←hWF]
    have q2:=sets_at [(0,.slice p1 p2 p3),(1,.slice n1 n2 n3),(2,.slice c1 c2 c3),(3,.bool C.conflict)] HW9.out
    have e:setsA #[.slice none 0 0,.slice none 0 0,.slice none 0 0,.bool false] [(0,.slice p1 p2 p3),(1,.slice n1 n2 n3),(2,.slice c1 c2 c3),(3,.bool C.conflict)]=#[.slice p1 p2 p3,.slice n1 n2 n3,.slice c1 c2 c3,.bool C.conflict]:=by simp [setsA]
    rw [e] at q2
    exact q2
   have k0:=cell_of (i:=0) hblk (v:=.slice p1 p2 p3) rfl
   have k1:=cell_of (i:=1) hblk (v:=.slice n1 n2 n3) rfl
   have k2:=cell_of (i:=2) hblk (v:=.slice c1 c2 c3) rfl
   have k3:=cell_of (i:=3) hblk (v:=.bool C.conflict) rfl
   have HT2:=HE.out
   rw [hWF] at HT2
   simp only [sets] at hWF
   rw [hWF]
   refine bodyPost_ret (v:=.tuple #[.agg #[.slice p1 p2 p3,.slice n1 n2 n3,.slice c1 c2 c3,.bool C.conflict],.slice so k sc,.int .i64 0]) ?_ rfl HT2
   simp [results,Tryz.results7,go_sem,k0,k1,k2,k3]
end Go.Proofs.YtcfdmbkiinjmaaaGreat.crun
namespace Go.Proofs.YtcfdmbkiinjmaaaGreat.scr
open Raft mem srun ssend sdown ssmall scopy srecs sapp ssame schos schosen scom sgrow sin sel stk slog sap0 sdl0
variable {F:Nat→Option Obj}
theorem Run.refar {F F':Nat→Option Obj} {w:World} {M:Fz} {base d P pc:Nat} {c:Cl} {us:List PV} {ns:List MV} {nv:Value} {cs:List RV} {cv:Value} (h:Run (TS F) w M base d P pc c us ns nv cs cv) (hf:∀ b o,F' b=some o→w.heap[b]?=some o∧M b=none∧¬ Mine d P us cv b):Run (TS F') w M base d P pc c us ns nv cs cv :=
 ⟨h.inn,h.blk,h.row,h.cap,h.peers,h.logs,h.votes,h.next,h.mat,h.lone,h.free,h.net,h.nets,h.chos,h.chosen,h.data,h.low,h.apart,hf⟩
def noF:Nat→Option Obj:=fun _=>none
def SI (W:World) (M:Fz) (d P pc:Nat) (c:Cl) (ks:List Int) (k:Nat) (v:Value) (wr:World):Prop:=∃ (M':Fz) (us:List PV) (ns:List MV) (nv:Value) (cs:List RV) (cv:Value),Le M M'∧Below W.heap.size W wr∧Run (TS noF) wr M' W.heap.size d P pc c us ns nv cs cv∧(∀ b,M' b≠none→M b≠none∨W.heap.size≤b)∧wr.ownsRow W.heap.size 3 1 v k (crun.ints ks)∧∀ g,v.ownBlock=some g→M' g=none∧¬ Mine d P us cv g
theorem SI.below {W:World} {M:Fz} {d P pc:Nat} {c:Cl} {ks:List Int} {k:Nat} {v:Value} {wr:World} (h:SI W M d P pc c ks k v wr):Below W.heap.size W wr:=by
 obtain ⟨M',us,ns,nv,cs,cv,a1,a2,a3⟩:=h
 exact a2
theorem SI.step {W:World} {M:Fz} {d P pc:Nat} {c:Cl} {ks:List Int} {k:Nat} {so:Option Addr} {sn sc:Nat} {wr:World} (h:SI W M d P pc c ks k (.slice so sn sc) wr) {n:Nat} (h1:1≤n) (h7:n≤7) (hg:Raft.Good n c) (e:Ev) (eo:Option Addr) (el ec:Nat) (hd:BytesM M (.slice eo el ec) e.data) :
  Calls Tryz.prog 18 #[.pointer (some ⟨d,0,none⟩),.agg #[.int .i64 e.kind,.int .i64 e.n,.slice eo el ec]] wr fun r w5=>∃ Y,r=.returned (.int .i64 (c.event e).2)∧w5.alloc (.cells #[.int .i64 (c.event e).2] 3)=Y ∧
   Hid (∃ ys,Y.ownsRow W.heap.size 3 1 (.slice so sn sc) k ys∧(∀ j u,([.int .i64 (c.event e).2]:List Value)[j]?=some u→Y.cell? ((⟨w5.heap.size,0,none⟩:Addr).add j)=some u)∧W.heap.size≤Y.heap.size ∧
    ∀ g cap w',w'.ownsRow W.heap.size 3 1 (.slice (some ⟨g,0,none⟩) (k+1) cap) (k+1) (ys++[.int .i64 (c.event e).2])→Y.grownBy w' (Value.slice so sn sc).ownBlock→((Value.slice so sn sc).ownBlock=some g∨g=Y.heap.size)→SI W M d P pc (c.event e).1 (ks++[(c.event e).2]) (k+1) (.slice (some ⟨g,0,none⟩) (k+1) cap) w'):=by
 obtain ⟨M',us,ns,nv,cs,cv,a1,a2,a3,a4,a5,a6⟩:=h
 have hF:=Run.refar (F':=fun b=>if (Value.slice so sn sc).ownBlock=some b then wr.heap[b]? else none) a3 (fun b o hb=>by
  have hb:(if (Value.slice so sn sc).ownBlock=some b then wr.heap[b]? else none)=some o:=hb
  split at hb
  ·next q=>exact ⟨hb,(a6 b q).1,(a6 b q).2⟩
  ·cases hb)
 refine (sev7.event_any wr M' W.heap.size d P pc c us ns nv cs cv hF e eo el ec n h1 h7 hg (hd.le a1)).mono ?_
 rintro r w5 ⟨rfl,M2,us2,ns2,nv2,cs2,cv2,b1,b2,b3,b4⟩
 obtain ⟨Y,hY⟩:∃ Y,w5.alloc (.cells #[.int .i64 (c.event e).2] 3)=Y:=⟨_,rfl⟩
 have bY:Below w5.heap.size w5 Y:=by rw [←hY];exact more (Below.refl _ _) _
 have hBY:Y.heap[w5.heap.size]?=some (.cells #[.int .i64 (c.event e).2] 3 (0,0)):=by rw [←hY];exact heap_alloc_new w5 _
 have old:∀ g,(Value.slice so sn sc).ownBlock=some g→g<w5.heap.size∧M2 g=none∧¬ Mine d P us2 cv2 g∧Y.heap[g]?=wr.heap[g]? := fun g hg'=>by
  obtain ⟨o,ho⟩:∃ o,wr.heap[g]?=some o:=⟨_,Array.getElem?_eq_getElem (row_lt a5 hg').2⟩
  have q:=b3.far g o (by show (if (Value.slice so sn sc).ownBlock=some g then wr.heap[g]? else none)=some o;rw [if_pos hg'];exact ho)
  have hl:=(Array.getElem?_eq_some_iff.1 q.1).1
  exact ⟨hl,q.2.1,q.2.2,(bY.block g hl).trans (q.1.trans ho.symm)⟩
 have hdom:∀ b,M2 b≠none→M b≠none∨W.heap.size≤b:=fun b hb=>(b4 b hb).elim (a4 b) .inr
 have a2s:=a2.size
 refine ⟨Y,rfl,hY,crun.ints ks,row_kept a5 (fun g hg'=>(old g hg').2.2.2),?_,?_,?_⟩
 ·intro j u hu
  rw [addr_add,Nat.zero_add]
  exact cell_of hBY (by simpa using hu)
 ·have:=b2.size;have:=bY.size;have:=(scom.Run.base_le b3);omega
 ·intro g cap w' p1 p2 p3
  have hR5:Run (TS noF) Y M2 W.heap.size d P pc (c.event e).1 us2 ns2 nv2 cs2 cv2:=(Run.refar b3 (F':=noF) (fun b o hb=>by cases hb)).below bY
  have hrun:Run (TS noF) w' M2 W.heap.size d P pc (c.event e).1 us2 ns2 nv2 cs2 cv2:=hR5.keep (Le.refl _) (hR5.inn.grown p2 (fun q hq=>(old q hq).2.1)) (fun b hm=>p2.block b (hR5.mine hm) (fun q=>(old b q.symm).2.2.1 hm)) hR5.free (fun b o hb=>by cases hb)
  have hbl:Below W.heap.size W w':=((a2.trans b2).trans (bY.mono (scom.Run.base_le b3))).grown p2 (by have:=bY.size;have:=(scom.Run.base_le b3);omega) (fun q hq=>(row_lt a5 hq).1)
  refine ⟨M2,us2,ns2,nv2,cs2,cv2,a1.trans b1,hbl,hrun,hdom,by simpa [crun.ints] using p1,fun g' hg' => ?_⟩
  have e2:g=g':=by simpa [Value.ownBlock] using hg'
  subst e2
  rcases p3 with p3 | p3
  ·exact ⟨(old g p3).2.1,(old g p3).2.2.1⟩
  ·exact ⟨hR5.inn.fresh (by omega),fun hm=>by have:=hR5.mine hm;omega⟩
set_option maxRecDepth 20000 in
set_option maxHeartbeats 2000000 in
theorem scrun_good (w:World) (M:Fz) (hI:In M w) (n:Nat) (h1:1≤n) (h7:n≤7) (vo:Option Addr) (vn vc:Nat) (us:List crun.EV) (hv:crun.EvsV M (.slice vo vn vc) us) (hl:us.length≤300) :
  Calls Tryz.prog 5 #[.int .i64 n,.slice vo vn vc] w fun r w'=>crun.RunE w M ((Cl.begin n).run (us.map (·.e))).1 ((Cl.begin n).run (us.map (·.e))).2 r w':=by
 obtain ⟨W,hW⟩:∃ W,w.alloc (.cells #[.slice none 0 0,.slice none 0 0,.slice none 0 0,.bool false] 28)=W:=⟨_,rfl⟩
 have bW:Below w.heap.size w W:=by rw [←hW];exact more (Below.refl _ _) _
 have sW:W.heap.size=w.heap.size+1:=by rw [←hW];exact World.size_alloc ..
 have hbx:W.heap[w.heap.size]?=some (.cells #[.slice none 0 0,.slice none 0 0,.slice none 0 0,.bool false] 28 (0,0)):=by rw [←hW];exact heap_alloc_new w _
 have hIW:In M W:=hI.below bW
 obtain ⟨⟨vo',vc',ev,hvc1,hvc2,hvl,hvn,hve⟩,hvb⟩:=hv
 obtain ⟨rfl,rfl,rfl⟩:vo'=vo∧us.length=vn∧vc'=vc:=by simp only [Value.slice.injEq] at ev;exact ⟨ev.1.symm,ev.2.1.symm,ev.2.2.symm⟩
 obtain ⟨L,eL⟩:∃ L,us.length=L:=⟨_,rfl⟩
 obtain ⟨es,ees⟩:∃ es,us.map (·.e)=es:=⟨_,rfl⟩
 have eLs:es.length=L:=by rw [←ees,List.length_map,eL]
 rw [eL,ees]
 have HNew:Hid (Calls Tryz.prog 17 #[.int .i64 n] W fun r w1=>∃ d P pc X,r=.returned (.pointer (some ⟨d,0,none⟩))∧w1.alloc (.cells #[] 3)=X∧Hid (SI W M d P pc (Cl.begin n) [] 0 (.slice (some ⟨w1.heap.size,0,none⟩) 0 0) X)):=by
  refine (scl.cluster_any (F:=noF) W M hIW n h1 h7 (fun b o hb=>by cases hb)).mono ?_
  rintro r w1 ⟨d,P,pc,us1,rfl,hr,hb⟩
  obtain ⟨X,hX⟩:∃ X,w1.alloc (.cells #[] 3)=X:=⟨_,rfl⟩
  have bX:Below w1.heap.size w1 X:=by rw [←hX];exact more (Below.refl _ _) _
  refine ⟨d,P,pc,X,rfl,hX,M,us1,[],_,[],_,Le.refl _,hb.trans (bX.mono hb.size),hr.below bX,fun b hb'=>.inl hb',⟨rfl,.inr ⟨w1.heap.size,0,#[],rfl,hb.size,by rw [←hX];exact heap_alloc_new w1 _,Nat.le_refl _,by simp [maxLen],by simp,by simp [crun.ints]⟩⟩,fun g hg => ?_⟩
  have e2:w1.heap.size=g:=by simpa [Value.ownBlock] using hg
  subst e2
  exact ⟨hr.inn.fresh (Nat.le_refl _),fun hm=>by have:=hr.mine hm;omega⟩
 have HCell:Hid (∀ k,k<L→∃ eb off x eo el ec,vo'=some ⟨eb,off,none⟩∧us[k]?=some x∧x.dv=.slice eo el ec∧BytesM M (.slice eo el ec) x.e.data∧es[k]?=some x.e∧∀ wr,Below W.heap.size W wr→(wr.cell? ⟨eb,off+k*3,none⟩=some (.int .i64 x.e.kind)∧wr.cell? ⟨eb,off+k*3+1,none⟩=some (.int .i64 x.e.n)∧wr.cell? ⟨eb,off+k*3+2,none⟩=some (.slice eo el ec))):=fun k hk=>by
  obtain ⟨x,hx⟩:∃ x,us[k]?=some x:=⟨_,List.getElem?_eq_getElem (by omega)⟩
  have hbx:=hvb x (List.mem_of_getElem? hx)
  obtain ⟨eb,off,rfl,hc⟩:=hve (by omega)
  obtain ⟨⟨eo,ec,edv,_⟩,_⟩:=id hbx
  have hf:=fun i hi=>flat_get crun.evCells 3 (fun _=>rfl) us k i x hx hi
  have z0:=hc (k*3+0) (.int .i64 x.e.kind) (by rw [hf 0 (by decide)];rfl)
  have z1:=hc (k*3+1) (.int .i64 x.e.n) (by rw [hf 1 (by decide)];rfl)
  have z2:=hc (k*3+2) x.dv (by rw [hf 2 (by decide)];rfl)
  rw [edv] at z2
  exact ⟨eb,off,x,eo,_,ec,rfl,hx,edv,edv ▸ hbx,by rw [←ees,List.getElem?_map,hx];rfl,fun wr hb=>⟨(hIW.below hb).cell z0,(hIW.below hb).cell z1,(hIW.below hb).cell z2⟩⟩
 have HG:Hid (∀ k,Raft.Good n ((Cl.begin n).run (es.take k)).1):=fun k=>crun.good_run _ _ (Raft.Good.begin n)
 have HTk:Hid (∀ k e,es[k]?=some e→(Cl.begin n).run (es.take (k+1))=((((Cl.begin n).run (es.take k)).1.event e).1,((Cl.begin n).run (es.take k)).2++[(((Cl.begin n).run (es.take k)).1.event e).2])):=fun k e h=>crun.run_take es k e h _
 have HB:Hid (Bd ((Cl.begin n).run es).1∧Raft.LB n ((Cl.begin n).run es).1):=⟨(crun.good_run _ _ (Raft.Good.begin n)).1,crun.lb_run _ _ (Raft.LB.begin n)⟩
 obtain ⟨C,eC⟩:∃ C,((Cl.begin n).run es).1=C:=⟨_,rfl⟩
 obtain ⟨K,eK⟩:∃ K,((Cl.begin n).run es).2=K:=⟨_,rfl⟩
 have hKL:K.length=L:=by rw [←eK,crun.run_len,eLs]
 have HEnd:Hid (∀ d P pc v wr,SI W M d P pc ((Cl.begin n).run (es.take L)).1 ((Cl.begin n).run (es.take L)).2 L v wr→SI W M d P pc C K L v wr):=fun d P pc v wr h=>by rw [←eLs,List.take_length,eC,eK,eLs] at h;exact h
 rw [eC] at HB
 rw [eC,eK]
 have HOwn:Hid (∀ d P pc so sc wr,SI W M d P pc C K L (.slice so L sc) wr→∃ (po:Option Addr) (pn px:Nat) (no:Option Addr) (nn nx:Nat) (co:Option Addr) (cn cx:Nat),wr.heap[d]?=some (.cells #[.slice po pn px,.slice no nn nx,.slice co cn cx,.bool C.conflict] 51 (0,0)) ∧
   Hid (Calls Tryz.prog 19 #[.agg #[.slice po pn px,.slice no nn nx,.slice co cn cx,.bool C.conflict]] wr fun r w5=>∃ (p1:Option Addr) (p2 p3:Nat) (n1:Option Addr) (n2 n3:Nat) (c1:Option Addr) (c2 c3:Nat),r=.returned (.agg #[.slice p1 p2 p3,.slice n1 n2 n3,.slice c1 c2 c3,.bool C.conflict])∧w5.heap[w.heap.size]?=some (.cells #[.slice none 0 0,.slice none 0 0,.slice none 0 0,.bool false] 28 (0,0))∧Hid (crun.RunE w M C K (.returned (.tuple #[.agg #[.slice p1 p2 p3,.slice n1 n2 n3,.slice c1 c2 c3,.bool C.conflict],.slice so L sc,.int .i64 0])) (ndw.sets w5 w.heap.size [(0,.slice p1 p2 p3),(1,.slice n1 n2 n3),(2,.slice c1 c2 c3),(3,.bool C.conflict)])))):=fun d P pc so sc wr h=>by
  obtain ⟨M',us1,ns,nv,cs,cv,a1,a2,a3,a4,a5,a6⟩:=h
  obtain ⟨M3,f1,f2,f3,f4,f5⟩:=sow0.Run.frozen a3
  obtain ⟨M4,q1,q2,q3,q4⟩:=RowM.freeze a5 f2 (fun g hg=>f5 g (a6 g hg).1 (fun hm=>(a6 g hg).2 (.inr hm)))
  obtain ⟨ps,ms,e1,e2,e3,e4,e5⟩:=f3
  obtain ⟨no,nx,rfl,_⟩:=id e4.1
  obtain ⟨_,_,⟨co,cx,rfl,_⟩,_⟩:=id e5
  refine ⟨_,_,_,no,_,nx,co,_,cx,a3.blk,?_⟩
  have hmem:∀ p∈C.peers,∃ k,C.at k=p:=fun p hp=>by
   obtain ⟨k,hk⟩:=List.getElem?_of_mem hp
   exact ⟨k,by unfold Cl.at;rw [List.getD_eq_getElem?_getD,hk];rfl⟩
  refine (sow.own_any wr M4 q2 C _ _ _ no _ nx co _ cx ⟨ps,ms,e1,⟨e2.1.le q1,fun x hx=>gtold.PeerM.le (e2.2 x hx) q1⟩,e3,e4.le q1,e5.le q1⟩ (by rw [HB.out.2.len];exact h7) HB.out.1.size (Nat.le_trans HB.out.1.chosen (by decide)) (fun p hp => ?_) (fun m hm => ?_)).mono ?_
  ·obtain ⟨k,rfl⟩:=hmem p hp
   have g1:=(HB.out.1.peers k).log
   have g2:=HB.out.2.peers k
   have g3:=g2.votes
   have g4:=g2.next
   have g5:=g2.mat
   exact ⟨by omega,by omega,by omega,by omega⟩
  ·have:=(HB.out.1.net m hm).a
   omega
  rintro r w5 ⟨p1,p2,p3,n1,n2,n3,c1,c2,c3,rfl,M5,g5,hC⟩
  have b5:Below W.heap.size W w5:=a2.trans (g5.below.mono a2.size)
  have hw9:w5.heap[w.heap.size]?=some (.cells #[.slice none 0 0,.slice none 0 0,.slice none 0 0,.bool false] 28 (0,0)):=(b5.block _ (by omega)).trans hbx
  have hnew:∀ b,M5 b≠none→M b≠none∨W.heap.size≤b:=fun b hb=>by
   rcases g5.new b hb with g | g
   ·rcases q4 b g with g' | g'
    ·rcases f4 b g' with g'' | g''
     ·exact a4 b g''
     ·exact .inr g''
    ·exact .inr (row_lt a5 g').1
   ·exact .inr (Nat.le_trans a2.size g)
  refine ⟨p1,p2,p3,n1,n2,n3,c1,c2,c3,rfl,hw9,p1,p2,p3,n1,n2,n3,c1,c2,c3,so,sc,by rw [hKL],M5,⟨((a1.trans f1).trans q1).trans g5.le,?_,gt8.sets_belowB (Nat.le_refl _) _ _ (bW.trans (b5.mono bW.size)),fun b hb=>(hnew b hb).imp id (fun h=>by omega)⟩,hC,by rw [hKL];exact q3.le g5.le⟩
  intro x o hx
  refine (ndw.sets_ne _ w5 ?_).trans (g5.inn x o hx)
  rintro rfl
  rcases hnew _ (by rw [hx];simp) with g' | g'
  ·exact g' (hI.fresh (Nat.le_refl _))
  ·omega
 obtain ⟨i0,hii,hz0,hz1,hz2⟩:=info_parts crun.info3
 have HI3:Hid (Tryz.prog.info? 3=some i0∧i0.zero=some (.int .i64 0)∧i0.size=1∧i0.bytes=8):=⟨hii,hz0,hz1,hz2⟩
 have hL1:¬ ((4096:Int)<L):=by omega
 have hL2:¬ ((300:Int)<L):=by omega
 have hn1:¬ ((n:Int)<1):=by omega
 have hn2:¬ ((7:Int)<n):=by omega
 clear hii hz0 hz1 hz2 hve hvb hvn hvl hvc1 hIW hI ees eLs eC eK hKL HB hl ev eL bW sW hbx
 go_enter Tryz.func5,Tryz.ntmps5
 go_wp2_with (go_at_call 17;refine HNew.out.mono ?_;rintro rr w1 ⟨d,P,pc,X,rfl,hX,HC1⟩)
 go_loopw [8,9] (fun v i wr=>∃ (k:Nat) (so:Option Addr) (sc:Nat),k≤L∧v=.slice so k sc∧i=.int .i64 k∧Hid (SI W M d P pc ((Cl.begin n).run (es.take k)).1 ((Cl.begin n).run (es.take k)).2 k v wr)) (fun _ i _=>L-(intOf i).toNat)
 case atStart=>exact ⟨0,_,_,Nat.zero_le _,rfl,rfl,HC1⟩
 case round =>
  obtain ⟨k,so,sc,hk,rfl,rfl,HR⟩:=hrel
  by_cases hlt:k<L
  ·have hltI:(k:Int)<L:=by omega
   obtain ⟨eb,off,x,eo,el,ec,rfl,hx,edv,hbt,hxe,hfar⟩:=HCell.out k hlt
   obtain ⟨q0,q1,q2⟩:=hfar wr HR.out.below
   have HJ:=hide (SI.step HR.out h1 h7 (HG.out k) x.e eo el ec hbt)
   have HK1:=hide (HTk.out k x.e hxe)
   obtain ⟨CD,eCD⟩:∃ CD,(((Cl.begin n).run (es.take k)).1.event x.e).2=CD:=⟨_,rfl⟩
   rw [eCD] at HJ HK1
   clear hx edv hbt hxe hfar HCell HNew HG HTk HEnd HOwn eCD
   go_wp2_with (first
    | (go_at_call 18;refine HJ.out.mono ?_;rintro rr w5 ⟨Y,rfl,hY,HE⟩)
    | (at_builtin;obtain ⟨ys,y1,y2,y3,y4⟩:=HE.out;refine wpList_append_lies _ rfl _ _ 29 rfl W.heap.size 3 i0 (.int .i64 0) 1 8 Tryz.underlying29 HI3.out.1 HI3.out.2.1 HI3.out.2.2.1 HI3.out.2.2.2 rfl (by decide) _ k ys rfl y1 ⟨w5.heap.size,0,none⟩ 1 1 [.int .i64 CD] rfl rfl y2 (fun u' hu'=>by simp only [List.mem_cons,List.not_mem_nil,or_false] at hu';rcases hu' with rfl;rfl) (by decide) (by unfold maxLen;omega) (by omega) y3 _ rfl ?_;intro g2 cap2 w2 z1 z2 z3 z4;have HN:=hide (y4 g2 cap2 w2 z1 z2 z3);clear z1 z2 z3 z4 y1 y2 y3 y4))
   go_roundw
   case rel=>exact ⟨k+1,_,_,by omega,rfl,by go_num,by rw [HK1.out];exact HN⟩
   case measure=>simp [intOf];omega
  ·have hlt2:¬ (k:Int)<L:=by omega
   obtain rfl:k=L:=by omega
   obtain ⟨po,pn,px,no,nn,nx,co,cn,cx,hbd,HE0⟩:=HOwn.out d P pc so sc wr (HEnd.out _ _ _ _ _ HR.out)
   have u0:=cell_of (i:=0) hbd (v:=.slice po pn px) rfl
   have u1:=cell_of (i:=1) hbd (v:=.slice no nn nx) rfl
   have u2:=cell_of (i:=2) hbd (v:=.slice co cn cx) rfl
   have u3:=cell_of (i:=3) hbd (v:=.bool C.conflict) rfl
   clear HCell HNew HG HTk HEnd HOwn hbd
   go_wp2_with (go_at_call 19;refine HE0.out.mono ?_;rintro rr w5 ⟨p1,p2,p3,n1,n2,n3,c1,c2,c3,rfl,hw9,HE⟩;have z0:=cell_of (i:=0) hw9 (v:=.slice none 0 0) rfl;have z1:=cell_of (i:=1) hw9 (v:=.slice none 0 0) rfl;have z2:=cell_of (i:=2) hw9 (v:=.slice none 0 0) rfl;have z3:=cell_of (i:=3) hw9 (v:=.bool false) rfl;have f0:=frozen_of hw9 0;have f1:=frozen_of hw9 1;have f2:=frozen_of hw9 2;have f3:=frozen_of hw9 3;have HW9:=hide hw9;clear hw9)
   obtain ⟨WF,hWF⟩:∃ WF,ndw.sets w5 w.heap.size [(0,.slice p1 p2 p3),(1,.slice n1 n2 n3),(2,.slice c1 c2 c3),(3,.bool C.conflict)]=WF:=⟨_,rfl⟩
   have hblk:WF.heap[w.heap.size]?=some (.cells #[.slice p1 p2 p3,.slice n1 n2 n3,.slice c1 c2 c3,.bool C.conflict] 28 (0,0)):=by
    rw [←hWF]
    have q2:=ndw.sets_at [(0,.slice p1 p2 p3),(1,.slice n1 n2 n3),(2,.slice c1 c2 c3),(3,.bool C.conflict)] HW9.out
    have e:ndw.setsA #[.slice none 0 0,.slice none 0 0,.slice none 0 0,.bool false] [(0,.slice p1 p2 p3),(1,.slice n1 n2 n3),(2,.slice c1 c2 c3),(3,.bool C.conflict)]=#[.slice p1 p2 p3,.slice n1 n2 n3,.slice c1 c2 c3,.bool C.conflict]:=by simp [ndw.setsA]
    rw [e] at q2
    exact q2
   have k0:=cell_of (i:=0) hblk (v:=.slice p1 p2 p3) rfl
   have k1:=cell_of (i:=1) hblk (v:=.slice n1 n2 n3) rfl
   have k2:=cell_of (i:=2) hblk (v:=.slice c1 c2 c3) rfl
   have k3:=cell_of (i:=3) hblk (v:=.bool C.conflict) rfl
   have HT2:=HE.out
   rw [hWF] at HT2
   simp only [ndw.sets] at hWF
   rw [hWF]
   refine bodyPost_ret (v:=.tuple #[.agg #[.slice p1 p2 p3,.slice n1 n2 n3,.slice c1 c2 c3,.bool C.conflict],.slice so k sc,.int .i64 0]) ?_ rfl HT2
   simp [results,Tryz.results5,go_sem,k0,k1,k2,k3]
end Go.Proofs.YtcfdmbkiinjmaaaGreat.scr
namespace Go.Proofs.YtcfdmbkiinjmaaaGreat.outs
open Raft mem grp own ntold gtold gt8 crun
def SpE (w:World) (d:Int) (r:Ending) (w':World):Prop:=∃ g,r=.returned (.tuple #[.agg #[.slice none 0 0,.slice none 0 0,.slice none 0 0,.bool false],.slice (some ⟨g,0,none⟩) 0 0,.int .i64 d])∧Below w.heap.size w w'
set_option maxRecDepth 20000 in
set_option maxHeartbeats 2000000 in
theorem impl_err (w:World) (n:Int) (vo:Option Addr) (vn vc:Nat) (hv1:vn≤vc) (hv2:vc≤maxLen) (d:Int) (h:(4096<vn∧d=2)∨(¬ 4096<vn∧(n<1∨7<n)∧d=5)∨(¬ 4096<vn∧(¬ n<1∧¬ 7<n)∧300<vn∧d=7)) :
  Calls Tryz.prog 7 #[.int .i64 n,.slice vo vn vc] w fun r w'=>r=.returned (.tuple #[.agg #[.slice none 0 0,.slice none 0 0,.slice none 0 0,.bool false],.slice none 0 0,.int .i64 d])∧Below w.heap.size w w':=by
 unfold maxLen at hv2
 have hb0:Below w.heap.size w (w.alloc (.cells #[.slice none 0 0,.slice none 0 0,.slice none 0 0,.bool false] 28)):=more (Below.refl _ _) _
 have HB:=hide hb0
 have HB2:Hid (∀ o,Below w.heap.size w ((w.alloc (.cells #[.slice none 0 0,.slice none 0 0,.slice none 0 0,.bool false] 28)).alloc o)):=fun o=>more hb0 o
 clear hb0
 rcases h with ⟨h1,rfl⟩|⟨h1,h2,rfl⟩|⟨h1,⟨h2,h3⟩,h4,rfl⟩
 ·have h1':(4096:Int)<vn:=by omega
  go_enter Tryz.func7,Tryz.ntmps7
  go_wp2
  exact bodyPost_ret (v:=.tuple #[.agg #[.slice none 0 0,.slice none 0 0,.slice none 0 0,.bool false],.slice none 0 0,.int .i64 2]) (by simp [results,Tryz.results7,go_sem]) rfl ⟨rfl,HB.out⟩
 ·have h1':¬ (4096:Int)<vn:=by omega
  by_cases hn:n<1
  ·go_enter Tryz.func7,Tryz.ntmps7
   go_wp2
   exact bodyPost_ret (v:=.tuple #[.agg #[.slice none 0 0,.slice none 0 0,.slice none 0 0,.bool false],.slice none 0 0,.int .i64 5]) (by simp [results,Tryz.results7,go_sem]) rfl ⟨rfl,HB.out⟩
  ·have h7:(7:Int)<n:=by omega
   go_enter Tryz.func7,Tryz.ntmps7
   go_wp2
   exact bodyPost_ret (v:=.tuple #[.agg #[.slice none 0 0,.slice none 0 0,.slice none 0 0,.bool false],.slice none 0 0,.int .i64 5]) (by simp [results,Tryz.results7,go_sem]) rfl ⟨rfl,HB.out⟩
 ·have h1':¬ (4096:Int)<vn:=by omega
  have h4':(300:Int)<vn:=by omega
  go_enter Tryz.func7,Tryz.ntmps7
  go_wp2
  exact bodyPost_ret (v:=.tuple #[.agg #[.slice none 0 0,.slice none 0 0,.slice none 0 0,.bool false],.slice none 0 0,.int .i64 7]) (by simp [results,Tryz.results7,go_sem]) rfl ⟨rfl,HB.out⟩
set_option maxRecDepth 20000 in
set_option maxHeartbeats 2000000 in
theorem spec_err (w:World) (n:Int) (vo:Option Addr) (vn vc:Nat) (hv1:vn≤vc) (hv2:vc≤maxLen) (d:Int) (h:(4096<vn∧d=2)∨(¬ 4096<vn∧(n<1∨7<n)∧d=5)∨(¬ 4096<vn∧(¬ n<1∧¬ 7<n)∧300<vn∧d=7)) :
  Calls Tryz.prog 5 #[.int .i64 n,.slice vo vn vc] w fun r w'=>SpE w d r w':=by
 unfold maxLen at hv2
 have hb0:Below w.heap.size w (w.alloc (.cells #[.slice none 0 0,.slice none 0 0,.slice none 0 0,.bool false] 28)):=more (Below.refl _ _) _
 have HB:=hide hb0
 have HB2:Hid (∀ o,Below w.heap.size w ((w.alloc (.cells #[.slice none 0 0,.slice none 0 0,.slice none 0 0,.bool false] 28)).alloc o)):=fun o=>more hb0 o
 clear hb0
 rcases h with ⟨h1,rfl⟩|⟨h1,h2,rfl⟩|⟨h1,⟨h2,h3⟩,h4,rfl⟩
 ·have h1':(4096:Int)<vn:=by omega
  go_enter Tryz.func5,Tryz.ntmps5
  go_wp2
  exact bodyPost_ret (v:=.tuple #[.agg #[.slice none 0 0,.slice none 0 0,.slice none 0 0,.bool false],.slice (some ⟨w.heap.size+1,0,none⟩) 0 0,.int .i64 2]) (by simp [results,Tryz.results5,go_sem]) rfl ⟨_,rfl,HB2.out _⟩
 ·have h1':¬ (4096:Int)<vn:=by omega
  by_cases hn:n<1
  ·go_enter Tryz.func5,Tryz.ntmps5
   go_wp2
   exact bodyPost_ret (v:=.tuple #[.agg #[.slice none 0 0,.slice none 0 0,.slice none 0 0,.bool false],.slice (some ⟨w.heap.size+1,0,none⟩) 0 0,.int .i64 5]) (by simp [results,Tryz.results5,go_sem]) rfl ⟨_,rfl,HB2.out _⟩
  ·have h7:(7:Int)<n:=by omega
   go_enter Tryz.func5,Tryz.ntmps5
   go_wp2
   exact bodyPost_ret (v:=.tuple #[.agg #[.slice none 0 0,.slice none 0 0,.slice none 0 0,.bool false],.slice (some ⟨w.heap.size+1,0,none⟩) 0 0,.int .i64 5]) (by simp [results,Tryz.results5,go_sem]) rfl ⟨_,rfl,HB2.out _⟩
 ·have h1':¬ (4096:Int)<vn:=by omega
  have h4':(300:Int)<vn:=by omega
  go_enter Tryz.func5,Tryz.ntmps5
  go_wp2
  exact bodyPost_ret (v:=.tuple #[.agg #[.slice none 0 0,.slice none 0 0,.slice none 0 0,.bool false],.slice (some ⟨w.heap.size+1,0,none⟩) 0 0,.int .i64 7]) (by simp [results,Tryz.results5,go_sem]) rfl ⟨_,rfl,HB2.out _⟩
def noCl:Cl:=⟨[],[],[],false⟩
def RunED (w:World) (M:Fz) (c:Cl) (ks:List Int) (d:Int) (r:Ending) (w':World):Prop :=
 ∃ (p1:Option Addr) (p2 p3:Nat) (n1:Option Addr) (n2 n3:Nat) (c1:Option Addr) (c2 c3:Nat) (k1:Option Addr) (k3:Nat),r=.returned (.tuple #[.agg #[.slice p1 p2 p3,.slice n1 n2 n3,.slice c1 c2 c3,.bool c.conflict],.slice k1 ks.length k3,.int .i64 d])∧∃ M',FP w M w' M'∧CluV M' c (.slice p1 p2 p3) (.slice n1 n2 n3) (.slice c1 c2 c3)∧RowM M' (.slice k1 ks.length k3) ks.length 1 (ints ks)
def RunSD (w:World) (M:Fz) (c:Cl) (ks:List Int) (d:Int) (r:Ending) (w':World):Prop :=
 ∃ (p1:Option Addr) (p2 p3:Nat) (n1:Option Addr) (n2 n3:Nat) (c1:Option Addr) (c2 c3:Nat) (k1:Option Addr) (k3:Nat),r=.returned (.tuple #[.agg #[.slice p1 p2 p3,.slice n1 n2 n3,.slice c1 c2 c3,.bool c.conflict],.slice k1 ks.length k3,.int .i64 d])∧∃ M' ps ms us,FP w M w' M'∧CluS M' w.heap.size c (.slice p1 p2 p3) (.slice n1 n2 n3) (.slice c1 c2 c3) ps ms us∧RowM M' (.slice k1 ks.length k3) ks.length 1 (ints ks)∧Own1 M' w.heap.size 3 (.slice k1 ks.length k3)∧(∀ b∈ownB (.slice k1 ks.length k3),b∉peersB (.slice p1 p2 p3) ps++(msgsB (.slice n1 n2 n3) ms++recsB (.slice c1 c2 c3) us))
theorem noS (M:Fz) (lo:Nat):CluS M lo noCl (.slice none 0 0) (.slice none 0 0) (.slice none 0 0) [] [] []:=by
 refine ⟨rfl,⟨RowM.nil M 9,.inl rfl,by simp,by simp [peersB,ownB,Value.ownBlock]⟩,rfl,⟨RowM.nil M 9,.inl rfl,by simp,by simp [ownB,Value.ownBlock]⟩,rfl,⟨⟨RowM.nil M 3,by simp⟩,.inl rfl,by simp,by simp [recsB,ownB,Value.ownBlock]⟩,by simp [peersB,msgsB,recsB,ownB,Value.ownBlock]⟩
structure Ans (n:Int) (es:List Ev) (c:Cl) (ks:List Int) (d:Int):Prop where
 peers:∀ x∈c.peers,x.log.length≤1000∧x.votes.length≤1000∧x.next.length≤1000∧x.mat.length≤1000
 net:∀ x∈c.net,x.log.length≤1000
 sizes:c.chosen.length≤1000∧c.net.length≤1000∧c.peers.length≤1000
 codes:ks.length≤1000
theorem both (n:Int) (us:List EV):∃ c ks d,(ks.length≤1000∧Ans n (us.map (·.e)) c ks d) ∧
  (∀ (w:World) (M:Fz),In M w→∀ (vo:Option Addr) (vn vc:Nat) (us':List EV),us'.map (·.e)=us.map (·.e)→EvsV M (.slice vo vn vc) us'→Calls Tryz.prog 7 #[.int .i64 n,.slice vo vn vc] w fun r w'=>RunSD w M c ks d r w') ∧
  (∀ (w:World) (M:Fz),In M w→∀ (vo:Option Addr) (vn vc:Nat) (us':List EV),us'.map (·.e)=us.map (·.e)→EvsV M (.slice vo vn vc) us'→Calls Tryz.prog 5 #[.int .i64 n,.slice vo vn vc] w fun r w'=>RunED w M c ks d r w'):=by
 have len:∀ {M:Fz} {vo:Option Addr} {vn vc:Nat} {us':List EV},us'.map (·.e)=us.map (·.e)→EvsV M (.slice vo vn vc) us'→vn=us.length∧us'.length=us.length∧vn≤vc∧vc≤maxLen:=fun e h=>by
  obtain ⟨⟨ao,cap,e1,h1,h2,_⟩,_⟩:=h
  simp only [Value.slice.injEq] at e1
  obtain ⟨rfl,rfl,rfl⟩:=e1
  have:_=_:=congrArg List.length e
  simp only [List.length_map] at this
  exact ⟨this,this,h1,h2⟩
 by_cases hgood:(1≤n∧n≤7)∧us.length≤300
 ·obtain ⟨⟨h1,h7⟩,hl⟩:=hgood
  obtain ⟨m,rfl⟩:∃ m:Nat,n=m:=⟨n.toNat,by omega⟩
  have hG:=good_run (us.map (·.e)) _ (Raft.Good.begin m)
  have hL:=lb_run (us.map (·.e)) _ (LB.begin m)
  obtain ⟨C,eC⟩:∃ C,((Cl.begin m).run (us.map (·.e))).1=C:=⟨_,rfl⟩
  have hK:((Cl.begin m).run (us.map (·.e))).2.length≤1000:=by rw [run_len];simp;omega
  rw [eC] at hG hL
  refine ⟨C,((Cl.begin m).run (us.map (·.e))).2,0,⟨hK,?_,?_,?_,hK⟩,?_,?_⟩
  ·intro x hx
   obtain ⟨k,hk⟩:=List.mem_iff_getElem?.1 hx
   have hat:C.at k=x:=by unfold Cl.at;rw [List.getD_eq_getElem?_getD,hk];rfl
   have q1:=hG.1.peers k
   have q2:=hL.peers k
   rw [hat] at q1 q2
   have:=q1.log
   have:=q2.votes
   have:=q2.next
   have:=q2.mat
   exact ⟨by omega,by omega,by omega,by omega⟩
  ·intro x hx
   have:=(hG.1.net x hx).a
   omega
  ·have:=hG.1.chosen
   have:=hG.1.size
   have:=hL.len
   exact ⟨by omega,by omega,by omega⟩
  ·intro w M hI vo vn vc us' e hv
   obtain ⟨e1,e2,_,_⟩:=len e hv
   refine (crun_good w M hI m (by omega) (by omega) vo vn vc us' hv (by omega)).mono fun r w' hr => ?_
   rw [e,eC] at hr
   exact hr
  ·intro w M hI vo vn vc us' e hv
   obtain ⟨e1,e2,_,_⟩:=len e hv
   refine (scr.scrun_good w M hI m (by omega) (by omega) vo vn vc us' hv (by omega)).mono fun r w' hr => ?_
   rw [e,eC] at hr
   exact hr
 ·obtain ⟨d,hd⟩:∃ d:Int,(4096<us.length∧d=2)∨(¬ 4096<us.length∧(n<1∨7<n)∧d=5)∨(¬ 4096<us.length∧(¬ n<1∧¬ 7<n)∧300<us.length∧d=7):=by
   by_cases a:4096<us.length
   ·exact ⟨2,.inl ⟨a,rfl⟩⟩
   ·by_cases b:n<1∨7<n
    ·exact ⟨5,.inr (.inl ⟨a,b,rfl⟩)⟩
    ·exact ⟨7,.inr (.inr ⟨a,by omega,by omega,rfl⟩)⟩
  refine ⟨noCl,[],d,⟨by simp,by simp [noCl],by simp [noCl],by simp [noCl],by simp⟩,?_,?_⟩
  ·intro w M hI vo vn vc us' e hv
   obtain ⟨rfl,e2,e3,e4⟩:=len e hv
   refine (impl_err w n vo _ vc e3 e4 d hd).mono ?_
   rintro r w' ⟨rfl,hb⟩
   exact ⟨none,0,0,none,0,0,none,0,0,none,0,rfl,M,[],[],[],(FP.refl hI).more hb,noS _ _,RowM.nil M 1,.inl rfl,by simp [ownB,Value.ownBlock]⟩
  ·intro w M hI vo vn vc us' e hv
   obtain ⟨rfl,e2,e3,e4⟩:=len e hv
   refine (spec_err w n vo _ vc e3 e4 d hd).mono ?_
   rintro r w' ⟨g,rfl,hb⟩
   exact ⟨none,0,0,none,0,0,none,0,0,some ⟨g,0,none⟩,0,rfl,M,(FP.refl hI).more hb,(noS _ 0).clu,⟨_,0,rfl,Nat.le_refl _,by simp [maxLen],rfl,(fun h=>by cases h),fun h=>by simp at h⟩⟩
end Go.Proofs.YtcfdmbkiinjmaaaGreat.outs
namespace Go.Proofs.YtcfdmbkiinjmaaaGreat.evs
open Raft mem own shape mk2 shp crun evto gtold gt8
def whole (w:World):Fz:=fun b=>w.heap[b]?
theorem whole_in (w:World):In (whole w) w:=fun _ _ h=>h
theorem cellM_of {w:World} {b i:Nat} {v:Value} (h:w.cell? ⟨b,i,none⟩=some v):cellM (whole w) b i=some v:=by
 unfold cellM whole
 cases e:w.heap[b]? with
 | none=>simp [World.cell?,e] at h
 | some o =>
  cases o with
  | cells cur t fr=>simpa [World.cell?,e] using h
  | _=>simp [World.cell?,e] at h
theorem rdM {w:World} {v:Value} {xs:List Int} (h:pile.RdA w v xs):BytesM (whole w) v xs:=by
 obtain ⟨⟨ao,cap,rfl,h1,h2,h3,h4⟩,h5⟩:=h
 refine ⟨⟨ao,cap,rfl,h1,h2,by simp,fun e => ?_,fun hp => ?_⟩,h3⟩
 ·subst e
  have:=h5 _ _ rfl
  simp only [Value.slice.injEq,true_and] at this
  exact this
 ·obtain ⟨b,off,rfl,hc⟩:=h4 hp
  refine ⟨b,off,rfl,fun i v hi=>cellM_of ?_⟩
  have hlt:i<xs.length:=by have:=(List.getElem?_eq_some_iff.1 hi).1;simpa using this
  rw [hc i hlt]
  rw [List.getElem?_map,List.getElem?_eq_getElem hlt] at hi
  simp only [Option.map_some,Option.some.injEq] at hi
  rw [←hi,List.getD_eq_getElem?_getD,List.getElem?_eq_getElem hlt]
  rfl
theorem flat_find {α:Type} (f:α→List Value) (sz:Nat) (hf:∀ a,(f a).length=sz):∀ (l:List α) (i:Nat) (u:Value),(l.flatMap f)[i]?=some u→∃ k j a,i=k*sz+j∧j<sz∧l[k]?=some a∧(f a)[j]?=some u
 | [],i,u,h=>by simp at h
 | a::l,i,u,h=>by
  rw [List.flatMap_cons] at h
  by_cases hi:i<sz
  ·rw [List.getElem?_append_left (by rw [hf];exact hi)] at h
   exact ⟨0,i,a,by omega,hi,rfl,h⟩
  ·rw [List.getElem?_append_right (by rw [hf];omega),hf] at h
   obtain ⟨k,j,b,e1,e2,e3,e4⟩:=flat_find f sz hf l (i-sz) u h
   exact ⟨k+1,j,b,by rw [Nat.succ_mul];omega,e2,e3,e4⟩
def ev3 (r:Rec3):Ev:=⟨r.t,r.i,r.d⟩
def evL (rl:List Rec3) (us:List Value):List EV:=(List.range rl.length).map (fun k=>⟨ev3 (rl.getD k zRec),us.getD k (.slice none 0 0)⟩)
theorem evL_len (rl:List Rec3) (us:List Value):(evL rl us).length=rl.length:=by simp [evL]
theorem evL_get {rl:List Rec3} {us:List Value} {k:Nat} {x:EV} (h:(evL rl us)[k]?=some x):k<rl.length∧x=⟨ev3 (rl.getD k zRec),us.getD k (.slice none 0 0)⟩:=by
 have hk:k<rl.length:=by have:=(List.getElem?_eq_some_iff.1 h).1;rwa [evL_len] at this
 refine ⟨hk,?_⟩
 unfold evL at h
 rw [List.getElem?_map,List.getElem?_range hk] at h
 simpa using h.symm
theorem evL_e (rl:List Rec3) (us:List Value):(evL rl us).map (·.e)=rl.map ev3:=by
 apply List.ext_getElem?
 intro k
 by_cases hk:k<rl.length
 ·simp [evL,hk,List.getD_eq_getElem?_getD]
 ·simp [evL,hk]
theorem evsV {w:World} {a:Addr} {n cap:Nat} {rl:List Rec3} {us:List Value} (h:RdRecs w (.slice (some a) n cap) rl us):EvsV (whole w) (.slice (some a) n cap) (evL rl us):=by
 obtain ⟨ao,cap',e,h1,h2,h3⟩:=h.row
 simp only [Value.slice.injEq] at e
 obtain ⟨rfl,rfl,rfl⟩:=e
 refine ⟨⟨_,cap,by rw [evL_len],by rw [evL_len];exact h1,h2,?_,(fun h=>by cases h),fun hp => ?_⟩,fun x hx => ?_⟩
 ·exact flat_len evCells 3 (fun _=>rfl) _
 ·rw [evL_len] at hp
  obtain ⟨b,off,e1,hc⟩:=h3 hp
  refine ⟨b,off,e1,fun i u hi=>cellM_of ?_⟩
  obtain ⟨k,j,x,rfl,hj,hx,hu⟩:=flat_find evCells 3 (fun _=>rfl) _ i u hi
  obtain ⟨hk,rfl⟩:=evL_get hx
  obtain ⟨c0,c1,c2⟩:=hc k hk
  rw [←Nat.add_assoc]
  match j,hj with
  | 0,_=>simp only [evCells,List.getElem?_cons_zero,Option.some.injEq] at hu;rw [←hu];exact c0
  | 1,_=>simp only [evCells,List.getElem?_cons_succ,List.getElem?_cons_zero,Option.some.injEq] at hu;rw [←hu];exact c1
  | 2,_=>simp only [evCells,List.getElem?_cons_succ,List.getElem?_cons_zero,Option.some.injEq] at hu;rw [←hu];exact c2
 ·obtain ⟨k,hk⟩:=List.mem_iff_getElem?.1 hx
  obtain ⟨hk2,rfl⟩:=evL_get hk
  exact rdM (h.each k hk2)
theorem own_facts {w:World} {base:Nat} {v:Value} {xs:List Int} (h:bytes.Own w base v xs):v=.slice (slOf v).ao (slOf v).n (slOf v).cap∧(slOf v).n=xs.length∧(slOf v).Good∧Ok w (plain (slOf v).b .byte (slOf v).o (slOf v).n)∧∀ x∈plain (slOf v).b .byte (slOf v).o (slOf v).n,x.at.1∈ownB v:=by
 obtain ⟨_,h0,⟨rfl,h1⟩|⟨g,cap,cur,rfl,hb,hg,hc,hm,hs,ht⟩⟩:=h
 ·exact ⟨rfl,h1.symm,⟨by simp [slOf],by simp [slOf],by simp [slOf,maxLen]⟩,by simp [slOf,plain,Ok],by simp [slOf,plain]⟩
 ·refine ⟨rfl,rfl,⟨fun _=>rfl,hc,hm⟩,fun x hx => ?_,fun x hx => ?_⟩
  ·obtain ⟨j,hj,rfl⟩:=plain_mem hx
   simp only [slOf] at hj
   have hj2:j<cur.size:=by rw [hs];omega
   refine ⟨⟨cur[j],?_⟩,grp.frozen_of hg _⟩
   show w.cell? ⟨g,0+j,none⟩=_
   rw [Nat.zero_add]
   exact grp.cell_of hg (Array.getElem?_eq_getElem hj2)
  ·obtain ⟨j,hj,rfl⟩:=plain_mem hx
   simp [En.at,slOf,ownB,Value.ownBlock]
def evR (g:Nat) (us:List Value):Rs:=⟨some ⟨g,0,none⟩,g,0,us.length,us.map slOf⟩
set_option maxHeartbeats 400000 in
theorem ev_facts {w:World} {base g:Nat} {rl:List Rec3} {us:List Value} (h:OwnRecs w base (.slice (some ⟨g,0,none⟩) rl.length rl.length) rl us) (hn:rl.length+sumTo rl rl.length≤1048576) :
  (Value.slice (some ⟨g,0,none⟩) rl.length rl.length=.slice (evR g us).ao (evR g us).xs.length (evR g us).cap)∧(evR g us).Good∧Ok w (evR g us).es∧shape.Nd (evR g us).es∧(∀ e∈(evR g us).es,base≤e.at.1)∧count (evR g us).es≤3145728:=by
 have hlen:us.length=rl.length:=h.len
 have hx:(evR g us).xs.length=us.length:=by simp [evR]
 have he:∀ k,k<us.length→∃ x,us[k]?=some x:=fun k hk=>⟨_,List.getElem?_eq_getElem hk⟩
 have hgd:∀ (k:Nat) (x:Value),us[k]?=some x→us.getD k (.slice none 0 0)=x:=fun k x hx=>by rw [List.getD_eq_getElem?_getD,hx];rfl
 have sub:∀ (k:Nat) (x:Value),us[k]?=some x→bytes.Own w base x (rl.getD k zRec).d:=fun k x hx=>by
  have hk:k<us.length:=(List.getElem?_eq_some_iff.1 hx).1
  have:=h.each k (by omega)
  rwa [hgd k x hx] at this
 have hf:∀ (k:Nat) (x:Value),us[k]?=some x→(evR g us).f k=[.leaf g (0+k*3) .int,.leaf g (0+k*3+1) .int,.head g (0+k*3+2) (.slice (slOf x).ao (slOf x).n (slOf x).cap)]++plain (slOf x).b .byte (slOf x).o (slOf x).n:=fun k x hx=>by
  show recE g (0+k*3) ((us.map slOf).getD k zS)=_
  rw [getD_map _ _ _ hx]
  rfl
 have hcnt:∀ n,n≤us.length→count (rowE (evR g us).f n)=2*n+sumTo rl n:=by
  intro n
  induction n with
  | zero=>intro _;simp [rowE,count,sumTo]
  | succ n ih =>
   intro hn
   obtain ⟨x,hx⟩:=he n (by omega)
   rw [rowE_count,ih (by omega),hf n x hx,sumTo_succ (by omega),count_append,plain_count,(own_facts (sub n x hx)).2.1]
   simp [count]
   omega
 have row:0<rl.length→base≤g∧∃ cur,w.heap[g]?=some (.cells cur 48 (0,0))∧∀ k,k<rl.length→cur[0+k*3]?=some (.int .i64 (rl.getD k zRec).t)∧cur[0+k*3+1]?=some (.int .i64 (rl.getD k zRec).i)∧cur[0+k*3+2]?=some (us.getD k (.slice none 0 0)):=fun hp=>by
  obtain ⟨ao,cap,e,_,_,h4⟩:=h.row
  simp only [Value.slice.injEq] at e
  obtain ⟨rfl,_,_⟩:=e
  obtain ⟨g',off,cur,e,hb,hg,hc⟩:=h4 hp
  simp only [Option.some.injEq,Addr.mk.injEq] at e
  obtain ⟨rfl,rfl,_⟩:=e
  exact ⟨hb,cur,hg,hc⟩
 have hg5:∀ (k:Nat) (x:Value),us[k]?=some x→g∉ownB x:=fun k x hx hb=>by
  have hk:k<us.length:=(List.getElem?_eq_some_iff.1 hx).1
  obtain ⟨_,cur,hg,_⟩:=row (by omega)
  exact own_other (sub k x hx).2 hg (by decide) (ownB_mem.1 hb)
 have hmem:∀ (k:Nat) (x:Value),us[k]?=some x→∀ e∈(evR g us).f k,(e.at.1=g∧0+k*3≤e.at.2∧e.at.2<0+k*3+3)∨e.at.1∈ownB x:=fun k x hx e hm=>by
  rw [hf k x hx] at hm
  rcases List.mem_append.1 hm with hm | hm
  ·left
   simp only [List.mem_cons,List.not_mem_nil,or_false] at hm
   rcases hm with rfl | rfl | rfl <;> simp [En.at] <;> omega
  ·exact .inr ((own_facts (sub k x hx)).2.2.2.2 e hm)
 refine ⟨by rw [hx,←hlen];rfl,⟨fun _=>rfl,⟨by rw [hx];exact Nat.le_refl _,by show us.length≤maxLen;unfold maxLen;omega⟩,fun s hs => ?_⟩,fun e hm => ?_,?_,fun e hm => ?_,?_⟩
 ·obtain ⟨x,hx,rfl⟩:=List.mem_map.1 hs
  obtain ⟨k,hk⟩:=List.mem_iff_getElem?.1 hx
  exact (own_facts (sub k x hk)).2.2.1
 ·obtain ⟨k,hk,hm⟩:=rowE_mem hm
  rw [hx] at hk
  obtain ⟨x,hxk⟩:=he k hk
  rw [hf k x hxk] at hm
  obtain ⟨_,cur,hg,hc⟩:=row (by omega)
  obtain ⟨c0,c1,c2⟩:=hc k (by omega)
  rcases List.mem_append.1 hm with hm | hm
  ·simp only [List.mem_cons,List.not_mem_nil,or_false] at hm
   rcases hm with rfl | rfl | rfl
   ·exact ⟨⟨_,grp.cell_of hg c0⟩,grp.frozen_of hg _⟩
   ·exact ⟨⟨_,grp.cell_of hg c1⟩,grp.frozen_of hg _⟩
   ·show w.cell? ⟨g,0+k*3+2,none⟩=_
    rw [←(own_facts (sub k x hxk)).1,←hgd k x hxk]
    exact grp.cell_of hg c2
  ·exact (own_facts (sub k x hxk)).2.2.2.1 e hm
 ·unfold Rs.es
  rw [hx]
  refine rowE_nd _ g 0 3 (fun k=>ownB (us.getD k (.slice none 0 0))) us.length (fun k hk => ?_) (fun k hk e hm => ?_) (fun k hk => ?_) (fun j k hj hk b hb => ?_)
  ·obtain ⟨x,hxk⟩:=he k hk
   rw [hf k x hxk]
   refine Nd.mk (nd3 ..) (plain_nd ..) (fun a ha e hm e' => ?_)
   have q1:a.at.1=e.at.1:=by rw [e']
   have q2:=(own_facts (sub k x hxk)).2.2.2.2 e hm
   refine hg5 k x hxk ?_
   rw [←q1] at q2
   simp only [List.mem_cons,List.not_mem_nil,or_false] at ha
   rcases ha with rfl | rfl | rfl <;> exact q2
  ·obtain ⟨x,hxk⟩:=he k hk
   rcases hmem k x hxk e hm with a | a
   ·exact .inl a
   ·exact .inr (by rw [hgd k x hxk];exact a)
  ·obtain ⟨x,hxk⟩:=he k hk
   rw [hgd k x hxk]
   exact hg5 k x hxk
  ·intro hb2
   exact h.apart j k (by omega) (by omega) (by omega) b (ownB_mem.1 hb) (ownB_mem.1 hb2)
 ·obtain ⟨k,hk,hm⟩:=rowE_mem hm
  rw [hx] at hk
  obtain ⟨x,hxk⟩:=he k hk
  rcases hmem k x hxk e hm with a | a
  ·rw [a.1];exact (row (by omega)).1
  ·exact (grp.row_lt (sub k x hxk).2 (ownB_mem.1 a)).1
 ·unfold Rs.es
  rw [hx,hcnt _ (Nat.le_refl _),hlen]
  omega
def res (lo:Nat) (M:Fz):Fz:=fun b=>if lo≤b then M b else none
theorem res_in {lo:Nat} {M:Fz} {w:World} (h:In M w):In (res lo M) w:=fun b o hb=>by
 unfold res at hb
 split at hb
 ·exact h b o hb
 ·cases hb
theorem row_res {M:Fz} {lo e n sz:Nat} {v:Value} {xs:List Value} (h:RowM M v n sz xs) (ho:Own1 M lo e v):RowM (res lo M) v n sz xs:=by
 obtain ⟨ao,cap,rfl,h1,h2,h3,h4,h5⟩:=h
 refine ⟨ao,cap,rfl,h1,h2,h3,h4,fun hp => ?_⟩
 obtain ⟨b,off,rfl,hc⟩:=h5 hp
 refine ⟨b,off,rfl,fun i u hu => ?_⟩
 have hl:lo≤b:=(ho.blk (b:=b) (by simp [ownB,Value.ownBlock])).1
 have:=hc i u hu
 unfold cellM at this ⊢
 unfold res
 rw [if_pos hl]
 exact this
theorem recs_res {M:Fz} {lo:Nat} {v:Value} {us:List RV} (h:RecsS M lo v us):RecsV (res lo M) v us:=⟨row_res h.rd.1 h.row,fun x hx=>⟨⟨row_res (h.rd.2 x hx).1.1 (h.data x hx),(h.rd.2 x hx).1.2⟩,(h.rd.2 x hx).2⟩⟩
theorem clu_res {M:Fz} {lo:Nat} {c:Cl} {pv nv cv:Value} {ps:List PS} {ms:List MS} {us:List RV} (h:CluS M lo c pv nv cv ps ms us):CluV (res lo M) c pv nv cv:=by
 obtain ⟨h1,h2,h3,h4,h5,h6,_⟩:=h
 refine ⟨ps.map PS.pv,ms.map MS.mv,by rw [List.map_map];exact h1,⟨by rw [List.length_map];exact row_res h2.rd h2.row,fun x hx => ?_⟩,by rw [List.map_map];exact h3,⟨by rw [List.length_map];exact row_res h4.rd h4.row,fun x hx => ?_⟩,us,h5,recs_res h6⟩
 ·obtain ⟨y,hy,rfl⟩:=List.mem_map.1 hx
  have q:=h2.each y hy
  exact ⟨⟨y.us,q.recs,recs_res q.log⟩,row_res q.votes.1 q.votes.2,row_res q.next.1 q.next.2,row_res q.mat.1 q.mat.2⟩
 ·obtain ⟨y,hy,rfl⟩:=List.mem_map.1 hx
  obtain ⟨q1,q2⟩:=h4.each y hy
  exact ⟨y.us,q2,recs_res q1⟩
end Go.Proofs.YtcfdmbkiinjmaaaGreat.evs
namespace Go.Proofs.YtcfdmbkiinjmaaaGreat.eq1
open mem grp
def Eqs (f:Nat) (w:World) (a b:Value):Prop:=∀ wx,Below w.heap.size w wx→Calls Tryz.prog f #[a,b] wx fun e w'=>e=.returned (.bool true)∧Below wx.heap.size wx w'
theorem Eqs.below {f:Nat} {w w':World} {a b:Value} (h:Eqs f w a b) (hb:Below w.heap.size w w'):Eqs f w' a b:=fun wx hx=>h wx (hb.trans (hx.mono hb.size))
theorem bel_drewN {B:Nat} {w w':World} (h:Below B w w') (n:Nat):Below B w (w'.drewN n):=⟨h.os,h.tape,h.output,h.size,h.block⟩
theorem cell_at {B:Nat} {w w':World} {a:Addr} {v:Value} (hb:Below B w w') (h:w.cell? a=some v) (hB:w.heap.size≤B):w'.cell? a=some v:=(hb.cell (Nat.lt_of_lt_of_le (World.block_lt_of_cell? w _ h) hB)).trans h
set_option maxRecDepth 20000 in
set_option maxHeartbeats 1000000 in
theorem eqByteS_any (w:World) (ao:Option Addr) (ac:Nat) (bo:Option Addr) (bc:Nat) (xs:List Int) (h1:xs.length≤ac∧ac≤maxLen∧xs.length≤bc∧bc≤maxLen) (d:Int)
  (ha:0<xs.length→∃ b o,ao=some ⟨b,o,none⟩∧∀ k,k<xs.length→w.cell? ⟨b,o+k,none⟩=some (.int .u8 (xs.getD k d))) (hb:0<xs.length→∃ b o,bo=some ⟨b,o,none⟩∧∀ k,k<xs.length→w.cell? ⟨b,o+k,none⟩=some (.int .u8 (xs.getD k d))) :
  Eqs 51 w (.slice ao xs.length ac) (.slice bo xs.length bc):=fun wx hx=>by
 obtain ⟨hc1,hc2,hc3,hc4⟩:=h1
 unfold maxLen at hc2 hc4
 have HC:Hid (∀ k,k<xs.length→∃ b o b' o' x,ao=some ⟨b,o,none⟩∧bo=some ⟨b',o',none⟩∧∀ wr,Below wx.heap.size wx wr→wr.cell? ⟨b,o+k,none⟩=some (.int .u8 x)∧wr.cell? ⟨b',o'+k,none⟩=some (.int .u8 x)):=fun k hk=>by
  obtain ⟨b,o,e1,h1⟩:=ha (by omega)
  obtain ⟨b',o',e2,h2⟩:=hb (by omega)
  exact ⟨b,o,b',o',_,e1,e2,fun wr hr=>⟨cell_at (hx.trans (hr.mono hx.size)) (h1 k hk) (Nat.le_refl _),cell_at (hx.trans (hr.mono hx.size)) (h2 k hk) (Nat.le_refl _)⟩⟩
 obtain ⟨n,hn⟩:∃ n,n=xs.length:=⟨_,rfl⟩
 rw [←hn] at HC hc1 hc3 ⊢
 have H0:Hid (Below wx.heap.size wx wx):=Below.refl _ _
 have hne:(((n:Nat):Int) != ((n:Nat):Int))=false:=by simp
 clear ha hb hn hx
 go_enter Tryz.func51,Tryz.ntmps51
 go_wp2
 go_loopw [5] (fun i wr=>∃ k:Nat,k≤n∧i=.int .i64 k∧Hid (Below wx.heap.size wx wr)) (fun i _=>n-(intOf i).toNat)
 case atStart=>exact ⟨0,by omega,rfl,H0⟩
 case round =>
  obtain ⟨k,hk,rfl,HR⟩:=hrel
  by_cases hlt:k<n
  ·have hltI:(k:Int)<n:=by omega
   obtain ⟨b,o,b',o',x,rfl,rfl,hcell⟩:=HC.out k hlt
   obtain ⟨c1,c2⟩:=hcell wr HR.out
   have HN:Hid (∀ n,Below wx.heap.size wx (wr.drewN n)):=fun n=>bel_drewN HR.out n
   have hxx:(x != x)=false:=by simp
   clear HR hcell
   go_wp2
   go_quiet (fail)
   go_wp2
   go_roundw
   case rel=>exact ⟨k+1,by omega,by go_num,HN.out _⟩
   case measure=>simp [intOf];omega
  ·have hlt2:¬ (k:Int)<n:=by omega
   go_wp2
   go_ret
   exact ⟨rfl,HR.out⟩
set_option maxRecDepth 20000 in
set_option maxHeartbeats 1000000 in
theorem eqIntS_any (w:World) (ao:Option Addr) (ac:Nat) (bo:Option Addr) (bc:Nat) (xs:List Int) (h1:xs.length≤ac∧ac≤maxLen∧xs.length≤bc∧bc≤maxLen) (d:Int)
  (ha:0<xs.length→∃ b o,ao=some ⟨b,o,none⟩∧∀ k,k<xs.length→w.cell? ⟨b,o+k,none⟩=some (.int .i64 (xs.getD k d))) (hb:0<xs.length→∃ b o,bo=some ⟨b,o,none⟩∧∀ k,k<xs.length→w.cell? ⟨b,o+k,none⟩=some (.int .i64 (xs.getD k d))) :
  Eqs 9 w (.slice ao xs.length ac) (.slice bo xs.length bc):=fun wx hx=>by
 obtain ⟨hc1,hc2,hc3,hc4⟩:=h1
 unfold maxLen at hc2 hc4
 have HC:Hid (∀ k,k<xs.length→∃ b o b' o' x,ao=some ⟨b,o,none⟩∧bo=some ⟨b',o',none⟩∧∀ wr,Below wx.heap.size wx wr→wr.cell? ⟨b,o+k,none⟩=some (.int .i64 x)∧wr.cell? ⟨b',o'+k,none⟩=some (.int .i64 x)):=fun k hk=>by
  obtain ⟨b,o,e1,h1⟩:=ha (by omega)
  obtain ⟨b',o',e2,h2⟩:=hb (by omega)
  exact ⟨b,o,b',o',_,e1,e2,fun wr hr=>⟨cell_at (hx.trans (hr.mono hx.size)) (h1 k hk) (Nat.le_refl _),cell_at (hx.trans (hr.mono hx.size)) (h2 k hk) (Nat.le_refl _)⟩⟩
 obtain ⟨n,hn⟩:∃ n,n=xs.length:=⟨_,rfl⟩
 rw [←hn] at HC hc1 hc3 ⊢
 have H0:Hid (Below wx.heap.size wx wx):=Below.refl _ _
 have hne:(((n:Nat):Int) != ((n:Nat):Int))=false:=by simp
 clear ha hb hn hx
 go_enter Tryz.func9,Tryz.ntmps9
 go_wp2
 go_loopw [5] (fun i wr=>∃ k:Nat,k≤n∧i=.int .i64 k∧Hid (Below wx.heap.size wx wr)) (fun i _=>n-(intOf i).toNat)
 case atStart=>exact ⟨0,by omega,rfl,H0⟩
 case round =>
  obtain ⟨k,hk,rfl,HR⟩:=hrel
  by_cases hlt:k<n
  ·have hltI:(k:Int)<n:=by omega
   obtain ⟨b,o,b',o',x,rfl,rfl,hcell⟩:=HC.out k hlt
   obtain ⟨c1,c2⟩:=hcell wr HR.out
   have HN:Hid (∀ n,Below wx.heap.size wx (wr.drewN n)):=fun n=>bel_drewN HR.out n
   have hxx:(x != x)=false:=by simp
   clear HR hcell
   go_wp2
   go_quiet (fail)
   go_wp2
   go_roundw
   case rel=>exact ⟨k+1,by omega,by go_num,HN.out _⟩
   case measure=>simp [intOf];omega
  ·have hlt2:¬ (k:Int)<n:=by omega
   go_wp2
   go_ret
   exact ⟨rfl,HR.out⟩
set_option maxRecDepth 20000 in
set_option maxHeartbeats 1000000 in
theorem eqBoolS_any (w:World) (ao:Option Addr) (ac:Nat) (bo:Option Addr) (bc:Nat) (xs:List Bool) (h1:xs.length≤ac∧ac≤maxLen∧xs.length≤bc∧bc≤maxLen) (d:Bool)
  (ha:0<xs.length→∃ b o,ao=some ⟨b,o,none⟩∧∀ k,k<xs.length→w.cell? ⟨b,o+k,none⟩=some (.bool (xs.getD k d))) (hb:0<xs.length→∃ b o,bo=some ⟨b,o,none⟩∧∀ k,k<xs.length→w.cell? ⟨b,o+k,none⟩=some (.bool (xs.getD k d))) :
  Eqs 73 w (.slice ao xs.length ac) (.slice bo xs.length bc):=fun wx hx=>by
 obtain ⟨hc1,hc2,hc3,hc4⟩:=h1
 unfold maxLen at hc2 hc4
 have HC:Hid (∀ k,k<xs.length→∃ b o b' o' x,ao=some ⟨b,o,none⟩∧bo=some ⟨b',o',none⟩∧∀ wr,Below wx.heap.size wx wr→wr.cell? ⟨b,o+k,none⟩=some (.bool x)∧wr.cell? ⟨b',o'+k,none⟩=some (.bool x)):=fun k hk=>by
  obtain ⟨b,o,e1,h1⟩:=ha (by omega)
  obtain ⟨b',o',e2,h2⟩:=hb (by omega)
  exact ⟨b,o,b',o',_,e1,e2,fun wr hr=>⟨cell_at (hx.trans (hr.mono hx.size)) (h1 k hk) (Nat.le_refl _),cell_at (hx.trans (hr.mono hx.size)) (h2 k hk) (Nat.le_refl _)⟩⟩
 obtain ⟨n,hn⟩:∃ n,n=xs.length:=⟨_,rfl⟩
 rw [←hn] at HC hc1 hc3 ⊢
 have H0:Hid (Below wx.heap.size wx wx):=Below.refl _ _
 have hne:(((n:Nat):Int) != ((n:Nat):Int))=false:=by simp
 clear ha hb hn hx
 go_enter Tryz.func73,Tryz.ntmps73
 go_wp2
 go_loopw [5] (fun i wr=>∃ k:Nat,k≤n∧i=.int .i64 k∧Hid (Below wx.heap.size wx wr)) (fun i _=>n-(intOf i).toNat)
 case atStart=>exact ⟨0,by omega,rfl,H0⟩
 case round =>
  obtain ⟨k,hk,rfl,HR⟩:=hrel
  by_cases hlt:k<n
  ·have hltI:(k:Int)<n:=by omega
   obtain ⟨b,o,b',o',x,rfl,rfl,hcell⟩:=HC.out k hlt
   obtain ⟨c1,c2⟩:=hcell wr HR.out
   have HN:Hid (∀ n,Below wx.heap.size wx (wr.drewN n)):=fun n=>bel_drewN HR.out n
   have hxx:(x != x)=false:=by simp
   clear HR hcell
   go_wp2
   go_quiet (fail)
   go_wp2
   go_roundw
   case rel=>exact ⟨k+1,by omega,by go_num,HN.out _⟩
   case measure=>simp [intOf];omega
  ·have hlt2:¬ (k:Int)<n:=by omega
   go_wp2
   go_ret
   exact ⟨rfl,HR.out⟩
set_option maxRecDepth 20000 in
set_option maxHeartbeats 1000000 in
theorem eqRec_any (w:World) (x0:Int) (x1:Int) (a2:Option Addr) (n2 k2:Nat) (b2:Option Addr) (l2 m2:Nat) (h2:Eqs 51 w (.slice a2 n2 k2) (.slice b2 l2 m2)):Eqs 50 w (.agg #[.int .i64 x0,.int .i64 x1,.slice a2 n2 k2]) (.agg #[.int .i64 x0,.int .i64 x1,.slice b2 l2 m2]):=fun wx hx=>by
 obtain ⟨W,hW⟩:∃ W,(wx.alloc (.cells #[.int .i64 x0,.int .i64 x1,.slice a2 n2 k2] 74)).alloc (.cells #[.int .i64 x0,.int .i64 x1,.slice b2 l2 m2] 74)=W:=⟨_,rfl⟩
 have bW:Below wx.heap.size wx W:=by rw [←hW];exact ((Below.refl _ _).alloc (Nat.le_refl _) _).alloc (by simp) _
 have hx1:W.heap[wx.heap.size]?=some (.cells #[.int .i64 x0,.int .i64 x1,.slice a2 n2 k2] 74 (0,0)):=by rw [←hW,Below.heap_alloc _ _ _ (by simp)];exact heap_alloc_new _ _
 have hx2:W.heap[wx.heap.size+1]?=some (.cells #[.int .i64 x0,.int .i64 x1,.slice b2 l2 m2] 74 (0,0)):=by
  rw [←hW]
  have:=heap_alloc_new (wx.alloc (.cells #[.int .i64 x0,.int .i64 x1,.slice a2 n2 k2] 74)) (.cells #[.int .i64 x0,.int .i64 x1,.slice b2 l2 m2] 74)
  rwa [World.size_alloc] at this
 have c0:W.cell? ⟨wx.heap.size,0,none⟩=some (.int .i64 x0):=cell_of hx1 rfl
 have d0:W.cell? ⟨wx.heap.size+1,0,none⟩=some (.int .i64 x0):=cell_of hx2 rfl
 have c1:W.cell? ⟨wx.heap.size,1,none⟩=some (.int .i64 x1):=cell_of hx1 rfl
 have d1:W.cell? ⟨wx.heap.size+1,1,none⟩=some (.int .i64 x1):=cell_of hx2 rfl
 have c2:W.cell? ⟨wx.heap.size,2,none⟩=some (.slice a2 n2 k2):=cell_of hx1 rfl
 have d2:W.cell? ⟨wx.heap.size+1,2,none⟩=some (.slice b2 l2 m2):=cell_of hx2 rfl
 have HK:Hid (∀ wr,Below W.heap.size W wr→wr.cell? ⟨wx.heap.size,2,none⟩=some (.slice a2 n2 k2)∧wr.cell? ⟨wx.heap.size+1,2,none⟩=some (.slice b2 l2 m2)):=fun wr hr=>⟨cell_at hr c2 (Nat.le_refl _),cell_at hr d2 (Nat.le_refl _)⟩
 have H2:Hid (∀ wr,Below W.heap.size W wr→Calls Tryz.prog 51 #[.slice a2 n2 k2,.slice b2 l2 m2] wr fun e w'=>e=.returned (.bool true)∧Below W.heap.size W w'):=fun wr hr=>((h2.below hx) wr (bW.trans (hr.mono bW.size))).mono fun e w' h=>⟨h.1,hr.trans (h.2.mono hr.size)⟩
 have HB:=hide bW
 have HW0:Hid (Below W.heap.size W W):=Below.refl _ _
 have e0:(x0 != x0)=false:=by simp
 have e1:(x1 != x1)=false:=by simp
 clear h2 hx1 hx2 bW hx
 go_enter Tryz.func50,Tryz.ntmps50
 go_wp2_with fail
 (try rw [hW])
 refine (H2.out _ HW0.out).mono ?_
 rintro e w0 ⟨rfl,hb0⟩
 have HB0:=hide hb0
 obtain ⟨_c2_0,_d2_0⟩:=HK.out _ hb0
 clear hb0
 go_wp2
 go_ret
 exact ⟨rfl,HB.out.trans (HB0.out.mono HB.out.size)⟩
set_option maxRecDepth 20000 in
set_option maxHeartbeats 1000000 in
theorem eqEvent_any (w:World) (x0:Int) (x1:Int) (a2:Option Addr) (n2 k2:Nat) (b2:Option Addr) (l2 m2:Nat) (h2:Eqs 51 w (.slice a2 n2 k2) (.slice b2 l2 m2)):Eqs 27 w (.agg #[.int .i64 x0,.int .i64 x1,.slice a2 n2 k2]) (.agg #[.int .i64 x0,.int .i64 x1,.slice b2 l2 m2]):=fun wx hx=>by
 obtain ⟨W,hW⟩:∃ W,(wx.alloc (.cells #[.int .i64 x0,.int .i64 x1,.slice a2 n2 k2] 48)).alloc (.cells #[.int .i64 x0,.int .i64 x1,.slice b2 l2 m2] 48)=W:=⟨_,rfl⟩
 have bW:Below wx.heap.size wx W:=by rw [←hW];exact ((Below.refl _ _).alloc (Nat.le_refl _) _).alloc (by simp) _
 have hx1:W.heap[wx.heap.size]?=some (.cells #[.int .i64 x0,.int .i64 x1,.slice a2 n2 k2] 48 (0,0)):=by rw [←hW,Below.heap_alloc _ _ _ (by simp)];exact heap_alloc_new _ _
 have hx2:W.heap[wx.heap.size+1]?=some (.cells #[.int .i64 x0,.int .i64 x1,.slice b2 l2 m2] 48 (0,0)):=by
  rw [←hW]
  have:=heap_alloc_new (wx.alloc (.cells #[.int .i64 x0,.int .i64 x1,.slice a2 n2 k2] 48)) (.cells #[.int .i64 x0,.int .i64 x1,.slice b2 l2 m2] 48)
  rwa [World.size_alloc] at this
 have c0:W.cell? ⟨wx.heap.size,0,none⟩=some (.int .i64 x0):=cell_of hx1 rfl
 have d0:W.cell? ⟨wx.heap.size+1,0,none⟩=some (.int .i64 x0):=cell_of hx2 rfl
 have c1:W.cell? ⟨wx.heap.size,1,none⟩=some (.int .i64 x1):=cell_of hx1 rfl
 have d1:W.cell? ⟨wx.heap.size+1,1,none⟩=some (.int .i64 x1):=cell_of hx2 rfl
 have c2:W.cell? ⟨wx.heap.size,2,none⟩=some (.slice a2 n2 k2):=cell_of hx1 rfl
 have d2:W.cell? ⟨wx.heap.size+1,2,none⟩=some (.slice b2 l2 m2):=cell_of hx2 rfl
 have HK:Hid (∀ wr,Below W.heap.size W wr→wr.cell? ⟨wx.heap.size,2,none⟩=some (.slice a2 n2 k2)∧wr.cell? ⟨wx.heap.size+1,2,none⟩=some (.slice b2 l2 m2)):=fun wr hr=>⟨cell_at hr c2 (Nat.le_refl _),cell_at hr d2 (Nat.le_refl _)⟩
 have H2:Hid (∀ wr,Below W.heap.size W wr→Calls Tryz.prog 51 #[.slice a2 n2 k2,.slice b2 l2 m2] wr fun e w'=>e=.returned (.bool true)∧Below W.heap.size W w'):=fun wr hr=>((h2.below hx) wr (bW.trans (hr.mono bW.size))).mono fun e w' h=>⟨h.1,hr.trans (h.2.mono hr.size)⟩
 have HB:=hide bW
 have HW0:Hid (Below W.heap.size W W):=Below.refl _ _
 have e0:(x0 != x0)=false:=by simp
 have e1:(x1 != x1)=false:=by simp
 clear h2 hx1 hx2 bW hx
 go_enter Tryz.func27,Tryz.ntmps27
 go_wp2_with fail
 (try rw [hW])
 refine (H2.out _ HW0.out).mono ?_
 rintro e w0 ⟨rfl,hb0⟩
 have HB0:=hide hb0
 obtain ⟨_c2_0,_d2_0⟩:=HK.out _ hb0
 clear hb0
 go_wp2
 go_ret
 exact ⟨rfl,HB.out.trans (HB0.out.mono HB.out.size)⟩
set_option maxRecDepth 20000 in
set_option maxHeartbeats 1000000 in
theorem eqMsg_any (w:World) (x0:Int) (x1:Int) (x2:Int) (x3:Int) (x4:Int) (x5:Int) (x6:Int) (x7:Bool) (a8:Option Addr) (n8 k8:Nat) (b8:Option Addr) (l8 m8:Nat) (h8:Eqs 26 w (.slice a8 n8 k8) (.slice b8 l8 m8)):Eqs 49 w (.agg #[.int .i64 x0,.int .i64 x1,.int .i64 x2,.int .i64 x3,.int .i64 x4,.int .i64 x5,.int .i64 x6,.bool x7,.slice a8 n8 k8]) (.agg #[.int .i64 x0,.int .i64 x1,.int .i64 x2,.int .i64 x3,.int .i64 x4,.int .i64 x5,.int .i64 x6,.bool x7,.slice b8 l8 m8]):=fun wx hx=>by
 obtain ⟨W,hW⟩:∃ W,(wx.alloc (.cells #[.int .i64 x0,.int .i64 x1,.int .i64 x2,.int .i64 x3,.int .i64 x4,.int .i64 x5,.int .i64 x6,.bool x7,.slice a8 n8 k8] 69)).alloc (.cells #[.int .i64 x0,.int .i64 x1,.int .i64 x2,.int .i64 x3,.int .i64 x4,.int .i64 x5,.int .i64 x6,.bool x7,.slice b8 l8 m8] 69)=W:=⟨_,rfl⟩
 have bW:Below wx.heap.size wx W:=by rw [←hW];exact ((Below.refl _ _).alloc (Nat.le_refl _) _).alloc (by simp) _
 have hx1:W.heap[wx.heap.size]?=some (.cells #[.int .i64 x0,.int .i64 x1,.int .i64 x2,.int .i64 x3,.int .i64 x4,.int .i64 x5,.int .i64 x6,.bool x7,.slice a8 n8 k8] 69 (0,0)):=by rw [←hW,Below.heap_alloc _ _ _ (by simp)];exact heap_alloc_new _ _
 have hx2:W.heap[wx.heap.size+1]?=some (.cells #[.int .i64 x0,.int .i64 x1,.int .i64 x2,.int .i64 x3,.int .i64 x4,.int .i64 x5,.int .i64 x6,.bool x7,.slice b8 l8 m8] 69 (0,0)):=by
  rw [←hW]
  have:=heap_alloc_new (wx.alloc (.cells #[.int .i64 x0,.int .i64 x1,.int .i64 x2,.int .i64 x3,.int .i64 x4,.int .i64 x5,.int .i64 x6,.bool x7,.slice a8 n8 k8] 69)) (.cells #[.int .i64 x0,.int .i64 x1,.int .i64 x2,.int .i64 x3,.int .i64 x4,.int .i64 x5,.int .i64 x6,.bool x7,.slice b8 l8 m8] 69)
  rwa [World.size_alloc] at this
 have c0:W.cell? ⟨wx.heap.size,0,none⟩=some (.int .i64 x0):=cell_of hx1 rfl
 have d0:W.cell? ⟨wx.heap.size+1,0,none⟩=some (.int .i64 x0):=cell_of hx2 rfl
 have c1:W.cell? ⟨wx.heap.size,1,none⟩=some (.int .i64 x1):=cell_of hx1 rfl
 have d1:W.cell? ⟨wx.heap.size+1,1,none⟩=some (.int .i64 x1):=cell_of hx2 rfl
 have c2:W.cell? ⟨wx.heap.size,2,none⟩=some (.int .i64 x2):=cell_of hx1 rfl
 have d2:W.cell? ⟨wx.heap.size+1,2,none⟩=some (.int .i64 x2):=cell_of hx2 rfl
 have c3:W.cell? ⟨wx.heap.size,3,none⟩=some (.int .i64 x3):=cell_of hx1 rfl
 have d3:W.cell? ⟨wx.heap.size+1,3,none⟩=some (.int .i64 x3):=cell_of hx2 rfl
 have c4:W.cell? ⟨wx.heap.size,4,none⟩=some (.int .i64 x4):=cell_of hx1 rfl
 have d4:W.cell? ⟨wx.heap.size+1,4,none⟩=some (.int .i64 x4):=cell_of hx2 rfl
 have c5:W.cell? ⟨wx.heap.size,5,none⟩=some (.int .i64 x5):=cell_of hx1 rfl
 have d5:W.cell? ⟨wx.heap.size+1,5,none⟩=some (.int .i64 x5):=cell_of hx2 rfl
 have c6:W.cell? ⟨wx.heap.size,6,none⟩=some (.int .i64 x6):=cell_of hx1 rfl
 have d6:W.cell? ⟨wx.heap.size+1,6,none⟩=some (.int .i64 x6):=cell_of hx2 rfl
 have c7:W.cell? ⟨wx.heap.size,7,none⟩=some (.bool x7):=cell_of hx1 rfl
 have d7:W.cell? ⟨wx.heap.size+1,7,none⟩=some (.bool x7):=cell_of hx2 rfl
 have c8:W.cell? ⟨wx.heap.size,8,none⟩=some (.slice a8 n8 k8):=cell_of hx1 rfl
 have d8:W.cell? ⟨wx.heap.size+1,8,none⟩=some (.slice b8 l8 m8):=cell_of hx2 rfl
 have HK:Hid (∀ wr,Below W.heap.size W wr→wr.cell? ⟨wx.heap.size,8,none⟩=some (.slice a8 n8 k8)∧wr.cell? ⟨wx.heap.size+1,8,none⟩=some (.slice b8 l8 m8)):=fun wr hr=>⟨cell_at hr c8 (Nat.le_refl _),cell_at hr d8 (Nat.le_refl _)⟩
 have H8:Hid (∀ wr,Below W.heap.size W wr→Calls Tryz.prog 26 #[.slice a8 n8 k8,.slice b8 l8 m8] wr fun e w'=>e=.returned (.bool true)∧Below W.heap.size W w'):=fun wr hr=>((h8.below hx) wr (bW.trans (hr.mono bW.size))).mono fun e w' h=>⟨h.1,hr.trans (h.2.mono hr.size)⟩
 have HB:=hide bW
 have HW0:Hid (Below W.heap.size W W):=Below.refl _ _
 have e0:(x0 != x0)=false:=by simp
 have e1:(x1 != x1)=false:=by simp
 have e2:(x2 != x2)=false:=by simp
 have e3:(x3 != x3)=false:=by simp
 have e4:(x4 != x4)=false:=by simp
 have e5:(x5 != x5)=false:=by simp
 have e6:(x6 != x6)=false:=by simp
 have e7:(x7 != x7)=false:=by simp
 clear h8 hx1 hx2 bW hx
 go_enter Tryz.func49,Tryz.ntmps49
 go_wp2_with fail
 (try rw [hW])
 refine (H8.out _ HW0.out).mono ?_
 rintro e w0 ⟨rfl,hb0⟩
 have HB0:=hide hb0
 obtain ⟨_c8_0,_d8_0⟩:=HK.out _ hb0
 clear hb0
 go_wp2
 go_ret
 exact ⟨rfl,HB.out.trans (HB0.out.mono HB.out.size)⟩
set_option maxRecDepth 20000 in
set_option maxHeartbeats 1000000 in
theorem eqPeer_any (w:World) (x0:Bool) (x1:Int) (x2:Int) (x3:Int) (x4:Int) (a5:Option Addr) (n5 k5:Nat) (b5:Option Addr) (l5 m5:Nat) (a6:Option Addr) (n6 k6:Nat) (b6:Option Addr) (l6 m6:Nat) (a7:Option Addr) (n7 k7:Nat) (b7:Option Addr) (l7 m7:Nat) (a8:Option Addr) (n8 k8:Nat) (b8:Option Addr) (l8 m8:Nat) (h5:Eqs 26 w (.slice a5 n5 k5) (.slice b5 l5 m5)) (h6:Eqs 73 w (.slice a6 n6 k6) (.slice b6 l6 m6)) (h7:Eqs 9 w (.slice a7 n7 k7) (.slice b7 l7 m7)) (h8:Eqs 9 w (.slice a8 n8 k8) (.slice b8 l8 m8)):Eqs 48 w (.agg #[.bool x0,.int .i64 x1,.int .i64 x2,.int .i64 x3,.int .i64 x4,.slice a5 n5 k5,.slice a6 n6 k6,.slice a7 n7 k7,.slice a8 n8 k8]) (.agg #[.bool x0,.int .i64 x1,.int .i64 x2,.int .i64 x3,.int .i64 x4,.slice b5 l5 m5,.slice b6 l6 m6,.slice b7 l7 m7,.slice b8 l8 m8]):=fun wx hx=>by
 obtain ⟨W,hW⟩:∃ W,(wx.alloc (.cells #[.bool x0,.int .i64 x1,.int .i64 x2,.int .i64 x3,.int .i64 x4,.slice a5 n5 k5,.slice a6 n6 k6,.slice a7 n7 k7,.slice a8 n8 k8] 66)).alloc (.cells #[.bool x0,.int .i64 x1,.int .i64 x2,.int .i64 x3,.int .i64 x4,.slice b5 l5 m5,.slice b6 l6 m6,.slice b7 l7 m7,.slice b8 l8 m8] 66)=W:=⟨_,rfl⟩
 have bW:Below wx.heap.size wx W:=by rw [←hW];exact ((Below.refl _ _).alloc (Nat.le_refl _) _).alloc (by simp) _
 have hx1:W.heap[wx.heap.size]?=some (.cells #[.bool x0,.int .i64 x1,.int .i64 x2,.int .i64 x3,.int .i64 x4,.slice a5 n5 k5,.slice a6 n6 k6,.slice a7 n7 k7,.slice a8 n8 k8] 66 (0,0)):=by rw [←hW,Below.heap_alloc _ _ _ (by simp)];exact heap_alloc_new _ _
 have hx2:W.heap[wx.heap.size+1]?=some (.cells #[.bool x0,.int .i64 x1,.int .i64 x2,.int .i64 x3,.int .i64 x4,.slice b5 l5 m5,.slice b6 l6 m6,.slice b7 l7 m7,.slice b8 l8 m8] 66 (0,0)):=by
  rw [←hW]
  have:=heap_alloc_new (wx.alloc (.cells #[.bool x0,.int .i64 x1,.int .i64 x2,.int .i64 x3,.int .i64 x4,.slice a5 n5 k5,.slice a6 n6 k6,.slice a7 n7 k7,.slice a8 n8 k8] 66)) (.cells #[.bool x0,.int .i64 x1,.int .i64 x2,.int .i64 x3,.int .i64 x4,.slice b5 l5 m5,.slice b6 l6 m6,.slice b7 l7 m7,.slice b8 l8 m8] 66)
  rwa [World.size_alloc] at this
 have c0:W.cell? ⟨wx.heap.size,0,none⟩=some (.bool x0):=cell_of hx1 rfl
 have d0:W.cell? ⟨wx.heap.size+1,0,none⟩=some (.bool x0):=cell_of hx2 rfl
 have c1:W.cell? ⟨wx.heap.size,1,none⟩=some (.int .i64 x1):=cell_of hx1 rfl
 have d1:W.cell? ⟨wx.heap.size+1,1,none⟩=some (.int .i64 x1):=cell_of hx2 rfl
 have c2:W.cell? ⟨wx.heap.size,2,none⟩=some (.int .i64 x2):=cell_of hx1 rfl
 have d2:W.cell? ⟨wx.heap.size+1,2,none⟩=some (.int .i64 x2):=cell_of hx2 rfl
 have c3:W.cell? ⟨wx.heap.size,3,none⟩=some (.int .i64 x3):=cell_of hx1 rfl
 have d3:W.cell? ⟨wx.heap.size+1,3,none⟩=some (.int .i64 x3):=cell_of hx2 rfl
 have c4:W.cell? ⟨wx.heap.size,4,none⟩=some (.int .i64 x4):=cell_of hx1 rfl
 have d4:W.cell? ⟨wx.heap.size+1,4,none⟩=some (.int .i64 x4):=cell_of hx2 rfl
 have c5:W.cell? ⟨wx.heap.size,5,none⟩=some (.slice a5 n5 k5):=cell_of hx1 rfl
 have d5:W.cell? ⟨wx.heap.size+1,5,none⟩=some (.slice b5 l5 m5):=cell_of hx2 rfl
 have c6:W.cell? ⟨wx.heap.size,6,none⟩=some (.slice a6 n6 k6):=cell_of hx1 rfl
 have d6:W.cell? ⟨wx.heap.size+1,6,none⟩=some (.slice b6 l6 m6):=cell_of hx2 rfl
 have c7:W.cell? ⟨wx.heap.size,7,none⟩=some (.slice a7 n7 k7):=cell_of hx1 rfl
 have d7:W.cell? ⟨wx.heap.size+1,7,none⟩=some (.slice b7 l7 m7):=cell_of hx2 rfl
 have c8:W.cell? ⟨wx.heap.size,8,none⟩=some (.slice a8 n8 k8):=cell_of hx1 rfl
 have d8:W.cell? ⟨wx.heap.size+1,8,none⟩=some (.slice b8 l8 m8):=cell_of hx2 rfl
 have HK:Hid (∀ wr,Below W.heap.size W wr→wr.cell? ⟨wx.heap.size,5,none⟩=some (.slice a5 n5 k5)∧wr.cell? ⟨wx.heap.size+1,5,none⟩=some (.slice b5 l5 m5)∧wr.cell? ⟨wx.heap.size,6,none⟩=some (.slice a6 n6 k6)∧wr.cell? ⟨wx.heap.size+1,6,none⟩=some (.slice b6 l6 m6)∧wr.cell? ⟨wx.heap.size,7,none⟩=some (.slice a7 n7 k7)∧wr.cell? ⟨wx.heap.size+1,7,none⟩=some (.slice b7 l7 m7)∧wr.cell? ⟨wx.heap.size,8,none⟩=some (.slice a8 n8 k8)∧wr.cell? ⟨wx.heap.size+1,8,none⟩=some (.slice b8 l8 m8)):=fun wr hr=>⟨cell_at hr c5 (Nat.le_refl _),cell_at hr d5 (Nat.le_refl _),cell_at hr c6 (Nat.le_refl _),cell_at hr d6 (Nat.le_refl _),cell_at hr c7 (Nat.le_refl _),cell_at hr d7 (Nat.le_refl _),cell_at hr c8 (Nat.le_refl _),cell_at hr d8 (Nat.le_refl _)⟩
 have H5:Hid (∀ wr,Below W.heap.size W wr→Calls Tryz.prog 26 #[.slice a5 n5 k5,.slice b5 l5 m5] wr fun e w'=>e=.returned (.bool true)∧Below W.heap.size W w'):=fun wr hr=>((h5.below hx) wr (bW.trans (hr.mono bW.size))).mono fun e w' h=>⟨h.1,hr.trans (h.2.mono hr.size)⟩
 have H6:Hid (∀ wr,Below W.heap.size W wr→Calls Tryz.prog 73 #[.slice a6 n6 k6,.slice b6 l6 m6] wr fun e w'=>e=.returned (.bool true)∧Below W.heap.size W w'):=fun wr hr=>((h6.below hx) wr (bW.trans (hr.mono bW.size))).mono fun e w' h=>⟨h.1,hr.trans (h.2.mono hr.size)⟩
 have H7:Hid (∀ wr,Below W.heap.size W wr→Calls Tryz.prog 9 #[.slice a7 n7 k7,.slice b7 l7 m7] wr fun e w'=>e=.returned (.bool true)∧Below W.heap.size W w'):=fun wr hr=>((h7.below hx) wr (bW.trans (hr.mono bW.size))).mono fun e w' h=>⟨h.1,hr.trans (h.2.mono hr.size)⟩
 have H8:Hid (∀ wr,Below W.heap.size W wr→Calls Tryz.prog 9 #[.slice a8 n8 k8,.slice b8 l8 m8] wr fun e w'=>e=.returned (.bool true)∧Below W.heap.size W w'):=fun wr hr=>((h8.below hx) wr (bW.trans (hr.mono bW.size))).mono fun e w' h=>⟨h.1,hr.trans (h.2.mono hr.size)⟩
 have HB:=hide bW
 have HW0:Hid (Below W.heap.size W W):=Below.refl _ _
 have e0:(x0 != x0)=false:=by simp
 have e1:(x1 != x1)=false:=by simp
 have e2:(x2 != x2)=false:=by simp
 have e3:(x3 != x3)=false:=by simp
 have e4:(x4 != x4)=false:=by simp
 clear h5 h6 h7 h8 hx1 hx2 bW hx
 go_enter Tryz.func48,Tryz.ntmps48
 go_wp2_with fail
 (try rw [hW])
 refine (H5.out _ HW0.out).mono ?_
 rintro e w0 ⟨rfl,hb0⟩
 have HB0:=hide hb0
 obtain ⟨_c5_0,_d5_0,_c6_0,_d6_0,_c7_0,_d7_0,_c8_0,_d8_0⟩:=HK.out _ hb0
 clear hb0
 go_wp2_with fail
 skip
 refine (H6.out _ HB0.out).mono ?_
 rintro e w1 ⟨rfl,hb1⟩
 have HB1:=hide hb1
 obtain ⟨_c5_1,_d5_1,_c6_1,_d6_1,_c7_1,_d7_1,_c8_1,_d8_1⟩:=HK.out _ hb1
 clear hb1
 go_wp2_with fail
 skip
 refine (H7.out _ HB1.out).mono ?_
 rintro e w2 ⟨rfl,hb2⟩
 have HB2:=hide hb2
 obtain ⟨_c5_2,_d5_2,_c6_2,_d6_2,_c7_2,_d7_2,_c8_2,_d8_2⟩:=HK.out _ hb2
 clear hb2
 go_wp2_with fail
 skip
 refine (H8.out _ HB2.out).mono ?_
 rintro e w3 ⟨rfl,hb3⟩
 have HB3:=hide hb3
 obtain ⟨_c5_3,_d5_3,_c6_3,_d6_3,_c7_3,_d7_3,_c8_3,_d8_3⟩:=HK.out _ hb3
 clear hb3
 go_wp2
 go_ret
 exact ⟨rfl,HB.out.trans (HB3.out.mono HB.out.size)⟩
end Go.Proofs.YtcfdmbkiinjmaaaGreat.eq1
namespace Go.Proofs.YtcfdmbkiinjmaaaGreat.eq2
open mem grp eq1
set_option maxRecDepth 40000 in
set_option maxHeartbeats 4000000 in
theorem eqRecS_any (w:World) (n:Nat) (ao:Option Addr) (ac:Nat) (bo:Option Addr) (bc:Nat) (h1:n≤ac∧ac≤maxLen∧n≤bc∧bc≤maxLen)
  (h:∀ k,k<n→∃ (ab af bb bf:Nat) (x0:Int) (x1:Int) (a2:Option Addr) (n2 k2:Nat) (b2:Option Addr) (l2 m2:Nat),ao=some ⟨ab,af,none⟩∧bo=some ⟨bb,bf,none⟩∧(w.cell? ⟨ab,af+k*3,none⟩=some (.int .i64 x0)∧w.cell? ⟨ab,af+k*3+1,none⟩=some (.int .i64 x1)∧w.cell? ⟨ab,af+k*3+2,none⟩=some (.slice a2 n2 k2))∧(w.cell? ⟨bb,bf+k*3,none⟩=some (.int .i64 x0)∧w.cell? ⟨bb,bf+k*3+1,none⟩=some (.int .i64 x1)∧w.cell? ⟨bb,bf+k*3+2,none⟩=some (.slice b2 l2 m2))∧Eqs 50 w (.agg #[.int .i64 x0,.int .i64 x1,.slice a2 n2 k2]) (.agg #[.int .i64 x0,.int .i64 x1,.slice b2 l2 m2])) :
  Eqs 26 w (.slice ao n ac) (.slice bo n bc):=fun wx hx=>by
 obtain ⟨hc1,hc2,hc3,hc4⟩:=h1
 unfold maxLen at hc2 hc4
 have H:=hide h
 have HX:=hide hx
 have H0:Hid (Below wx.heap.size wx wx):=Below.refl _ _
 have hne:(((n:Nat):Int) != ((n:Nat):Int))=false:=by simp
 clear h hx
 go_enter Tryz.func26,Tryz.ntmps26
 go_wp2
 go_loopw [5] (fun i wr=>∃ k:Nat,k≤n∧i=.int .i64 k∧Hid (Below wx.heap.size wx wr)) (fun i _=>n-(intOf i).toNat)
 case atStart=>exact ⟨0,by omega,rfl,H0⟩
 case round =>
  obtain ⟨k,hk,rfl,HR⟩:=hrel
  by_cases hlt:k<n
  ·have hltI:(k:Int)<n:=by omega
   obtain ⟨ab,af,bb,bf,x0,x1,a2,n2,k2,b2,l2,m2,rfl,rfl,⟨c0,c1,c2⟩,⟨d0,d1,d2⟩,hE⟩:=H.out k hlt
   have HK:Hid (∀ w',Below wr.heap.size wr w'→(w'.cell? ⟨ab,af+k*3,none⟩=some (.int .i64 x0)∧w'.cell? ⟨ab,af+k*3+1,none⟩=some (.int .i64 x1)∧w'.cell? ⟨ab,af+k*3+2,none⟩=some (.slice a2 n2 k2))∧w'.cell? ⟨bb,bf+k*3,none⟩=some (.int .i64 x0)∧w'.cell? ⟨bb,bf+k*3+1,none⟩=some (.int .i64 x1)∧w'.cell? ⟨bb,bf+k*3+2,none⟩=some (.slice b2 l2 m2)):=fun w' hb=>by
    have hb':Below w.heap.size w w':=(HX.out.trans (HR.out.mono HX.out.size)).trans (hb.mono (Nat.le_trans HX.out.size HR.out.size))
    exact ⟨⟨cell_at hb' c0 (Nat.le_refl _),cell_at hb' c1 (Nat.le_refl _),cell_at hb' c2 (Nat.le_refl _)⟩,cell_at hb' d0 (Nat.le_refl _),cell_at hb' d1 (Nat.le_refl _),cell_at hb' d2 (Nat.le_refl _)⟩
   have HE:Hid (∀ n,Calls Tryz.prog 50 #[.agg #[.int .i64 x0,.int .i64 x1,.slice a2 n2 k2],.agg #[.int .i64 x0,.int .i64 x1,.slice b2 l2 m2]] (wr.drewN n) fun e w''=>e=.returned (.bool true)∧Below wr.heap.size wr w''):=fun n=>by
    have hq:Below wr.heap.size wr (wr.drewN n):=bel_drewN (Below.refl _ _) n
    refine (hE (wr.drewN n) ((HX.out.trans (HR.out.mono HX.out.size)).trans (hq.mono (Nat.le_trans HX.out.size HR.out.size)))).mono ?_
    rintro e w'' ⟨rfl,hb'⟩
    exact ⟨rfl,hq.trans hb'⟩
   obtain ⟨⟨e0,e1,e2⟩,g0,g1,g2⟩:=HK.out wr (Below.refl _ _)
   clear c0 c1 c2 d0 d1 d2 hE
   go_wp2
   go_region_held_law (fun w'=>(w'.cell? ⟨ab,af+k*3,none⟩=some (.int .i64 x0)∧w'.cell? ⟨ab,af+k*3+1,none⟩=some (.int .i64 x1)∧w'.cell? ⟨ab,af+k*3+2,none⟩=some (.slice a2 n2 k2))∧w'.cell? ⟨bb,bf+k*3,none⟩=some (.int .i64 x0)∧w'.cell? ⟨bb,bf+k*3+1,none⟩=some (.int .i64 x1)∧w'.cell? ⟨bb,bf+k*3+2,none⟩=some (.slice b2 l2 m2)) ((refine HK.out _ ?_;first | assumption | exact (Below.refl _ _).drew))
    (first | (go_at_call 50;refine (HE.out 1).mono ?_;rintro e w1 ⟨rfl,H1⟩))
   all_goals
    have H2:Hid (Below wx.heap.size wx w1):=HR.out.trans (H1.mono HR.out.size)
    clear H1
    go_wp2
    go_roundw
    case rel=>exact ⟨k+1,by omega,by go_num,H2⟩
    case measure=>simp [intOf];omega
  ·have hlt2:¬ (k:Int)<n:=by omega
   go_wp2
   go_ret
   exact ⟨rfl,HR.out⟩
set_option maxRecDepth 40000 in
set_option maxHeartbeats 4000000 in
theorem eqEventS_any (w:World) (n:Nat) (ao:Option Addr) (ac:Nat) (bo:Option Addr) (bc:Nat) (h1:n≤ac∧ac≤maxLen∧n≤bc∧bc≤maxLen)
  (h:∀ k,k<n→∃ (ab af bb bf:Nat) (x0:Int) (x1:Int) (a2:Option Addr) (n2 k2:Nat) (b2:Option Addr) (l2 m2:Nat),ao=some ⟨ab,af,none⟩∧bo=some ⟨bb,bf,none⟩∧(w.cell? ⟨ab,af+k*3,none⟩=some (.int .i64 x0)∧w.cell? ⟨ab,af+k*3+1,none⟩=some (.int .i64 x1)∧w.cell? ⟨ab,af+k*3+2,none⟩=some (.slice a2 n2 k2))∧(w.cell? ⟨bb,bf+k*3,none⟩=some (.int .i64 x0)∧w.cell? ⟨bb,bf+k*3+1,none⟩=some (.int .i64 x1)∧w.cell? ⟨bb,bf+k*3+2,none⟩=some (.slice b2 l2 m2))∧Eqs 27 w (.agg #[.int .i64 x0,.int .i64 x1,.slice a2 n2 k2]) (.agg #[.int .i64 x0,.int .i64 x1,.slice b2 l2 m2])) :
  Eqs 10 w (.slice ao n ac) (.slice bo n bc):=fun wx hx=>by
 obtain ⟨hc1,hc2,hc3,hc4⟩:=h1
 unfold maxLen at hc2 hc4
 have H:=hide h
 have HX:=hide hx
 have H0:Hid (Below wx.heap.size wx wx):=Below.refl _ _
 have hne:(((n:Nat):Int) != ((n:Nat):Int))=false:=by simp
 clear h hx
 go_enter Tryz.func10,Tryz.ntmps10
 go_wp2
 go_loopw [5] (fun i wr=>∃ k:Nat,k≤n∧i=.int .i64 k∧Hid (Below wx.heap.size wx wr)) (fun i _=>n-(intOf i).toNat)
 case atStart=>exact ⟨0,by omega,rfl,H0⟩
 case round =>
  obtain ⟨k,hk,rfl,HR⟩:=hrel
  by_cases hlt:k<n
  ·have hltI:(k:Int)<n:=by omega
   obtain ⟨ab,af,bb,bf,x0,x1,a2,n2,k2,b2,l2,m2,rfl,rfl,⟨c0,c1,c2⟩,⟨d0,d1,d2⟩,hE⟩:=H.out k hlt
   have HK:Hid (∀ w',Below wr.heap.size wr w'→(w'.cell? ⟨ab,af+k*3,none⟩=some (.int .i64 x0)∧w'.cell? ⟨ab,af+k*3+1,none⟩=some (.int .i64 x1)∧w'.cell? ⟨ab,af+k*3+2,none⟩=some (.slice a2 n2 k2))∧w'.cell? ⟨bb,bf+k*3,none⟩=some (.int .i64 x0)∧w'.cell? ⟨bb,bf+k*3+1,none⟩=some (.int .i64 x1)∧w'.cell? ⟨bb,bf+k*3+2,none⟩=some (.slice b2 l2 m2)):=fun w' hb=>by
    have hb':Below w.heap.size w w':=(HX.out.trans (HR.out.mono HX.out.size)).trans (hb.mono (Nat.le_trans HX.out.size HR.out.size))
    exact ⟨⟨cell_at hb' c0 (Nat.le_refl _),cell_at hb' c1 (Nat.le_refl _),cell_at hb' c2 (Nat.le_refl _)⟩,cell_at hb' d0 (Nat.le_refl _),cell_at hb' d1 (Nat.le_refl _),cell_at hb' d2 (Nat.le_refl _)⟩
   have HE:Hid (∀ n,Calls Tryz.prog 27 #[.agg #[.int .i64 x0,.int .i64 x1,.slice a2 n2 k2],.agg #[.int .i64 x0,.int .i64 x1,.slice b2 l2 m2]] (wr.drewN n) fun e w''=>e=.returned (.bool true)∧Below wr.heap.size wr w''):=fun n=>by
    have hq:Below wr.heap.size wr (wr.drewN n):=bel_drewN (Below.refl _ _) n
    refine (hE (wr.drewN n) ((HX.out.trans (HR.out.mono HX.out.size)).trans (hq.mono (Nat.le_trans HX.out.size HR.out.size)))).mono ?_
    rintro e w'' ⟨rfl,hb'⟩
    exact ⟨rfl,hq.trans hb'⟩
   obtain ⟨⟨e0,e1,e2⟩,g0,g1,g2⟩:=HK.out wr (Below.refl _ _)
   clear c0 c1 c2 d0 d1 d2 hE
   go_wp2
   go_region_held_law (fun w'=>(w'.cell? ⟨ab,af+k*3,none⟩=some (.int .i64 x0)∧w'.cell? ⟨ab,af+k*3+1,none⟩=some (.int .i64 x1)∧w'.cell? ⟨ab,af+k*3+2,none⟩=some (.slice a2 n2 k2))∧w'.cell? ⟨bb,bf+k*3,none⟩=some (.int .i64 x0)∧w'.cell? ⟨bb,bf+k*3+1,none⟩=some (.int .i64 x1)∧w'.cell? ⟨bb,bf+k*3+2,none⟩=some (.slice b2 l2 m2)) ((refine HK.out _ ?_;first | assumption | exact (Below.refl _ _).drew))
    (first | (go_at_call 27;refine (HE.out 1).mono ?_;rintro e w1 ⟨rfl,H1⟩))
   all_goals
    have H2:Hid (Below wx.heap.size wx w1):=HR.out.trans (H1.mono HR.out.size)
    clear H1
    go_wp2
    go_roundw
    case rel=>exact ⟨k+1,by omega,by go_num,H2⟩
    case measure=>simp [intOf];omega
  ·have hlt2:¬ (k:Int)<n:=by omega
   go_wp2
   go_ret
   exact ⟨rfl,HR.out⟩
end Go.Proofs.YtcfdmbkiinjmaaaGreat.eq2
namespace Go.Proofs.YtcfdmbkiinjmaaaGreat.eq3
open mem grp eq1 eq2
set_option maxRecDepth 40000 in
set_option maxHeartbeats 4000000 in
theorem eqMsgS_any (w:World) (n:Nat) (ao:Option Addr) (ac:Nat) (bo:Option Addr) (bc:Nat) (h1:n≤ac∧ac≤maxLen∧n≤bc∧bc≤maxLen)
  (h:∀ k,k<n→∃ (ab af bb bf:Nat) (x0:Int) (x1:Int) (x2:Int) (x3:Int) (x4:Int) (x5:Int) (x6:Int) (x7:Bool) (a8:Option Addr) (n8 k8:Nat) (b8:Option Addr) (l8 m8:Nat),ao=some ⟨ab,af,none⟩∧bo=some ⟨bb,bf,none⟩∧(w.cell? ⟨ab,af+k*9,none⟩=some (.int .i64 x0)∧w.cell? ⟨ab,af+k*9+1,none⟩=some (.int .i64 x1)∧w.cell? ⟨ab,af+k*9+2,none⟩=some (.int .i64 x2)∧w.cell? ⟨ab,af+k*9+3,none⟩=some (.int .i64 x3)∧w.cell? ⟨ab,af+k*9+4,none⟩=some (.int .i64 x4)∧w.cell? ⟨ab,af+k*9+5,none⟩=some (.int .i64 x5)∧w.cell? ⟨ab,af+k*9+6,none⟩=some (.int .i64 x6)∧w.cell? ⟨ab,af+k*9+7,none⟩=some (.bool x7)∧w.cell? ⟨ab,af+k*9+8,none⟩=some (.slice a8 n8 k8))∧(w.cell? ⟨bb,bf+k*9,none⟩=some (.int .i64 x0)∧w.cell? ⟨bb,bf+k*9+1,none⟩=some (.int .i64 x1)∧w.cell? ⟨bb,bf+k*9+2,none⟩=some (.int .i64 x2)∧w.cell? ⟨bb,bf+k*9+3,none⟩=some (.int .i64 x3)∧w.cell? ⟨bb,bf+k*9+4,none⟩=some (.int .i64 x4)∧w.cell? ⟨bb,bf+k*9+5,none⟩=some (.int .i64 x5)∧w.cell? ⟨bb,bf+k*9+6,none⟩=some (.int .i64 x6)∧w.cell? ⟨bb,bf+k*9+7,none⟩=some (.bool x7)∧w.cell? ⟨bb,bf+k*9+8,none⟩=some (.slice b8 l8 m8))∧Eqs 49 w (.agg #[.int .i64 x0,.int .i64 x1,.int .i64 x2,.int .i64 x3,.int .i64 x4,.int .i64 x5,.int .i64 x6,.bool x7,.slice a8 n8 k8]) (.agg #[.int .i64 x0,.int .i64 x1,.int .i64 x2,.int .i64 x3,.int .i64 x4,.int .i64 x5,.int .i64 x6,.bool x7,.slice b8 l8 m8])) :
  Eqs 25 w (.slice ao n ac) (.slice bo n bc):=fun wx hx=>by
 obtain ⟨hc1,hc2,hc3,hc4⟩:=h1
 unfold maxLen at hc2 hc4
 have H:=hide h
 have HX:=hide hx
 have H0:Hid (Below wx.heap.size wx wx):=Below.refl _ _
 have hne:(((n:Nat):Int) != ((n:Nat):Int))=false:=by simp
 clear h hx
 go_enter Tryz.func25,Tryz.ntmps25
 go_wp2
 go_loopw [5] (fun i wr=>∃ k:Nat,k≤n∧i=.int .i64 k∧Hid (Below wx.heap.size wx wr)) (fun i _=>n-(intOf i).toNat)
 case atStart=>exact ⟨0,by omega,rfl,H0⟩
 case round =>
  obtain ⟨k,hk,rfl,HR⟩:=hrel
  by_cases hlt:k<n
  ·have hltI:(k:Int)<n:=by omega
   obtain ⟨ab,af,bb,bf,x0,x1,x2,x3,x4,x5,x6,x7,a8,n8,k8,b8,l8,m8,rfl,rfl,⟨c0,c1,c2,c3,c4,c5,c6,c7,c8⟩,⟨d0,d1,d2,d3,d4,d5,d6,d7,d8⟩,hE⟩:=H.out k hlt
   have HK:Hid (∀ w',Below wr.heap.size wr w'→(w'.cell? ⟨ab,af+k*9,none⟩=some (.int .i64 x0)∧w'.cell? ⟨ab,af+k*9+1,none⟩=some (.int .i64 x1)∧w'.cell? ⟨ab,af+k*9+2,none⟩=some (.int .i64 x2)∧w'.cell? ⟨ab,af+k*9+3,none⟩=some (.int .i64 x3)∧w'.cell? ⟨ab,af+k*9+4,none⟩=some (.int .i64 x4)∧w'.cell? ⟨ab,af+k*9+5,none⟩=some (.int .i64 x5)∧w'.cell? ⟨ab,af+k*9+6,none⟩=some (.int .i64 x6)∧w'.cell? ⟨ab,af+k*9+7,none⟩=some (.bool x7)∧w'.cell? ⟨ab,af+k*9+8,none⟩=some (.slice a8 n8 k8))∧w'.cell? ⟨bb,bf+k*9,none⟩=some (.int .i64 x0)∧w'.cell? ⟨bb,bf+k*9+1,none⟩=some (.int .i64 x1)∧w'.cell? ⟨bb,bf+k*9+2,none⟩=some (.int .i64 x2)∧w'.cell? ⟨bb,bf+k*9+3,none⟩=some (.int .i64 x3)∧w'.cell? ⟨bb,bf+k*9+4,none⟩=some (.int .i64 x4)∧w'.cell? ⟨bb,bf+k*9+5,none⟩=some (.int .i64 x5)∧w'.cell? ⟨bb,bf+k*9+6,none⟩=some (.int .i64 x6)∧w'.cell? ⟨bb,bf+k*9+7,none⟩=some (.bool x7)∧w'.cell? ⟨bb,bf+k*9+8,none⟩=some (.slice b8 l8 m8)):=fun w' hb=>by
    have hb':Below w.heap.size w w':=(HX.out.trans (HR.out.mono HX.out.size)).trans (hb.mono (Nat.le_trans HX.out.size HR.out.size))
    exact ⟨⟨cell_at hb' c0 (Nat.le_refl _),cell_at hb' c1 (Nat.le_refl _),cell_at hb' c2 (Nat.le_refl _),cell_at hb' c3 (Nat.le_refl _),cell_at hb' c4 (Nat.le_refl _),cell_at hb' c5 (Nat.le_refl _),cell_at hb' c6 (Nat.le_refl _),cell_at hb' c7 (Nat.le_refl _),cell_at hb' c8 (Nat.le_refl _)⟩,cell_at hb' d0 (Nat.le_refl _),cell_at hb' d1 (Nat.le_refl _),cell_at hb' d2 (Nat.le_refl _),cell_at hb' d3 (Nat.le_refl _),cell_at hb' d4 (Nat.le_refl _),cell_at hb' d5 (Nat.le_refl _),cell_at hb' d6 (Nat.le_refl _),cell_at hb' d7 (Nat.le_refl _),cell_at hb' d8 (Nat.le_refl _)⟩
   have HE:Hid (∀ n,Calls Tryz.prog 49 #[.agg #[.int .i64 x0,.int .i64 x1,.int .i64 x2,.int .i64 x3,.int .i64 x4,.int .i64 x5,.int .i64 x6,.bool x7,.slice a8 n8 k8],.agg #[.int .i64 x0,.int .i64 x1,.int .i64 x2,.int .i64 x3,.int .i64 x4,.int .i64 x5,.int .i64 x6,.bool x7,.slice b8 l8 m8]] (wr.drewN n) fun e w''=>e=.returned (.bool true)∧Below wr.heap.size wr w''):=fun n=>by
    have hq:Below wr.heap.size wr (wr.drewN n):=bel_drewN (Below.refl _ _) n
    refine (hE (wr.drewN n) ((HX.out.trans (HR.out.mono HX.out.size)).trans (hq.mono (Nat.le_trans HX.out.size HR.out.size)))).mono ?_
    rintro e w'' ⟨rfl,hb'⟩
    exact ⟨rfl,hq.trans hb'⟩
   obtain ⟨⟨e0,e1,e2,e3,e4,e5,e6,e7,e8⟩,g0,g1,g2,g3,g4,g5,g6,g7,g8⟩:=HK.out wr (Below.refl _ _)
   clear c0 c1 c2 c3 c4 c5 c6 c7 c8 d0 d1 d2 d3 d4 d5 d6 d7 d8 hE
   go_wp2
   go_region_held_law (fun w'=>(w'.cell? ⟨ab,af+k*9,none⟩=some (.int .i64 x0)∧w'.cell? ⟨ab,af+k*9+1,none⟩=some (.int .i64 x1)∧w'.cell? ⟨ab,af+k*9+2,none⟩=some (.int .i64 x2)∧w'.cell? ⟨ab,af+k*9+3,none⟩=some (.int .i64 x3)∧w'.cell? ⟨ab,af+k*9+4,none⟩=some (.int .i64 x4)∧w'.cell? ⟨ab,af+k*9+5,none⟩=some (.int .i64 x5)∧w'.cell? ⟨ab,af+k*9+6,none⟩=some (.int .i64 x6)∧w'.cell? ⟨ab,af+k*9+7,none⟩=some (.bool x7)∧w'.cell? ⟨ab,af+k*9+8,none⟩=some (.slice a8 n8 k8))∧w'.cell? ⟨bb,bf+k*9,none⟩=some (.int .i64 x0)∧w'.cell? ⟨bb,bf+k*9+1,none⟩=some (.int .i64 x1)∧w'.cell? ⟨bb,bf+k*9+2,none⟩=some (.int .i64 x2)∧w'.cell? ⟨bb,bf+k*9+3,none⟩=some (.int .i64 x3)∧w'.cell? ⟨bb,bf+k*9+4,none⟩=some (.int .i64 x4)∧w'.cell? ⟨bb,bf+k*9+5,none⟩=some (.int .i64 x5)∧w'.cell? ⟨bb,bf+k*9+6,none⟩=some (.int .i64 x6)∧w'.cell? ⟨bb,bf+k*9+7,none⟩=some (.bool x7)∧w'.cell? ⟨bb,bf+k*9+8,none⟩=some (.slice b8 l8 m8)) ((refine HK.out _ ?_;first | assumption | exact (Below.refl _ _).drew))
    (first | (go_at_call 49;refine (HE.out 1).mono ?_;rintro e w1 ⟨rfl,H1⟩))
   all_goals
    have H2:Hid (Below wx.heap.size wx w1):=HR.out.trans (H1.mono HR.out.size)
    clear H1
    go_wp2
    go_roundw
    case rel=>exact ⟨k+1,by omega,by go_num,H2⟩
    case measure=>simp [intOf];omega
  ·have hlt2:¬ (k:Int)<n:=by omega
   go_wp2
   go_ret
   exact ⟨rfl,HR.out⟩
set_option maxRecDepth 40000 in
set_option maxHeartbeats 4000000 in
theorem eqPeerS_any (w:World) (n:Nat) (ao:Option Addr) (ac:Nat) (bo:Option Addr) (bc:Nat) (h1:n≤ac∧ac≤maxLen∧n≤bc∧bc≤maxLen)
  (h:∀ k,k<n→∃ (ab af bb bf:Nat) (x0:Bool) (x1:Int) (x2:Int) (x3:Int) (x4:Int) (a5:Option Addr) (n5 k5:Nat) (b5:Option Addr) (l5 m5:Nat) (a6:Option Addr) (n6 k6:Nat) (b6:Option Addr) (l6 m6:Nat) (a7:Option Addr) (n7 k7:Nat) (b7:Option Addr) (l7 m7:Nat) (a8:Option Addr) (n8 k8:Nat) (b8:Option Addr) (l8 m8:Nat),ao=some ⟨ab,af,none⟩∧bo=some ⟨bb,bf,none⟩∧(w.cell? ⟨ab,af+k*9,none⟩=some (.bool x0)∧w.cell? ⟨ab,af+k*9+1,none⟩=some (.int .i64 x1)∧w.cell? ⟨ab,af+k*9+2,none⟩=some (.int .i64 x2)∧w.cell? ⟨ab,af+k*9+3,none⟩=some (.int .i64 x3)∧w.cell? ⟨ab,af+k*9+4,none⟩=some (.int .i64 x4)∧w.cell? ⟨ab,af+k*9+5,none⟩=some (.slice a5 n5 k5)∧w.cell? ⟨ab,af+k*9+6,none⟩=some (.slice a6 n6 k6)∧w.cell? ⟨ab,af+k*9+7,none⟩=some (.slice a7 n7 k7)∧w.cell? ⟨ab,af+k*9+8,none⟩=some (.slice a8 n8 k8))∧(w.cell? ⟨bb,bf+k*9,none⟩=some (.bool x0)∧w.cell? ⟨bb,bf+k*9+1,none⟩=some (.int .i64 x1)∧w.cell? ⟨bb,bf+k*9+2,none⟩=some (.int .i64 x2)∧w.cell? ⟨bb,bf+k*9+3,none⟩=some (.int .i64 x3)∧w.cell? ⟨bb,bf+k*9+4,none⟩=some (.int .i64 x4)∧w.cell? ⟨bb,bf+k*9+5,none⟩=some (.slice b5 l5 m5)∧w.cell? ⟨bb,bf+k*9+6,none⟩=some (.slice b6 l6 m6)∧w.cell? ⟨bb,bf+k*9+7,none⟩=some (.slice b7 l7 m7)∧w.cell? ⟨bb,bf+k*9+8,none⟩=some (.slice b8 l8 m8))∧Eqs 48 w (.agg #[.bool x0,.int .i64 x1,.int .i64 x2,.int .i64 x3,.int .i64 x4,.slice a5 n5 k5,.slice a6 n6 k6,.slice a7 n7 k7,.slice a8 n8 k8]) (.agg #[.bool x0,.int .i64 x1,.int .i64 x2,.int .i64 x3,.int .i64 x4,.slice b5 l5 m5,.slice b6 l6 m6,.slice b7 l7 m7,.slice b8 l8 m8])) :
  Eqs 24 w (.slice ao n ac) (.slice bo n bc):=fun wx hx=>by
 obtain ⟨hc1,hc2,hc3,hc4⟩:=h1
 unfold maxLen at hc2 hc4
 have H:=hide h
 have HX:=hide hx
 have H0:Hid (Below wx.heap.size wx wx):=Below.refl _ _
 have hne:(((n:Nat):Int) != ((n:Nat):Int))=false:=by simp
 clear h hx
 go_enter Tryz.func24,Tryz.ntmps24
 go_wp2
 go_loopw [5] (fun i wr=>∃ k:Nat,k≤n∧i=.int .i64 k∧Hid (Below wx.heap.size wx wr)) (fun i _=>n-(intOf i).toNat)
 case atStart=>exact ⟨0,by omega,rfl,H0⟩
 case round =>
  obtain ⟨k,hk,rfl,HR⟩:=hrel
  by_cases hlt:k<n
  ·have hltI:(k:Int)<n:=by omega
   obtain ⟨ab,af,bb,bf,x0,x1,x2,x3,x4,a5,n5,k5,b5,l5,m5,a6,n6,k6,b6,l6,m6,a7,n7,k7,b7,l7,m7,a8,n8,k8,b8,l8,m8,rfl,rfl,⟨c0,c1,c2,c3,c4,c5,c6,c7,c8⟩,⟨d0,d1,d2,d3,d4,d5,d6,d7,d8⟩,hE⟩:=H.out k hlt
   have HK:Hid (∀ w',Below wr.heap.size wr w'→(w'.cell? ⟨ab,af+k*9,none⟩=some (.bool x0)∧w'.cell? ⟨ab,af+k*9+1,none⟩=some (.int .i64 x1)∧w'.cell? ⟨ab,af+k*9+2,none⟩=some (.int .i64 x2)∧w'.cell? ⟨ab,af+k*9+3,none⟩=some (.int .i64 x3)∧w'.cell? ⟨ab,af+k*9+4,none⟩=some (.int .i64 x4)∧w'.cell? ⟨ab,af+k*9+5,none⟩=some (.slice a5 n5 k5)∧w'.cell? ⟨ab,af+k*9+6,none⟩=some (.slice a6 n6 k6)∧w'.cell? ⟨ab,af+k*9+7,none⟩=some (.slice a7 n7 k7)∧w'.cell? ⟨ab,af+k*9+8,none⟩=some (.slice a8 n8 k8))∧w'.cell? ⟨bb,bf+k*9,none⟩=some (.bool x0)∧w'.cell? ⟨bb,bf+k*9+1,none⟩=some (.int .i64 x1)∧w'.cell? ⟨bb,bf+k*9+2,none⟩=some (.int .i64 x2)∧w'.cell? ⟨bb,bf+k*9+3,none⟩=some (.int .i64 x3)∧w'.cell? ⟨bb,bf+k*9+4,none⟩=some (.int .i64 x4)∧w'.cell? ⟨bb,bf+k*9+5,none⟩=some (.slice b5 l5 m5)∧w'.cell? ⟨bb,bf+k*9+6,none⟩=some (.slice b6 l6 m6)∧w'.cell? ⟨bb,bf+k*9+7,none⟩=some (.slice b7 l7 m7)∧w'.cell? ⟨bb,bf+k*9+8,none⟩=some (.slice b8 l8 m8)):=fun w' hb=>by
    have hb':Below w.heap.size w w':=(HX.out.trans (HR.out.mono HX.out.size)).trans (hb.mono (Nat.le_trans HX.out.size HR.out.size))
    exact ⟨⟨cell_at hb' c0 (Nat.le_refl _),cell_at hb' c1 (Nat.le_refl _),cell_at hb' c2 (Nat.le_refl _),cell_at hb' c3 (Nat.le_refl _),cell_at hb' c4 (Nat.le_refl _),cell_at hb' c5 (Nat.le_refl _),cell_at hb' c6 (Nat.le_refl _),cell_at hb' c7 (Nat.le_refl _),cell_at hb' c8 (Nat.le_refl _)⟩,cell_at hb' d0 (Nat.le_refl _),cell_at hb' d1 (Nat.le_refl _),cell_at hb' d2 (Nat.le_refl _),cell_at hb' d3 (Nat.le_refl _),cell_at hb' d4 (Nat.le_refl _),cell_at hb' d5 (Nat.le_refl _),cell_at hb' d6 (Nat.le_refl _),cell_at hb' d7 (Nat.le_refl _),cell_at hb' d8 (Nat.le_refl _)⟩
   have HE:Hid (∀ n,Calls Tryz.prog 48 #[.agg #[.bool x0,.int .i64 x1,.int .i64 x2,.int .i64 x3,.int .i64 x4,.slice a5 n5 k5,.slice a6 n6 k6,.slice a7 n7 k7,.slice a8 n8 k8],.agg #[.bool x0,.int .i64 x1,.int .i64 x2,.int .i64 x3,.int .i64 x4,.slice b5 l5 m5,.slice b6 l6 m6,.slice b7 l7 m7,.slice b8 l8 m8]] (wr.drewN n) fun e w''=>e=.returned (.bool true)∧Below wr.heap.size wr w''):=fun n=>by
    have hq:Below wr.heap.size wr (wr.drewN n):=bel_drewN (Below.refl _ _) n
    refine (hE (wr.drewN n) ((HX.out.trans (HR.out.mono HX.out.size)).trans (hq.mono (Nat.le_trans HX.out.size HR.out.size)))).mono ?_
    rintro e w'' ⟨rfl,hb'⟩
    exact ⟨rfl,hq.trans hb'⟩
   obtain ⟨⟨e0,e1,e2,e3,e4,e5,e6,e7,e8⟩,g0,g1,g2,g3,g4,g5,g6,g7,g8⟩:=HK.out wr (Below.refl _ _)
   clear c0 c1 c2 c3 c4 c5 c6 c7 c8 d0 d1 d2 d3 d4 d5 d6 d7 d8 hE
   go_wp2
   go_region_held_law (fun w'=>(w'.cell? ⟨ab,af+k*9,none⟩=some (.bool x0)∧w'.cell? ⟨ab,af+k*9+1,none⟩=some (.int .i64 x1)∧w'.cell? ⟨ab,af+k*9+2,none⟩=some (.int .i64 x2)∧w'.cell? ⟨ab,af+k*9+3,none⟩=some (.int .i64 x3)∧w'.cell? ⟨ab,af+k*9+4,none⟩=some (.int .i64 x4)∧w'.cell? ⟨ab,af+k*9+5,none⟩=some (.slice a5 n5 k5)∧w'.cell? ⟨ab,af+k*9+6,none⟩=some (.slice a6 n6 k6)∧w'.cell? ⟨ab,af+k*9+7,none⟩=some (.slice a7 n7 k7)∧w'.cell? ⟨ab,af+k*9+8,none⟩=some (.slice a8 n8 k8))∧w'.cell? ⟨bb,bf+k*9,none⟩=some (.bool x0)∧w'.cell? ⟨bb,bf+k*9+1,none⟩=some (.int .i64 x1)∧w'.cell? ⟨bb,bf+k*9+2,none⟩=some (.int .i64 x2)∧w'.cell? ⟨bb,bf+k*9+3,none⟩=some (.int .i64 x3)∧w'.cell? ⟨bb,bf+k*9+4,none⟩=some (.int .i64 x4)∧w'.cell? ⟨bb,bf+k*9+5,none⟩=some (.slice b5 l5 m5)∧w'.cell? ⟨bb,bf+k*9+6,none⟩=some (.slice b6 l6 m6)∧w'.cell? ⟨bb,bf+k*9+7,none⟩=some (.slice b7 l7 m7)∧w'.cell? ⟨bb,bf+k*9+8,none⟩=some (.slice b8 l8 m8)) ((refine HK.out _ ?_;first | assumption | exact (Below.refl _ _).drew))
    (first | (go_at_call 48;refine (HE.out 1).mono ?_;rintro e w1 ⟨rfl,H1⟩))
   all_goals
    have H2:Hid (Below wx.heap.size wx w1):=HR.out.trans (H1.mono HR.out.size)
    clear H1
    go_wp2
    go_roundw
    case rel=>exact ⟨k+1,by omega,by go_num,H2⟩
    case measure=>simp [intOf];omega
  ·have hlt2:¬ (k:Int)<n:=by omega
   go_wp2
   go_ret
   exact ⟨rfl,HR.out⟩
set_option maxRecDepth 20000 in
set_option maxHeartbeats 1000000 in
theorem eqCluster_any (w:World) (a0:Option Addr) (n0 k0:Nat) (b0:Option Addr) (l0 m0:Nat) (a1:Option Addr) (n1 k1:Nat) (b1:Option Addr) (l1 m1:Nat) (a2:Option Addr) (n2 k2:Nat) (b2:Option Addr) (l2 m2:Nat) (x3:Bool) (h0:Eqs 24 w (.slice a0 n0 k0) (.slice b0 l0 m0)) (h1:Eqs 25 w (.slice a1 n1 k1) (.slice b1 l1 m1)) (h2:Eqs 26 w (.slice a2 n2 k2) (.slice b2 l2 m2)):Eqs 8 w (.agg #[.slice a0 n0 k0,.slice a1 n1 k1,.slice a2 n2 k2,.bool x3]) (.agg #[.slice b0 l0 m0,.slice b1 l1 m1,.slice b2 l2 m2,.bool x3]):=fun wx hx=>by
 obtain ⟨W,hW⟩:∃ W,(wx.alloc (.cells #[.slice a0 n0 k0,.slice a1 n1 k1,.slice a2 n2 k2,.bool x3] 28)).alloc (.cells #[.slice b0 l0 m0,.slice b1 l1 m1,.slice b2 l2 m2,.bool x3] 28)=W:=⟨_,rfl⟩
 have bW:Below wx.heap.size wx W:=by rw [←hW];exact ((Below.refl _ _).alloc (Nat.le_refl _) _).alloc (by simp) _
 have hx1:W.heap[wx.heap.size]?=some (.cells #[.slice a0 n0 k0,.slice a1 n1 k1,.slice a2 n2 k2,.bool x3] 28 (0,0)):=by rw [←hW,Below.heap_alloc _ _ _ (by simp)];exact heap_alloc_new _ _
 have hx2:W.heap[wx.heap.size+1]?=some (.cells #[.slice b0 l0 m0,.slice b1 l1 m1,.slice b2 l2 m2,.bool x3] 28 (0,0)):=by
  rw [←hW]
  have:=heap_alloc_new (wx.alloc (.cells #[.slice a0 n0 k0,.slice a1 n1 k1,.slice a2 n2 k2,.bool x3] 28)) (.cells #[.slice b0 l0 m0,.slice b1 l1 m1,.slice b2 l2 m2,.bool x3] 28)
  rwa [World.size_alloc] at this
 have c0:W.cell? ⟨wx.heap.size,0,none⟩=some (.slice a0 n0 k0):=cell_of hx1 rfl
 have d0:W.cell? ⟨wx.heap.size+1,0,none⟩=some (.slice b0 l0 m0):=cell_of hx2 rfl
 have c1:W.cell? ⟨wx.heap.size,1,none⟩=some (.slice a1 n1 k1):=cell_of hx1 rfl
 have d1:W.cell? ⟨wx.heap.size+1,1,none⟩=some (.slice b1 l1 m1):=cell_of hx2 rfl
 have c2:W.cell? ⟨wx.heap.size,2,none⟩=some (.slice a2 n2 k2):=cell_of hx1 rfl
 have d2:W.cell? ⟨wx.heap.size+1,2,none⟩=some (.slice b2 l2 m2):=cell_of hx2 rfl
 have c3:W.cell? ⟨wx.heap.size,3,none⟩=some (.bool x3):=cell_of hx1 rfl
 have d3:W.cell? ⟨wx.heap.size+1,3,none⟩=some (.bool x3):=cell_of hx2 rfl
 have HK:Hid (∀ wr,Below W.heap.size W wr→wr.cell? ⟨wx.heap.size,0,none⟩=some (.slice a0 n0 k0)∧wr.cell? ⟨wx.heap.size+1,0,none⟩=some (.slice b0 l0 m0)∧wr.cell? ⟨wx.heap.size,1,none⟩=some (.slice a1 n1 k1)∧wr.cell? ⟨wx.heap.size+1,1,none⟩=some (.slice b1 l1 m1)∧wr.cell? ⟨wx.heap.size,2,none⟩=some (.slice a2 n2 k2)∧wr.cell? ⟨wx.heap.size+1,2,none⟩=some (.slice b2 l2 m2)∧wr.cell? ⟨wx.heap.size,3,none⟩=some (.bool x3)∧wr.cell? ⟨wx.heap.size+1,3,none⟩=some (.bool x3)):=fun wr hr=>⟨cell_at hr c0 (Nat.le_refl _),cell_at hr d0 (Nat.le_refl _),cell_at hr c1 (Nat.le_refl _),cell_at hr d1 (Nat.le_refl _),cell_at hr c2 (Nat.le_refl _),cell_at hr d2 (Nat.le_refl _),cell_at hr c3 (Nat.le_refl _),cell_at hr d3 (Nat.le_refl _)⟩
 have H0:Hid (∀ wr,Below W.heap.size W wr→Calls Tryz.prog 24 #[.slice a0 n0 k0,.slice b0 l0 m0] wr fun e w'=>e=.returned (.bool true)∧Below W.heap.size W w'):=fun wr hr=>((h0.below hx) wr (bW.trans (hr.mono bW.size))).mono fun e w' h=>⟨h.1,hr.trans (h.2.mono hr.size)⟩
 have H1:Hid (∀ wr,Below W.heap.size W wr→Calls Tryz.prog 25 #[.slice a1 n1 k1,.slice b1 l1 m1] wr fun e w'=>e=.returned (.bool true)∧Below W.heap.size W w'):=fun wr hr=>((h1.below hx) wr (bW.trans (hr.mono bW.size))).mono fun e w' h=>⟨h.1,hr.trans (h.2.mono hr.size)⟩
 have H2:Hid (∀ wr,Below W.heap.size W wr→Calls Tryz.prog 26 #[.slice a2 n2 k2,.slice b2 l2 m2] wr fun e w'=>e=.returned (.bool true)∧Below W.heap.size W w'):=fun wr hr=>((h2.below hx) wr (bW.trans (hr.mono bW.size))).mono fun e w' h=>⟨h.1,hr.trans (h.2.mono hr.size)⟩
 have HB:=hide bW
 have HW0:Hid (Below W.heap.size W W):=Below.refl _ _
 have e3:(x3 != x3)=false:=by simp
 clear h0 h1 h2 hx1 hx2 bW hx
 go_enter Tryz.func8,Tryz.ntmps8
 go_wp2_with fail
 (try rw [hW])
 refine (H0.out _ HW0.out).mono ?_
 rintro e w0 ⟨rfl,hb0⟩
 have HB0:=hide hb0
 obtain ⟨_c0_0,_d0_0,_c1_0,_d1_0,_c2_0,_d2_0,_c3_0,_d3_0⟩:=HK.out _ hb0
 clear hb0
 go_wp2_with fail
 skip
 refine (H1.out _ HB0.out).mono ?_
 rintro e w1 ⟨rfl,hb1⟩
 have HB1:=hide hb1
 obtain ⟨_c0_1,_d0_1,_c1_1,_d1_1,_c2_1,_d2_1,_c3_1,_d3_1⟩:=HK.out _ hb1
 clear hb1
 go_wp2_with fail
 skip
 refine (H2.out _ HB1.out).mono ?_
 rintro e w2 ⟨rfl,hb2⟩
 have HB2:=hide hb2
 obtain ⟨_c0_2,_d0_2,_c1_2,_d1_2,_c2_2,_d2_2,_c3_2,_d3_2⟩:=HK.out _ hb2
 clear hb2
 go_wp2
 go_ret
 exact ⟨rfl,HB.out.trans (HB2.out.mono HB.out.size)⟩
end Go.Proofs.YtcfdmbkiinjmaaaGreat.eq3
namespace Go.Proofs.YtcfdmbkiinjmaaaGreat.eqv
open Raft mem grp eq1 eq2 eq3 ntold gtold gt8 crun
theorem row_plain {M:Fz} {w:World} {v:Value} {n:Nat} {α:Type} (f:α→Value) (l:List α) (d:α) (hI:In M w) (h:RowM M v n 1 (l.map f)) (hn:n=l.length):∃ ao cap,v=.slice ao l.length cap∧l.length≤cap∧cap≤maxLen∧(0<l.length→∃ b o,ao=some ⟨b,o,none⟩∧∀ k,k<l.length→w.cell? ⟨b,o+k,none⟩=some (f (l.getD k d))):=by
 subst hn
 obtain ⟨ao,cap,rfl,h1,h2,h3,h4,h5⟩:=h
 refine ⟨ao,cap,rfl,h1,h2,fun hp => ?_⟩
 obtain ⟨b,o,rfl,hc⟩:=h5 hp
 refine ⟨b,o,rfl,fun k hk=>hI.cell (hc k _ ?_)⟩
 rw [List.getElem?_map,List.getElem?_eq_getElem hk,List.getD_eq_getElem?_getD,List.getElem?_eq_getElem hk]
 rfl
theorem eqBytes {M M':Fz} {w:World} {a b:Value} {xs:List Int} (hI:In M w) (hJ:In M' w) (ha:BytesM M a xs) (hb:BytesM M' b xs):Eqs 51 w a b:=by
 obtain ⟨ao,ac,rfl,h1,h2,h3⟩:=row_plain (Value.int .u8) xs 0 hI ha.1 rfl
 obtain ⟨bo,bc,rfl,g1,g2,g3⟩:=row_plain (Value.int .u8) xs 0 hJ hb.1 rfl
 exact eqByteS_any w ao ac bo bc xs ⟨h1,h2,g1,g2⟩ 0 h3 g3
theorem eqInts {M M':Fz} {w:World} {a b:Value} {n:Nat} {xs:List Int} (hI:In M w) (hJ:In M' w) (hn:n=xs.length) (ha:RowM M a n 1 (xs.map (Value.int .i64))) (hb:RowM M' b n 1 (xs.map (Value.int .i64))):Eqs 9 w a b:=by
 obtain ⟨ao,ac,rfl,h1,h2,h3⟩:=row_plain (Value.int .i64) xs 0 hI ha hn
 obtain ⟨bo,bc,rfl,g1,g2,g3⟩:=row_plain (Value.int .i64) xs 0 hJ hb hn
 exact eqIntS_any w ao ac bo bc xs ⟨h1,h2,g1,g2⟩ 0 h3 g3
theorem eqNats {M M':Fz} {w:World} {a b:Value} {xs:List Nat} (hI:In M w) (hJ:In M' w) (ha:RowM M a xs.length 1 (xs.map (fun (n:Nat)=>Value.int .i64 (n:Int)))) (hb:RowM M' b xs.length 1 (xs.map (fun (n:Nat)=>Value.int .i64 (n:Int)))):Eqs 9 w a b:=by
 have e:xs.map (fun (n:Nat)=>Value.int .i64 (n:Int))=(xs.map (fun (n:Nat)=>(n:Int))).map (Value.int .i64):=by rw [List.map_map];rfl
 rw [e] at ha hb
 exact eqInts hI hJ (by simp) ha hb
theorem eqBools {M M':Fz} {w:World} {a b:Value} {xs:List Bool} (hI:In M w) (hJ:In M' w) (ha:RowM M a xs.length 1 (xs.map Value.bool)) (hb:RowM M' b xs.length 1 (xs.map Value.bool)):Eqs 73 w a b:=by
 obtain ⟨ao,ac,rfl,h1,h2,h3⟩:=row_plain Value.bool xs false hI ha rfl
 obtain ⟨bo,bc,rfl,g1,g2,g3⟩:=row_plain Value.bool xs false hJ hb rfl
 exact eqBoolS_any w ao ac bo bc xs ⟨h1,h2,g1,g2⟩ false h3 g3
theorem sliceOf {M:Fz} {v:Value} {n sz:Nat} {xs:List Value} (h:RowM M v n sz xs):∃ o c,v=.slice o n c:=by
 obtain ⟨ao,cap,rfl,_⟩:=h
 exact ⟨ao,cap,rfl⟩
theorem eqRecs {M M':Fz} {w:World} {a b:Value} {l:List Rc} (hI:In M w) (hJ:In M' w) (ha:RecsM M a l) (hb:RecsM M' b l):Eqs 26 w a b:=by
 obtain ⟨us,e1,⟨ao,ac,rfl,h1,h2,h3,h4,h5⟩,hd⟩:=ha
 obtain ⟨vs,e2,⟨bo,bc,rfl,g1,g2,g3,g4,g5⟩,gd⟩:=hb
 have hl:us.length=vs.length:=by have:=congrArg List.length (e1.trans e2.symm);simpa using this
 rw [←hl] at g1 ⊢
 refine eqRecS_any w us.length ao ac bo bc ⟨h1,h2,g1,g2⟩ (fun k hk => ?_)
 obtain ⟨x,hx⟩:∃ x,us[k]?=some x:=⟨_,List.getElem?_eq_getElem hk⟩
 obtain ⟨y,hy⟩:∃ y,vs[k]?=some y:=⟨_,List.getElem?_eq_getElem (by omega)⟩
 have er:x.r=y.r:=by
  have h6:(us.map (·.r))[k]?=(vs.map (·.r))[k]? := by rw [e1,e2]
  rw [List.getElem?_map,List.getElem?_map,hx,hy] at h6
  simpa using h6
 obtain ⟨ab,af,rfl,hc⟩:=h5 (by omega)
 obtain ⟨bb,bf,rfl,gc⟩:=g5 (by omega)
 have hdx:=(hd x (List.mem_of_getElem? hx)).1
 have hdy:=(gd y (List.mem_of_getElem? hy)).1
 obtain ⟨o2,c2,ex⟩:=sliceOf hdx.1
 obtain ⟨o3,c3,ey⟩:=sliceOf hdy.1
 have hf:=fun i hi=>flat_get recCells 3 recCells_len us k i x hx hi
 have gf:=fun i hi=>flat_get recCells 3 recCells_len vs k i y hy hi
 refine ⟨ab,af,bb,bf,x.r.term,x.r.index,o2,x.r.data.length,c2,o3,y.r.data.length,c3,rfl,rfl,⟨?_,?_,?_⟩,⟨?_,?_,?_⟩,eqRec_any w _ _ _ _ _ _ _ _ ?_⟩
 ·exact hI.cell (hc (k*3+0) _ (by rw [hf 0 (by decide)];rfl))
 ·exact hI.cell (hc (k*3+1) _ (by rw [hf 1 (by decide)];rfl))
 ·rw [←ex];exact hI.cell (hc (k*3+2) _ (by rw [hf 2 (by decide)];rfl))
 ·rw [er];exact hJ.cell (gc (k*3+0) _ (by rw [gf 0 (by decide)];rfl))
 ·rw [er];exact hJ.cell (gc (k*3+1) _ (by rw [gf 1 (by decide)];rfl))
 ·rw [←ey];exact hJ.cell (gc (k*3+2) _ (by rw [gf 2 (by decide)];rfl))
 ·rw [←ex,←ey];exact eqBytes hI hJ hdx (by rw [er];exact hdy)
theorem eqEvents {M M':Fz} {w:World} {a b:Value} {us vs:List EV} (hI:In M w) (hJ:In M' w) (ha:EvsV M a us) (hb:EvsV M' b vs) (e:us.map (·.e)=vs.map (·.e)):Eqs 10 w a b:=by
 obtain ⟨⟨ao,ac,rfl,h1,h2,h3,h4,h5⟩,hd⟩:=ha
 obtain ⟨⟨bo,bc,rfl,g1,g2,g3,g4,g5⟩,gd⟩:=hb
 have hl:us.length=vs.length:=by have:=congrArg List.length e;simpa using this
 rw [←hl] at g1 ⊢
 refine eqEventS_any w us.length ao ac bo bc ⟨h1,h2,g1,g2⟩ (fun k hk => ?_)
 obtain ⟨x,hx⟩:∃ x,us[k]?=some x:=⟨_,List.getElem?_eq_getElem hk⟩
 obtain ⟨y,hy⟩:∃ y,vs[k]?=some y:=⟨_,List.getElem?_eq_getElem (by omega)⟩
 have er:x.e=y.e:=by
  have h6:(us.map (·.e))[k]?=(vs.map (·.e))[k]? := by rw [e]
  rw [List.getElem?_map,List.getElem?_map,hx,hy] at h6
  simpa using h6
 obtain ⟨ab,af,rfl,hc⟩:=h5 (by omega)
 obtain ⟨bb,bf,rfl,gc⟩:=g5 (by omega)
 have hdx:=hd x (List.mem_of_getElem? hx)
 have hdy:=gd y (List.mem_of_getElem? hy)
 obtain ⟨o2,c2,ex⟩:=sliceOf hdx.1
 obtain ⟨o3,c3,ey⟩:=sliceOf hdy.1
 have hf:=fun i hi=>flat_get evCells 3 (fun _=>rfl) us k i x hx hi
 have gf:=fun i hi=>flat_get evCells 3 (fun _=>rfl) vs k i y hy hi
 refine ⟨ab,af,bb,bf,x.e.kind,x.e.n,o2,x.e.data.length,c2,o3,y.e.data.length,c3,rfl,rfl,⟨?_,?_,?_⟩,⟨?_,?_,?_⟩,eqEvent_any w _ _ _ _ _ _ _ _ ?_⟩
 ·exact hI.cell (hc (k*3+0) _ (by rw [hf 0 (by decide)];rfl))
 ·exact hI.cell (hc (k*3+1) _ (by rw [hf 1 (by decide)];rfl))
 ·rw [←ex];exact hI.cell (hc (k*3+2) _ (by rw [hf 2 (by decide)];rfl))
 ·rw [er];exact hJ.cell (gc (k*3+0) _ (by rw [gf 0 (by decide)];rfl))
 ·rw [er];exact hJ.cell (gc (k*3+1) _ (by rw [gf 1 (by decide)];rfl))
 ·rw [←ey];exact hJ.cell (gc (k*3+2) _ (by rw [gf 2 (by decide)];rfl))
 ·rw [←ex,←ey];exact eqBytes hI hJ hdx (by rw [er];exact hdy)
theorem recsSlice {M:Fz} {v:Value} {l:List Rc} (h:RecsM M v l):∃ o n c,v=.slice o n c:=by
 obtain ⟨us,_,h,_⟩:=h
 obtain ⟨o,c,e⟩:=sliceOf h
 exact ⟨o,_,c,e⟩
theorem eqMsgs {M M':Fz} {w:World} {a b:Value} {us vs:List MV} (hI:In M w) (hJ:In M' w) (ha:MsgsV M a us) (hb:MsgsV M' b vs) (e:us.map (·.m)=vs.map (·.m)):Eqs 25 w a b:=by
 obtain ⟨⟨ao,ac,rfl,h1,h2,h3,h4,h5⟩,hd⟩:=ha
 obtain ⟨⟨bo,bc,rfl,g1,g2,g3,g4,g5⟩,gd⟩:=hb
 have hl:us.length=vs.length:=by have:=congrArg List.length e;simpa using this
 rw [←hl] at g1 ⊢
 refine eqMsgS_any w us.length ao ac bo bc ⟨h1,h2,g1,g2⟩ (fun k hk => ?_)
 obtain ⟨x,hx⟩:∃ x,us[k]?=some x:=⟨_,List.getElem?_eq_getElem hk⟩
 obtain ⟨y,hy⟩:∃ y,vs[k]?=some y:=⟨_,List.getElem?_eq_getElem (by omega)⟩
 have er:x.m=y.m:=by
  have h6:(us.map (·.m))[k]?=(vs.map (·.m))[k]? := by rw [e]
  rw [List.getElem?_map,List.getElem?_map,hx,hy] at h6
  simpa using h6
 obtain ⟨ab,af,rfl,hc⟩:=h5 (by omega)
 obtain ⟨bb,bf,rfl,gc⟩:=g5 (by omega)
 have hdx:=hd x (List.mem_of_getElem? hx)
 have hdy:=gd y (List.mem_of_getElem? hy)
 obtain ⟨o2,n2,c2,ex⟩:=recsSlice hdx
 obtain ⟨o3,n3,c3,ey⟩:=recsSlice hdy
 have hf:=fun i hi=>flat_get msgCells 9 msgCells_len us k i x hx hi
 have gf:=fun i hi=>flat_get msgCells 9 msgCells_len vs k i y hy hi
 refine ⟨ab,af,bb,bf,x.m.kind,x.m.frm,x.m.to,x.m.term,x.m.a,x.m.b,x.m.c,x.m.ok,o2,n2,c2,o3,n3,c3,rfl,rfl,⟨?_,?_,?_,?_,?_,?_,?_,?_,?_⟩,⟨?_,?_,?_,?_,?_,?_,?_,?_,?_⟩,eqMsg_any w _ _ _ _ _ _ _ _ _ _ _ _ _ _ ?_⟩
 ·exact hI.cell (hc (k*9+0) _ (by rw [hf 0 (by decide)];rfl))
 ·exact hI.cell (hc (k*9+1) _ (by rw [hf 1 (by decide)];rfl))
 ·exact hI.cell (hc (k*9+2) _ (by rw [hf 2 (by decide)];rfl))
 ·exact hI.cell (hc (k*9+3) _ (by rw [hf 3 (by decide)];rfl))
 ·exact hI.cell (hc (k*9+4) _ (by rw [hf 4 (by decide)];rfl))
 ·exact hI.cell (hc (k*9+5) _ (by rw [hf 5 (by decide)];rfl))
 ·exact hI.cell (hc (k*9+6) _ (by rw [hf 6 (by decide)];rfl))
 ·exact hI.cell (hc (k*9+7) _ (by rw [hf 7 (by decide)];rfl))
 ·rw [←ex];exact hI.cell (hc (k*9+8) _ (by rw [hf 8 (by decide)];rfl))
 ·rw [er];exact hJ.cell (gc (k*9+0) _ (by rw [gf 0 (by decide)];rfl))
 ·rw [er];exact hJ.cell (gc (k*9+1) _ (by rw [gf 1 (by decide)];rfl))
 ·rw [er];exact hJ.cell (gc (k*9+2) _ (by rw [gf 2 (by decide)];rfl))
 ·rw [er];exact hJ.cell (gc (k*9+3) _ (by rw [gf 3 (by decide)];rfl))
 ·rw [er];exact hJ.cell (gc (k*9+4) _ (by rw [gf 4 (by decide)];rfl))
 ·rw [er];exact hJ.cell (gc (k*9+5) _ (by rw [gf 5 (by decide)];rfl))
 ·rw [er];exact hJ.cell (gc (k*9+6) _ (by rw [gf 6 (by decide)];rfl))
 ·rw [er];exact hJ.cell (gc (k*9+7) _ (by rw [gf 7 (by decide)];rfl))
 ·rw [←ey];exact hJ.cell (gc (k*9+8) _ (by rw [gf 8 (by decide)];rfl))
 ·rw [←ex,←ey];exact eqRecs hI hJ hdx (by rw [er];exact hdy)
theorem eqPeers {M M':Fz} {w:World} {a b:Value} {us vs:List PV} (hI:In M w) (hJ:In M' w) (ha:PeersV M a us) (hb:PeersV M' b vs) (e:us.map (·.p)=vs.map (·.p)):Eqs 24 w a b:=by
 obtain ⟨⟨ao,ac,rfl,h1,h2,h3,h4,h5⟩,hd⟩:=ha
 obtain ⟨⟨bo,bc,rfl,g1,g2,g3,g4,g5⟩,gd⟩:=hb
 have hl:us.length=vs.length:=by have:=congrArg List.length e;simpa using this
 rw [←hl] at g1 ⊢
 refine eqPeerS_any w us.length ao ac bo bc ⟨h1,h2,g1,g2⟩ (fun k hk => ?_)
 obtain ⟨x,hx⟩:∃ x,us[k]?=some x:=⟨_,List.getElem?_eq_getElem hk⟩
 obtain ⟨y,hy⟩:∃ y,vs[k]?=some y:=⟨_,List.getElem?_eq_getElem (by omega)⟩
 have er:x.p=y.p:=by
  have h6:(us.map (·.p))[k]?=(vs.map (·.p))[k]? := by rw [e]
  rw [List.getElem?_map,List.getElem?_map,hx,hy] at h6
  simpa using h6
 obtain ⟨ab,af,rfl,hc⟩:=h5 (by omega)
 obtain ⟨bb,bf,rfl,gc⟩:=g5 (by omega)
 obtain ⟨x1,x2,x3,x4⟩:=hd x (List.mem_of_getElem? hx)
 obtain ⟨y1,y2,y3,y4⟩:=gd y (List.mem_of_getElem? hy)
 rw [←er] at y1 y2 y3 y4
 obtain ⟨o2,n2,c2,ex⟩:=recsSlice x1
 obtain ⟨o3,n3,c3,ey⟩:=recsSlice y1
 obtain ⟨o4,c4,ex2⟩:=sliceOf x2
 obtain ⟨o5,c5,ey2⟩:=sliceOf y2
 obtain ⟨o6,c6,ex3⟩:=sliceOf x3
 obtain ⟨o7,c7,ey3⟩:=sliceOf y3
 obtain ⟨o8,c8,ex4⟩:=sliceOf x4
 obtain ⟨o9,c9,ey4⟩:=sliceOf y4
 have hf:=fun i hi=>flat_get peerCells 9 peerCells_len us k i x hx hi
 have gf:=fun i hi=>flat_get peerCells 9 peerCells_len vs k i y hy hi
 refine ⟨ab,af,bb,bf,x.p.up,x.p.term,x.p.vote,x.p.commit,x.p.role,o2,n2,c2,o3,n3,c3,o4,x.p.votes.length,c4,o5,x.p.votes.length,c5,o6,x.p.next.length,c6,o7,x.p.next.length,c7,o8,x.p.mat.length,c8,o9,x.p.mat.length,c9,rfl,rfl,⟨?_,?_,?_,?_,?_,?_,?_,?_,?_⟩,⟨?_,?_,?_,?_,?_,?_,?_,?_,?_⟩,eqPeer_any w _ _ _ _ _ _ _ _ _ _ _ _ _ _ _ _ _ _ _ _ _ _ _ _ _ _ _ _ _ ?_ ?_ ?_ ?_⟩
 ·exact hI.cell (hc (k*9+0) _ (by rw [hf 0 (by decide)];rfl))
 ·exact hI.cell (hc (k*9+1) _ (by rw [hf 1 (by decide)];rfl))
 ·exact hI.cell (hc (k*9+2) _ (by rw [hf 2 (by decide)];rfl))
 ·exact hI.cell (hc (k*9+3) _ (by rw [hf 3 (by decide)];rfl))
 ·exact hI.cell (hc (k*9+4) _ (by rw [hf 4 (by decide)];rfl))
 ·rw [←ex];exact hI.cell (hc (k*9+5) _ (by rw [hf 5 (by decide)];rfl))
 ·rw [←ex2];exact hI.cell (hc (k*9+6) _ (by rw [hf 6 (by decide)];rfl))
 ·rw [←ex3];exact hI.cell (hc (k*9+7) _ (by rw [hf 7 (by decide)];rfl))
 ·rw [←ex4];exact hI.cell (hc (k*9+8) _ (by rw [hf 8 (by decide)];rfl))
 ·rw [er];exact hJ.cell (gc (k*9+0) _ (by rw [gf 0 (by decide)];rfl))
 ·rw [er];exact hJ.cell (gc (k*9+1) _ (by rw [gf 1 (by decide)];rfl))
 ·rw [er];exact hJ.cell (gc (k*9+2) _ (by rw [gf 2 (by decide)];rfl))
 ·rw [er];exact hJ.cell (gc (k*9+3) _ (by rw [gf 3 (by decide)];rfl))
 ·rw [er];exact hJ.cell (gc (k*9+4) _ (by rw [gf 4 (by decide)];rfl))
 ·rw [←ey];exact hJ.cell (gc (k*9+5) _ (by rw [gf 5 (by decide)];rfl))
 ·rw [←ey2];exact hJ.cell (gc (k*9+6) _ (by rw [gf 6 (by decide)];rfl))
 ·rw [←ey3];exact hJ.cell (gc (k*9+7) _ (by rw [gf 7 (by decide)];rfl))
 ·rw [←ey4];exact hJ.cell (gc (k*9+8) _ (by rw [gf 8 (by decide)];rfl))
 ·rw [←ex,←ey];exact eqRecs hI hJ x1 y1
 ·rw [←ex2,←ey2];exact eqBools hI hJ x2 y2
 ·rw [←ex3,←ey3];exact eqNats hI hJ x3 y3
 ·rw [←ex4,←ey4];exact eqNats hI hJ x4 y4
theorem eqClu {M M':Fz} {w:World} {c:Cl} {p1:Option Addr} {p2 p3:Nat} {n1:Option Addr} {n2 n3:Nat} {c1:Option Addr} {c2 c3:Nat} {q1:Option Addr} {q2 q3:Nat} {m1:Option Addr} {m2 m3:Nat} {d1:Option Addr} {d2 d3:Nat} (cf:Bool) (hI:In M w) (hJ:In M' w) (ha:CluV M c (.slice p1 p2 p3) (.slice n1 n2 n3) (.slice c1 c2 c3)) (hb:CluV M' c (.slice q1 q2 q3) (.slice m1 m2 m3) (.slice d1 d2 d3)) :
  Eqs 8 w (.agg #[.slice p1 p2 p3,.slice n1 n2 n3,.slice c1 c2 c3,.bool cf]) (.agg #[.slice q1 q2 q3,.slice m1 m2 m3,.slice d1 d2 d3,.bool cf]):=by
 obtain ⟨ps,us,e1,h1,e2,h2,h3⟩:=ha
 obtain ⟨qs,vs,f1,g1,f2,g2,g3⟩:=hb
 exact eqCluster_any w _ _ _ _ _ _ _ _ _ _ _ _ _ _ _ _ _ _ cf (eqPeers hI hJ h1 g1 (e1.trans f1.symm)) (eqMsgs hI hJ h2 g2 (e2.trans f2.symm)) (eqRecs hI hJ h3 g3)
end Go.Proofs.YtcfdmbkiinjmaaaGreat.eqv
namespace Go.Proofs.YtcfdmbkiinjmaaaGreat.xlaw
open Raft mem grp own shape mk1 mk2 mk3 mk5 shp crun evto gtold gt8 ntold evs outs eq1 eqv
def S_h2i (W:World) (ao:Option Addr) (n cap:Nat) (aN d:Int) (cf:Bool) (L:Nat) (sp1:Option Addr) (sp2 sp3:Nat) (sn1:Option Addr) (sn2 sn3:Nat) (sc1:Option Addr) (sc2 sc3:Nat) (sk:Option Addr) (skc sb g1:Nat) (tp1:Option Addr) (tp2 tp3:Nat) (tn1:Option Addr) (tn2 tn3:Nat) (tc1:Option Addr) (tc2 tc3:Nat) (tk:Option Addr) (tkc tb y z:Nat) (w:World):Prop:=Hid (Calls Tryz.prog 15 #[.slice tk L tkc,.int .i64 (1+(z:Int))] w fun e w'=>e=.returned (.int .i64 (1+(z:Int)+(L:Int)))∧Hid (Below W.heap.size W w'))
def S_h2c (W:World) (ao:Option Addr) (n cap:Nat) (aN d:Int) (cf:Bool) (L:Nat) (sp1:Option Addr) (sp2 sp3:Nat) (sn1:Option Addr) (sn2 sn3:Nat) (sc1:Option Addr) (sc2 sc3:Nat) (sk:Option Addr) (skc sb g1:Nat) (tp1:Option Addr) (tp2 tp3:Nat) (tn1:Option Addr) (tn2 tn3:Nat) (tc1:Option Addr) (tc2 tc3:Nat) (tk:Option Addr) (tkc tb y z:Nat) (w:World):Prop:=(w.cell? ⟨tb,0,none⟩=some (.slice tp1 tp2 tp3)∧w.cell? ⟨tb,1,none⟩=some (.slice tn1 tn2 tn3)∧w.cell? ⟨tb,2,none⟩=some (.slice tc1 tc2 tc3)∧w.cell? ⟨tb,3,none⟩=some (.bool cf))∧Hid (Calls Tryz.prog 14 #[.agg #[.slice tp1 tp2 tp3,.slice tn1 tn2 tn3,.slice tc1 tc2 tc3,.bool cf],.int .i64 (1)] w fun e w'=>e=.returned (.int .i64 (1+(z:Int)))∧S_h2i W ao n cap aN d cf L sp1 sp2 sp3 sn1 sn2 sn3 sc1 sc2 sc3 sk skc sb g1 tp1 tp2 tp3 tn1 tn2 tn3 tc1 tc2 tc3 tk tkc tb y z w')
def S_eqi2 (W:World) (ao:Option Addr) (n cap:Nat) (aN d:Int) (cf:Bool) (L:Nat) (sp1:Option Addr) (sp2 sp3:Nat) (sn1:Option Addr) (sn2 sn3:Nat) (sc1:Option Addr) (sc2 sc3:Nat) (sk:Option Addr) (skc sb g1:Nat) (tp1:Option Addr) (tp2 tp3:Nat) (tn1:Option Addr) (tn2 tn3:Nat) (tc1:Option Addr) (tc2 tc3:Nat) (tk:Option Addr) (tkc tb y z:Nat) (hp1:Option Addr) (hp2 hp3:Nat) (hn1:Option Addr) (hn2 hn3:Nat) (hc1:Option Addr) (hc2 hc3:Nat) (hk:Option Addr) (hkc hb:Nat) (w:World):Prop:=Hid (Calls Tryz.prog 9 #[.slice hk L hkc,.slice sk L skc] w fun e w'=>e=.returned (.bool true)∧S_h2c W ao n cap aN d cf L sp1 sp2 sp3 sn1 sn2 sn3 sc1 sc2 sc3 sk skc sb g1 tp1 tp2 tp3 tn1 tn2 tn3 tc1 tc2 tc3 tk tkc tb y z w')
def S_eqc2 (W:World) (ao:Option Addr) (n cap:Nat) (aN d:Int) (cf:Bool) (L:Nat) (sp1:Option Addr) (sp2 sp3:Nat) (sn1:Option Addr) (sn2 sn3:Nat) (sc1:Option Addr) (sc2 sc3:Nat) (sk:Option Addr) (skc sb g1:Nat) (tp1:Option Addr) (tp2 tp3:Nat) (tn1:Option Addr) (tn2 tn3:Nat) (tc1:Option Addr) (tc2 tc3:Nat) (tk:Option Addr) (tkc tb y z:Nat) (hp1:Option Addr) (hp2 hp3:Nat) (hn1:Option Addr) (hn2 hn3:Nat) (hc1:Option Addr) (hc2 hc3:Nat) (hk:Option Addr) (hkc hb:Nat) (w:World):Prop:=((w.cell? ⟨hb,0,none⟩=some (.slice hp1 hp2 hp3)∧w.cell? ⟨hb,1,none⟩=some (.slice hn1 hn2 hn3)∧w.cell? ⟨hb,2,none⟩=some (.slice hc1 hc2 hc3)∧w.cell? ⟨hb,3,none⟩=some (.bool cf))∧w.cell? ⟨sb,0,none⟩=some (.slice sp1 sp2 sp3)∧w.cell? ⟨sb,1,none⟩=some (.slice sn1 sn2 sn3)∧w.cell? ⟨sb,2,none⟩=some (.slice sc1 sc2 sc3)∧w.cell? ⟨sb,3,none⟩=some (.bool cf))∧Hid (Calls Tryz.prog 8 #[.agg #[.slice hp1 hp2 hp3,.slice hn1 hn2 hn3,.slice hc1 hc2 hc3,.bool cf],.agg #[.slice sp1 sp2 sp3,.slice sn1 sn2 sn3,.slice sc1 sc2 sc3,.bool cf]] w fun e w'=>e=.returned (.bool true)∧S_eqi2 W ao n cap aN d cf L sp1 sp2 sp3 sn1 sn2 sn3 sc1 sc2 sc3 sk skc sb g1 tp1 tp2 tp3 tn1 tn2 tn3 tc1 tc2 tc3 tk tkc tb y z hp1 hp2 hp3 hn1 hn2 hn3 hc1 hc2 hc3 hk hkc hb w')
def S_run2 (W:World) (ao:Option Addr) (n cap:Nat) (aN d:Int) (cf:Bool) (L:Nat) (sp1:Option Addr) (sp2 sp3:Nat) (sn1:Option Addr) (sn2 sn3:Nat) (sc1:Option Addr) (sc2 sc3:Nat) (sk:Option Addr) (skc sb g1:Nat) (tp1:Option Addr) (tp2 tp3:Nat) (tn1:Option Addr) (tn2 tn3:Nat) (tc1:Option Addr) (tc2 tc3:Nat) (tk:Option Addr) (tkc tb y z g:Nat) (w:World):Prop:=Hid (Calls Tryz.prog 7 #[.int .i64 (aN),.slice (some ⟨g,0,none⟩) n n] w fun e w'=>∃ (hp1:Option Addr) (hp2 hp3:Nat) (hn1:Option Addr) (hn2 hn3:Nat) (hc1:Option Addr) (hc2 hc3:Nat) (hk:Option Addr) (hkc:Nat),e=.returned (.tuple #[.agg #[.slice hp1 hp2 hp3,.slice hn1 hn2 hn3,.slice hc1 hc2 hc3,.bool cf],.slice hk L hkc,.int .i64 (d)])∧∃ X,w'.alloc (.cells #[.slice hp1 hp2 hp3,.slice hn1 hn2 hn3,.slice hc1 hc2 hc3,.bool cf] 28)=X∧S_eqc2 W ao n cap aN d cf L sp1 sp2 sp3 sn1 sn2 sn3 sc1 sc2 sc3 sk skc sb g1 tp1 tp2 tp3 tn1 tn2 tn3 tc1 tc2 tc3 tk tkc tb y z hp1 hp2 hp3 hn1 hn2 hn3 hc1 hc2 hc3 hk hkc w'.heap.size X)
def S_to4 (W:World) (ao:Option Addr) (n cap:Nat) (aN d:Int) (cf:Bool) (L:Nat) (sp1:Option Addr) (sp2 sp3:Nat) (sn1:Option Addr) (sn2 sn3:Nat) (sc1:Option Addr) (sc2 sc3:Nat) (sk:Option Addr) (skc sb g1:Nat) (tp1:Option Addr) (tp2 tp3:Nat) (tn1:Option Addr) (tn2 tn3:Nat) (tc1:Option Addr) (tc2 tc3:Nat) (tk:Option Addr) (tkc tb y z:Nat) (w:World):Prop:=Hid (Calls Tryz.prog 6 #[.slice ao n cap] w fun e w'=>∃ g,e=.returned (.slice (some ⟨g,0,none⟩) n n)∧S_run2 W ao n cap aN d cf L sp1 sp2 sp3 sn1 sn2 sn3 sc1 sc2 sc3 sk skc sb g1 tp1 tp2 tp3 tn1 tn2 tn3 tc1 tc2 tc3 tk tkc tb y z g w')
def S_h1i (W:World) (ao:Option Addr) (n cap:Nat) (aN d:Int) (cf:Bool) (L:Nat) (sp1:Option Addr) (sp2 sp3:Nat) (sn1:Option Addr) (sn2 sn3:Nat) (sc1:Option Addr) (sc2 sc3:Nat) (sk:Option Addr) (skc sb g1:Nat) (tp1:Option Addr) (tp2 tp3:Nat) (tn1:Option Addr) (tn2 tn3:Nat) (tc1:Option Addr) (tc2 tc3:Nat) (tk:Option Addr) (tkc tb y z:Nat) (w:World):Prop:=Hid (Calls Tryz.prog 15 #[.slice tk L tkc,.int .i64 (1+(z:Int))] w fun e w'=>e=.returned (.int .i64 (1+(z:Int)+(L:Int)))∧S_to4 W ao n cap aN d cf L sp1 sp2 sp3 sn1 sn2 sn3 sc1 sc2 sc3 sk skc sb g1 tp1 tp2 tp3 tn1 tn2 tn3 tc1 tc2 tc3 tk tkc tb y z w')
def S_h1c (W:World) (ao:Option Addr) (n cap:Nat) (aN d:Int) (cf:Bool) (L:Nat) (sp1:Option Addr) (sp2 sp3:Nat) (sn1:Option Addr) (sn2 sn3:Nat) (sc1:Option Addr) (sc2 sc3:Nat) (sk:Option Addr) (skc sb g1:Nat) (tp1:Option Addr) (tp2 tp3:Nat) (tn1:Option Addr) (tn2 tn3:Nat) (tc1:Option Addr) (tc2 tc3:Nat) (tk:Option Addr) (tkc tb y z:Nat) (w:World):Prop:=(w.cell? ⟨tb,0,none⟩=some (.slice tp1 tp2 tp3)∧w.cell? ⟨tb,1,none⟩=some (.slice tn1 tn2 tn3)∧w.cell? ⟨tb,2,none⟩=some (.slice tc1 tc2 tc3)∧w.cell? ⟨tb,3,none⟩=some (.bool cf))∧Hid (Calls Tryz.prog 14 #[.agg #[.slice tp1 tp2 tp3,.slice tn1 tn2 tn3,.slice tc1 tc2 tc3,.bool cf],.int .i64 (1)] w fun e w'=>e=.returned (.int .i64 (1+(z:Int)))∧S_h1i W ao n cap aN d cf L sp1 sp2 sp3 sn1 sn2 sn3 sc1 sc2 sc3 sk skc sb g1 tp1 tp2 tp3 tn1 tn2 tn3 tc1 tc2 tc3 tk tkc tb y z w')
def S_mki (W:World) (ao:Option Addr) (n cap:Nat) (aN d:Int) (cf:Bool) (L:Nat) (sp1:Option Addr) (sp2 sp3:Nat) (sn1:Option Addr) (sn2 sn3:Nat) (sc1:Option Addr) (sc2 sc3:Nat) (sk:Option Addr) (skc sb g1:Nat) (tp1:Option Addr) (tp2 tp3:Nat) (tn1:Option Addr) (tn2 tn3:Nat) (tc1:Option Addr) (tc2 tc3:Nat) (tk:Option Addr) (tkc tb y z:Nat) (w:World):Prop:=Hid (Calls Tryz.prog 13 #[.slice tk L tkc,.int .i64 (1+(z:Int))] w fun e w'=>e=.returned (.int .i64 (1+(z:Int)+(L:Int)))∧S_h1c W ao n cap aN d cf L sp1 sp2 sp3 sn1 sn2 sn3 sc1 sc2 sc3 sk skc sb g1 tp1 tp2 tp3 tn1 tn2 tn3 tc1 tc2 tc3 tk tkc tb y z w')
def S_mkc (W:World) (ao:Option Addr) (n cap:Nat) (aN d:Int) (cf:Bool) (L:Nat) (sp1:Option Addr) (sp2 sp3:Nat) (sn1:Option Addr) (sn2 sn3:Nat) (sc1:Option Addr) (sc2 sc3:Nat) (sk:Option Addr) (skc sb g1:Nat) (tp1:Option Addr) (tp2 tp3:Nat) (tn1:Option Addr) (tn2 tn3:Nat) (tc1:Option Addr) (tc2 tc3:Nat) (tk:Option Addr) (tkc tb y z:Nat) (w:World):Prop:=(w.cell? ⟨tb,0,none⟩=some (.slice tp1 tp2 tp3)∧w.cell? ⟨tb,1,none⟩=some (.slice tn1 tn2 tn3)∧w.cell? ⟨tb,2,none⟩=some (.slice tc1 tc2 tc3)∧w.cell? ⟨tb,3,none⟩=some (.bool cf))∧Hid (Calls Tryz.prog 12 #[.agg #[.slice tp1 tp2 tp3,.slice tn1 tn2 tn3,.slice tc1 tc2 tc3,.bool cf],.int .i64 (1)] w fun e w'=>e=.returned (.int .i64 (1+(z:Int)))∧S_mki W ao n cap aN d cf L sp1 sp2 sp3 sn1 sn2 sn3 sc1 sc2 sc3 sk skc sb g1 tp1 tp2 tp3 tn1 tn2 tn3 tc1 tc2 tc3 tk tkc tb y z w')
def S_eqi1b (W:World) (ao:Option Addr) (n cap:Nat) (aN d:Int) (cf:Bool) (L:Nat) (sp1:Option Addr) (sp2 sp3:Nat) (sn1:Option Addr) (sn2 sn3:Nat) (sc1:Option Addr) (sc2 sc3:Nat) (sk:Option Addr) (skc sb g1:Nat) (tp1:Option Addr) (tp2 tp3:Nat) (tn1:Option Addr) (tn2 tn3:Nat) (tc1:Option Addr) (tc2 tc3:Nat) (tk:Option Addr) (tkc tb y z:Nat) (w:World):Prop:=Hid (Calls Tryz.prog 9 #[.slice tk L tkc,.slice sk L skc] w fun e w'=>e=.returned (.bool true)∧S_mkc W ao n cap aN d cf L sp1 sp2 sp3 sn1 sn2 sn3 sc1 sc2 sc3 sk skc sb g1 tp1 tp2 tp3 tn1 tn2 tn3 tc1 tc2 tc3 tk tkc tb y z w')
def S_eqc1b (W:World) (ao:Option Addr) (n cap:Nat) (aN d:Int) (cf:Bool) (L:Nat) (sp1:Option Addr) (sp2 sp3:Nat) (sn1:Option Addr) (sn2 sn3:Nat) (sc1:Option Addr) (sc2 sc3:Nat) (sk:Option Addr) (skc sb g1:Nat) (tp1:Option Addr) (tp2 tp3:Nat) (tn1:Option Addr) (tn2 tn3:Nat) (tc1:Option Addr) (tc2 tc3:Nat) (tk:Option Addr) (tkc tb y z:Nat) (w:World):Prop:=((w.cell? ⟨tb,0,none⟩=some (.slice tp1 tp2 tp3)∧w.cell? ⟨tb,1,none⟩=some (.slice tn1 tn2 tn3)∧w.cell? ⟨tb,2,none⟩=some (.slice tc1 tc2 tc3)∧w.cell? ⟨tb,3,none⟩=some (.bool cf))∧w.cell? ⟨sb,0,none⟩=some (.slice sp1 sp2 sp3)∧w.cell? ⟨sb,1,none⟩=some (.slice sn1 sn2 sn3)∧w.cell? ⟨sb,2,none⟩=some (.slice sc1 sc2 sc3)∧w.cell? ⟨sb,3,none⟩=some (.bool cf))∧Hid (Calls Tryz.prog 8 #[.agg #[.slice tp1 tp2 tp3,.slice tn1 tn2 tn3,.slice tc1 tc2 tc3,.bool cf],.agg #[.slice sp1 sp2 sp3,.slice sn1 sn2 sn3,.slice sc1 sc2 sc3,.bool cf]] w fun e w'=>e=.returned (.bool true)∧S_eqi1b W ao n cap aN d cf L sp1 sp2 sp3 sn1 sn2 sn3 sc1 sc2 sc3 sk skc sb g1 tp1 tp2 tp3 tn1 tn2 tn3 tc1 tc2 tc3 tk tkc tb y z w')
def S_mke (W:World) (ao:Option Addr) (n cap:Nat) (aN d:Int) (cf:Bool) (L:Nat) (sp1:Option Addr) (sp2 sp3:Nat) (sn1:Option Addr) (sn2 sn3:Nat) (sc1:Option Addr) (sc2 sc3:Nat) (sk:Option Addr) (skc sb g1:Nat) (tp1:Option Addr) (tp2 tp3:Nat) (tn1:Option Addr) (tn2 tn3:Nat) (tc1:Option Addr) (tc2 tc3:Nat) (tk:Option Addr) (tkc tb y z:Nat) (w:World):Prop:=Hid (Calls Tryz.prog 11 #[.slice (some ⟨g1,0,none⟩) n n,.int .i64 (1)] w fun e w'=>e=.returned (.int .i64 (1+(y:Int)))∧S_eqc1b W ao n cap aN d cf L sp1 sp2 sp3 sn1 sn2 sn3 sc1 sc2 sc3 sk skc sb g1 tp1 tp2 tp3 tn1 tn2 tn3 tc1 tc2 tc3 tk tkc tb y z w')
def S_eqe (W:World) (ao:Option Addr) (n cap:Nat) (aN d:Int) (cf:Bool) (L:Nat) (sp1:Option Addr) (sp2 sp3:Nat) (sn1:Option Addr) (sn2 sn3:Nat) (sc1:Option Addr) (sc2 sc3:Nat) (sk:Option Addr) (skc sb g1:Nat) (tp1:Option Addr) (tp2 tp3:Nat) (tn1:Option Addr) (tn2 tn3:Nat) (tc1:Option Addr) (tc2 tc3:Nat) (tk:Option Addr) (tkc tb y z g:Nat) (w:World):Prop:=Hid (Calls Tryz.prog 10 #[.slice (some ⟨g1,0,none⟩) n n,.slice (some ⟨g,0,none⟩) n n] w fun e w'=>e=.returned (.bool true)∧S_mke W ao n cap aN d cf L sp1 sp2 sp3 sn1 sn2 sn3 sc1 sc2 sc3 sk skc sb g1 tp1 tp2 tp3 tn1 tn2 tn3 tc1 tc2 tc3 tk tkc tb y z w')
def S_to3 (W:World) (ao:Option Addr) (n cap:Nat) (aN d:Int) (cf:Bool) (L:Nat) (sp1:Option Addr) (sp2 sp3:Nat) (sn1:Option Addr) (sn2 sn3:Nat) (sc1:Option Addr) (sc2 sc3:Nat) (sk:Option Addr) (skc sb g1:Nat) (tp1:Option Addr) (tp2 tp3:Nat) (tn1:Option Addr) (tn2 tn3:Nat) (tc1:Option Addr) (tc2 tc3:Nat) (tk:Option Addr) (tkc tb y z:Nat) (w:World):Prop:=Hid (Calls Tryz.prog 6 #[.slice ao n cap] w fun e w'=>∃ g,e=.returned (.slice (some ⟨g,0,none⟩) n n)∧S_eqe W ao n cap aN d cf L sp1 sp2 sp3 sn1 sn2 sn3 sc1 sc2 sc3 sk skc sb g1 tp1 tp2 tp3 tn1 tn2 tn3 tc1 tc2 tc3 tk tkc tb y z g w')
def S_eqi1 (W:World) (ao:Option Addr) (n cap:Nat) (aN d:Int) (cf:Bool) (L:Nat) (sp1:Option Addr) (sp2 sp3:Nat) (sn1:Option Addr) (sn2 sn3:Nat) (sc1:Option Addr) (sc2 sc3:Nat) (sk:Option Addr) (skc sb g1:Nat) (tp1:Option Addr) (tp2 tp3:Nat) (tn1:Option Addr) (tn2 tn3:Nat) (tc1:Option Addr) (tc2 tc3:Nat) (tk:Option Addr) (tkc tb y z:Nat) (w:World):Prop:=Hid (Calls Tryz.prog 9 #[.slice tk L tkc,.slice sk L skc] w fun e w'=>e=.returned (.bool true)∧S_to3 W ao n cap aN d cf L sp1 sp2 sp3 sn1 sn2 sn3 sc1 sc2 sc3 sk skc sb g1 tp1 tp2 tp3 tn1 tn2 tn3 tc1 tc2 tc3 tk tkc tb y z w')
def S_eqc1 (W:World) (ao:Option Addr) (n cap:Nat) (aN d:Int) (cf:Bool) (L:Nat) (sp1:Option Addr) (sp2 sp3:Nat) (sn1:Option Addr) (sn2 sn3:Nat) (sc1:Option Addr) (sc2 sc3:Nat) (sk:Option Addr) (skc sb g1:Nat) (tp1:Option Addr) (tp2 tp3:Nat) (tn1:Option Addr) (tn2 tn3:Nat) (tc1:Option Addr) (tc2 tc3:Nat) (tk:Option Addr) (tkc tb y z:Nat) (w:World):Prop:=((w.cell? ⟨tb,0,none⟩=some (.slice tp1 tp2 tp3)∧w.cell? ⟨tb,1,none⟩=some (.slice tn1 tn2 tn3)∧w.cell? ⟨tb,2,none⟩=some (.slice tc1 tc2 tc3)∧w.cell? ⟨tb,3,none⟩=some (.bool cf))∧w.cell? ⟨sb,0,none⟩=some (.slice sp1 sp2 sp3)∧w.cell? ⟨sb,1,none⟩=some (.slice sn1 sn2 sn3)∧w.cell? ⟨sb,2,none⟩=some (.slice sc1 sc2 sc3)∧w.cell? ⟨sb,3,none⟩=some (.bool cf))∧Hid (Calls Tryz.prog 8 #[.agg #[.slice tp1 tp2 tp3,.slice tn1 tn2 tn3,.slice tc1 tc2 tc3,.bool cf],.agg #[.slice sp1 sp2 sp3,.slice sn1 sn2 sn3,.slice sc1 sc2 sc3,.bool cf]] w fun e w'=>e=.returned (.bool true)∧S_eqi1 W ao n cap aN d cf L sp1 sp2 sp3 sn1 sn2 sn3 sc1 sc2 sc3 sk skc sb g1 tp1 tp2 tp3 tn1 tn2 tn3 tc1 tc2 tc3 tk tkc tb y z w')
def S_run1 (W:World) (ao:Option Addr) (n cap:Nat) (aN d:Int) (cf:Bool) (L:Nat) (sp1:Option Addr) (sp2 sp3:Nat) (sn1:Option Addr) (sn2 sn3:Nat) (sc1:Option Addr) (sc2 sc3:Nat) (sk:Option Addr) (skc sb g1:Nat) (w:World):Prop:=Hid (Calls Tryz.prog 7 #[.int .i64 (aN),.slice (some ⟨g1,0,none⟩) n n] w fun e w'=>∃ (tp1:Option Addr) (tp2 tp3:Nat) (tn1:Option Addr) (tn2 tn3:Nat) (tc1:Option Addr) (tc2 tc3:Nat) (tk:Option Addr) (tkc y z:Nat),e=.returned (.tuple #[.agg #[.slice tp1 tp2 tp3,.slice tn1 tn2 tn3,.slice tc1 tc2 tc3,.bool cf],.slice tk L tkc,.int .i64 (d)])∧((y:Int)≤3145728∧(z:Int)≤3000000000)∧∃ X,w'.alloc (.cells #[.slice tp1 tp2 tp3,.slice tn1 tn2 tn3,.slice tc1 tc2 tc3,.bool cf] 28)=X∧S_eqc1 W ao n cap aN d cf L sp1 sp2 sp3 sn1 sn2 sn3 sc1 sc2 sc3 sk skc sb g1 tp1 tp2 tp3 tn1 tn2 tn3 tc1 tc2 tc3 tk tkc w'.heap.size y z X)
def S_to2 (W:World) (ao:Option Addr) (n cap:Nat) (aN d:Int) (cf:Bool) (L:Nat) (sp1:Option Addr) (sp2 sp3:Nat) (sn1:Option Addr) (sn2 sn3:Nat) (sc1:Option Addr) (sc2 sc3:Nat) (sk:Option Addr) (skc sb:Nat) (w:World):Prop:=Hid (Calls Tryz.prog 6 #[.slice ao n cap] w fun e w'=>∃ g1,e=.returned (.slice (some ⟨g1,0,none⟩) n n)∧S_run1 W ao n cap aN d cf L sp1 sp2 sp3 sn1 sn2 sn3 sc1 sc2 sc3 sk skc sb g1 w')
def S_spec (W:World) (ao:Option Addr) (n cap:Nat) (aN d:Int) (cf:Bool) (L g:Nat) (w:World):Prop:=Hid (Calls Tryz.prog 5 #[.int .i64 (aN),.slice (some ⟨g,0,none⟩) n n] w fun e w'=>∃ (sp1:Option Addr) (sp2 sp3:Nat) (sn1:Option Addr) (sn2 sn3:Nat) (sc1:Option Addr) (sc2 sc3:Nat) (sk:Option Addr) (skc:Nat),e=.returned (.tuple #[.agg #[.slice sp1 sp2 sp3,.slice sn1 sn2 sn3,.slice sc1 sc2 sc3,.bool cf],.slice sk L skc,.int .i64 (d)])∧∃ X,w'.alloc (.cells #[.slice sp1 sp2 sp3,.slice sn1 sn2 sn3,.slice sc1 sc2 sc3,.bool cf] 28)=X∧S_to2 W ao n cap aN d cf L sp1 sp2 sp3 sn1 sn2 sn3 sc1 sc2 sc3 sk skc w'.heap.size X)
def S_to1 (W:World) (ao:Option Addr) (n cap:Nat) (aN d:Int) (cf:Bool) (L:Nat) (w:World):Prop:=Hid (Calls Tryz.prog 6 #[.slice ao n cap] w fun e w'=>∃ g,e=.returned (.slice (some ⟨g,0,none⟩) n n)∧S_spec W ao n cap aN d cf L g w')
end Go.Proofs.YtcfdmbkiinjmaaaGreat.xlaw
namespace Go.Proofs.YtcfdmbkiinjmaaaGreat.xlaw
open Raft mem grp own shape mk1 mk2 mk3 mk5 shp crun evto gtold gt8 ntold evs outs eq1 eqv
structure Cx (W:World) (ao:Option Addr) (cap:Nat) (aN d:Int) (c:Cl) (ks:List Int) (rl:List Rec3) (us:List Value):Prop where
 rd:RdRecs W (.slice ao rl.length cap) rl us
 sum:rl.length+sumTo rl rl.length≤1048576
 ans:ks.length≤1000∧Ans aN (rl.map ev3) c ks d
 impl:∀ (w:World) (M:Fz),In M w→∀ (vo:Option Addr) (vn vc:Nat) (us':List EV),us'.map (·.e)=rl.map ev3→EvsV M (.slice vo vn vc) us'→Calls Tryz.prog 7 #[.int .i64 aN,.slice vo vn vc] w fun r w'=>RunSD w M c ks d r w'
 spec:∀ (w:World) (M:Fz),In M w→∀ (vo:Option Addr) (vn vc:Nat) (us':List EV),us'.map (·.e)=rl.map ev3→EvsV M (.slice vo vn vc) us'→Calls Tryz.prog 5 #[.int .i64 aN,.slice vo vn vc] w fun r w'=>RunED w M c ks d r w'
theorem Cx.to {W:World} {ao:Option Addr} {cap:Nat} {aN d:Int} {c:Cl} {ks:List Int} {rl:List Rec3} {us:List Value} (x:Cx W ao cap aN d c ks rl us) {w:World} (hb:Below W.heap.size W w) :
  Calls Tryz.prog 6 #[.slice ao rl.length cap] w fun e w'=>∃ us',e=.returned (.slice (some ⟨w.heap.size,0,none⟩) rl.length rl.length)∧OwnRecs w' w.heap.size (.slice (some ⟨w.heap.size,0,none⟩) rl.length rl.length) rl us'∧Below w.heap.size w w' :=
 toRecS_own w _ rl us (x.rd.below hb (Nat.le_refl _)) x.sum
theorem evs_of {w:World} {base g:Nat} {rl:List Rec3} {us:List Value} (h:OwnRecs w base (.slice (some ⟨g,0,none⟩) rl.length rl.length) rl us):EvsV (whole w) (.slice (some ⟨g,0,none⟩) rl.length rl.length) (evL rl us):=evsV h.rd
structure PS1 (W:World) (Ms:Fz) (sb:Nat) (ob:Obj) (w:World):Prop where
 bel:Below W.heap.size W w
 inS:In Ms w
 box3:w.heap[sb]?=some ob
theorem PS1.below {W:World} {Ms:Fz} {sb:Nat} {ob:Obj} {w w':World} (h:PS1 W Ms sb ob w) (hb:Below w.heap.size w w'):PS1 W Ms sb ob w' :=
 ⟨h.bel.trans (hb.mono h.bel.size),h.inS.below hb,(hb.block sb (Array.getElem?_eq_some_iff.1 h.box3).1).trans h.box3⟩
structure PQ (W:World) (Ms:Fz) (sb:Nat) (ob:Obj) (tb:Nat) (ot:Obj) (ue ke:List En) (q:Int) (w:World):Prop where
 s:PS1 W Ms sb ob w
 box5:w.heap[tb]?=some ot
 held:Held w ue 1
 heldk:Held w ke q
theorem PQ.below {W:World} {Ms:Fz} {sb:Nat} {ob:Obj} {tb:Nat} {ot:Obj} {ue ke:List En} {q:Int} {w w':World} (h:PQ W Ms sb ob tb ot ue ke q w) (hb:Below w.heap.size w w'):PQ W Ms sb ob tb ot ue ke q w' :=
 ⟨h.s.below hb,(hb.block tb (Array.getElem?_eq_some_iff.1 h.box5).1).trans h.box5,h.held.below hb (Held.lt _ _ h.held),h.heldk.below hb (Held.lt _ _ h.heldk)⟩
structure PT (W:World) (Ms:Fz) (sb:Nat) (ob:Obj) (tb:Nat) (ot:Obj) (ue ke:List En) (Mt:Fz) (w:World):Prop where
 s:PS1 W Ms sb ob w
 box5:w.heap[tb]?=some ot
 inT:In Mt w
 oku:Ok w ue
 okk:Ok w ke
theorem PT.below {W:World} {Ms:Fz} {sb:Nat} {ob:Obj} {tb:Nat} {ot:Obj} {ue ke:List En} {Mt:Fz} {w w':World} (h:PT W Ms sb ob tb ot ue ke Mt w) (hb:Below w.heap.size w w'):PT W Ms sb ob tb ot ue ke Mt w' :=
 ⟨h.s.below hb,(hb.block tb (Array.getElem?_eq_some_iff.1 h.box5).1).trans h.box5,h.inT.below hb,mk5.Ok.below h.oku hb,mk5.Ok.below h.okk hb⟩
theorem four {w:World} {b:Nat} {v0 v1 v2 v3:Value} (h:w.heap[b]?=some (.cells #[v0,v1,v2,v3] 28 (0,0))):w.cell? ⟨b,0,none⟩=some v0∧w.cell? ⟨b,1,none⟩=some v1∧w.cell? ⟨b,2,none⟩=some v2∧w.cell? ⟨b,3,none⟩=some v3:=⟨grp.cell_of h rfl,grp.cell_of h rfl,grp.cell_of h rfl,grp.cell_of h rfl⟩
section
variable {W:World} {ao:Option Addr} {cap:Nat} {aN d:Int} {c:Cl} {ks:List Int} {rl:List Rec3} {us:List Value} (x:Cx W ao cap aN d c ks rl us)
variable {Ms:Fz} {sp1:Option Addr} {sp2 sp3:Nat} {sn1:Option Addr} {sn2 sn3:Nat} {sc1:Option Addr} {sc2 sc3:Nat} {sk:Option Addr} {skc sb:Nat} (cluS:CluV Ms c (.slice sp1 sp2 sp3) (.slice sn1 sn2 sn3) (.slice sc1 sc2 sc3)) (rowS:RowM Ms (.slice sk ks.length skc) ks.length 1 (ints ks))
variable {g1:Nat} {u:Cu} {tk:Option Addr} {tkc tb y:Nat} {kb:Nat} (gu:u.Good) (hz:shape.count u.es≤3000000000) (nu:shape.Nd u.es) (gk:(0<ks.length→tk=some ⟨kb,0,none⟩)∧ks.length≤tkc∧tkc≤maxLen)
include x hz gk in
theorem h2i {w:World} (h:PQ W Ms sb (.cells #[.slice sp1 sp2 sp3,.slice sn1 sn2 sn3,.slice sc1 sc2 sc3,.bool c.conflict] 28) tb (.cells #[.slice u.p.ao u.p.xs.length u.p.cap,.slice u.m.ao u.m.xs.length u.m.cap,.slice u.c.ao u.c.xs.length u.c.cap,.bool c.conflict] 28) u.es (plain kb .int 0 ks.length) (1+shape.count u.es) w):S_h2i W ao (rl.length) cap aN d (c.conflict) (ks.length) sp1 sp2 sp3 sn1 sn2 sn3 sc1 sc2 sc3 sk skc sb g1 (u.p.ao) (u.p.xs.length) (u.p.cap) (u.m.ao) (u.m.xs.length) (u.m.cap) (u.c.ao) (u.c.xs.length) (u.c.cap) tk tkc tb y (shape.count u.es) w:=by
 have hl:=x.ans.1
 refine (heldIntS_any w tk kb 0 ks.length tkc gk.1 gk.2.1 gk.2.2 _ h.heldk (by omega) (by omega)).mono ?_
 rintro e w' ⟨rfl,rfl⟩
 exact ⟨rfl,h.s.bel⟩
include x gu hz gk in
theorem h2c {w:World} (h:PQ W Ms sb (.cells #[.slice sp1 sp2 sp3,.slice sn1 sn2 sn3,.slice sc1 sc2 sc3,.bool c.conflict] 28) tb (.cells #[.slice u.p.ao u.p.xs.length u.p.cap,.slice u.m.ao u.m.xs.length u.m.cap,.slice u.c.ao u.c.xs.length u.c.cap,.bool c.conflict] 28) u.es (plain kb .int 0 ks.length) (1+shape.count u.es) w):S_h2c W ao (rl.length) cap aN d (c.conflict) (ks.length) sp1 sp2 sp3 sn1 sn2 sn3 sc1 sc2 sc3 sk skc sb g1 (u.p.ao) (u.p.xs.length) (u.p.cap) (u.m.ao) (u.m.xs.length) (u.m.cap) (u.c.ao) (u.c.xs.length) (u.c.cap) tk tkc tb y (shape.count u.es) w:=by
 refine ⟨four h.box5,?_⟩
 refine (heldCluster_any w u c.conflict gu 1 h.held (by omega) (by omega)).mono ?_
 rintro e w' ⟨rfl,hb⟩
 exact ⟨rfl,h2i x hz gk (h.below hb)⟩
include x gu hz gk cluS rowS in
theorem to4 {w:World} (h:PQ W Ms sb (.cells #[.slice sp1 sp2 sp3,.slice sn1 sn2 sn3,.slice sc1 sc2 sc3,.bool c.conflict] 28) tb (.cells #[.slice u.p.ao u.p.xs.length u.p.cap,.slice u.m.ao u.m.xs.length u.m.cap,.slice u.c.ao u.c.xs.length u.c.cap,.bool c.conflict] 28) u.es (plain kb .int 0 ks.length) (1+shape.count u.es) w):S_to4 W ao (rl.length) cap aN d (c.conflict) (ks.length) sp1 sp2 sp3 sn1 sn2 sn3 sc1 sc2 sc3 sk skc sb g1 (u.p.ao) (u.p.xs.length) (u.p.cap) (u.m.ao) (u.m.xs.length) (u.m.cap) (u.c.ao) (u.c.xs.length) (u.c.cap) tk tkc tb y (shape.count u.es) w:=by
 refine (x.to h.s.bel).mono ?_
 rintro e w1 ⟨us',rfl,ho,b1⟩
 have h1:=h.below b1
 refine ⟨w.heap.size,rfl,?_⟩
 refine (x.impl w1 (whole w1) (whole_in w1) _ _ _ _ (evL_e rl us') (evs_of ho)).mono ?_
 rintro e w2 ⟨p1,p2,p3,n1,n2,n3,c1,c2,c3,k1,k3,rfl,M9,ps,ms,cs,f9,hcs,hrow,hown,hap⟩
 obtain ⟨X,hX⟩:∃ X,w2.alloc (.cells #[.slice p1 p2 p3,.slice n1 n2 n3,.slice c1 c2 c3,.bool c.conflict] 28)=X:=⟨_,rfl⟩
 have bX:Below w2.heap.size w2 X:=by rw [←hX];exact more (Below.refl _ _) _
 have xX:X.heap[w2.heap.size]?=some (.cells #[.slice p1 p2 p3,.slice n1 n2 n3,.slice c1 c2 c3,.bool c.conflict] 28 (0,0)):=by rw [←hX];exact heap_alloc_new w2 _
 have h2:=(h1.below f9.below).below bX
 have iX:In M9 X:=f9.inn.below bX
 refine ⟨p1,p2,p3,n1,n2,n3,c1,c2,c3,k1,k3,rfl,X,hX,⟨four xX,four h2.s.box3⟩,?_⟩
 refine (eqClu c.conflict iX h2.s.inS hcs.clu cluS X (Below.refl _ _)).mono ?_
 rintro e w3 ⟨rfl,b3⟩
 refine ⟨rfl,?_⟩
 refine (eqInts (iX.below b3) (h2.s.inS.below b3) rfl hrow rowS w3 (Below.refl _ _)).mono ?_
 rintro e w4 ⟨rfl,b4⟩
 exact ⟨rfl,h2c x gu hz gk ((h2.below b3).below b4)⟩
include x gu hz gk cluS rowS in
theorem h1c {w:World} (h:PQ W Ms sb (.cells #[.slice sp1 sp2 sp3,.slice sn1 sn2 sn3,.slice sc1 sc2 sc3,.bool c.conflict] 28) tb (.cells #[.slice u.p.ao u.p.xs.length u.p.cap,.slice u.m.ao u.m.xs.length u.m.cap,.slice u.c.ao u.c.xs.length u.c.cap,.bool c.conflict] 28) u.es (plain kb .int 0 ks.length) (1+shape.count u.es) w):S_h1c W ao (rl.length) cap aN d (c.conflict) (ks.length) sp1 sp2 sp3 sn1 sn2 sn3 sc1 sc2 sc3 sk skc sb g1 (u.p.ao) (u.p.xs.length) (u.p.cap) (u.m.ao) (u.m.xs.length) (u.m.cap) (u.c.ao) (u.c.xs.length) (u.c.cap) tk tkc tb y (shape.count u.es) w:=by
 have hl:=x.ans.1
 refine ⟨four h.box5,?_⟩
 refine (heldCluster_any w u c.conflict gu 1 h.held (by omega) (by omega)).mono ?_
 rintro e w1 ⟨rfl,hb⟩
 have h1:=h.below hb
 refine ⟨rfl,?_⟩
 refine (heldIntS_any w1 tk kb 0 ks.length tkc gk.1 gk.2.1 gk.2.2 _ h1.heldk (by omega) (by omega)).mono ?_
 rintro e w' ⟨rfl,e9⟩
 obtain rfl:=e9.symm
 exact ⟨rfl,to4 x cluS rowS gu hz gk h1⟩
variable {Mt:Fz} (cluT:CluV Mt c (.slice u.p.ao u.p.xs.length u.p.cap) (.slice u.m.ao u.m.xs.length u.m.cap) (.slice u.c.ao u.c.xs.length u.c.cap)) (rowT:RowM Mt (.slice tk ks.length tkc) ks.length 1 (ints ks)) (lo:Nat)
variable (hMs:∀ b,Ms b≠none→b<g1) (hg:W.heap.size≤g1∧sb<g1∧g1≤lo∧lo≤tb) (bu:∀ e∈u.es,lo≤e.at.1∧e.at.1<tb) (bk:∀ e∈plain kb .int 0 ks.length,(lo≤e.at.1∧e.at.1<tb)∧∀ a∈u.es,a.at.1≠e.at.1)
include x gu hz nu gk cluS rowS hMs hg bu bk in
theorem mkc {w:World} (h:PT W Ms sb (.cells #[.slice sp1 sp2 sp3,.slice sn1 sn2 sn3,.slice sc1 sc2 sc3,.bool c.conflict] 28) tb (.cells #[.slice u.p.ao u.p.xs.length u.p.cap,.slice u.m.ao u.m.xs.length u.m.cap,.slice u.c.ao u.c.xs.length u.c.cap,.bool c.conflict] 28) u.es (plain kb .int 0 ks.length) Mt w):S_mkc W ao (rl.length) cap aN d (c.conflict) (ks.length) sp1 sp2 sp3 sn1 sn2 sn3 sc1 sc2 sc3 sk skc sb g1 (u.p.ao) (u.p.xs.length) (u.p.cap) (u.m.ao) (u.m.xs.length) (u.m.cap) (u.c.ao) (u.c.xs.length) (u.c.cap) tk tkc tb y (shape.count u.es) w:=by
 have hl:=x.ans.1
 refine ⟨four h.box5,?_⟩
 refine (markCluster_any w u c.conflict gu h.oku nu 1 (by omega) (by omega)).mono ?_
 rintro e w1 ⟨rfl,ew1⟩
 obtain ⟨X,hX⟩:∃ X,w.alloc (.cells #[.slice u.p.ao u.p.xs.length u.p.cap,.slice u.m.ao u.m.xs.length u.m.cap,.slice u.c.ao u.c.xs.length u.c.cap,.bool c.conflict] 28)=X:=⟨_,rfl⟩
 have bX:Below w.heap.size w X:=by rw [←hX];exact more (Below.refl _ _) _
 have hx:=h.below bX
 rw [hX] at ew1
 have fM:∀ b,lo≤b→Ms b=none:=fun b hb=>by
  cases e:Ms b with
  | none=>rfl
  | some o=>have:=hMs b (by rw [e];simp);omega
 have blk1:∀ b,(∀ a∈u.es,a.at.1≠b)→w1.heap[b]?=X.heap[b]? := fun b hb=>by rw [ew1];exact marked_block _ _ _ b hb
 have s1:PS1 W Ms sb (.cells #[.slice sp1 sp2 sp3,.slice sn1 sn2 sn3,.slice sc1 sc2 sc3,.bool c.conflict] 28) w1:=⟨by rw [ew1];exact marked_below _ _ _ _ _ hx.s.bel (fun e he=>by have:=(bu e he).1;omega),by rw [ew1];exact marked_in hx.s.inS _ _ (fun e he=>fM _ (bu e he).1),(blk1 sb (fun a ha e=>by have:=(bu a ha).1;omega)).trans hx.s.box3⟩
 have b51:=(blk1 tb (fun a ha e=>by have:=(bu a ha).2;omega)).trans hx.box5
 have ok1:Ok w1 (plain kb .int 0 ks.length):=by
  rw [ew1]
  exact Ok.marked hx.okk _ _ (fun a ha e he e'=>(bk e he).2 a ha (by rw [e']))
 have hd1:Held w1 u.es 1:=by rw [ew1];exact Held.of _ _ _ hx.oku nu
 refine ⟨rfl,?_⟩
 refine (markIntS_any w1 tk kb 0 ks.length tkc gk.1 gk.2.1 gk.2.2 ok1 _ (by omega) (by omega)).mono ?_
 rintro e w2 ⟨rfl,ew2⟩
 have blk2:∀ b,(∀ a∈plain kb .int 0 ks.length,a.at.1≠b)→w2.heap[b]?=w1.heap[b]? := fun b hb=>by rw [ew2];exact marked_block _ _ _ b hb
 refine ⟨rfl,h1c x cluS rowS gu hz gk ⟨⟨?_,?_,?_⟩,?_,?_,?_⟩⟩
 ·rw [ew2];exact marked_below _ _ _ _ _ s1.bel (fun e he=>by have:=(bk e he).1.1;omega)
 ·rw [ew2];exact marked_in s1.inS _ _ (fun e he=>fM _ (bk e he).1.1)
 ·exact (blk2 sb (fun a ha e=>by have:=(bk a ha).1.1;omega)).trans s1.box3
 ·exact (blk2 tb (fun a ha e=>by have:=(bk a ha).1.2;omega)).trans b51
 ·exact Held.frame _ _ hd1 (fun e he=>by rw [ew2];exact marked_other _ _ _ _ _ (fun a ha e'=>(bk a ha).2 e he (by rw [e'])))
 ·rw [ew2];exact Held.of _ _ _ ok1 (plain_nd ..)
include x gu hz nu gk cluS rowS cluT rowT hMs hg bu bk in
theorem eqc1b {w:World} (h:PT W Ms sb (.cells #[.slice sp1 sp2 sp3,.slice sn1 sn2 sn3,.slice sc1 sc2 sc3,.bool c.conflict] 28) tb (.cells #[.slice u.p.ao u.p.xs.length u.p.cap,.slice u.m.ao u.m.xs.length u.m.cap,.slice u.c.ao u.c.xs.length u.c.cap,.bool c.conflict] 28) u.es (plain kb .int 0 ks.length) Mt w):S_eqc1b W ao (rl.length) cap aN d (c.conflict) (ks.length) sp1 sp2 sp3 sn1 sn2 sn3 sc1 sc2 sc3 sk skc sb g1 (u.p.ao) (u.p.xs.length) (u.p.cap) (u.m.ao) (u.m.xs.length) (u.m.cap) (u.c.ao) (u.c.xs.length) (u.c.cap) tk tkc tb y (shape.count u.es) w:=by
 refine ⟨⟨four h.box5,four h.s.box3⟩,?_⟩
 refine (eqClu c.conflict h.inT h.s.inS cluT cluS w (Below.refl _ _)).mono ?_
 rintro e w1 ⟨rfl,b1⟩
 have h1:=h.below b1
 refine ⟨rfl,?_⟩
 refine (eqInts h1.inT h1.s.inS rfl rowT rowS w1 (Below.refl _ _)).mono ?_
 rintro e w2 ⟨rfl,b2⟩
 exact ⟨rfl,mkc x cluS rowS gu hz nu gk lo hMs hg bu bk (h1.below b2)⟩
variable {us2:List Value} (ev:∀ w,OwnRecs w g1 (.slice (some ⟨g1,0,none⟩) rl.length rl.length) rl us2→(Value.slice (some ⟨g1,0,none⟩) rl.length rl.length=.slice (evR g1 us2).ao (evR g1 us2).xs.length (evR g1 us2).cap)∧(evR g1 us2).Good∧Ok w (evR g1 us2).es∧shape.Nd (evR g1 us2).es∧(∀ e∈(evR g1 us2).es,g1≤e.at.1)∧count (evR g1 us2).es≤3145728) (hy:y=count (evR g1 us2).es) (be:∀ e∈(evR g1 us2).es,g1≤e.at.1∧e.at.1<lo) (hMt:∀ b,b<lo→Mt b=none)
include x gu hz nu gk cluS rowS cluT rowT hMs hg bu bk ev hy be hMt in
theorem eqc1 {w:World} (h:PT W Ms sb (.cells #[.slice sp1 sp2 sp3,.slice sn1 sn2 sn3,.slice sc1 sc2 sc3,.bool c.conflict] 28) tb (.cells #[.slice u.p.ao u.p.xs.length u.p.cap,.slice u.m.ao u.m.xs.length u.m.cap,.slice u.c.ao u.c.xs.length u.c.cap,.bool c.conflict] 28) u.es (plain kb .int 0 ks.length) Mt w) (ho:OwnRecs w g1 (.slice (some ⟨g1,0,none⟩) rl.length rl.length) rl us2):S_eqc1 W ao (rl.length) cap aN d (c.conflict) (ks.length) sp1 sp2 sp3 sn1 sn2 sn3 sc1 sc2 sc3 sk skc sb g1 (u.p.ao) (u.p.xs.length) (u.p.cap) (u.m.ao) (u.m.xs.length) (u.m.cap) (u.c.ao) (u.c.xs.length) (u.c.cap) tk tkc tb y (shape.count u.es) w:=by
 refine ⟨⟨four h.box5,four h.s.box3⟩,?_⟩
 refine (eqClu c.conflict h.inT h.s.inS cluT cluS w (Below.refl _ _)).mono ?_
 rintro e w1 ⟨rfl,b1⟩
 have h1:=h.below b1
 have o1:=ho.below b1 (Nat.le_refl _)
 refine ⟨rfl,?_⟩
 refine (eqInts h1.inT h1.s.inS rfl rowT rowS w1 (Below.refl _ _)).mono ?_
 rintro e w2 ⟨rfl,b2⟩
 have h2:=h1.below b2
 have o2:=o1.below b2 (Nat.le_refl _)
 refine ⟨rfl,?_⟩
 refine (x.to h2.s.bel).mono ?_
 rintro e w3 ⟨us3,rfl,ho3,b3⟩
 have h3:=h2.below b3
 have o3:=o2.below b3 (Nat.le_refl _)
 refine ⟨w2.heap.size,rfl,?_⟩
 refine (eqEvents (whole_in w3) (whole_in w3) (evs_of o3) (evs_of ho3) (by rw [evL_e,evL_e]) w3 (Below.refl _ _)).mono ?_
 rintro e w4 ⟨rfl,b4⟩
 have h4:=h3.below b4
 have o4:=o3.below b4 (Nat.le_refl _)
 refine ⟨rfl,?_⟩
 obtain ⟨v1,v2,v3,v4,v5,v6⟩:=ev w4 o4
 have hm:=markEventS_any w4 (evR g1 us2) v2 v3 v4 1 (by omega) (by omega)
 rw [←v1] at hm
 show Hid _
 refine hm.mono ?_
 rintro e w5 ⟨rfl,ew5⟩
 have blk:∀ b,(∀ a∈(evR g1 us2).es,a.at.1≠b)→w5.heap[b]?=w4.heap[b]? := fun b hb=>by rw [ew5];exact marked_block _ _ _ b hb
 refine ⟨by rw [hy],eqc1b x cluS rowS gu hz nu gk cluT rowT lo hMs hg bu bk ⟨⟨?_,?_,?_⟩,?_,?_,?_,?_⟩⟩
 ·rw [ew5];exact marked_below _ _ _ _ _ h4.s.bel (fun e he=>by have:=(be e he).1;omega)
 ·rw [ew5]
  refine marked_in h4.s.inS _ _ (fun e he => ?_)
  cases em:Ms e.at.1 with
  | none=>rfl
  | some o=>have:=hMs e.at.1 (by rw [em];simp);have:=(be e he).1;omega
 ·exact (blk sb (fun a ha e=>by have:=(be a ha).1;omega)).trans h4.s.box3
 ·exact (blk tb (fun a ha e=>by have:=(be a ha).2;omega)).trans h4.box5
 ·rw [ew5];exact marked_in h4.inT _ _ (fun e he=>hMt _ (be e he).2)
 ·rw [ew5];exact Ok.marked h4.oku _ _ (fun a ha e he e'=>by have:=(be a ha).2;have:=(bu e he).1;rw [e'] at *;omega)
 ·rw [ew5];exact Ok.marked h4.okk _ _ (fun a ha e he e'=>by have:=(be a ha).2;have:=(bk e he).1.1;rw [e'] at *;omega)
end
theorem to1 {W:World} {ao:Option Addr} {cap:Nat} {aN d:Int} {c:Cl} {ks:List Int} {rl:List Rec3} {us:List Value} (x:Cx W ao cap aN d c ks rl us) {w:World} (hb:Below W.heap.size W w):S_to1 W ao (rl.length) cap aN d (c.conflict) (ks.length) w:=by
 refine (x.to hb).mono ?_
 rintro e w1 ⟨us1,rfl,ho1,b1⟩
 have bel1:Below W.heap.size W w1:=hb.trans (b1.mono hb.size)
 refine ⟨w.heap.size,rfl,?_⟩
 refine (x.spec w1 (whole w1) (whole_in w1) _ _ _ _ (evL_e rl us1) (evs_of ho1)).mono ?_
 rintro e w2 ⟨sp1,sp2,sp3,sn1,sn2,sn3,sc1,sc2,sc3,sk,skc,rfl,Ms,f2,cluS,rowS⟩
 obtain ⟨X,hX⟩:∃ X,w2.alloc (.cells #[.slice sp1 sp2 sp3,.slice sn1 sn2 sn3,.slice sc1 sc2 sc3,.bool c.conflict] 28)=X:=⟨_,rfl⟩
 have bX:Below w2.heap.size w2 X:=by rw [←hX];exact more (Below.refl _ _) _
 have sX:X.heap.size=w2.heap.size+1:=by rw [←hX];exact World.size_alloc ..
 have xX:X.heap[w2.heap.size]?=some (.cells #[.slice sp1 sp2 sp3,.slice sn1 sn2 sn3,.slice sc1 sc2 sc3,.bool c.conflict] 28 (0,0)):=by rw [←hX];exact heap_alloc_new w2 _
 have bel2:Below W.heap.size W w2:=bel1.trans (f2.below.mono bel1.size)
 have p2:PS1 W Ms w2.heap.size (.cells #[.slice sp1 sp2 sp3,.slice sn1 sn2 sn3,.slice sc1 sc2 sc3,.bool c.conflict] 28) X:=⟨bel2.trans (bX.mono bel2.size),f2.inn.below bX,xX⟩
 refine ⟨sp1,sp2,sp3,sn1,sn2,sn3,sc1,sc2,sc3,sk,skc,rfl,X,hX,?_⟩
 refine (x.to p2.bel).mono ?_
 rintro e w3 ⟨us2,rfl,ho3,b3⟩
 have p3:=p2.below b3
 refine ⟨X.heap.size,rfl,?_⟩
 refine (x.impl w3 (whole w3) (whole_in w3) _ _ _ _ (evL_e rl us2) (evs_of ho3)).mono ?_
 rintro e w4 ⟨p1,q2,q3,n1,n2,n3,c1,c2,c3,tk,tkc,rfl,M4,ps,ms,cs,f4,hcs,hrow,hown,hap⟩
 have hcf:=cu_facts f4.inn hcs x.ans.2.peers x.ans.2.net x.ans.2.sizes
 obtain ⟨k1,k2,k3,k4,k5⟩:=sl_facts f4.inn (show RowM M4 (.slice tk ks.length tkc) ks.length 1 (ints ks) from hrow) hown .int
 have blkU:=fun (b:Nat) (hb:b∈peersB (.slice p1 q2 q3) ps++(msgsB (.slice n1 n2 n3) ms++recsB (.slice c1 c2 c3) cs))=>crun.CluS.blk hcs hb
 have cluT:=clu_res hcs
 have rowT:RowM (res w3.heap.size M4) (.slice tk ks.length tkc) ks.length 1 (ints ks):=row_res hrow hown
 obtain ⟨u,hu⟩:∃ u,u=cuOf (.slice p1 q2 q3) (.slice n1 n2 n3) (.slice c1 c2 c3) ps ms cs:=⟨_,rfl⟩
 rw [←hu] at hcf
 clear hu
 obtain ⟨⟨e1,e2,e3⟩,gu,oku,nu,bu,hz⟩:=hcf
 have bu2:∀ e∈u.es,(w3.heap.size≤e.at.1∧e.at.1<w4.heap.size)∧e.at.1∉ownB (.slice tk ks.length tkc):=fun e he=>⟨⟨(blkU _ (bu e he)).1,f4.inn.lt (Option.ne_none_iff_exists'.1 (blkU _ (bu e he)).2).choose_spec⟩,fun h=>hap _ h (bu e he)⟩
 simp only [Value.slice.injEq] at e1 e2 e3
 obtain ⟨rfl,rfl,rfl⟩:=e1
 obtain ⟨rfl,rfl,rfl⟩:=e2
 obtain ⟨rfl,rfl,rfl⟩:=e3
 obtain ⟨Y,hY⟩:∃ Y,w4.alloc (.cells #[.slice u.p.ao u.p.xs.length u.p.cap,.slice u.m.ao u.m.xs.length u.m.cap,.slice u.c.ao u.c.xs.length u.c.cap,.bool c.conflict] 28)=Y:=⟨_,rfl⟩
 have bY:Below w4.heap.size w4 Y:=by rw [←hY];exact more (Below.refl _ _) _
 have xY:Y.heap[w4.heap.size]?=some (.cells #[.slice u.p.ao u.p.xs.length u.p.cap,.slice u.m.ao u.m.xs.length u.m.cap,.slice u.c.ao u.c.xs.length u.c.cap,.bool c.conflict] 28 (0,0)):=by rw [←hY];exact heap_alloc_new w4 _
 have b4:=f4.below.size
 have b33:=b3.size
 have hev:=fun w' (h:OwnRecs w' X.heap.size (.slice (some ⟨X.heap.size,0,none⟩) rl.length rl.length) rl us2)=>ev_facts h x.sum
 have hE:=hev w3 ho3
 have hslo:(slOf (.slice tk ks.length tkc)).o=0:=by cases tk <;> rfl
 have hsn:(slOf (.slice tk ks.length tkc)).n=ks.length:=k2
 have hsa:(slOf (.slice tk ks.length tkc)).ao=tk:=by cases tk <;> rfl
 have hsc:(slOf (.slice tk ks.length tkc)).cap=tkc:=by cases tk <;> rfl
 rw [hslo,hsn] at k4 k5
 obtain ⟨g1,g2,g3⟩:=k3
 rw [hsn] at g1 g2
 rw [hsa,hslo] at g1
 rw [hsc] at g2 g3
 refine ⟨_,_,_,_,_,_,_,_,_,tk,tkc,count (evR X.heap.size us2).es,shape.count u.es,rfl,⟨by have:=hE.2.2.2.2.2;omega,by omega⟩,Y,hY,?_⟩
 refine eqc1 x cluS rowS gu hz nu ⟨g1,g2,g3⟩ cluT rowT w3.heap.size (fun b hb => ?_) ⟨?_,by omega,by omega,by omega⟩ (fun e he=>(bu2 e he).1) (fun e he=>⟨?_,fun a ha e' => ?_⟩) hev rfl (fun e he=>⟨hE.2.2.2.2.1 e he,mk5.Ok.lt hE.2.2.1 e he⟩) (fun b hb => ?_) ⟨(p3.below f4.below).below bY,xY,(res_in f4.inn).below bY,mk5.Ok.below oku bY,mk5.Ok.below k4 bY⟩ ((ho3.below f4.below (Nat.le_refl _)).below bY (Nat.le_refl _))
 ·have:=f2.inn.lt (Option.ne_none_iff_exists'.1 hb).choose_spec
  omega
 ·have:=p2.bel.size;omega
 ·have h9:=hown.blk (k5 e he)
  exact ⟨h9.1,f4.inn.lt (Option.ne_none_iff_exists'.1 h9.2).choose_spec⟩
 ·have:=k5 e he
  rw [←e'] at this
  exact (bu2 a ha).2 this
 ·unfold res
  rw [if_neg (by omega)]
end Go.Proofs.YtcfdmbkiinjmaaaGreat.xlaw
namespace Go.Proofs.YtcfdmbkiinjmaaaGreat.xlaw
open Raft mem grp own shape mk1 mk2 mk3 mk5 shp crun evto gtold gt8 ntold evs outs eq1 eqv
set_option maxRecDepth 40000 in
set_option maxHeartbeats 8000000 in
theorem walk (W:World) (ao:Option Addr) (n cap:Nat) (aN:Int) (hc:n≤cap∧cap≤maxLen) (H:Calls Tryz.prog 4 #[.slice ao n cap,.int .i64 1048576] W fun e w'=>∃ r:Int,e=.returned (.int .i64 r)∧Hid (Below W.heap.size W w')∧(r<0∨(0≤r∧∃ (d:Int) (cf:Bool) (L:Nat),L≤1000∧S_to1 W ao n cap aN d cf L w'))) :
  Calls Tryz.prog 3 #[.int .i64 aN,.slice ao n cap] W fun r w'=>r=.returned (.bool true)∧Below W.heap.size W w':=by
 obtain ⟨hc1,hc2⟩:=hc
 unfold maxLen at hc2
 have H0:=hide H
 clear H
 go_enter Tryz.func3,Tryz.ntmps3
 go_wp2_with fail
 refine H0.out.mono ?_
 rintro e w1 ⟨r,rfl,HB0,hr⟩
 clear H0
 rcases hr with hr | ⟨hr,d,cf,L,hL,H1⟩
 ·go_wp2
  go_ret
  exact ⟨rfl,HB0.out⟩
 have hr':¬ r<0:=by omega
 clear HB0
 have hdd:(d != d)=false:=by simp
 go_wp2_with fail
 refine (Hid.out H1).mono ?_
 rintro e w2 ⟨g,rfl,H2⟩
 clear H1
 go_wp2_with fail
 refine (Hid.out H2).mono ?_
 rintro e w3 ⟨sp1,sp2,sp3,sn1,sn2,sn3,sc1,sc2,sc3,sk,skc,rfl,X3,hX3,H3⟩
 clear H2
 go_wp2_with fail
 (try rw [hX3])
 refine (Hid.out H3).mono ?_
 rintro e w4 ⟨g1,rfl,H4⟩
 clear H3 hX3
 go_wp2_with fail
 refine (Hid.out H4).mono ?_
 rintro e w5 ⟨tp1,tp2,tp3,tn1,tn2,tn3,tc1,tc2,tc3,tk,tkc,y,z,rfl,⟨hy,hz⟩,X5,hX5,H5⟩
 obtain ⟨⟨⟨a0,a1,a2,a3⟩,b0,b1,b2,b3⟩,H5⟩:=H5
 clear H4
 have hz1:¬ 1+(z:Int)<0:=by omega
 have hz2:¬ 1+(z:Int)+(L:Int)<0:=by omega
 have hy1:¬ 1+(y:Int)<0:=by omega
 have hee:((1+(z:Int)+(L:Int)) != (1+(z:Int)+(L:Int)))=false:=by simp
 go_wp2_with fail
 (try rw [hX5])
 refine (Hid.out H5).mono ?_
 rintro e w6 ⟨rfl,H6⟩
 clear H5 hX5 a0 a1 a2 a3 b0 b1 b2 b3
 go_wp2_with fail
 refine (Hid.out H6).mono ?_
 rintro e w7 ⟨rfl,H7⟩
 clear H6
 go_wp2_with fail
 refine (Hid.out H7).mono ?_
 rintro e w8 ⟨g2,rfl,H8⟩
 clear H7
 go_wp2_with fail
 refine (Hid.out H8).mono ?_
 rintro e w9 ⟨rfl,H9⟩
 clear H8
 go_wp2_with fail
 refine (Hid.out H9).mono ?_
 rintro e w10 ⟨rfl,H10⟩
 obtain ⟨⟨⟨a0,a1,a2,a3⟩,b0,b1,b2,b3⟩,H10⟩:=H10
 clear H9
 go_wp2_with fail
 refine (Hid.out H10).mono ?_
 rintro e w11 ⟨rfl,H11⟩
 clear H10 a0 a1 a2 a3 b0 b1 b2 b3
 go_wp2_with fail
 refine (Hid.out H11).mono ?_
 rintro e w12 ⟨rfl,H12⟩
 obtain ⟨⟨a0,a1,a2,a3⟩,H12⟩:=H12
 clear H11
 go_wp2_with fail
 refine (Hid.out H12).mono ?_
 rintro e w13 ⟨rfl,H13⟩
 clear H12 a0 a1 a2 a3
 go_wp2_with fail
 refine (Hid.out H13).mono ?_
 rintro e w14 ⟨rfl,H14⟩
 obtain ⟨⟨a0,a1,a2,a3⟩,H14⟩:=H14
 clear H13
 go_wp2_with fail
 refine (Hid.out H14).mono ?_
 rintro e w15 ⟨rfl,H15⟩
 clear H14 a0 a1 a2 a3
 go_wp2_with fail
 refine (Hid.out H15).mono ?_
 rintro e w16 ⟨rfl,H16⟩
 clear H15
 go_wp2_with fail
 refine (Hid.out H16).mono ?_
 rintro e w17 ⟨g3,rfl,H17⟩
 clear H16
 go_wp2_with fail
 refine (Hid.out H17).mono ?_
 rintro e w18 ⟨hp1,hp2,hp3,hn1,hn2,hn3,hc1',hc2',hc3,hk,hkc,rfl,X8,hX8,H18⟩
 obtain ⟨⟨⟨a0,a1,a2,a3⟩,b0,b1,b2,b3⟩,H18⟩:=H18
 clear H17
 go_wp2_with fail
 (try rw [hX8])
 refine (Hid.out H18).mono ?_
 rintro e w19 ⟨rfl,H19⟩
 clear H18 hX8 a0 a1 a2 a3 b0 b1 b2 b3
 go_wp2_with fail
 refine (Hid.out H19).mono ?_
 rintro e w20 ⟨rfl,H20⟩
 obtain ⟨⟨a0,a1,a2,a3⟩,H20⟩:=H20
 clear H19
 go_wp2_with fail
 refine (Hid.out H20).mono ?_
 rintro e w21 ⟨rfl,H21⟩
 clear H20 a0 a1 a2 a3
 go_wp2_with fail
 refine (Hid.out H21).mono ?_
 rintro e w22 ⟨rfl,H22⟩
 clear H21
 go_wp2
 go_ret
 exact ⟨rfl,H22.out⟩
end Go.Proofs.YtcfdmbkiinjmaaaGreat.xlaw
namespace Go.Proofs.YtcfdmbkiinjmaaaGreat.given
open bytes pile
theorem spot_none {w:World} {x:Addr} {v:Value} (h:w.cell? (x.add 0)=some v):x.spot=none:=by
 obtain ⟨b,off,spot⟩:=x
 simpa [Addr.add] using World.cell?_spot h
theorem rdA_row {w:World} {a:Option Addr} {len cap:Nat} {zs:List Int} (h:(a=none∧len=0∧cap=0)∨∃ x,a=some x∧len≤cap∧cap≤maxLen∧zs.length=cap∧(∀ i,i<zs.length→w.cell? (x.add i)=some (.int .u8 (zs.getD i 0)))∧∀ n∈zs,(Lit.int .u8 n).wf=true) :
  ∃ xs:List Int,RdA w (.slice a len cap) xs∧xs.length=len:=by
 rcases h with ⟨rfl,rfl,rfl⟩|⟨x,rfl,hl,hm,hz,hcell,hwz⟩
 ·exact ⟨[],⟨⟨none,0,rfl,by simp,by simp [maxLen],by simp,by simp⟩,fun _ _ _=>rfl⟩,rfl⟩
 ·have hlen:(zs.take len).length=len:=by simp;omega
  refine ⟨zs.take len,⟨⟨some x,cap,by rw [hlen],by omega,hm,?_,fun hp => ?_⟩,fun n c e=>by simp at e⟩,hlen⟩
  ·intro y hy
   have:=hwz y (List.mem_of_mem_take hy)
   simpa [Lit.wf,IntKind.min,IntKind.max,IntKind.signed,IntKind.bits] using this
  ·have hs:=spot_none (hcell 0 (by omega))
   obtain ⟨b,off,spot⟩:=x
   simp only at hs
   subst hs
   refine ⟨b,off,rfl,fun i hi => ?_⟩
   have:=hcell i (by omega)
   rw [add_at] at this
   rw [this]
   have hi':i<len:=by omega
   simp [List.getD_eq_getElem?_getD,hi']
section
variable {H:Type} {enc:TypeId×Value→H} {w:World} {base:Nat} {held:Bool}
theorem open_bytes {fuel:Nat} {cs:List Value} {x:DataW H×List MemPlace} (hf:DataW.trod enc Tryz.prog w base (fun _=>true) held fuel 42 cs=some x):∃ v xs,cs=[v]∧RdA w v xs:=by
 rcases open_ints Tryz.underlying42 Tryz.underlying5 (by kernel_rfl) hf with ⟨hcs,_⟩|⟨x,l,c,zs,hcs,_,hl,hm,hz,_,hcell,hwz⟩
 ·obtain ⟨xs,h1,_⟩:=rdA_row (w:=w) (a:=none) (len:=0) (cap:=0) (zs:=[]) (.inl ⟨rfl,rfl,rfl⟩)
  exact ⟨_,xs,hcs,h1⟩
 ·obtain ⟨xs,h1,_⟩:=rdA_row (w:=w) (a:=some x) (len:=l) (cap:=c) (zs:=zs) (.inr ⟨_,rfl,hl,hm,by simpa using hz,hcell,hwz⟩)
  exact ⟨_,xs,hcs,h1⟩
end
end Go.Proofs.YtcfdmbkiinjmaaaGreat.given
namespace Go.Proofs.YtcfdmbkiinjmaaaGreat.argev
open bytes pile given evto
open Go.Joins
section
variable {H:Type} {enc:TypeId×Value→H} {w:World} {base:Nat} {held:Bool}
theorem int_cell {fuel:Nat} {v:Value} {x:DataW H×List MemPlace} (hf:DataW.trod enc Tryz.prog w base (fun _=>true) held fuel 3 [v]=some x):∃ n:Int,v=.int .i64 n ∧ -9223372036854775808≤n∧n≤9223372036854775807:=by
 obtain ⟨n',h,hx,hw⟩:=DataW.trod_int Tryz.underlying3 hf
 simp only [List.cons.injEq,and_true] at h
 refine ⟨n',h,?_⟩
 simpa [Lit.wf,IntKind.min,IntKind.max,IntKind.signed,IntKind.bits] using hw
theorem cellsRec:Tryz.prog.cellsOf 44=3:=by kernel_rfl
theorem c3:Tryz.prog.cellsOf 3=1:=by kernel_rfl
theorem c22:Tryz.prog.cellsOf 42=1:=by kernel_rfl
set_option maxRecDepth 100000 in
theorem open_recs {fuel:Nat} {cs:List Value} {x:DataW H×List MemPlace} (hf:DataW.trod enc Tryz.prog w base (fun _=>true) held fuel 22 cs=some x):∃ v rl us,cs=[v]∧RdRecs w v rl us:=by
 rcases Go.Deep.open_slice Tryz.underlying22 hf with ⟨hcs,_⟩|⟨a,len,cap,m,n,D,Pl,hcs,hb,hl,hm,hmm,_,hx⟩
 ·exact ⟨_,[],[],hcs,rfl,⟨none,0,rfl,by simp,by simp [maxLen],by simp⟩,fun k hk=>by simp at hk⟩
 ·have hmc:m=cap:=by rw [hmm];rfl
  have each:∀ i,i<len→∃ q:Rec3×Value,w.cell? (a.add (i*3))=some (.int .i64 q.1.t)∧w.cell? (a.add (i*3+1))=some (.int .i64 q.1.i)∧w.cell? (a.add (i*3+2))=some q.2∧RdA w q.2 q.1.d:=fun i hi=>by
   obtain ⟨cs',h1,h2⟩:=hx i (by omega)
   rw [cellsRec] at h1
   obtain ⟨_,hlen,hcell⟩:=World.cells?_some h1
   obtain ⟨xs,k,_,_,_,hxl,hfs⟩:=DataW.trod_struct Tryz.underlying44 h2
   match xs,hxl,cs',hlen with
   | [y0,y1,y2],_,[v0,v1,v2],_ =>
    have g0:=hfs 0 _ rfl
    have g1:=hfs 1 _ rfl
    have g2:=hfs 2 _ rfl
    simp [c3,c22] at g0 g1 g2
    have e0:=hcell 0 (by omega)
    have e1:=hcell 1 (by omega)
    have e2:=hcell 2 (by omega)
    rw [Go.Deep.add_add] at e0 e1 e2
    obtain ⟨t,rfl,_⟩:=int_cell g0
    obtain ⟨j,rfl,_⟩:=int_cell g1
    obtain ⟨u,ys,hu,hr⟩:=open_bytes g2
    simp only [List.cons.injEq,and_true] at hu
    subst hu
    exact ⟨(⟨t,j,ys⟩,v2),by simpa using e0,by simpa using e1,by simpa using e2,hr⟩
  haveI:Inhabited (Rec3×Value):=⟨(zRec,.slice none 0 0)⟩
  obtain ⟨q,hq⟩:=Go.Deep.choose_lt each
  refine ⟨_,(List.range len).map (fun i=>(q i).1),(List.range len).map (fun i=>(q i).2),hcs,by simp,⟨some a,cap,by simp,by simpa using hl,hm,fun hp => ?_⟩,fun k hk => ?_⟩
  ·have hp':0<len:=by simpa using hp
   have hs:=spot_none (hq 0 hp').1
   obtain ⟨b,off,spot⟩:=a
   simp only at hs
   subst hs
   refine ⟨b,off,rfl,fun k hk => ?_⟩
   have hk':k<len:=by simpa using hk
   obtain ⟨x0,x1,x2,_⟩:=hq k hk'
   rw [add_at] at x0 x1 x2
   simp only [List.getD_eq_getElem?_getD,List.getElem?_map,List.getElem?_range hk',Option.map_some,Option.getD_some]
   exact ⟨x0,x1,x2⟩
  ·have hk':k<len:=by simpa using hk
   simp only [List.getD_eq_getElem?_getD,List.getElem?_map,List.getElem?_range hk',Option.map_some,Option.getD_some]
   exact (hq k hk').2.2.2
end
end Go.Proofs.YtcfdmbkiinjmaaaGreat.argev
namespace Go.Proofs.YtcfdmbkiinjmaaaGreat.fnExactClusterRun
open evto evs outs xlaw
theorem own:ownKnob Tryz.prog.godebug=none:=by kernel_rfl
theorem laidOut:laidOutB Tryz.prog=true:=by kernel_rfl
theorem law (W:World) (aN:Int) (ao:Option Addr) (n cap:Nat) (rl:List Rec3) (us:List Value) (h:RdRecs W (.slice ao n cap) rl us) :
  Calls Tryz.prog 3 #[.int .i64 aN,.slice ao n cap] W fun r w'=>r=.returned (.bool true)∧Below W.heap.size W w':=by
 obtain ⟨ao',cap',e,h1,h2,_⟩:=h.row
 simp only [Value.slice.injEq] at e
 obtain ⟨rfl,rfl,rfl⟩:=e
 refine walk W ao _ cap aN ⟨h1,h2⟩ ?_
 refine (szRecS_any W _ rl us 1048576 (by omega) (by omega) h).mono ?_
 rintro e w' ⟨⟨r,rfl,hr⟩,hb⟩
 refine ⟨r,rfl,hb,?_⟩
 rcases hr with hr | ⟨hr,hs⟩
 ·exact .inl hr
 refine .inr ⟨hr,?_⟩
 obtain ⟨c,ks,d,h3,h4,h5⟩:=both aN (evL rl us)
 simp only [evL_e] at h3 h4 h5
 exact ⟨d,c.conflict,ks.length,h3.1,to1 ⟨h,by omega,h3,h4,h5⟩ hb⟩
set_option maxRecDepth 100000 in
theorem lifted (os:Os) (started:os.Started) (H:Type) (enc:TypeId×Value→H) :
  ReturnsInHanded {} Tryz.checked os 3 .any (Rows.fnExactClusterRunSpec.pre6 enc Tryz.prog Tryz.f3 Rows.fnExactClusterRunRow.domain false) (Rows.fnExactClusterRunSpec.post enc Tryz.prog Tryz.f3 false true false false):=by
 refine returnsInHanded_of_change (C:=Tryz.checked) own started (by kernel_rfl) Tryz.func3
  (ChangeSpec.witness6 (enc:=enc) (C:=Tryz.checked) false ⟨#[],#[.int .i64 0,.slice none 0 0],[]⟩ 8 (by kernel_rfl) (by kernel_rfl) (by kernel_rfl) (by kernel_rfl)) ?_
 intro W base args ds gs before hval0 hW hcnd _
 have hval:∀ (j:Nat) t v,Tryz.f3.params[j]?=some t→args[j]?=some v→Value.okWide Tryz.prog W .any base t v:=hval0
 have hW':=hW
 obtain ⟨p,q,hA0,hV,rfl,hfz,hnd⟩:=hW
 have hA:DataW.TrodAll enc Tryz.prog W 0 (fun _=>true) true Tryz.f3.params.toList args.toList ds p:=hA0
 rw [Tryz.params3] at hA hval
 obtain ⟨v0,vs0,d0,ds0,p0,q0,hargs,rfl,rfl,h0,r0⟩:=trodAll_cons hA
 obtain ⟨v1,vs1,d1,ds1,p1,q1,hargs1,rfl,rfl,h1,r1⟩:=trodAll_cons r0
 obtain ⟨rfl,rfl,rfl⟩:=trodAll_nil r1
 obtain rfl:args=#[v0,v1]:=by cases args;simp_all
 obtain ⟨rfl,rfl⟩:=trodVars_none hV
 have k0:=h0
 have k1:=h1
 have lt0:∀ x∈p0,x.block<W.heap.size:=by obtain ⟨m,hm⟩:=k0;exact DataW.trod_lt m _ _ _ hm
 have lt1:∀ x∈p1,x.block<W.heap.size:=by obtain ⟨m,hm⟩:=k1;exact DataW.trod_lt m _ _ _ hm
 obtain ⟨a0,rfl,_⟩:=open_int Tryz.underlying3 (hval 0 3 v0 rfl rfl) h0
 obtain ⟨fuel1,hf1⟩:=h1
 obtain ⟨ta,tl,tc,rfl⟩:=okWide_slice Tryz.underlying22 (hval 1 22 v1 rfl rfl)
 obtain ⟨u1,rl,us,hu1,hr1⟩:=Go.Proofs.YtcfdmbkiinjmaaaGreat.argev.open_recs hf1
 simp only [Value.cells,List.cons.injEq,and_true] at hu1
 subst hu1
 clear hA0 hval0
 refine (law W a0 ta tl tc rl us hr1).mono fun e W' ⟨he,bel⟩ => ?_
 subst he
 exact ⟨_,rfl,_,_,_,[],_,[],hW',trodAll_mk1 (shut_bool Tryz.underlying4 _),(trodAll_cons_mk (Below.trod laidOut (by kernel_rfl) (of_decide_eq_true (by kernel_rfl)) k0 bel lt0) (trodAll_cons_mk (Below.trod laidOut (by kernel_rfl) (of_decide_eq_true (by kernel_rfl)) k1 bel lt1) trodAll_mk0)),rfl,bel.frame _,fun h=>by cases h⟩
theorem over:Rows.fnExactClusterRunRow.holds Tryz.pinned (OpenSpec.ofChange Rows.fnExactClusterRunSpec) :=
 OpenClaim.holds_of_wide 3 Tryz.f3 rfl rfl rfl rfl rfl rfl rfl ⟨rfl,rfl,rfl,rfl,rfl⟩ rfl rfl rfl rfl rfl (by kernel_rfl) Tryz.func3 (by kernel_rfl)
  (of_decide_eq_true (by kernel_rfl)) (by unfold Func.isWrapper;first | (rw [if_pos (by decide +kernel)];kernel_rfl) | (rw [if_neg (by decide +kernel)];exact ⟨rfl,rfl⟩))
  (fun os started H enc _=>lifted os started H enc)
theorem proved:Rows.FnExactClusterRunSaid:=over
#print axioms proved
end Go.Proofs.YtcfdmbkiinjmaaaGreat.fnExactClusterRun
