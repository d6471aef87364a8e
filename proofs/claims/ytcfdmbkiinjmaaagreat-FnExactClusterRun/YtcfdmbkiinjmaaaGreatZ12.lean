import Derived.Test.YtcfdmbkiinjmaaaGreatZ03
import Derived.Test.YtcfdmbkiinjmaaaGreatZ02
import Derived.Test.YtcfdmbkiinjmaaaGreatZ11
set_option linter.unusedVariables false
open Go.ChangeShapes Go.WideShapes Go.ChangeAt Go.RowKit
namespace Go.Proofs.YtcfdmbkiinjmaaaGreat.say
open Raft mem grp YtcfdmbkiinjmaaaGreat.look ndw grant post postb
theorem Did.from {M:Fz} {O:Lb} {w W w':World} {d:Nat} {nb:List Nat} {c':Cl} (st:Sta M O w) (hb:Below w.heap.size w W) (h:Did M O W d nb c' w'):Did M O w d nb c' w':=Did.trans ((Aft.refl _ st).below hb) h
set_option maxRecDepth 20000 in
set_option maxHeartbeats 4000000 in
theorem say_any (w:World) (M:Fz) (O:Lb) (d:Nat) (nb:List Nat) (c:Cl) (h:G w M O d nb c) (k b:Nat) (hb:nb[k]?=some b) («to» kind a b2 c2:Nat) (ok:Bool) (log:List Rc) (o:Option Addr) (n lc:Nat) (hlv:RecsM M (.slice o n lc) log) :
  Calls Tryz.prog 91 #[.pointer (some ⟨d,0,none⟩),.pointer (some ⟨b,0,none⟩),.int .i64 «to»,.agg #[.int .i64 kind,.int .i64 0,.int .i64 0,.int .i64 0,.int .i64 a,.int .i64 b2,.int .i64 c2,.bool ok,.slice o n lc]] w fun r w'=>r=.returned (.tuple #[])∧Did M O w d nb (c.send ⟨kind,k,«to»,(c.at k).term,a,b2,c2,ok,log⟩) w':=by
 have st:=h.sta
 obtain ⟨W,hW⟩:∃ W,w.alloc (.cells #[.int .i64 kind,.int .i64 0,.int .i64 0,.int .i64 0,.int .i64 a,.int .i64 b2,.int .i64 c2,.bool ok,.slice o n lc] 69)=W:=⟨_,rfl⟩
 have bW:Below w.heap.size w W:=by rw [←hW];exact more (Below.refl _ _) _
 have hbox:W.heap[w.heap.size]?=some (.cells #[.int .i64 kind,.int .i64 0,.int .i64 0,.int .i64 0,.int .i64 a,.int .i64 b2,.int .i64 c2,.bool ok,.slice o n lc] 69 (0,0)):=by rw [←hW];exact heap_alloc_new w _
 have hGW:=h.below bW
 obtain ⟨us,lv,vv,nv,mv,hn⟩:=hGW.at hb
 obtain ⟨⟨t0,_,_,t3,_⟩,_⟩:=Nd.cs hn
 have hbl:b<w.heap.size:=by
  obtain ⟨_,_,_,_,_,hn0⟩:=h.at hb
  exact (st.ok b _ hn0.own).2
 generalize (c.at k).term=T at *
 have z1:=cell_of (i:=1) hbox (v:=.int .i64 0) rfl
 have z2:=cell_of (i:=2) hbox (v:=.int .i64 0) rfl
 have z3:=cell_of (i:=3) hbox (v:=.int .i64 0) rfl
 have y1:=frozen_of hbox 1
 have y2:=frozen_of hbox 2
 have y3:=frozen_of hbox 3
 have hne1:¬ (w.heap.size=b):=by omega
 have hne2:¬ (b=w.heap.size):=by omega
 have HB2:Hid (Below w.heap.size w (((W.setCell ⟨w.heap.size,1,none⟩ (.int .i64 k)).setCell ⟨w.heap.size,2,none⟩ (.int .i64 «to»)).setCell ⟨w.heap.size,3,none⟩ (.int .i64 T))):=by
  have h1:Below w.heap.size w (W.setCell ⟨w.heap.size,1,none⟩ (.int .i64 k)):=bW.setCell (Nat.le_refl _) _
  have h2:Below w.heap.size w ((W.setCell ⟨w.heap.size,1,none⟩ (.int .i64 k)).setCell ⟨w.heap.size,2,none⟩ (.int .i64 «to»)):=h1.setCell (Nat.le_refl _) _
  exact h2.setCell (Nat.le_refl _) _
 have HX2:Hid ((((W.setCell ⟨w.heap.size,1,none⟩ (.int .i64 k)).setCell ⟨w.heap.size,2,none⟩ (.int .i64 «to»)).setCell ⟨w.heap.size,3,none⟩ (.int .i64 T)).heap[w.heap.size]?=some (.cells #[.int .i64 kind,.int .i64 k,.int .i64 «to»,.int .i64 T,.int .i64 a,.int .i64 b2,.int .i64 c2,.bool ok,.slice o n lc] 69 (0,0))):=sets_at [(1,.int .i64 k),(2,.int .i64 «to»),(3,.int .i64 T)] hbox
 have HS:Hid (∀ wx,Below w.heap.size w wx→Calls Tryz.prog 65 #[.pointer (some ⟨d,0,none⟩),.agg #[.int .i64 kind,.int .i64 k,.int .i64 «to»,.int .i64 T,.int .i64 a,.int .i64 b2,.int .i64 c2,.bool ok,.slice o n lc]] wx fun r w'=>r=.returned (.tuple #[])∧Did M O w d nb (c.send ⟨kind,k,«to»,T,a,b2,c2,ok,log⟩) w'):=fun wx hb=>by
  refine (send_any wx M O d nb c (h.below hb) ⟨kind,k,«to»,T,a,b2,c2,ok,log⟩ o n lc hlv).mono ?_
  rintro r w' ⟨rfl,h2⟩
  exact ⟨rfl,Did.from st hb h2⟩
 clear hn hGW hbox hlv h st bW hbl
 go_enter Tryz.func91,Tryz.ntmps91
 go_wp2
 go_region_law (fail)
 all_goals
  obtain ⟨W2,hW2⟩:∃ W2,(((W.setCell ⟨w.heap.size,1,none⟩ (.int .i64 k)).setCell ⟨w.heap.size,2,none⟩ (.int .i64 «to»)).setCell ⟨w.heap.size,3,none⟩ (.int .i64 T))=W2:=⟨_,rfl⟩
  have hx2:=HX2.out
  rw [hW2] at hx2
  rw [hW2] at HB2
  have r0:=cell_of (i:=0) hx2 (v:=.int .i64 kind) rfl
  have r1:=cell_of (i:=1) hx2 (v:=.int .i64 k) rfl
  have r2:=cell_of (i:=2) hx2 (v:=.int .i64 «to») rfl
  have r3:=cell_of (i:=3) hx2 (v:=.int .i64 T) rfl
  have r4:=cell_of (i:=4) hx2 (v:=.int .i64 a) rfl
  have r5:=cell_of (i:=5) hx2 (v:=.int .i64 b2) rfl
  have r6:=cell_of (i:=6) hx2 (v:=.int .i64 c2) rfl
  have r7:=cell_of (i:=7) hx2 (v:=.bool ok) rfl
  have r8:=cell_of (i:=8) hx2 (v:=.slice o n lc) rfl
  clear hx2 HX2 z1 z2 z3 y1 y2 y3 t0 t3
  go_wp2
  rw [hW2]
  clear hW2
  go_region_law (first | (go_simp;go_at_call 65;refine (HS.out _ (by first | exact HB2.out.drew.drew | exact HB2.out.drew)).mono ?_;rintro rr w5 ⟨rfl,hd5⟩;have HD5:=hide hd5;clear hd5))
  all_goals
   go_wp2
   go_end0
   exact ⟨rfl,HD5.out⟩
end Go.Proofs.YtcfdmbkiinjmaaaGreat.say
namespace Go.Proofs.YtcfdmbkiinjmaaaGreat.sendr
open Raft mem grp YtcfdmbkiinjmaaaGreat.look ndw grant stand rows2 clone behind post postb say
theorem G.frozen {w w':World} {M M':Fz} {O:Lb} {d:Nat} {nb:List Nat} {c:Cl} (h:G w M O d nb c) (hb:Below w.heap.size w w') (hl:Le M M') (hI:In M' w') (hn:∀ b,M' b≠none→M b≠none∨w.heap.size≤b):G w' M' O d nb c∧Aft (fun _=>False) M O w M' O w':=by
 have a:Aft (fun _=>False) M O w M' O w':=((Aft.refl _ h.sta).below hb).freezes hl hI hn (fun b l hbl=>by
  cases e:M' b with
  | none=>rfl
  | some o =>
   rcases hn b (by rw [e];simp) with h1 | h1
   ·exact absurd (h.sta.ok b l hbl).1 h1
   ·have:=(h.sta.ok b l hbl).2;omega)
 exact ⟨h.keep a,a⟩
set_option maxRecDepth 20000 in
set_option maxHeartbeats 4000000 in
theorem sendRecords_any (w:World) (M:Fz) (O:Lb) (d:Nat) (nb:List Nat) (c:Cl) (h:G w M O d nb c) (k b:Nat) (hb:nb[k]?=some b) («to» f:Nat) (hf:(c.at k).next[«to»]?=some f) (h1:1≤f) (h2:f≤(c.at k).log.length+1) (hl:(c.at k).log.length≤1000) (ht7 : «to» ≤ 7) :
  Calls Tryz.prog 83 #[.pointer (some ⟨d,0,none⟩),.pointer (some ⟨b,0,none⟩),.int .i64 «to»] w fun r w'=>r=.returned (.tuple #[])∧Did M O w d nb (c.records k «to») w':=by
 have st:=h.sta
 have hnode:=h.at hb
 obtain ⟨us,lv,vv,nv,mv,hn⟩:=id hnode
 obtain ⟨⟨_,_,_,_,_,c5,_,_,c8,_⟩,_⟩:=Nd.cs hn
 have htl : «to» < (c.at k).next.length:=(List.getElem?_eq_some_iff.1 hf).1
 obtain ⟨g,cap,rfl,hcap1,hcap2,hcells,_⟩:=own_at hn.next (by omega)
 have cg:=hcells «to» (.int .i64 f) (by rw [List.getElem?_map,hf];rfl)
 unfold maxLen at hcap2
 have hrec:c.records k «to» = c.send ⟨3,k,«to»,(c.at k).term,f-1,termAt (c.at k).log (f-1),(c.at k).commit,false,(c.at k).log.drop (f-1)⟩:=by
  unfold Cl.records
  have e:(c.at k).next.getD «to» 0=f:=by rw [List.getD_eq_getElem?_getD,hf];rfl
  simp only [e]
 rw [hrec]
 obtain ⟨e,rfl⟩:∃ e,f=e+1:=⟨f-1,by omega⟩
 rw [Nat.add_sub_cancel]
 have HT:Hid (∀ wx,Below w.heap.size w wx→Calls Tryz.prog 95 #[.pointer (some ⟨b,0,none⟩),.int .i64 e] wx fun r w'=>r=.returned (.int .i64 (termAt (c.at k).log e:Nat))∧w'=wx):=fun wx hx=>term_any wx M O b k _ (Nod.below st hnode hx) e (by omega)
 have HB:Hid (∀ wx,Below w.heap.size w wx→Calls Tryz.prog 96 #[.pointer (some ⟨b,0,none⟩),.int .i64 e] wx fun r w'=>∃ (o:Option Addr) (n lc:Nat),r=.returned (.slice o n lc)∧Below w.heap.size w w'∧w'.cell? ⟨b,5,none⟩=some (.int .i64 (c.at k).commit)∧Hid (∃ M',Le M M'∧In M' w'∧RecsM M' (.slice o n lc) ((c.at k).log.drop e)∧∀ b,M' b≠none→M b≠none∨w.heap.size≤b)):=fun wx hx=>by
  refine (behind_any wx M O b k _ (st.below hx) (Nod.below st hnode hx) e (by omega) hl).mono ?_
  rintro r w' ⟨M',o,n,lc,rfl,q1,q2,q3,q4,q5⟩
  have hbw:Below w.heap.size w w':=hx.trans (q4.mono hx.size)
  obtain ⟨_,_,_,_,_,hn'⟩:=Nod.below st hnode hbw
  exact ⟨o,n,lc,rfl,hbw,(Nd.cs hn').1.2.2.2.2.2.1,M',q1,q2,q3,fun b' hb'=>(q5 b' hb').imp id (fun h=>Nat.le_trans hx.size h)⟩
 have HS:Hid (∀ wx (o:Option Addr) (n lc:Nat),Below w.heap.size w wx→Hid (∃ w0 M',Below w0.heap.size w0 wx∧Below w.heap.size w w0∧Le M M'∧In M' w0∧RecsM M' (.slice o n lc) ((c.at k).log.drop e)∧∀ b,M' b≠none→M b≠none∨w.heap.size≤b)→Calls Tryz.prog 91 #[.pointer (some ⟨d,0,none⟩),.pointer (some ⟨b,0,none⟩),.int .i64 «to»,.agg #[.int .i64 3,.int .i64 0,.int .i64 0,.int .i64 0,.int .i64 e,.int .i64 (termAt (c.at k).log e:Nat),.int .i64 (c.at k).commit,.bool false,.slice o n lc]] wx fun r w'=>r=.returned (.tuple #[])∧Did M O w d nb (c.send ⟨3,k,«to»,(c.at k).term,e,termAt (c.at k).log e,(c.at k).commit,false,(c.at k).log.drop e⟩) w'):=fun wx o n lc hx H=>by
  obtain ⟨w0,M',q0,_,q1,q2,q3,q5⟩:=H.out
  obtain ⟨hg,a⟩:=G.frozen h hx q1 (q2.below q0) q5
  refine (say_any wx M' O d nb c hg k b hb «to» 3 e _ _ false _ o n lc q3).mono ?_
  rintro r w' ⟨rfl,hd⟩
  exact ⟨rfl,Did.trans (a.mono (fun _ h=>h.elim)) hd⟩
 have htI:(«to» : Int)<(c.at k).next.length:=by omega
 have heI:(e:Int)≤1001:=by omega
 generalize (c.at k).commit=C at *
 generalize termAt (c.at k).log e=T at *
 generalize (c.at k).next.length=NL at *
 clear hn hnode hcells hrec st h hf hl h2
 have hee:((e+1:Nat):Int)=(e:Int)+1:=by omega
 rw [hee] at cg
 go_enter Tryz.func83,Tryz.ntmps83
 go_wp2
 go_region_law (first
  | (go_simp;go_at_call 95;refine (HT.out _ (by first | exact (Below.refl _ _).drew | exact Below.refl _ _)).mono ?_;rintro rr w1 ⟨rfl,hw1⟩;have hw2:=hw1.symm;subst hw2;clear hw1)
  | (go_simp;go_at_call 96;refine (HB.out _ (by first | exact (Below.refl _ _).drew | exact Below.refl _ _)).mono ?_;rintro rr w2 ⟨o,n,lc,rfl,hb2,hc2,H2⟩;have HB2:=hide hb2;clear hb2)
  | (go_simp;go_at_call 91;refine (HS.out _ _ _ _ HB2.out (by obtain ⟨M',q1,q2,q3,q4⟩:=H2.out;exact ⟨_,M',Below.refl _ _,HB2.out,q1,q2,q3,q4⟩)).mono ?_;rintro rr w3 ⟨rfl,hd3⟩;have HD3:=hide hd3;clear hd3))
 all_goals
  go_wp2
  go_end0
  exact ⟨rfl,HD3.out⟩
set_option maxRecDepth 20000 in
set_option maxHeartbeats 4000000 in
theorem askForVote_any (w:World) (M:Fz) (O:Lb) (d:Nat) (nb:List Nat) (c:Cl) (h:G w M O d nb c) (k b:Nat) (hb:nb[k]?=some b) («to» : Nat) (ht7 : «to» ≤ 7) :
  Calls Tryz.prog 85 #[.pointer (some ⟨d,0,none⟩),.pointer (some ⟨b,0,none⟩),.int .i64 «to»] w fun r w'=>r=.returned (.tuple #[])∧Did M O w d nb (c.send ⟨1,k,«to»,(c.at k).term,(c.at k).log.length,lastTerm (c.at k).log,0,false,[]⟩) w':=by
 have st:=h.sta
 have hnode:=h.at hb
 rw [lastTerm_at]
 have HL:Hid (∀ q,Calls Tryz.prog 87 #[.pointer (some ⟨b,0,none⟩)] (w.drewN q) fun r w'=>r=.returned (.int .i64 ((c.at k).log.length:Nat))∧w'=w.drewN q):=fun q=>last_any _ M O b k _ (Nod.below st hnode (drewN_below w q))
 have HT:Hid (∀ q,Calls Tryz.prog 95 #[.pointer (some ⟨b,0,none⟩),.int .i64 (c.at k).log.length] (w.drewN q) fun r w'=>r=.returned (.int .i64 (termAt (c.at k).log (c.at k).log.length:Nat))∧w'=w.drewN q):=fun q=>term_any _ M O b k _ (Nod.below st hnode (drewN_below w q)) _ (Nat.le_refl _)
 have HS:Hid (∀ q,Calls Tryz.prog 91 #[.pointer (some ⟨d,0,none⟩),.pointer (some ⟨b,0,none⟩),.int .i64 «to»,.agg #[.int .i64 1,.int .i64 0,.int .i64 0,.int .i64 0,.int .i64 (c.at k).log.length,.int .i64 (termAt (c.at k).log (c.at k).log.length:Nat),.int .i64 0,.bool false,.slice none 0 0]] (w.drewN q) fun r w'=>r=.returned (.tuple #[])∧Did M O w d nb (c.send ⟨1,k,«to»,(c.at k).term,(c.at k).log.length,termAt (c.at k).log (c.at k).log.length,0,false,[]⟩) w'):=fun q=>by
  refine (say_any _ M O d nb c (h.below (drewN_below w q)) k b hb «to» 1 _ _ 0 false [] none 0 0 (RecsM.nil M)).mono ?_
  rintro r w' ⟨rfl,hd⟩
  exact ⟨rfl,Did.from st (drewN_below w q) hd⟩
 generalize termAt (c.at k).log (c.at k).log.length=T at *
 generalize (c.at k).log.length=L at *
 clear hnode st h
 go_enter Tryz.func85,Tryz.ntmps85
 go_wp2
 go_region_law (first
  | (go_simp;go_at_call 87;refine (HL.out 1).mono ?_;rintro rr w1 ⟨rfl,hw1⟩;have hw2:=hw1.symm;subst hw2;clear hw1)
  | (go_simp;go_at_call 95;refine (HT.out 1).mono ?_;rintro rr w1 ⟨rfl,hw1⟩;have hw2:=hw1.symm;subst hw2;clear hw1)
  | (go_simp;go_at_call 91;refine (HS.out 1).mono ?_;rintro rr w3 ⟨rfl,hd3⟩;have HD3:=hide hd3;clear hd3))
 all_goals
  go_wp2
  go_end0
  exact ⟨rfl,HD3.out⟩
end Go.Proofs.YtcfdmbkiinjmaaaGreat.sendr
namespace Go.Proofs.YtcfdmbkiinjmaaaGreat.too
open Raft mem grp YtcfdmbkiinjmaaaGreat.look ndw grant stand rows2 post postb say sendr
def upto (f:Cl→Nat→Cl) (k i:Nat) (c:Cl):Cl:=((List.range i).filter (· ≠ k)).foldl f c
theorem upto_skip (f:Cl→Nat→Cl) (k:Nat) (c:Cl):upto f k (k+1) c=upto f k k c:=by
 unfold upto
 rw [List.range_succ,List.filter_append]
 simp
theorem upto_step (f:Cl→Nat→Cl) {k i:Nat} (c:Cl) (h:i≠k):upto f k (i+1) c=f (upto f k i c) i:=by
 unfold upto
 rw [List.range_succ,List.filter_append]
 simp [h]
theorem upto_at (f:Cl→Nat→Cl) (k:Nat) (hf:∀ c i,(f c i).at k=c.at k∧(f c i).peers.length=c.peers.length) (c:Cl):∀ l:List Nat,(l.foldl f c).at k=c.at k∧(l.foldl f c).peers.length=c.peers.length:=fun l=>by
 induction l generalizing c with
 | nil=>exact ⟨rfl,rfl⟩
 | cons x l ih=>rw [List.foldl_cons];exact ⟨(ih (f c x)).1.trans (hf c x).1,(ih (f c x)).2.trans (hf c x).2⟩
set_option maxRecDepth 20000 in
set_option maxHeartbeats 1600000 in
theorem toRecs (w:World) (M:Fz) (O:Lb) (d:Nat) (nb:List Nat) (c:Cl) (h:G w M O d nb c) (k b:Nat) (hb:nb[k]?=some b) (f:Cl→Nat→Cl) (hn7:c.peers.length≤7) (hf:∀ c i,(f c i).at k=c.at k∧(f c i).peers.length=c.peers.length)
  (HC:Hid (∀ (wx:World) (M':Fz) (O':Lb) (c':Cl) (i:Nat),G wx M' O' d nb c'→c'.at k=c.at k→i<c.peers.length→i≠k→Calls Tryz.prog 83 #[.pointer (some ⟨d,0,none⟩),.pointer (some ⟨b,0,none⟩),.int .i64 i] wx fun r w'=>r=.returned (.tuple #[])∧Did M' O' wx d nb (f c' i) w')) :
  Calls Tryz.prog 82 #[.pointer (some ⟨d,0,none⟩),.pointer (some ⟨b,0,none⟩),.func (.func 83) #[.pointer (some ⟨d,0,none⟩)] #[]] w fun r w'=>r=.returned (.tuple #[])∧Did M O w d nb (upto f k c.peers.length c) w':=by
 have HG:=hide h
 obtain ⟨hd,pv,cv,bs,us,cs,hg⟩:=h
 obtain ⟨o,cp,rfl,_,h3⟩:=Gr.pvs hg
 unfold maxLen at h3
 obtain ⟨⟨_,_,c2,_⟩,_⟩:=Gr.ca hg
 have HU:Hid (∀ i,(upto f k i c).at k=c.at k∧(upto f k i c).peers.length=c.peers.length):=fun i=>upto_at f k hf c _
 have HN:Hid (∀ (wx:World) (M':Fz) (O':Lb) (i:Nat),G wx M' O' d nb (upto f k i c)→wx.cell? ⟨b,3,none⟩=some (.int .i64 k)):=fun wx M' O' i hx=>by
  obtain ⟨_,_,_,_,_,hn⟩:=hx.at hb
  exact (Nd.cs hn).1.2.2.2.1
 have H0:Hid (Did M O w d nb (upto f k 0 c) w):=⟨M,O,Aft.refl _ HG.out.sta,HG.out⟩
 have HP:=hide hb
 obtain ⟨n,hn⟩:∃ n,n=c.peers.length:=⟨_,rfl⟩
 rw [←hn] at c2 hn7 HC ⊢
 clear hg HG hb hf hn
 go_enter Tryz.func82,Tryz.ntmps82
 go_wp2
 go_loopw [12] (fun iv wr=>∃ i:Nat,i≤n∧iv=.int .i64 i∧Hid (Did M O w d nb (upto f k i c) wr)) (fun iv _=>n-(intOf iv).toNat)
 case atStart=>exact ⟨0,Nat.zero_le _,rfl,H0⟩
 case round =>
  obtain ⟨i,hi,rfl,HI⟩:=hrel
  by_cases hlt:i<n
  ·have hltI:(i:Int)<n:=by omega
   obtain ⟨M1,O1,a1,g1⟩:=HI.out
   have c3:=HN.out wr M1 O1 i g1
   by_cases hik:i=k
   ·have e1:((i:Int) != (k:Int))=false:=by simp;omega
    have HX:Hid (Did M O w d nb (upto f k (i+1) c) wr):=by
     have e2:upto f k (i+1) c=upto f k i c:=by subst hik;exact upto_skip f i c
     rw [e2]
     exact HI.out
    clear g1 a1 HI hik
    go_wp2
    go_roundw
    case rel=>exact ⟨i+1,by omega,by go_num,HX⟩
    case measure=>simp [intOf];omega
   ·have e1:((i:Int) != (k:Int))=true:=by simp;omega
    have HX:Hid (Calls Tryz.prog 83 #[.pointer (some ⟨d,0,none⟩),.pointer (some ⟨b,0,none⟩),.int .i64 i] wr fun r w'=>r=.returned (.tuple #[])∧Did M O w d nb (upto f k (i+1) c) w'):=by
     refine (HC.out wr M1 O1 (upto f k i c) i g1 (HU.out i).1 hlt hik).mono ?_
     rintro r w' ⟨rfl,hd⟩
     rw [upto_step f c hik]
     exact ⟨rfl,Did.trans a1 hd⟩
    clear g1 a1 HI hik
    go_wp2_with (go_at_call 83;refine HX.out.mono ?_;rintro rr w2 ⟨rfl,hd2⟩;have HD2:=hide hd2;clear hd2)
    go_roundw
    case rel=>exact ⟨i+1,by omega,by go_num,HD2⟩
    case measure=>simp [intOf];omega
  ·have hltI:¬ (i:Int)<n:=by omega
   obtain rfl:i=n:=by omega
   go_wp2
   go_end0
   exact ⟨rfl,HI.out⟩
set_option maxRecDepth 20000 in
set_option maxHeartbeats 1600000 in
theorem toVotes (w:World) (M:Fz) (O:Lb) (d:Nat) (nb:List Nat) (c:Cl) (h:G w M O d nb c) (k b:Nat) (hb:nb[k]?=some b) (f:Cl→Nat→Cl) (hn7:c.peers.length≤7) (hf:∀ c i,(f c i).at k=c.at k∧(f c i).peers.length=c.peers.length)
  (HC:Hid (∀ (wx:World) (M':Fz) (O':Lb) (c':Cl) (i:Nat),G wx M' O' d nb c'→c'.at k=c.at k→i<c.peers.length→i≠k→Calls Tryz.prog 85 #[.pointer (some ⟨d,0,none⟩),.pointer (some ⟨b,0,none⟩),.int .i64 i] wx fun r w'=>r=.returned (.tuple #[])∧Did M' O' wx d nb (f c' i) w')) :
  Calls Tryz.prog 82 #[.pointer (some ⟨d,0,none⟩),.pointer (some ⟨b,0,none⟩),.func (.func 85) #[.pointer (some ⟨d,0,none⟩)] #[]] w fun r w'=>r=.returned (.tuple #[])∧Did M O w d nb (upto f k c.peers.length c) w':=by
 have HG:=hide h
 obtain ⟨hd,pv,cv,bs,us,cs,hg⟩:=h
 obtain ⟨o,cp,rfl,_,h3⟩:=Gr.pvs hg
 unfold maxLen at h3
 obtain ⟨⟨_,_,c2,_⟩,_⟩:=Gr.ca hg
 have HU:Hid (∀ i,(upto f k i c).at k=c.at k∧(upto f k i c).peers.length=c.peers.length):=fun i=>upto_at f k hf c _
 have HN:Hid (∀ (wx:World) (M':Fz) (O':Lb) (i:Nat),G wx M' O' d nb (upto f k i c)→wx.cell? ⟨b,3,none⟩=some (.int .i64 k)):=fun wx M' O' i hx=>by
  obtain ⟨_,_,_,_,_,hn⟩:=hx.at hb
  exact (Nd.cs hn).1.2.2.2.1
 have H0:Hid (Did M O w d nb (upto f k 0 c) w):=⟨M,O,Aft.refl _ HG.out.sta,HG.out⟩
 have HP:=hide hb
 obtain ⟨n,hn⟩:∃ n,n=c.peers.length:=⟨_,rfl⟩
 rw [←hn] at c2 hn7 HC ⊢
 clear hg HG hb hf hn
 go_enter Tryz.func82,Tryz.ntmps82
 go_wp2
 go_loopw [12] (fun iv wr=>∃ i:Nat,i≤n∧iv=.int .i64 i∧Hid (Did M O w d nb (upto f k i c) wr)) (fun iv _=>n-(intOf iv).toNat)
 case atStart=>exact ⟨0,Nat.zero_le _,rfl,H0⟩
 case round =>
  obtain ⟨i,hi,rfl,HI⟩:=hrel
  by_cases hlt:i<n
  ·have hltI:(i:Int)<n:=by omega
   obtain ⟨M1,O1,a1,g1⟩:=HI.out
   have c3:=HN.out wr M1 O1 i g1
   by_cases hik:i=k
   ·have e1:((i:Int) != (k:Int))=false:=by simp;omega
    have HX:Hid (Did M O w d nb (upto f k (i+1) c) wr):=by
     have e2:upto f k (i+1) c=upto f k i c:=by subst hik;exact upto_skip f i c
     rw [e2]
     exact HI.out
    clear g1 a1 HI hik
    go_wp2
    go_roundw
    case rel=>exact ⟨i+1,by omega,by go_num,HX⟩
    case measure=>simp [intOf];omega
   ·have e1:((i:Int) != (k:Int))=true:=by simp;omega
    have HX:Hid (Calls Tryz.prog 85 #[.pointer (some ⟨d,0,none⟩),.pointer (some ⟨b,0,none⟩),.int .i64 i] wr fun r w'=>r=.returned (.tuple #[])∧Did M O w d nb (upto f k (i+1) c) w'):=by
     refine (HC.out wr M1 O1 (upto f k i c) i g1 (HU.out i).1 hlt hik).mono ?_
     rintro r w' ⟨rfl,hd⟩
     rw [upto_step f c hik]
     exact ⟨rfl,Did.trans a1 hd⟩
    clear g1 a1 HI hik
    go_wp2_with (go_at_call 85;refine HX.out.mono ?_;rintro rr w2 ⟨rfl,hd2⟩;have HD2:=hide hd2;clear hd2)
    go_roundw
    case rel=>exact ⟨i+1,by omega,by go_num,HD2⟩
    case measure=>simp [intOf];omega
  ·have hltI:¬ (i:Int)<n:=by omega
   obtain rfl:i=n:=by omega
   go_wp2
   go_end0
   exact ⟨rfl,HI.out⟩
theorem rec_at (c:Cl) (k i:Nat) (q:Nat):(c.records k i).at q=c.at q∧(c.records k i).peers.length=c.peers.length:=⟨records_at c k i q,by rw [records_peers]⟩
theorem toAll_any (w:World) (M:Fz) (O:Lb) (d:Nat) (nb:List Nat) (c:Cl) (h:G w M O d nb c) (k b:Nat) (hb:nb[k]?=some b) (hn7:c.peers.length≤7) (hl:(c.at k).log.length≤1000)
  (hnx:∀ i,i<c.peers.length→∃ f,(c.at k).next[i]?=some f∧1≤f∧f≤(c.at k).log.length+1) :
  Calls Tryz.prog 82 #[.pointer (some ⟨d,0,none⟩),.pointer (some ⟨b,0,none⟩),.func (.func 83) #[.pointer (some ⟨d,0,none⟩)] #[]] w fun r w'=>r=.returned (.tuple #[])∧Did M O w d nb (c.toAll k) w':=by
 refine toRecs w M O d nb c h k b hb (fun c i=>c.records k i) hn7 (fun c i=>rec_at c k i k) (fun wx M' O' c' i hx hat hi hik => ?_)
 obtain ⟨f,h1,h2,h3⟩:=hnx i hi
 exact sendRecords_any wx M' O' d nb c' hx k b hb i f (by rw [hat];exact h1) h2 (by rw [hat];exact h3) (by rw [hat];exact hl) (by omega)
theorem askAll_any (w:World) (M:Fz) (O:Lb) (d:Nat) (nb:List Nat) (c:Cl) (h:G w M O d nb c) (k b:Nat) (hb:nb[k]?=some b) (hn7:c.peers.length≤7) :
  Calls Tryz.prog 82 #[.pointer (some ⟨d,0,none⟩),.pointer (some ⟨b,0,none⟩),.func (.func 85) #[.pointer (some ⟨d,0,none⟩)] #[]] w fun r w'=>r=.returned (.tuple #[]) ∧
   Did M O w d nb ((others c.peers.length k).foldl (fun c' i=>c'.send ⟨1,k,i,(c.at k).term,(c.at k).log.length,lastTerm (c.at k).log,0,false,[]⟩) c) w':=by
 refine toVotes w M O d nb c h k b hb (fun c' i=>c'.send ⟨1,k,i,(c.at k).term,(c.at k).log.length,lastTerm (c.at k).log,0,false,[]⟩) hn7 (fun c' i=>⟨send_at _ _ _,by rw [send_peers]⟩) (fun wx M' O' c' i hx hat hi hik => ?_)
 have:=askForVote_any wx M' O' d nb c' hx k b hb i (by omega)
 rw [hat] at this
 exact this
end Go.Proofs.YtcfdmbkiinjmaaaGreat.too
namespace Go.Proofs.YtcfdmbkiinjmaaaGreat.elect
open Raft mem grp YtcfdmbkiinjmaaaGreat.look ndw grant stand lead post postb lookb lookc commit too
theorem note_at (c:Cl) (k q:Nat):(c.note k).at q=c.at q∧(c.note k).peers=c.peers:=⟨rfl,rfl⟩
theorem commits_at (c:Cl) {k:Nat} (h:k<c.peers.length):(c.commits k).at k={ c.at k with commit:=reach (c.at k) c.peers.length (c.at k).log.length }∧(c.commits k).peers.length=c.peers.length:=by
 unfold Cl.commits
 exact ⟨((note_at _ k k).1).trans (at_put c k _ h),by rw [(note_at _ k k).2];simp [Cl.put]⟩
theorem put_len (c:Cl) (k:Nat) (p:Peer):(c.put k p).peers.length=c.peers.length:=by simp [Cl.put]
set_option maxHeartbeats 1000000 in
theorem elect_any (w:World) (M:Fz) (O:Lb) (d:Nat) (nb:List Nat) (c:Cl) (h:G w M O d nb c) (k b:Nat) (hb:nb[k]?=some b) (h1:1≤c.peers.length) (h7:c.peers.length≤7) (hr:(c.at k).role=1) (hv:(c.at k).votes.length≤7) (hcm:(c.at k).commit≤(c.at k).log.length) (hl:(c.at k).log.length≤1000) (hch:c.chosen.length≤1000) :
  Calls Tryz.prog 86 #[.pointer (some ⟨d,0,none⟩),.pointer (some ⟨b,0,none⟩)] w fun r w'=>r=.returned (.tuple #[])∧Did M O w d nb (c.elected k) w':=by
 have st:=h.sta
 have hkl:k<c.peers.length:=by have:=(List.getElem?_eq_some_iff.1 hb).1;have:=h.len;omega
 have hnode:=h.at hb
 have HV:=hide (votesHad_any w M O b k _ hnode hv)
 have HM:=hide (most_any w M O d nb c h h1 h7)
 by_cases hq:most c.peers.length≤(c.at k).votes.countP id
 ·have hqI:¬ (((c.at k).votes.countP id:Int)<most c.peers.length):=by omega
  obtain ⟨c2,hc2⟩:∃ c2,c2=c.put k (leadP (c.at k) k c.peers.length):=⟨_,rfl⟩
  have hc2k:c2.at k=leadP (c.at k) k c.peers.length:=by rw [hc2];exact at_put c k _ hkl
  have hc2n:c2.peers.length=c.peers.length:=by rw [hc2];exact put_len _ _ _
  have hel:c.elected k=(c2.commits k).toAll k:=by
   unfold Cl.elected
   simp only [hr,hq,and_self,if_true]
   rw [hc2]
   rfl
  rw [hel]
  have HLd:Hid (Calls Tryz.prog 100 #[.pointer (some ⟨b,0,none⟩),.int .i64 c.peers.length] w fun r w'=>r=.returned (.tuple #[])∧Did M O w d nb c2 w'):=by
   refine (lead_any w M O b k c.peers.length _ st hnode hkl h7 hl).mono ?_
   rintro r w' ⟨rfl,hd⟩
   rw [hc2]
   exact ⟨rfl,NDid.lift hd h hb⟩
  have HCm:Hid (∀ wx,Did M O w d nb c2 wx→Calls Tryz.prog 89 #[.pointer (some ⟨d,0,none⟩),.pointer (some ⟨b,0,none⟩)] wx fun r w'=>r=.returned (.tuple #[])∧Did M O w d nb (c2.commits k) w'):=fun wx hx=>by
   obtain ⟨M1,O1,a1,g1⟩:=hx
   refine (commits_any wx M1 O1 d nb c2 g1 k b hb (by omega) (by omega) (by rw [hc2k];simp [leadP];omega) (by rw [hc2k];exact hcm) (by rw [hc2k];exact hl) (by rw [hc2];exact hch)).mono ?_
   rintro r w' ⟨rfl,hd⟩
   exact ⟨rfl,Did.trans a1 hd⟩
  have HTo:Hid (∀ wx,Did M O w d nb (c2.commits k) wx→Calls Tryz.prog 82 #[.pointer (some ⟨d,0,none⟩),.pointer (some ⟨b,0,none⟩),.func (.func 83) #[.pointer (some ⟨d,0,none⟩)] #[]] wx fun r w'=>r=.returned (.tuple #[])∧Did M O w d nb ((c2.commits k).toAll k) w'):=fun wx hx=>by
   obtain ⟨M1,O1,a1,g1⟩:=hx
   have hca:=commits_at c2 (k:=k) (by omega)
   refine (toAll_any wx M1 O1 d nb (c2.commits k) g1 k b hb (by omega) (by rw [hca.1,hc2k];exact hl) (fun i hi=>⟨(c.at k).log.length+1,?_,by omega,?_⟩)).mono ?_
   ·rw [hca.1,hc2k]
    show (List.replicate c.peers.length ((c.at k).log.length+1))[i]?=_
    rw [List.getElem?_replicate,if_pos (by omega)]
   ·rw [hca.1,hc2k];exact Nat.le_refl _
   ·rintro r w' ⟨rfl,hd⟩
    exact ⟨rfl,Did.trans a1 hd⟩
  have HPe:Hid (∀ wx,Did M O w d nb c2 wx→True):=fun _ _=>trivial
  obtain ⟨hd0,pv,cv,bs,us,cs,hg⟩:=h
  obtain ⟨o,cp,rfl,_,h3⟩:=Gr.pvs hg
  unfold maxLen at h3
  obtain ⟨⟨_,_,x2,_⟩,_⟩:=Gr.ca hg
  generalize (c.at k).votes.countP id=V at *
  generalize most c.peers.length=mo at *
  generalize c.peers.length=n at *
  clear hg hnode st hel hc2n hc2k hc2
  go_enter Tryz.func86,Tryz.ntmps86
  go_wp2_with (first
   | (go_at_call 98;refine HV.out.mono ?_;rintro rr w' ⟨rfl,hw'⟩;have hw2:=hw'.symm;subst hw2;clear hw')
   | (go_at_call 99;refine HM.out.mono ?_;rintro rr w' ⟨rfl,hw'⟩;have hw2:=hw'.symm;subst hw2;clear hw')
   | (go_at_call 100;refine HLd.out.mono ?_;rintro rr w3 ⟨rfl,hd3⟩;have HD3:=hide hd3;clear hd3)
   | (go_at_call 89;refine (HCm.out _ HD3.out).mono ?_;rintro rr w4 ⟨rfl,hd4⟩;have HD4:=hide hd4;clear hd4)
   | (go_at_call 82;refine (HTo.out _ HD4.out).mono ?_;rintro rr w5 ⟨rfl,hd5⟩;have HD5:=hide hd5;clear hd5))
  go_end0
  exact ⟨rfl,HD5.out⟩
 ·have hqI:(((c.at k).votes.countP id:Int)<most c.peers.length):=by omega
  have HF:Hid (Did M O w d nb (c.elected k) w):=by
   have e:c.elected k=c:=by
    unfold Cl.elected
    simp only [hq,and_false,if_false]
   rw [e]
   exact ⟨M,O,Aft.refl _ st,h⟩
  generalize (c.at k).votes.countP id=V at *
  generalize most c.peers.length=mo at *
  clear hnode st h
  go_enter Tryz.func86,Tryz.ntmps86
  go_wp2_with (first
   | (go_at_call 98;refine HV.out.mono ?_;rintro rr w' ⟨rfl,hw'⟩;have hw2:=hw'.symm;subst hw2;clear hw')
   | (go_at_call 99;refine HM.out.mono ?_;rintro rr w' ⟨rfl,hw'⟩;have hw2:=hw'.symm;subst hw2;clear hw'))
  refine bodyPost_ret (results_none rfl _ _ _) rfl ?_
  exact ⟨rfl,HF.out⟩
end Go.Proofs.YtcfdmbkiinjmaaaGreat.elect
namespace Go.Proofs.YtcfdmbkiinjmaaaGreat.tick
open Raft mem grp YtcfdmbkiinjmaaaGreat.look ndw grant stand lead post postb lookb lookc commit too elect
structure Fine (n:Nat) (p:Peer):Prop where
 votes:p.role=1→p.votes.length=n
 lists:p.role=2→p.next.length=n∧p.mat.length=n∧∀ q,q<n→1≤p.next.getD q 0∧p.next.getD q 0≤p.log.length+1
 term:p.term≤1000000
 commit:p.commit≤p.log.length
 log:p.log.length≤100
theorem getD_get {l:List Nat} {i:Nat} (h:i<l.length):l[i]?=some (l.getD i 0):=by
 rw [List.getD_eq_getElem?_getD,List.getElem?_eq_getElem h];rfl
theorem foldl_send (f:Nat→Msg) (c:Cl):∀ l:List Nat,(l.foldl (fun c i=>c.send (f i)) c).peers=c.peers∧(l.foldl (fun c i=>c.send (f i)) c).chosen=c.chosen:=fun l=>by
 induction l generalizing c with
 | nil=>exact ⟨rfl,rfl⟩
 | cons x l ih=>rw [List.foldl_cons];exact ⟨(ih _).1.trans (send_peers _ _),(ih _).2.trans (send_chosen _ _).1⟩
theorem at_of_peers {c c':Cl} (h:c'.peers=c.peers) (k:Nat):c'.at k=c.at k:=by unfold Cl.at;rw [h]
set_option maxHeartbeats 1000000 in
theorem tick_any (w:World) (M:Fz) (O:Lb) (d:Nat) (nb:List Nat) (c:Cl) (h:G w M O d nb c) (k b:Nat) (hb:nb[k]?=some b) (h1:1≤c.peers.length) (h7:c.peers.length≤7) (hF:Fine c.peers.length (c.at k)) (hch:c.chosen.length≤1000) :
  Calls Tryz.prog 67 #[.pointer (some ⟨d,0,none⟩),.pointer (some ⟨b,0,none⟩)] w fun r w'=>r=.returned (.tuple #[])∧Did M O w d nb (c.tick k) w':=by
 have st:=h.sta
 have hkl:k<c.peers.length:=by have:=(List.getElem?_eq_some_iff.1 hb).1;have:=h.len;omega
 have hnode:=h.at hb
 obtain ⟨us,lv,vv,nv,mv,hn⟩:=id hnode
 obtain ⟨⟨c0,_,_,_,_,_,c6,_⟩,_⟩:=Nd.cs hn
 have hlog:=hF.log
 by_cases hr:(c.at k).role=2
 ·have hrI:(((c.at k).role:Int) == 2)=true:=by simp;omega
  have hT:c.tick k=c.toAll k:=by unfold Cl.tick;simp only [hr,if_true]
  rw [hT]
  have HTo:Hid (Calls Tryz.prog 82 #[.pointer (some ⟨d,0,none⟩),.pointer (some ⟨b,0,none⟩),.func (.func 83) #[.pointer (some ⟨d,0,none⟩)] #[]] w fun r w'=>r=.returned (.tuple #[])∧Did M O w d nb (c.toAll k) w') :=
   toAll_any w M O d nb c h k b hb h7 (by omega) (fun i hi=>by
    obtain ⟨q1,q2,q3⟩:=hF.lists hr
    exact ⟨_,getD_get (by omega),q3 i hi⟩)
  generalize (c.at k).role=R at *
  clear hn hnode st h hT hF
  go_enter Tryz.func67,Tryz.ntmps67
  go_wp2_with (go_at_call 82;refine HTo.out.mono ?_;rintro rr w5 ⟨rfl,hd5⟩;have HD5:=hide hd5;clear hd5)
  go_end0
  exact ⟨rfl,HD5.out⟩
 ·have hrI:(((c.at k).role:Int) == 2)=false:=by simp;omega
  by_cases ht:(c.at k).term=1000000
  ·have htI:¬ (((c.at k).term:Int)<1000000):=by omega
   have hT:c.tick k=c:=by unfold Cl.tick;simp only [hr,ht,if_true,if_false]
   rw [hT]
   have HF:Hid (Did M O w d nb c w):=⟨M,O,Aft.refl _ st,h⟩
   generalize (c.at k).role=R at *
   generalize (c.at k).term=T at *
   clear hn hnode st h hT hF
   go_enter Tryz.func67,Tryz.ntmps67
   go_wp2
   go_end0
   exact ⟨rfl,HF.out⟩
  ·have htI:(((c.at k).term:Int)<1000000):=by have:=hF.term;omega
   obtain ⟨c1,hc1⟩:∃ c1,c1=c.put k (standP (c.at k) k c.peers.length):=⟨_,rfl⟩
   have hc1k:c1.at k=standP (c.at k) k c.peers.length:=by rw [hc1];exact at_put c k _ hkl
   have hc1n:c1.peers.length=c.peers.length:=by rw [hc1];exact put_len _ _ _
   obtain ⟨c2,hc2⟩:∃ c2,c2=(others c1.peers.length k).foldl (fun c' i=>c'.send ⟨1,k,i,(c1.at k).term,(c1.at k).log.length,lastTerm (c1.at k).log,0,false,[]⟩) c1:=⟨_,rfl⟩
   have hp2:c2.peers=c1.peers∧c2.chosen=c1.chosen:=by rw [hc2];exact foldl_send (fun i=>⟨1,k,i,(c1.at k).term,(c1.at k).log.length,lastTerm (c1.at k).log,0,false,[]⟩) c1 _
   have hc2k:c2.at k=standP (c.at k) k c.peers.length:=(at_of_peers hp2.1 k).trans hc1k
   have hT:c.tick k=c2.elected k:=by
    unfold Cl.tick
    simp only [hr,ht,if_false]
    rw [hc2,hc1n,hc1k,hc1]
    rfl
   rw [hT]
   have HSt:Hid (Calls Tryz.prog 84 #[.pointer (some ⟨b,0,none⟩),.int .i64 c.peers.length] w fun r w'=>r=.returned (.tuple #[])∧Did M O w d nb c1 w'):=by
    refine (stand_any w M O b k c.peers.length _ st hnode hkl h7 (by have:=hF.term;omega)).mono ?_
    rintro r w' ⟨rfl,hd⟩
    rw [hc1]
    exact ⟨rfl,NDid.lift hd h hb⟩
   have HAs:Hid (∀ wx,Did M O w d nb c1 wx→Calls Tryz.prog 82 #[.pointer (some ⟨d,0,none⟩),.pointer (some ⟨b,0,none⟩),.func (.func 85) #[.pointer (some ⟨d,0,none⟩)] #[]] wx fun r w'=>r=.returned (.tuple #[])∧Did M O w d nb c2 w'):=fun wx hx=>by
    obtain ⟨M1,O1,a1,g1⟩:=hx
    refine (askAll_any wx M1 O1 d nb c1 g1 k b hb (by omega)).mono ?_
    rintro r w' ⟨rfl,hd⟩
    rw [←hc2] at hd
    exact ⟨rfl,Did.trans a1 hd⟩
   have HEl:Hid (∀ wx,Did M O w d nb c2 wx→Calls Tryz.prog 86 #[.pointer (some ⟨d,0,none⟩),.pointer (some ⟨b,0,none⟩)] wx fun r w'=>r=.returned (.tuple #[])∧Did M O w d nb (c2.elected k) w'):=fun wx hx=>by
    obtain ⟨M1,O1,a1,g1⟩:=hx
    have hn2:c2.peers.length=c.peers.length:=by rw [hp2.1];exact hc1n
    refine (elect_any wx M1 O1 d nb c2 g1 k b hb (by omega) (by omega) (by rw [hc2k];rfl) (by rw [hc2k];simp [standP];omega) (by rw [hc2k];exact hF.commit) (by rw [hc2k];show (c.at k).log.length≤1000;omega) (by rw [hp2.2,hc1];exact hch)).mono ?_
    rintro r w' ⟨rfl,hd⟩
    exact ⟨rfl,Did.trans a1 hd⟩
   obtain ⟨hd0,pv,cv,bs,us',cs,hg⟩:=h
   obtain ⟨o,cp,rfl,_,h3⟩:=Gr.pvs hg
   unfold maxLen at h3
   obtain ⟨⟨_,_,x2,_⟩,_⟩:=Gr.ca hg
   generalize (c.at k).role=R at *
   generalize (c.at k).term=T at *
   generalize c.peers.length=n at *
   clear hn hnode st hg hT hF hc2k hp2 hc2 hc1n hc1k hc1
   go_enter Tryz.func67,Tryz.ntmps67
   go_wp2_with (first
    | (go_at_call 84;refine HSt.out.mono ?_;rintro rr w3 ⟨rfl,hd3⟩;have HD3:=hide hd3;clear hd3)
    | (go_at_call 82;refine (HAs.out _ HD3.out).mono ?_;rintro rr w4 ⟨rfl,hd4⟩;have HD4:=hide hd4;clear hd4)
    | (go_at_call 86;refine (HEl.out _ HD4.out).mono ?_;rintro rr w5 ⟨rfl,hd5⟩;have HD5:=hide hd5;clear hd5))
   go_end0
   exact ⟨rfl,HD5.out⟩
end Go.Proofs.YtcfdmbkiinjmaaaGreat.tick
namespace Go.Proofs.YtcfdmbkiinjmaaaGreat.vote
open Raft mem grp YtcfdmbkiinjmaaaGreat.look ndw grant stand lead rows2 post postb say lookb lookc commit too elect tick
theorem box_kept {M:Fz} {O:Lb} {w w':World} {d:Nat} {nb:List Nat} {c':Cl} (h:Did M O w d nb c' w') {b:Nat} {o:Obj} (hO:O b=none) (hb:w.heap[b]?=some o):w'.heap[b]?=some o:=by
 obtain ⟨M',O',a,_⟩:=h
 exact (a.keep b (Array.getElem?_eq_some_iff.1 hb).1 (fun l hl=>by rw [hO] at hl;cases hl)).trans hb
set_option maxHeartbeats 1000000 in
theorem voteAsked_any (w:World) (M:Fz) (O:Lb) (d:Nat) (nb:List Nat) (c:Cl) (h:G w M O d nb c) (k b:Nat) (hb:nb[k]?=some b) (m:Msg) (o:Option Addr) (n lc:Nat) (hf:m.frm≤1000) :
  Calls Tryz.prog 77 #[.pointer (some ⟨d,0,none⟩),.pointer (some ⟨b,0,none⟩),.agg #[.int .i64 m.kind,.int .i64 m.frm,.int .i64 m.to,.int .i64 m.term,.int .i64 m.a,.int .i64 m.b,.int .i64 m.c,.bool m.ok,.slice o n lc]] w fun r w'=>r=.returned (.tuple #[])∧Did M O w d nb ((c.put k (grantP (c.at k) m.frm (okV (c.at k) m))).send ⟨2,k,m.frm,(c.at k).term,0,0,0,okV (c.at k) m,[]⟩) w':=by
 have st:=h.sta
 have hkl:k<c.peers.length:=by have:=(List.getElem?_eq_some_iff.1 hb).1;have:=h.len;omega
 obtain ⟨W,hW⟩:∃ W,w.alloc (.cells #[.int .i64 m.kind,.int .i64 m.frm,.int .i64 m.to,.int .i64 m.term,.int .i64 m.a,.int .i64 m.b,.int .i64 m.c,.bool m.ok,.slice o n lc] 69)=W:=⟨_,rfl⟩
 have bW:Below w.heap.size w W:=by rw [←hW];exact more (Below.refl _ _) _
 have hbox:W.heap[w.heap.size]?=some (.cells #[.int .i64 m.kind,.int .i64 m.frm,.int .i64 m.to,.int .i64 m.term,.int .i64 m.a,.int .i64 m.b,.int .i64 m.c,.bool m.ok,.slice o n lc] 69 (0,0)):=by rw [←hW];exact heap_alloc_new w _
 have hfr:=(st.fresh (Nat.le_refl w.heap.size)).1
 have hGW:=h.below bW
 obtain ⟨c1,hc1⟩:∃ c1,c1=c.put k (grantP (c.at k) m.frm (okV (c.at k) m)):=⟨_,rfl⟩
 have hc1t:(c1.at k).term=(c.at k).term:=by
  rw [hc1,at_put c k _ hkl]
  unfold grantP
  split <;> rfl
 have HGr:Hid (Calls Tryz.prog 90 #[.pointer (some ⟨b,0,none⟩),.agg #[.int .i64 m.kind,.int .i64 m.frm,.int .i64 m.to,.int .i64 m.term,.int .i64 m.a,.int .i64 m.b,.int .i64 m.c,.bool m.ok,.slice o n lc]] W fun r w'=>r=.returned (.bool (okV (c.at k) m))∧w'.cell? ⟨w.heap.size,1,none⟩=some (.int .i64 m.frm)∧Did M O W d nb c1 w'):=by
  refine (grants_any W M O b k _ hGW.sta (hGW.at hb) m o n lc hf).mono ?_
  rintro r w' ⟨rfl,hd⟩
  have h2:=NDid.lift hd hGW hb
  rw [←hc1] at h2
  exact ⟨rfl,cell_of (box_kept h2 hfr hbox) rfl,h2⟩
 have HSy:Hid (∀ wx,Did M O W d nb c1 wx→Calls Tryz.prog 91 #[.pointer (some ⟨d,0,none⟩),.pointer (some ⟨b,0,none⟩),.int .i64 m.frm,.agg #[.int .i64 2,.int .i64 0,.int .i64 0,.int .i64 0,.int .i64 0,.int .i64 0,.int .i64 0,.bool (okV (c.at k) m),.slice none 0 0]] wx fun r w'=>r=.returned (.tuple #[])∧Did M O w d nb (c1.send ⟨2,k,m.frm,(c.at k).term,0,0,0,okV (c.at k) m,[]⟩) w'):=fun wx hx=>by
  obtain ⟨M1,O1,a1,g1⟩:=hx
  refine (say_any wx M1 O1 d nb c1 g1 k b hb m.frm 2 0 0 0 _ [] none 0 0 (RecsM.nil M1)).mono ?_
  rintro r w' ⟨rfl,hd⟩
  rw [hc1t] at hd
  exact ⟨rfl,Did.from st bW (Did.trans a1 hd)⟩
 have m0:=cell_of (i:=0) hbox (v:=.int .i64 m.kind) rfl
 have m1:=cell_of (i:=1) hbox (v:=.int .i64 m.frm) rfl
 have m2:=cell_of (i:=2) hbox (v:=.int .i64 m.to) rfl
 have m3:=cell_of (i:=3) hbox (v:=.int .i64 m.term) rfl
 have m4:=cell_of (i:=4) hbox (v:=.int .i64 m.a) rfl
 have m5:=cell_of (i:=5) hbox (v:=.int .i64 m.b) rfl
 have m6:=cell_of (i:=6) hbox (v:=.int .i64 m.c) rfl
 have m7:=cell_of (i:=7) hbox (v:=.bool m.ok) rfl
 have m8:=cell_of (i:=8) hbox (v:=.slice o n lc) rfl
 rw [←hc1]
 generalize okV (c.at k) m=ok at *
 clear hbox hGW bW h st hc1t hc1
 go_enter Tryz.func77,Tryz.ntmps77
 go_wp2_with (first
  | (go_at_call 90;refine HGr.out.mono ?_;rintro rr w3 ⟨rfl,hc3,hd3⟩;have HD3:=hide hd3;clear hd3)
  | (go_at_call 91;refine (HSy.out _ HD3.out).mono ?_;rintro rr w5 ⟨rfl,hd5⟩;have HD5:=hide hd5;clear hd5))
 go_end0
 exact ⟨rfl,HD5.out⟩
set_option maxHeartbeats 1000000 in
theorem voteCame_any (w:World) (M:Fz) (O:Lb) (d:Nat) (nb:List Nat) (c:Cl) (h:G w M O d nb c) (k b:Nat) (hb:nb[k]?=some b) (m:Msg) (o:Option Addr) (n lc:Nat) (h1:1≤c.peers.length) (h7:c.peers.length≤7) (hf:m.frm<c.peers.length) (hF:Fine c.peers.length (c.at k)) (hch:c.chosen.length≤1000) :
  Calls Tryz.prog 78 #[.pointer (some ⟨d,0,none⟩),.pointer (some ⟨b,0,none⟩),.agg #[.int .i64 m.kind,.int .i64 m.frm,.int .i64 m.to,.int .i64 m.term,.int .i64 m.a,.int .i64 m.b,.int .i64 m.c,.bool m.ok,.slice o n lc]] w fun r w'=>r=.returned (.tuple #[])∧Did M O w d nb (if m.term=(c.at k).term∧(c.at k).role=1∧m.ok=true then (c.put k { c.at k with votes:=(c.at k).votes.set m.frm true }).elected k else c) w':=by
 have st:=h.sta
 have hkl:k<c.peers.length:=by have:=(List.getElem?_eq_some_iff.1 hb).1;have:=h.len;omega
 obtain ⟨W,hW⟩:∃ W,w.alloc (.cells #[.int .i64 m.kind,.int .i64 m.frm,.int .i64 m.to,.int .i64 m.term,.int .i64 m.a,.int .i64 m.b,.int .i64 m.c,.bool m.ok,.slice o n lc] 69)=W:=⟨_,rfl⟩
 have bW:Below w.heap.size w W:=by rw [←hW];exact more (Below.refl _ _) _
 have hbox:W.heap[w.heap.size]?=some (.cells #[.int .i64 m.kind,.int .i64 m.frm,.int .i64 m.to,.int .i64 m.term,.int .i64 m.a,.int .i64 m.b,.int .i64 m.c,.bool m.ok,.slice o n lc] 69 (0,0)):=by rw [←hW];exact heap_alloc_new w _
 have hGW:=h.below bW
 have HSame:Hid (Did M O w d nb c W):=⟨M,O,(Aft.refl _ st).below bW,hGW⟩
 obtain ⟨us,lv,vv,nv,mv,hn⟩:=hGW.at hb
 obtain ⟨⟨c0,_,_,_,_,_,c6,c7,_⟩,_⟩:=Nd.cs hn
 have m0:=cell_of (i:=0) hbox (v:=.int .i64 m.kind) rfl
 have m1:=cell_of (i:=1) hbox (v:=.int .i64 m.frm) rfl
 have m2:=cell_of (i:=2) hbox (v:=.int .i64 m.to) rfl
 have m3:=cell_of (i:=3) hbox (v:=.int .i64 m.term) rfl
 have m4:=cell_of (i:=4) hbox (v:=.int .i64 m.a) rfl
 have m5:=cell_of (i:=5) hbox (v:=.int .i64 m.b) rfl
 have m6:=cell_of (i:=6) hbox (v:=.int .i64 m.c) rfl
 have m7:=cell_of (i:=7) hbox (v:=.bool m.ok) rfl
 have m8:=cell_of (i:=8) hbox (v:=.slice o n lc) rfl
 by_cases hall:m.term=(c.at k).term∧(c.at k).role=1∧m.ok=true
 ·rw [if_pos hall]
  obtain ⟨ht,hr,hok⟩:=hall
  have hvl:=hF.votes hr
  obtain ⟨g,cap,rfl,hc1',hc2',hcells,hfz⟩:=own_at hn.votes (by omega)
  unfold maxLen at hc2'
  obtain ⟨v0,hv0⟩:∃ v,(c.at k).votes[m.frm]?=some v:=⟨_,List.getElem?_eq_getElem (by omega)⟩
  have cg:=hcells m.frm (.bool v0) (by rw [List.getElem?_map,hv0];rfl)
  have fg:=hfz m.frm
  obtain ⟨c1,hc1⟩:∃ c1,c1=c.put k { c.at k with votes:=(c.at k).votes.set m.frm true }:=⟨_,rfl⟩
  have hc1k:c1.at k={ c.at k with votes:=(c.at k).votes.set m.frm true }:=by rw [hc1];exact at_put c k _ hkl
  rw [←hc1]
  have HSt:Hid (∀ q,Did M O w d nb c1 ((W.drewN q).setCell ⟨g,m.frm,none⟩ (.bool true))):=fun q=>by
   have hGq:=hGW.below (drewN_below W q)
   have h2:=NDid.lift (NDid.setVotes hGq.sta (hn.keep (w':=W.drewN q) (fun _ _=>rfl) (Le.refl _) (fun _ h=>h)) m.frm true) hGq hb
   rw [←hc1] at h2
   exact Did.from st (bW.trans ((drewN_below W q).mono bW.size)) h2
  have HEl:Hid (∀ wx,Did M O w d nb c1 wx→Calls Tryz.prog 86 #[.pointer (some ⟨d,0,none⟩),.pointer (some ⟨b,0,none⟩)] wx fun r w'=>r=.returned (.tuple #[])∧Did M O w d nb (c1.elected k) w'):=fun wx hx=>by
   obtain ⟨M1,O1,a1,g1⟩:=hx
   have hn1:c1.peers.length=c.peers.length:=by rw [hc1];exact put_len _ _ _
   refine (elect_any wx M1 O1 d nb c1 g1 k b hb (by omega) (by omega) (by rw [hc1k];exact hr) (by rw [hc1k];simp;omega) (by rw [hc1k];exact hF.commit) (by rw [hc1k];have:=hF.log;show (c.at k).log.length≤1000;omega) (by rw [hc1];exact hch)).mono ?_
   rintro r w' ⟨rfl,hd⟩
   exact ⟨rfl,Did.trans a1 hd⟩
  have HX:=hide hok
  have e1:((m.term:Int) == ((c.at k).term:Int))=true:=by simp;omega
  have e2:(((c.at k).role:Int) == 1)=true:=by simp;omega
  rw [hok] at m7 hW
  rw [show (Value.bool m.ok)=.bool true from by rw [hok]]
  have hfI:(m.frm:Int)<(c.at k).votes.length:=by omega
  obtain ⟨VL,hVL⟩:∃ VL,VL=(c.at k).votes.length:=⟨_,rfl⟩
  rw [←hVL] at c7 hfI hc1'
  generalize (c.at k).role=R at *
  generalize (c.at k).term=T at *
  have hfV:m.frm<VL:=by omega
  clear hn hcells hfz hbox hGW bW h st hc1k hc1 HSame ht hr hok hvl hv0 hVL hF
  go_enter Tryz.func78,Tryz.ntmps78
  go_wp2
  go_quiet (fail)
  go_wp2
  go_region_law (fail)
  all_goals
   go_wp2_with (go_at_call 86;refine (HEl.out _ (HSt.out _)).mono ?_;rintro rr w5 ⟨rfl,hd5⟩;have HD5:=hide hd5;clear hd5)
   go_end0
   exact ⟨rfl,HD5.out⟩
 ·rw [if_neg hall]
  have HF:Hid (∀ q,Did M O w d nb c (W.drewN q)):=fun q=>HSame.out.below (drewN_below W q)
  by_cases ht:m.term=(c.at k).term
  ·have e1:((m.term:Int) == ((c.at k).term:Int))=true:=by simp;omega
   by_cases hr:(c.at k).role=1
   ·have e2:(((c.at k).role:Int) == 1)=true:=by simp;omega
    have hok:m.ok=false:=by
     cases e:m.ok with
     | false=>rfl
     | true=>exact absurd ⟨ht,hr,e⟩ hall
    rw [hok] at m7 hW
    rw [show (Value.bool m.ok)=.bool false from by rw [hok]]
    generalize (c.at k).role=R at *
    generalize (c.at k).term=T at *
    clear hn hbox hGW bW h st HSame ht hr hok hF hall
    go_enter Tryz.func78,Tryz.ntmps78
    go_wp2
    go_quiet (fail)
    go_wp2
    go_end0
    exact ⟨rfl,HF.out _⟩
   ·have e2:(((c.at k).role:Int) == 1)=false:=by simp;omega
    generalize (c.at k).role=R at *
    generalize (c.at k).term=T at *
    clear hn hbox hGW bW h st HSame ht hr hF hall
    go_enter Tryz.func78,Tryz.ntmps78
    go_wp2
    go_quiet (fail)
    go_wp2
    go_end0
    exact ⟨rfl,HF.out _⟩
  ·have e1:((m.term:Int) == ((c.at k).term:Int))=false:=by simp;omega
   generalize (c.at k).role=R at *
   generalize (c.at k).term=T at *
   clear hn hbox hGW bW h st HSame ht hF hall
   go_enter Tryz.func78,Tryz.ntmps78
   go_wp2
   go_quiet (fail)
   go_wp2
   go_end0
   exact ⟨rfl,HF.out _⟩
end Go.Proofs.YtcfdmbkiinjmaaaGreat.vote
