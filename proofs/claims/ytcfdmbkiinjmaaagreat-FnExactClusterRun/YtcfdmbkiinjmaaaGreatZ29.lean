import Derived.Test.YtcfdmbkiinjmaaaGreatZ15
import Derived.Test.YtcfdmbkiinjmaaaGreatZ28
import Derived.Laws.EntriesVeiled
set_option linter.unusedVariables false
open Go.ChangeShapes Go.WideShapes Go.ChangeAt Go.RowKit
namespace Go.Proofs.YtcfdmbkiinjmaaaGreat.onmsg
open Raft mem grp YtcfdmbkiinjmaaaGreat.look ndw grant stand lead rows2 post postb say lookb lookc commit too elect tick vote arrive deliv prop
theorem G.size {w:World} {M:Fz} {O:Lb} {d:Nat} {nb:List Nat} {c:Cl} (h:G w M O d nb c):w.cell? ⟨d,1,none⟩=some (.int .i64 (c.net.length:Nat)):=by
 obtain ⟨hd,pv,cv,bs,us,cs,hg⟩:=h
 rw [←hg.nets,List.length_map]
 exact (Gr.ca hg).1.2.1
def Taken (M:Fz) (O:Lb) (w:World) (d:Nat) (nb:List Nat) (c':Cl) (m:Msg) (w':World) (o:Option Addr) (n lc:Nat):Prop :=
 ∃ M1 O1,Aft (fun _=>True) M O w M1 O1 w'∧G w' M1 O1 d nb c'∧RecsM M1 (.slice o n lc) m.log
set_option maxHeartbeats 1000000 in
theorem onMsg_none (w:World) (M:Fz) (O:Lb) (d:Nat) (nb:List Nat) (c:Cl) (h:G w M O d nb c) (K N:Int) (hN:N<0∨(c.net.length:Int)≤N) (eo:Option Addr) (el ec:Nat) :
  Calls Tryz.prog 43 #[.pointer (some ⟨d,0,none⟩),.agg #[.int .i64 K,.int .i64 N,.slice eo el ec]] w fun r w'=>r=.returned (.int .i64 6)∧Did M O w d nb c w':=by
 have st:=h.sta
 obtain ⟨W,hW⟩:∃ W,w.alloc (.cells #[.int .i64 K,.int .i64 N,.slice eo el ec] 48)=W:=⟨_,rfl⟩
 have bW:Below w.heap.size w W:=by rw [←hW];exact more (Below.refl _ _) _
 have hbox:W.heap[w.heap.size]?=some (.cells #[.int .i64 K,.int .i64 N,.slice eo el ec] 48 (0,0)):=by rw [←hW];exact heap_alloc_new w _
 have hGW:=h.below bW
 have m0:=cell_of (i:=0) hbox (v:=.int .i64 K) rfl
 have m1:=cell_of (i:=1) hbox (v:=.int .i64 N) rfl
 have m2:=cell_of (i:=2) hbox (v:=.slice eo el ec) rfl
 have p1:=G.size hGW
 have HF:Hid (∀ q,Did M O w d nb c (W.drewN q)):=fun q=>⟨M,O,((Aft.refl _ st).below bW).below (drewN_below W q),hGW.below (drewN_below W q)⟩
 generalize c.net.length=NL at *
 clear hbox hGW bW h st
 by_cases hneg:N<0
 ·go_enter Tryz.func43,Tryz.ntmps43
  go_wp2
  go_quiet (fail)
  go_wp2
  go_ret
  exact ⟨rfl,HF.out _⟩
 ·have hge:(NL:Int)≤N:=by omega
  clear hN
  go_enter Tryz.func43,Tryz.ntmps43
  go_wp2
  go_quiet (fail)
  go_wp2
  go_ret
  exact ⟨rfl,HF.out _⟩
set_option maxRecDepth 20000 in
set_option maxHeartbeats 2000000 in
theorem onMsg_2 (w:World) (M:Fz) (O:Lb) (d:Nat) (nb:List Nat) (c:Cl) (h:G w M O d nb c) (n:Nat) (h1:1≤n) (h7:n≤7) (s:St) (hR:Rel n c s) (hC:Cov n c) (hB:Bd c) (N:Nat) (m:Msg) (hm:c.net[N]?=some m) (eo:Option Addr) (el ec:Nat) :
  Calls Tryz.prog 43 #[.pointer (some ⟨d,0,none⟩),.agg #[.int .i64 2,.int .i64 (N:Nat),.slice eo el ec]] w fun r w'=>r=.returned (.int .i64 0)∧Did M O w d nb (({ c with net:=c.net.eraseIdx N }:Cl).deliver m) w':=by
 have st:=h.sta
 obtain ⟨W,hW⟩:∃ W,w.alloc (.cells #[.int .i64 2,.int .i64 N,.slice eo el ec] 48)=W:=⟨_,rfl⟩
 have bW:Below w.heap.size w W:=by rw [←hW];exact more (Below.refl _ _) _
 have hbox:W.heap[w.heap.size]?=some (.cells #[.int .i64 2,.int .i64 N,.slice eo el ec] 48 (0,0)):=by rw [←hW];exact heap_alloc_new w _
 have hGW:=h.below bW
 have m0:=cell_of (i:=0) hbox (v:=.int .i64 2) rfl
 have m1:=cell_of (i:=1) hbox (v:=.int .i64 N) rfl
 have m2:=cell_of (i:=2) hbox (v:=.slice eo el ec) rfl
 have p1:=G.size hGW
 have hlt:(N:Int)<c.net.length:=by have:=(List.getElem?_eq_some_iff.1 hm).1;omega
 have HTk:Hid (∀ wx,Below W.heap.size W wx→Calls Tryz.prog 64 #[.pointer (some ⟨d,0,none⟩),.int .i64 (N:Nat)] wx fun r w'=>∃ (o:Option Addr) (n lc:Nat),r=.returned (.agg #[.int .i64 m.kind,.int .i64 m.frm,.int .i64 m.to,.int .i64 m.term,.int .i64 m.a,.int .i64 m.b,.int .i64 m.c,.bool m.ok,.slice o n lc])∧Hid (Taken M O w d nb { c with net:=c.net.eraseIdx N } m w' o n lc)):=fun wx hx=>by
  refine (takeOut_any wx M O d nb c (hGW.below hx) N m hm hB.size).mono ?_
  rintro r w' ⟨o,n,lc,rfl,hr,M1,O1,a1,g1⟩
  exact ⟨o,n,lc,rfl,M1,O1,Aft.trans (((Aft.refl _ st).below bW).below hx) a1,g1,hr.le a1.le⟩
 have HAr:Hid (∀ wx o n lc,Taken M O w d nb { c with net:=c.net.eraseIdx N } m wx o n lc→Calls Tryz.prog 63 #[.pointer (some ⟨d,0,none⟩),.agg #[.int .i64 m.kind,.int .i64 m.frm,.int .i64 m.to,.int .i64 m.term,.int .i64 m.a,.int .i64 m.b,.int .i64 m.c,.bool m.ok,.slice o n lc]] wx fun r w'=>r=.returned (.tuple #[])∧Did M O w d nb (({ c with net:=c.net.eraseIdx N }:Cl).deliver m) w'):=fun wx o ln lc hx=>by
  obtain ⟨M1,O1,a1,g1,hr⟩:=hx
  refine (arrive_any wx M1 O1 d nb _ g1 n h1 h7 s (hR.part (fun x hx=>List.mem_of_mem_eraseIdx hx)) hC (hB.part (fun x hx=>List.mem_of_mem_eraseIdx hx) (by rw [List.length_eraseIdx];split <;> omega)) m (hR.msgs m (List.mem_of_getElem? hm)) (hB.net m (List.mem_of_getElem? hm)) o ln lc hr).mono ?_
  rintro r w' ⟨rfl,hd⟩
  exact ⟨rfl,Did.trans a1 hd⟩
 generalize c.net.length=NL at *
 clear hbox hGW bW h st hR hC hB hm
 go_enter Tryz.func43,Tryz.ntmps43
 go_wp2
 go_quiet (fail)
 go_wp2
 go_region_law (first
  | (go_simp;go_at_call 64;refine (HTk.out _ (by first | exact (drewN_below W _).drew | exact drewN_below W _)).mono ?_;rintro rr w1 ⟨o,n,lc,rfl,HT1⟩)
  | (go_simp;go_at_call 63;refine (HAr.out _ _ _ _ HT1.out).mono ?_;rintro rr w3 ⟨rfl,hd3⟩;have HD3:=hide hd3;clear hd3))
 all_goals
  go_wp2
  go_ret
  exact ⟨rfl,HD3.out⟩
set_option maxRecDepth 20000 in
set_option maxHeartbeats 2000000 in
theorem onMsg_3 (w:World) (M:Fz) (O:Lb) (d:Nat) (nb:List Nat) (c:Cl) (h:G w M O d nb c) (hB:Bd c) (N:Nat) (m:Msg) (hm:c.net[N]?=some m) (eo:Option Addr) (el ec:Nat) :
  Calls Tryz.prog 43 #[.pointer (some ⟨d,0,none⟩),.agg #[.int .i64 3,.int .i64 (N:Nat),.slice eo el ec]] w fun r w'=>r=.returned (.int .i64 0)∧Did M O w d nb ({ c with net:=c.net.eraseIdx N }:Cl) w':=by
 have st:=h.sta
 obtain ⟨W,hW⟩:∃ W,w.alloc (.cells #[.int .i64 3,.int .i64 N,.slice eo el ec] 48)=W:=⟨_,rfl⟩
 have bW:Below w.heap.size w W:=by rw [←hW];exact more (Below.refl _ _) _
 have hbox:W.heap[w.heap.size]?=some (.cells #[.int .i64 3,.int .i64 N,.slice eo el ec] 48 (0,0)):=by rw [←hW];exact heap_alloc_new w _
 have hGW:=h.below bW
 have m0:=cell_of (i:=0) hbox (v:=.int .i64 3) rfl
 have m1:=cell_of (i:=1) hbox (v:=.int .i64 N) rfl
 have m2:=cell_of (i:=2) hbox (v:=.slice eo el ec) rfl
 have p1:=G.size hGW
 have hlt:(N:Int)<c.net.length:=by have:=(List.getElem?_eq_some_iff.1 hm).1;omega
 have HTk:Hid (∀ wx,Below W.heap.size W wx→Calls Tryz.prog 64 #[.pointer (some ⟨d,0,none⟩),.int .i64 (N:Nat)] wx fun r w'=>∃ (o:Option Addr) (n lc:Nat),r=.returned (.agg #[.int .i64 m.kind,.int .i64 m.frm,.int .i64 m.to,.int .i64 m.term,.int .i64 m.a,.int .i64 m.b,.int .i64 m.c,.bool m.ok,.slice o n lc])∧Hid (Taken M O w d nb { c with net:=c.net.eraseIdx N } m w' o n lc)):=fun wx hx=>by
  refine (takeOut_any wx M O d nb c (hGW.below hx) N m hm hB.size).mono ?_
  rintro r w' ⟨o,n,lc,rfl,hr,M1,O1,a1,g1⟩
  exact ⟨o,n,lc,rfl,M1,O1,Aft.trans (((Aft.refl _ st).below bW).below hx) a1,g1,hr.le a1.le⟩
 have HE:Hid (∀ wx o n lc,Taken M O w d nb { c with net:=c.net.eraseIdx N } m wx o n lc→Did M O w d nb { c with net:=c.net.eraseIdx N } wx):=fun wx o ln lc hx=>by
  obtain ⟨M1,O1,a1,g1,hr⟩:=hx
  exact ⟨M1,O1,a1,g1⟩
 generalize c.net.length=NL at *
 clear hbox hGW bW h st hB hm
 go_enter Tryz.func43,Tryz.ntmps43
 go_wp2
 go_quiet (fail)
 go_wp2
 go_region_law (first
  | (go_simp;go_at_call 64;refine (HTk.out _ (by first | exact (drewN_below W _).drew | exact drewN_below W _)).mono ?_;rintro rr w1 ⟨o,n,lc,rfl,HT1⟩))
 all_goals
  go_wp2
  go_ret
  exact ⟨rfl,HE.out _ _ _ _ HT1.out⟩
set_option maxRecDepth 20000 in
set_option maxHeartbeats 2000000 in
theorem onMsg_4 (w:World) (M:Fz) (O:Lb) (d:Nat) (nb:List Nat) (c:Cl) (h:G w M O d nb c) (hB:Bd c) (N:Nat) (m:Msg) (hm:c.net[N]?=some m) (eo:Option Addr) (el ec:Nat) :
  Calls Tryz.prog 43 #[.pointer (some ⟨d,0,none⟩),.agg #[.int .i64 4,.int .i64 (N:Nat),.slice eo el ec]] w fun r w'=>r=.returned (.int .i64 0)∧Did M O w d nb (c.send m) w':=by
 have st:=h.sta
 obtain ⟨W,hW⟩:∃ W,w.alloc (.cells #[.int .i64 4,.int .i64 N,.slice eo el ec] 48)=W:=⟨_,rfl⟩
 have bW:Below w.heap.size w W:=by rw [←hW];exact more (Below.refl _ _) _
 have hbox:W.heap[w.heap.size]?=some (.cells #[.int .i64 4,.int .i64 N,.slice eo el ec] 48 (0,0)):=by rw [←hW];exact heap_alloc_new w _
 have hGW:=h.below bW
 have m0:=cell_of (i:=0) hbox (v:=.int .i64 4) rfl
 have m1:=cell_of (i:=1) hbox (v:=.int .i64 N) rfl
 have m2:=cell_of (i:=2) hbox (v:=.slice eo el ec) rfl
 have p1:=G.size hGW
 have hlt:(N:Int)<c.net.length:=by have:=(List.getElem?_eq_some_iff.1 hm).1;omega
 have HTk:Hid (∀ wx,Below W.heap.size W wx→Calls Tryz.prog 66 #[.pointer (some ⟨d,0,none⟩),.int .i64 (N:Nat)] wx fun r w'=>∃ (o:Option Addr) (n lc:Nat),r=.returned (.agg #[.int .i64 m.kind,.int .i64 m.frm,.int .i64 m.to,.int .i64 m.term,.int .i64 m.a,.int .i64 m.b,.int .i64 m.c,.bool m.ok,.slice o n lc])∧Hid (Taken M O w d nb c m w' o n lc)):=fun wx hx=>by
  refine (peek_any wx M O d nb c (hGW.below hx) N m hm hB.size).mono ?_
  rintro r w' ⟨o,n,lc,rfl,hr,hb⟩
  exact ⟨o,n,lc,rfl,M,O,(((Aft.refl _ st).below bW).below hx).below hb,(hGW.below hx).below hb,hr⟩
 have HAr:Hid (∀ wx o n lc,Taken M O w d nb c m wx o n lc→Calls Tryz.prog 65 #[.pointer (some ⟨d,0,none⟩),.agg #[.int .i64 m.kind,.int .i64 m.frm,.int .i64 m.to,.int .i64 m.term,.int .i64 m.a,.int .i64 m.b,.int .i64 m.c,.bool m.ok,.slice o n lc]] wx fun r w'=>r=.returned (.tuple #[])∧Did M O w d nb (c.send m) w'):=fun wx o ln lc hx=>by
  obtain ⟨M1,O1,a1,g1,hr⟩:=hx
  refine (send_any wx M1 O1 d nb _ g1 m o ln lc hr).mono ?_
  rintro r w' ⟨rfl,hd⟩
  exact ⟨rfl,Did.trans a1 hd⟩
 generalize c.net.length=NL at *
 clear hbox hGW bW h st hB hm
 go_enter Tryz.func43,Tryz.ntmps43
 go_wp2
 go_quiet (fail)
 go_wp2
 go_region_law (first
  | (go_simp;go_at_call 66;refine (HTk.out _ (by first | exact (drewN_below W _).drew | exact drewN_below W _)).mono ?_;rintro rr w1 ⟨o,n,lc,rfl,HT1⟩)
  | (go_simp;go_at_call 65;refine (HAr.out _ _ _ _ HT1.out).mono ?_;rintro rr w3 ⟨rfl,hd3⟩;have HD3:=hide hd3;clear hd3))
 all_goals
  go_wp2
  go_ret
  exact ⟨rfl,HD3.out⟩
end Go.Proofs.YtcfdmbkiinjmaaaGreat.onmsg
namespace Go.Proofs.YtcfdmbkiinjmaaaGreat.onpeer
open Raft mem grp YtcfdmbkiinjmaaaGreat.look ndw grant stand lead rows2 post postb say lookb lookc commit too elect tick vote arrive deliv prop
theorem below3 (W:World) (a b c:Nat):Below W.heap.size W (((W.drewN a).drewN b).drewN c) :=
 ((drewN_below W a).trans ((drewN_below (W.drewN a) b).mono (drewN_below W a).size)).trans ((drewN_below _ c).mono ((drewN_below W a).trans ((drewN_below (W.drewN a) b).mono (drewN_below W a).size)).size)
theorem G.row {w:World} {M:Fz} {O:Lb} {d:Nat} {nb:List Nat} {c:Cl} (h:G w M O d nb c):∃ o cp,w.cell? ⟨d,2,none⟩=some (.slice o c.peers.length cp):=by
 obtain ⟨hd,pv,cv,bs,us,cs,hg⟩:=h
 obtain ⟨o,cp,rfl,_,_⟩:=Gr.pvs hg
 exact ⟨o,cp,(Gr.ca hg).1.2.2.1⟩
set_option maxHeartbeats 1000000 in
theorem onPeer_none (w:World) (M:Fz) (O:Lb) (d:Nat) (nb:List Nat) (c:Cl) (h:G w M O d nb c) (K N:Int) (hN:N<0∨(c.peers.length:Int)≤N) (eo:Option Addr) (el ec:Nat) :
  Calls Tryz.prog 44 #[.pointer (some ⟨d,0,none⟩),.agg #[.int .i64 K,.int .i64 N,.slice eo el ec]] w fun r w'=>r=.returned (.int .i64 6)∧Did M O w d nb c w':=by
 have st:=h.sta
 obtain ⟨W,hW⟩:∃ W,w.alloc (.cells #[.int .i64 K,.int .i64 N,.slice eo el ec] 48)=W:=⟨_,rfl⟩
 have bW:Below w.heap.size w W:=by rw [←hW];exact more (Below.refl _ _) _
 have hbox:W.heap[w.heap.size]?=some (.cells #[.int .i64 K,.int .i64 N,.slice eo el ec] 48 (0,0)):=by rw [←hW];exact heap_alloc_new w _
 have hGW:=h.below bW
 have m0:=cell_of (i:=0) hbox (v:=.int .i64 K) rfl
 have m1:=cell_of (i:=1) hbox (v:=.int .i64 N) rfl
 have m2:=cell_of (i:=2) hbox (v:=.slice eo el ec) rfl
 obtain ⟨o,cp,p2⟩:=G.row hGW
 have HF:Hid (∀ q,Did M O w d nb c (W.drewN q)):=fun q=>⟨M,O,((Aft.refl _ st).below bW).below (drewN_below W q),hGW.below (drewN_below W q)⟩
 generalize c.peers.length=NL at *
 clear hbox hGW bW h st
 by_cases hneg:N<0
 ·go_enter Tryz.func44,Tryz.ntmps44
  go_wp2
  go_quiet (fail)
  go_wp2
  go_ret
  exact ⟨rfl,HF.out _⟩
 ·have hge:(NL:Int)≤N:=by omega
  clear hN
  go_enter Tryz.func44,Tryz.ntmps44
  go_wp2
  go_quiet (fail)
  go_wp2
  go_ret
  exact ⟨rfl,HF.out _⟩
set_option maxRecDepth 20000 in
set_option maxHeartbeats 2000000 in
theorem onPeer_off (w:World) (M:Fz) (O:Lb) (d:Nat) (nb:List Nat) (c:Cl) (h:G w M O d nb c) (N b:Nat) (hb:nb[N]?=some b) (K:Int) (hK:(K == 6)=false) (hup:(c.at N).up=false) (eo:Option Addr) (el ec:Nat) :
  Calls Tryz.prog 44 #[.pointer (some ⟨d,0,none⟩),.agg #[.int .i64 K,.int .i64 (N:Nat),.slice eo el ec]] w fun r w'=>r=.returned (.int .i64 15)∧Did M O w d nb (c) w':=by
 have st:=h.sta
 obtain ⟨W,hW⟩:∃ W,w.alloc (.cells #[.int .i64 K,.int .i64 N,.slice eo el ec] 48)=W:=⟨_,rfl⟩
 have bW:Below w.heap.size w W:=by rw [←hW];exact more (Below.refl _ _) _
 have hbox:W.heap[w.heap.size]?=some (.cells #[.int .i64 K,.int .i64 N,.slice eo el ec] 48 (0,0)):=by rw [←hW];exact heap_alloc_new w _
 have hGW:=h.below bW
 have m0:=cell_of (i:=0) hbox (v:=.int .i64 K) rfl
 have m1:=cell_of (i:=1) hbox (v:=.int .i64 N) rfl
 have m2:=cell_of (i:=2) hbox (v:=.slice eo el ec) rfl
 obtain ⟨us,lv,vv,nv,mv,hn⟩:=hGW.at hb
 have c4:=(Nd.cs hn).1.2.2.2.2.1
 have c0:=(Nd.cs hn).1.1
 rw [hup] at c4
 obtain ⟨g,off,cp,p2,pg,hcp,hcp2,hkl2⟩:=G.peer hGW hb
 have hkI:(N:Int)<c.peers.length:=by omega
 have HG:Hid (∀ wx,Below W.heap.size W wx→Did M O w d nb c wx):=fun wx hx=>⟨M,O,((Aft.refl _ st).below bW).below hx,hGW.below hx⟩
 generalize c.peers.length=NP at *
 clear hbox hGW bW h st hn
 go_enter Tryz.func44,Tryz.ntmps44
 go_wp2
 go_quiet (fail)
 go_wp2
 go_quiet (fail)
 go_wp2
 go_quiet (fail)
 go_wp2
 go_ret
 exact ⟨rfl,HG.out _ (by first | exact drewN_below W _ | exact below3 W _ _ _)⟩
set_option maxRecDepth 20000 in
set_option maxHeartbeats 2000000 in
theorem onPeer_on (w:World) (M:Fz) (O:Lb) (d:Nat) (nb:List Nat) (c:Cl) (h:G w M O d nb c) (N b:Nat) (hb:nb[N]?=some b) (hup:(c.at N).up=true) (eo:Option Addr) (el ec:Nat) :
  Calls Tryz.prog 44 #[.pointer (some ⟨d,0,none⟩),.agg #[.int .i64 6,.int .i64 (N:Nat),.slice eo el ec]] w fun r w'=>r=.returned (.int .i64 15)∧Did M O w d nb (c) w':=by
 have st:=h.sta
 obtain ⟨W,hW⟩:∃ W,w.alloc (.cells #[.int .i64 6,.int .i64 N,.slice eo el ec] 48)=W:=⟨_,rfl⟩
 have bW:Below w.heap.size w W:=by rw [←hW];exact more (Below.refl _ _) _
 have hbox:W.heap[w.heap.size]?=some (.cells #[.int .i64 6,.int .i64 N,.slice eo el ec] 48 (0,0)):=by rw [←hW];exact heap_alloc_new w _
 have hGW:=h.below bW
 have m0:=cell_of (i:=0) hbox (v:=.int .i64 6) rfl
 have m1:=cell_of (i:=1) hbox (v:=.int .i64 N) rfl
 have m2:=cell_of (i:=2) hbox (v:=.slice eo el ec) rfl
 obtain ⟨us,lv,vv,nv,mv,hn⟩:=hGW.at hb
 have c4:=(Nd.cs hn).1.2.2.2.2.1
 have c0:=(Nd.cs hn).1.1
 rw [hup] at c4
 obtain ⟨g,off,cp,p2,pg,hcp,hcp2,hkl2⟩:=G.peer hGW hb
 have hkI:(N:Int)<c.peers.length:=by omega
 have HG:Hid (∀ wx,Below W.heap.size W wx→Did M O w d nb c wx):=fun wx hx=>⟨M,O,((Aft.refl _ st).below bW).below hx,hGW.below hx⟩
 generalize c.peers.length=NP at *
 clear hbox hGW bW h st hn
 go_enter Tryz.func44,Tryz.ntmps44
 go_wp2
 go_quiet (fail)
 go_wp2
 go_quiet (fail)
 go_wp2
 go_quiet (fail)
 go_wp2
 go_ret
 exact ⟨rfl,HG.out _ (by first | exact drewN_below W _ | exact below3 W _ _ _)⟩
set_option maxRecDepth 20000 in
set_option maxHeartbeats 2000000 in
theorem onPeer_1 (w:World) (M:Fz) (O:Lb) (d:Nat) (nb:List Nat) (c:Cl) (h:G w M O d nb c) (N b:Nat) (hb:nb[N]?=some b) (h1:1≤c.peers.length) (h7:c.peers.length≤7) (hF:Fine c.peers.length (c.at N)) (hch:c.chosen.length≤1000) (hup:(c.at N).up=true) (eo:Option Addr) (el ec:Nat) :
  Calls Tryz.prog 44 #[.pointer (some ⟨d,0,none⟩),.agg #[.int .i64 1,.int .i64 (N:Nat),.slice eo el ec]] w fun r w'=>r=.returned (.int .i64 0)∧Did M O w d nb (c.tick N) w':=by
 have st:=h.sta
 obtain ⟨W,hW⟩:∃ W,w.alloc (.cells #[.int .i64 1,.int .i64 N,.slice eo el ec] 48)=W:=⟨_,rfl⟩
 have bW:Below w.heap.size w W:=by rw [←hW];exact more (Below.refl _ _) _
 have hbox:W.heap[w.heap.size]?=some (.cells #[.int .i64 1,.int .i64 N,.slice eo el ec] 48 (0,0)):=by rw [←hW];exact heap_alloc_new w _
 have hGW:=h.below bW
 have m0:=cell_of (i:=0) hbox (v:=.int .i64 1) rfl
 have m1:=cell_of (i:=1) hbox (v:=.int .i64 N) rfl
 have m2:=cell_of (i:=2) hbox (v:=.slice eo el ec) rfl
 obtain ⟨us,lv,vv,nv,mv,hn⟩:=hGW.at hb
 have c4:=(Nd.cs hn).1.2.2.2.2.1
 have c0:=(Nd.cs hn).1.1
 rw [hup] at c4
 obtain ⟨g,off,cp,p2,pg,hcp,hcp2,hkl2⟩:=G.peer hGW hb
 have hkI:(N:Int)<c.peers.length:=by omega
 have HT:Hid (∀ wx,Below W.heap.size W wx→Calls Tryz.prog 67 #[.pointer (some ⟨d,0,none⟩),.pointer (some ⟨b,0,none⟩)] wx fun r w'=>r=.returned (.tuple #[])∧Did M O w d nb (c.tick N) w'):=fun wx hx=>by
  refine (tick_any wx M O d nb c (hGW.below hx) N b hb h1 h7 hF hch).mono ?_
  rintro r w' ⟨rfl,hd⟩
  exact ⟨rfl,Did.trans (((Aft.refl _ st).below bW).below hx) hd⟩
 clear hF hch h1 h7
 generalize c.peers.length=NP at *
 clear hbox hGW bW h st hn
 go_enter Tryz.func44,Tryz.ntmps44
 go_wp2
 go_quiet (fail)
 go_wp2
 go_quiet (fail)
 go_wp2
 go_quiet (fail)
 go_wp2_with (go_at_call 67;refine (HT.out _ (by exact drewN_below W _)).mono ?_;rintro rr w5 ⟨rfl,hd5⟩;have HD5:=hide hd5;clear hd5)
 go_ret
 exact ⟨rfl,HD5.out⟩
set_option maxRecDepth 20000 in
set_option maxHeartbeats 2000000 in
theorem onPeer_5 (w:World) (M:Fz) (O:Lb) (d:Nat) (nb:List Nat) (c:Cl) (h:G w M O d nb c) (N b:Nat) (hb:nb[N]?=some b) (hup:(c.at N).up=true) (eo:Option Addr) (el ec:Nat) :
  Calls Tryz.prog 44 #[.pointer (some ⟨d,0,none⟩),.agg #[.int .i64 5,.int .i64 (N:Nat),.slice eo el ec]] w fun r w'=>r=.returned (.int .i64 0)∧Did M O w d nb (c.put N (crashP (c.at N))) w':=by
 have st:=h.sta
 obtain ⟨W,hW⟩:∃ W,w.alloc (.cells #[.int .i64 5,.int .i64 N,.slice eo el ec] 48)=W:=⟨_,rfl⟩
 have bW:Below w.heap.size w W:=by rw [←hW];exact more (Below.refl _ _) _
 have hbox:W.heap[w.heap.size]?=some (.cells #[.int .i64 5,.int .i64 N,.slice eo el ec] 48 (0,0)):=by rw [←hW];exact heap_alloc_new w _
 have hGW:=h.below bW
 have m0:=cell_of (i:=0) hbox (v:=.int .i64 5) rfl
 have m1:=cell_of (i:=1) hbox (v:=.int .i64 N) rfl
 have m2:=cell_of (i:=2) hbox (v:=.slice eo el ec) rfl
 obtain ⟨us,lv,vv,nv,mv,hn⟩:=hGW.at hb
 have c4:=(Nd.cs hn).1.2.2.2.2.1
 have c0:=(Nd.cs hn).1.1
 rw [hup] at c4
 obtain ⟨g,off,cp,p2,pg,hcp,hcp2,hkl2⟩:=G.peer hGW hb
 have hkI:(N:Int)<c.peers.length:=by omega
 have HT:Hid (∀ wx,Below W.heap.size W wx→Calls Tryz.prog 68 #[.pointer (some ⟨b,0,none⟩)] wx fun r w'=>r=.returned (.tuple #[])∧Did M O w d nb (c.put N (crashP (c.at N))) w'):=fun wx hx=>by
  have hg:=hGW.below hx
  refine (crash_any wx M O b N _ hg.sta (hg.at hb)).mono ?_
  rintro r w' ⟨rfl,hd⟩
  exact ⟨rfl,Did.trans (((Aft.refl _ st).below bW).below hx) (NDid.lift hd hg hb)⟩
 generalize c.peers.length=NP at *
 clear hbox hGW bW h st hn
 go_enter Tryz.func44,Tryz.ntmps44
 go_wp2
 go_quiet (fail)
 go_wp2
 go_quiet (fail)
 go_wp2
 go_quiet (fail)
 go_wp2_with (go_at_call 68;refine (HT.out _ (by exact drewN_below W _)).mono ?_;rintro rr w5 ⟨rfl,hd5⟩;have HD5:=hide hd5;clear hd5)
 go_ret
 exact ⟨rfl,HD5.out⟩
set_option maxRecDepth 20000 in
set_option maxHeartbeats 2000000 in
theorem onPeer_6 (w:World) (M:Fz) (O:Lb) (d:Nat) (nb:List Nat) (c:Cl) (h:G w M O d nb c) (N b:Nat) (hb:nb[N]?=some b) (hup:(c.at N).up=false) (eo:Option Addr) (el ec:Nat) :
  Calls Tryz.prog 44 #[.pointer (some ⟨d,0,none⟩),.agg #[.int .i64 6,.int .i64 (N:Nat),.slice eo el ec]] w fun r w'=>r=.returned (.int .i64 0)∧Did M O w d nb (c.put N { c.at N with up:=true }) w':=by
 have st:=h.sta
 obtain ⟨W,hW⟩:∃ W,w.alloc (.cells #[.int .i64 6,.int .i64 N,.slice eo el ec] 48)=W:=⟨_,rfl⟩
 have bW:Below w.heap.size w W:=by rw [←hW];exact more (Below.refl _ _) _
 have hbox:W.heap[w.heap.size]?=some (.cells #[.int .i64 6,.int .i64 N,.slice eo el ec] 48 (0,0)):=by rw [←hW];exact heap_alloc_new w _
 have hGW:=h.below bW
 have m0:=cell_of (i:=0) hbox (v:=.int .i64 6) rfl
 have m1:=cell_of (i:=1) hbox (v:=.int .i64 N) rfl
 have m2:=cell_of (i:=2) hbox (v:=.slice eo el ec) rfl
 obtain ⟨us,lv,vv,nv,mv,hn⟩:=hGW.at hb
 have c4:=(Nd.cs hn).1.2.2.2.2.1
 have c0:=(Nd.cs hn).1.1
 rw [hup] at c4
 obtain ⟨g,off,cp,p2,pg,hcp,hcp2,hkl2⟩:=G.peer hGW hb
 have hkI:(N:Int)<c.peers.length:=by omega
 have f4:=(Nd.cs hn).2.2.2.2.2.1
 have HF:Hid (∀ q,Did M O w d nb (c.put N { c.at N with up:=true }) ((W.drewN q).setCell ⟨b,4,none⟩ (.bool true))):=fun q=>by
  have h2:NDid M O W b N { c.at N with up:=true } (sets (W.drewN q) b [(4,.bool true)]):=by
   refine NDid.sets hGW.sta hn (drewN_below W q) _ _ vv nv mv ?_ rfl (.inl ⟨rfl,rfl⟩) (.inl ⟨rfl,rfl⟩) (.inl ⟨rfl,rfl⟩)
   simp [setsA]
  exact Did.trans ((Aft.refl _ st).below bW) (NDid.lift h2 hGW hb)
 generalize c.peers.length=NP at *
 clear hbox hGW bW h st hn
 go_enter Tryz.func44,Tryz.ntmps44
 go_wp2
 go_quiet (fail)
 go_wp2
 go_quiet (fail)
 go_wp2
 go_quiet (fail)
 go_wp2
 go_ret
 exact ⟨rfl,HF.out _⟩
set_option maxRecDepth 20000 in
set_option maxHeartbeats 2000000 in
theorem onPeer_7s (w:World) (M:Fz) (O:Lb) (d:Nat) (nb:List Nat) (c:Cl) (h:G w M O d nb c) (N b:Nat) (hb:nb[N]?=some b) (h1:1≤c.peers.length) (h7:c.peers.length≤7) (hF:Fine c.peers.length (c.at N)) (hch:c.chosen.length≤1000) (hup:(c.at N).up=true) (eo:Option Addr) (el ec:Nat) (xs:List Int) (hd:BytesM M (.slice eo el ec) xs) (hr:(c.at N).role≠2) :
  Calls Tryz.prog 44 #[.pointer (some ⟨d,0,none⟩),.agg #[.int .i64 7,.int .i64 (N:Nat),.slice eo el ec]] w fun r w'=>r=.returned (.int .i64 15)∧Did M O w d nb (c) w':=by
 have st:=h.sta
 obtain ⟨W,hW⟩:∃ W,w.alloc (.cells #[.int .i64 7,.int .i64 N,.slice eo el ec] 48)=W:=⟨_,rfl⟩
 have bW:Below w.heap.size w W:=by rw [←hW];exact more (Below.refl _ _) _
 have hbox:W.heap[w.heap.size]?=some (.cells #[.int .i64 7,.int .i64 N,.slice eo el ec] 48 (0,0)):=by rw [←hW];exact heap_alloc_new w _
 have hGW:=h.below bW
 have m0:=cell_of (i:=0) hbox (v:=.int .i64 7) rfl
 have m1:=cell_of (i:=1) hbox (v:=.int .i64 N) rfl
 have m2:=cell_of (i:=2) hbox (v:=.slice eo el ec) rfl
 obtain ⟨us,lv,vv,nv,mv,hn⟩:=hGW.at hb
 have c4:=(Nd.cs hn).1.2.2.2.2.1
 have c0:=(Nd.cs hn).1.1
 rw [hup] at c4
 obtain ⟨g,off,cp,p2,pg,hcp,hcp2,hkl2⟩:=G.peer hGW hb
 have hkI:(N:Int)<c.peers.length:=by omega
 have HT:Hid (∀ wx,Below W.heap.size W wx→Calls Tryz.prog 69 #[.pointer (some ⟨d,0,none⟩),.pointer (some ⟨b,0,none⟩),.slice eo el ec] wx fun r w'=>r=.returned (.int .i64 15)∧Did M O w d nb (c) w'):=fun wx hx=>by
  have hg:=hGW.below hx
  refine (prop_stale wx M O d nb c hg N b hb (.slice eo el ec) hr).mono ?_
  rintro r w' ⟨rfl,hw⟩
  have hw2:=hw.symm
  subst hw2
  exact ⟨rfl,M,O,((Aft.refl _ st).below bW).below hx,hg⟩
 clear hF hch h1 h7 hd
 generalize c.peers.length=NP at *
 clear hbox hGW bW h st hn
 go_enter Tryz.func44,Tryz.ntmps44
 go_wp2
 go_quiet (fail)
 go_wp2
 go_quiet (fail)
 go_wp2
 go_quiet (fail)
 go_wp2_with (go_at_call 69;refine (HT.out _ (by exact drewN_below W _)).mono ?_;rintro rr w5 ⟨rfl,hd5⟩;have HD5:=hide hd5;clear hd5)
 go_ret
 exact ⟨rfl,HD5.out⟩
set_option maxRecDepth 20000 in
set_option maxHeartbeats 2000000 in
theorem onPeer_7z (w:World) (M:Fz) (O:Lb) (d:Nat) (nb:List Nat) (c:Cl) (h:G w M O d nb c) (N b:Nat) (hb:nb[N]?=some b) (h1:1≤c.peers.length) (h7:c.peers.length≤7) (hF:Fine c.peers.length (c.at N)) (hch:c.chosen.length≤1000) (hup:(c.at N).up=true) (eo:Option Addr) (el ec:Nat) (xs:List Int) (hd:BytesM M (.slice eo el ec) xs) (hr:(c.at N).role=2) (hs:1000<xs.length∨(c.at N).log.length=100) :
  Calls Tryz.prog 44 #[.pointer (some ⟨d,0,none⟩),.agg #[.int .i64 7,.int .i64 (N:Nat),.slice eo el ec]] w fun r w'=>r=.returned (.int .i64 14)∧Did M O w d nb (c) w':=by
 have st:=h.sta
 obtain ⟨W,hW⟩:∃ W,w.alloc (.cells #[.int .i64 7,.int .i64 N,.slice eo el ec] 48)=W:=⟨_,rfl⟩
 have bW:Below w.heap.size w W:=by rw [←hW];exact more (Below.refl _ _) _
 have hbox:W.heap[w.heap.size]?=some (.cells #[.int .i64 7,.int .i64 N,.slice eo el ec] 48 (0,0)):=by rw [←hW];exact heap_alloc_new w _
 have hGW:=h.below bW
 have m0:=cell_of (i:=0) hbox (v:=.int .i64 7) rfl
 have m1:=cell_of (i:=1) hbox (v:=.int .i64 N) rfl
 have m2:=cell_of (i:=2) hbox (v:=.slice eo el ec) rfl
 obtain ⟨us,lv,vv,nv,mv,hn⟩:=hGW.at hb
 have c4:=(Nd.cs hn).1.2.2.2.2.1
 have c0:=(Nd.cs hn).1.1
 rw [hup] at c4
 obtain ⟨g,off,cp,p2,pg,hcp,hcp2,hkl2⟩:=G.peer hGW hb
 have hkI:(N:Int)<c.peers.length:=by omega
 have HT:Hid (∀ wx,Below W.heap.size W wx→Calls Tryz.prog 69 #[.pointer (some ⟨d,0,none⟩),.pointer (some ⟨b,0,none⟩),.slice eo el ec] wx fun r w'=>r=.returned (.int .i64 14)∧Did M O w d nb (c) w'):=fun wx hx=>by
  have hg:=hGW.below hx
  refine (prop_size wx M O d nb c hg N b hb xs eo el ec hd hr hs).mono ?_
  rintro r w' ⟨rfl,hw⟩
  have hw2:=hw.symm
  subst hw2
  exact ⟨rfl,M,O,((Aft.refl _ st).below bW).below hx,hg⟩
 clear hF hch h1 h7 hd
 generalize c.peers.length=NP at *
 clear hbox hGW bW h st hn
 go_enter Tryz.func44,Tryz.ntmps44
 go_wp2
 go_quiet (fail)
 go_wp2
 go_quiet (fail)
 go_wp2
 go_quiet (fail)
 go_wp2_with (go_at_call 69;refine (HT.out _ (by exact drewN_below W _)).mono ?_;rintro rr w5 ⟨rfl,hd5⟩;have HD5:=hide hd5;clear hd5)
 go_ret
 exact ⟨rfl,HD5.out⟩
set_option maxRecDepth 20000 in
set_option maxHeartbeats 2000000 in
theorem onPeer_7 (w:World) (M:Fz) (O:Lb) (d:Nat) (nb:List Nat) (c:Cl) (h:G w M O d nb c) (N b:Nat) (hb:nb[N]?=some b) (h1:1≤c.peers.length) (h7:c.peers.length≤7) (hF:Fine c.peers.length (c.at N)) (hch:c.chosen.length≤1000) (hup:(c.at N).up=true) (eo:Option Addr) (el ec:Nat) (xs:List Int) (hd:BytesM M (.slice eo el ec) xs) (hr:(c.at N).role=2) (hs:¬ (1000<xs.length∨(c.at N).log.length=100)) :
  Calls Tryz.prog 44 #[.pointer (some ⟨d,0,none⟩),.agg #[.int .i64 7,.int .i64 (N:Nat),.slice eo el ec]] w fun r w'=>r=.returned (.int .i64 0)∧Did M O w d nb ((c.put N { c.at N with log:=(c.at N).log++[⟨(c.at N).term,(c.at N).log.length+1,xs⟩],mat:=(c.at N).mat.set N ((c.at N).log.length+1) }).commits N) w':=by
 have st:=h.sta
 obtain ⟨W,hW⟩:∃ W,w.alloc (.cells #[.int .i64 7,.int .i64 N,.slice eo el ec] 48)=W:=⟨_,rfl⟩
 have bW:Below w.heap.size w W:=by rw [←hW];exact more (Below.refl _ _) _
 have hbox:W.heap[w.heap.size]?=some (.cells #[.int .i64 7,.int .i64 N,.slice eo el ec] 48 (0,0)):=by rw [←hW];exact heap_alloc_new w _
 have hGW:=h.below bW
 have m0:=cell_of (i:=0) hbox (v:=.int .i64 7) rfl
 have m1:=cell_of (i:=1) hbox (v:=.int .i64 N) rfl
 have m2:=cell_of (i:=2) hbox (v:=.slice eo el ec) rfl
 obtain ⟨us,lv,vv,nv,mv,hn⟩:=hGW.at hb
 have c4:=(Nd.cs hn).1.2.2.2.2.1
 have c0:=(Nd.cs hn).1.1
 rw [hup] at c4
 obtain ⟨g,off,cp,p2,pg,hcp,hcp2,hkl2⟩:=G.peer hGW hb
 have hkI:(N:Int)<c.peers.length:=by omega
 have HT:Hid (∀ wx,Below W.heap.size W wx→Calls Tryz.prog 69 #[.pointer (some ⟨d,0,none⟩),.pointer (some ⟨b,0,none⟩),.slice eo el ec] wx fun r w'=>r=.returned (.int .i64 0)∧Did M O w d nb ((c.put N { c.at N with log:=(c.at N).log++[⟨(c.at N).term,(c.at N).log.length+1,xs⟩],mat:=(c.at N).mat.set N ((c.at N).log.length+1) }).commits N) w'):=fun wx hx=>by
  have hg:=hGW.below hx
  refine (prop_ok wx M O d nb c hg N b hb xs eo el ec hd h1 h7 hF hch hr hs).mono ?_
  rintro r w' ⟨rfl,hd⟩
  exact ⟨rfl,Did.trans (((Aft.refl _ st).below bW).below hx) hd⟩
 clear hF hch h1 h7 hd
 generalize c.peers.length=NP at *
 clear hbox hGW bW h st hn
 go_enter Tryz.func44,Tryz.ntmps44
 go_wp2
 go_quiet (fail)
 go_wp2
 go_quiet (fail)
 go_wp2
 go_quiet (fail)
 go_wp2_with (go_at_call 69;refine (HT.out _ (by exact drewN_below W _)).mono ?_;rintro rr w5 ⟨rfl,hd5⟩;have HD5:=hide hd5;clear hd5)
 go_ret
 exact ⟨rfl,HD5.out⟩
end Go.Proofs.YtcfdmbkiinjmaaaGreat.onpeer
