import Derived.Test.YtcfdmbkiinjmaaaGreatZ13
import Derived.Laws.EntriesVeiled
set_option linter.unusedVariables false
open Go.ChangeShapes Go.WideShapes Go.ChangeAt Go.RowKit
namespace Go.Proofs.YtcfdmbkiinjmaaaGreat.arrive
open Raft mem grp YtcfdmbkiinjmaaaGreat.look ndw grant stand lead rows2 post postb say lookb lookc commit too elect tick vote
theorem G.peer {w:World} {M:Fz} {O:Lb} {d:Nat} {nb:List Nat} {c:Cl} (h:G w M O d nb c) {k b:Nat} (hb:nb[k]?=some b):∃ g off cp,w.cell? ⟨d,2,none⟩=some (.slice (some ⟨g,off,none⟩) c.peers.length cp)∧w.cell? ⟨g,off+k,none⟩=some (.pointer (some ⟨b,0,none⟩))∧cp≤9223372036854775807∧c.peers.length≤cp∧k<c.peers.length:=by
 obtain ⟨hd,pv,cv,bs,us,cs,hg⟩:=h
 have hlt:=(List.getElem?_eq_some_iff.1 hb).1
 have hlen:=hg.len
 obtain ⟨ao,cap,rfl,e1,e2,_,_,h5⟩:=hg.peers
 obtain ⟨g,off,rfl,hc⟩:=h5 (by omega)
 unfold maxLen at e2
 refine ⟨g,off,cap,?_,hg.st.inn.cell (hc k _ (by rw [List.getElem?_map,hb];rfl)),by omega,by omega,by omega⟩
 have:=(Gr.ca hg).1.2.2.1
 rw [hlen] at this
 exact this
set_option maxHeartbeats 1000000 in
theorem arrive_down (w:World) (M:Fz) (O:Lb) (d:Nat) (nb:List Nat) (c:Cl) (h:G w M O d nb c) (b:Nat) (m:Msg) (hb:nb[m.to]?=some b) (o:Option Addr) (n lc:Nat) (hup:(c.at m.to).up=false) :
  Calls Tryz.prog 63 #[.pointer (some ⟨d,0,none⟩),.agg #[.int .i64 m.kind,.int .i64 m.frm,.int .i64 m.to,.int .i64 m.term,.int .i64 m.a,.int .i64 m.b,.int .i64 m.c,.bool m.ok,.slice o n lc]] w fun r w'=>r=.returned (.tuple #[])∧Did M O w d nb c w':=by
 obtain ⟨k,hk⟩:∃ k,k=m.to:=⟨_,rfl⟩
 rw [←hk] at hb hup
 have st:=h.sta
 have hkl:k<c.peers.length:=by have:=(List.getElem?_eq_some_iff.1 hb).1;have:=h.len;omega
 obtain ⟨W,hW⟩:∃ W,w.alloc (.cells #[.int .i64 m.kind,.int .i64 m.frm,.int .i64 m.to,.int .i64 m.term,.int .i64 m.a,.int .i64 m.b,.int .i64 m.c,.bool m.ok,.slice o n lc] 69)=W:=⟨_,rfl⟩
 have bW:Below w.heap.size w W:=by rw [←hW];exact more (Below.refl _ _) _
 have hbox:W.heap[w.heap.size]?=some (.cells #[.int .i64 m.kind,.int .i64 m.frm,.int .i64 m.to,.int .i64 m.term,.int .i64 m.a,.int .i64 m.b,.int .i64 m.c,.bool m.ok,.slice o n lc] 69 (0,0)):=by rw [←hW];exact heap_alloc_new w _
 have hfr:=(st.fresh (Nat.le_refl w.heap.size)).1
 have hGW:=h.below bW
 have HBox:Hid (∀ (cX:Cl) (wx:World),Did M O W d nb cX wx→(wx.cell? ⟨w.heap.size,0,none⟩=some (.int .i64 m.kind)∧wx.cell? ⟨w.heap.size,1,none⟩=some (.int .i64 m.frm)∧wx.cell? ⟨w.heap.size,2,none⟩=some (.int .i64 m.to)∧wx.cell? ⟨w.heap.size,3,none⟩=some (.int .i64 m.term)∧wx.cell? ⟨w.heap.size,4,none⟩=some (.int .i64 m.a)∧wx.cell? ⟨w.heap.size,5,none⟩=some (.int .i64 m.b)∧wx.cell? ⟨w.heap.size,6,none⟩=some (.int .i64 m.c)∧wx.cell? ⟨w.heap.size,7,none⟩=some (.bool m.ok)∧wx.cell? ⟨w.heap.size,8,none⟩=some (.slice o n lc))):=fun cX wx hx=>by
  have hk:=box_kept hx hfr hbox
  exact ⟨cell_of hk rfl,cell_of hk rfl,cell_of hk rfl,cell_of hk rfl,cell_of hk rfl,cell_of hk rfl,cell_of hk rfl,cell_of hk rfl,cell_of hk rfl⟩
 have H0:Hid (∀ q,Did M O W d nb c (W.drewN q)):=fun q=>⟨M,O,(Aft.refl _ hGW.sta).below (drewN_below W q),hGW.below (drewN_below W q)⟩
 obtain ⟨us,lv,vv,nv,mv,hn⟩:=hGW.at hb
 have c0:=(Nd.cs hn).1.1
 obtain ⟨m0,m1,m2,m3,m4,m5,m6,m7,m8⟩:=HBox.out c W (H0.out 0)
 have c4:=(Nd.cs hn).1.2.2.2.2.1
 obtain ⟨g,off,cp,p2,pg,hcp,hcp2,hkl2⟩:=G.peer hGW hb
 have HF:Hid (∀ q,Did M O w d nb c (W.drewN q)):=fun q=>⟨M,O,((Aft.refl _ st).below bW).below (drewN_below W q),hGW.below (drewN_below W q)⟩
 rw [hup] at c4
 rw [←hk] at m2
 have hkI:(k:Int)<c.peers.length:=by omega
 generalize c.peers.length=NP at *
 rw [←hk] at hW
 rw [show (Value.int .i64 (m.to:Nat))=.int .i64 (k:Nat) from by rw [hk]]
 clear hn hbox hGW bW h st hk HBox H0 hup
 go_enter Tryz.func63,Tryz.ntmps63
 go_wp2
 go_quiet (fail)
 go_wp2
 refine bodyPost_ret (results_none rfl _ _ _) rfl ?_
 exact ⟨rfl,HF.out _⟩
set_option maxRecDepth 20000 in
set_option maxHeartbeats 2000000 in
theorem arrive_1 (w:World) (M:Fz) (O:Lb) (d:Nat) (nb:List Nat) (c c2:Cl) (h:G w M O d nb c) (k b:Nat) (m:Msg) (hb:nb[k]?=some b) (o:Option Addr) (n lc:Nat) (hup:(c.at k).up=true)
  (HH:Hid (∀ (wx:World) (M1:Fz) (O1:Lb),Le M M1→G wx M1 O1 d nb (if (c.at k).term<m.term then c.down k m.term else c)→Calls Tryz.prog 77 #[.pointer (some ⟨d,0,none⟩),.pointer (some ⟨b,0,none⟩),.agg #[.int .i64 1,.int .i64 m.frm,.int .i64 k,.int .i64 m.term,.int .i64 m.a,.int .i64 m.b,.int .i64 m.c,.bool m.ok,.slice o n lc]] wx fun r w'=>r=.returned (.tuple #[])∧Did M1 O1 wx d nb c2 w')) :
  Calls Tryz.prog 63 #[.pointer (some ⟨d,0,none⟩),.agg #[.int .i64 1,.int .i64 m.frm,.int .i64 k,.int .i64 m.term,.int .i64 m.a,.int .i64 m.b,.int .i64 m.c,.bool m.ok,.slice o n lc]] w fun r w'=>r=.returned (.tuple #[])∧Did M O w d nb c2 w':=by
 have st:=h.sta
 have hkl:k<c.peers.length:=by have:=(List.getElem?_eq_some_iff.1 hb).1;have:=h.len;omega
 obtain ⟨W,hW⟩:∃ W,w.alloc (.cells #[.int .i64 1,.int .i64 m.frm,.int .i64 k,.int .i64 m.term,.int .i64 m.a,.int .i64 m.b,.int .i64 m.c,.bool m.ok,.slice o n lc] 69)=W:=⟨_,rfl⟩
 have bW:Below w.heap.size w W:=by rw [←hW];exact more (Below.refl _ _) _
 have hbox:W.heap[w.heap.size]?=some (.cells #[.int .i64 1,.int .i64 m.frm,.int .i64 k,.int .i64 m.term,.int .i64 m.a,.int .i64 m.b,.int .i64 m.c,.bool m.ok,.slice o n lc] 69 (0,0)):=by rw [←hW];exact heap_alloc_new w _
 have hfr:=(st.fresh (Nat.le_refl w.heap.size)).1
 have hGW:=h.below bW
 have HBox:Hid (∀ (cX:Cl) (wx:World),Did M O W d nb cX wx→(wx.cell? ⟨w.heap.size,0,none⟩=some (.int .i64 1)∧wx.cell? ⟨w.heap.size,1,none⟩=some (.int .i64 m.frm)∧wx.cell? ⟨w.heap.size,2,none⟩=some (.int .i64 k)∧wx.cell? ⟨w.heap.size,3,none⟩=some (.int .i64 m.term)∧wx.cell? ⟨w.heap.size,4,none⟩=some (.int .i64 m.a)∧wx.cell? ⟨w.heap.size,5,none⟩=some (.int .i64 m.b)∧wx.cell? ⟨w.heap.size,6,none⟩=some (.int .i64 m.c)∧wx.cell? ⟨w.heap.size,7,none⟩=some (.bool m.ok)∧wx.cell? ⟨w.heap.size,8,none⟩=some (.slice o n lc))):=fun cX wx hx=>by
  have hk:=box_kept hx hfr hbox
  exact ⟨cell_of hk rfl,cell_of hk rfl,cell_of hk rfl,cell_of hk rfl,cell_of hk rfl,cell_of hk rfl,cell_of hk rfl,cell_of hk rfl,cell_of hk rfl⟩
 have H0:Hid (∀ q,Did M O W d nb c (W.drewN q)):=fun q=>⟨M,O,(Aft.refl _ hGW.sta).below (drewN_below W q),hGW.below (drewN_below W q)⟩
 obtain ⟨us,lv,vv,nv,mv,hn⟩:=hGW.at hb
 have c0:=(Nd.cs hn).1.1
 obtain ⟨m0,m1,m2,m3,m4,m5,m6,m7,m8⟩:=HBox.out c W (H0.out 0)
 have c4:=(Nd.cs hn).1.2.2.2.2.1
 obtain ⟨g,off,cp,p2,pg,hcp,hcp2,hkl2⟩:=G.peer hGW hb
 rw [hup] at c4
 obtain ⟨c1,hc1⟩:∃ c1,c1=(if (c.at k).term<m.term then c.down k m.term else c):=⟨_,rfl⟩
 rw [←hc1] at HH
 have HH2:Hid (∀ (wx:World),Did M O W d nb c1 wx→Calls Tryz.prog 77 #[.pointer (some ⟨d,0,none⟩),.pointer (some ⟨b,0,none⟩),.agg #[.int .i64 1,.int .i64 m.frm,.int .i64 k,.int .i64 m.term,.int .i64 m.a,.int .i64 m.b,.int .i64 m.c,.bool m.ok,.slice o n lc]] wx fun r w'=>r=.returned (.tuple #[])∧Did M O w d nb c2 w'):=fun wx hx=>by
  obtain ⟨M1,O1,a1,g1⟩:=hx
  refine (HH.out wx M1 O1 a1.le g1).mono ?_
  rintro r w' ⟨rfl,hd⟩
  exact ⟨rfl,Did.from st bW (Did.trans a1 hd)⟩
 have hkI:(k:Int)<c.peers.length:=by omega
 have HAl:Hid (∀ (cX:Cl) (wx:World) (ob:Obj),Did M O W d nb cX wx→Did M O W d nb cX (wx.alloc ob)):=fun cX wx ob hx=>hx.below (more (Below.refl _ _) ob)
 by_cases htt:(c.at k).term<m.term
 ·rw [if_pos htt] at hc1
  have htI:((c.at k).term:Int)<m.term:=by omega
  have HDn:Hid (∀ wx,Below W.heap.size W wx→Calls Tryz.prog 76 #[.pointer (some ⟨b,0,none⟩),.int .i64 m.term] wx fun r w'=>r=.returned (.tuple #[])∧Did M O W d nb c1 w'):=fun wx hbx=>by
   have hGq:=hGW.below hbx
   refine (stepDown_any wx M O b k _ hGq.sta (hGq.at hb) m.term).mono ?_
   rintro r w' ⟨rfl,hd⟩
   have h2:=NDid.lift hd hGq hb
   rw [←down_put,←hc1] at h2
   exact ⟨rfl,Did.from hGW.sta hbx h2⟩
  generalize c.peers.length=NP at *
  generalize (c.at k).term=T at *
  clear hn hbox hGW bW h st hc1 hup htt HH
  go_enter Tryz.func63,Tryz.ntmps63
  go_wp2
  go_quiet (fail)
  go_wp2
  go_quiet (fail)
  go_wp2_with (go_at_call 76;refine (HDn.out _ (by first | exact drewN_below _ _ | exact ⟨rfl,rfl,rfl,Nat.le_refl _,fun _ _=>rfl⟩)).mono ?_;rintro rr w3 ⟨rfl,hd3⟩;obtain ⟨x0,x1,x2,x3,x4,x5,x6,x7,x8⟩:=HBox.out _ _ hd3;have HD3:=hide hd3;have HD4:=hide (fun ob=>HAl.out _ _ ob hd3);have yy:=fun ob=>HBox.out _ _ (HAl.out _ _ ob hd3);clear hd3)
  obtain ⟨X,hX⟩:∃ X,w3.alloc (.cells #[Value.nilFunc,.func (.func 77) #[.pointer (some ⟨d,0,none⟩)] #[],.func (.func 78) #[.pointer (some ⟨d,0,none⟩)] #[],.func (.func 79) #[.pointer (some ⟨d,0,none⟩)] #[],.func (.func 80) #[.pointer (some ⟨d,0,none⟩)] #[]] 111)=X:=⟨_,rfl⟩
  have HDX:Hid (Did M O W d nb c1 X):=by rw [←hX];exact HD3.out.below (more (Below.refl _ _) _)
  have hfK:X.cell? ⟨w3.heap.size,1,none⟩=some (.func (.func 77) #[.pointer (some ⟨d,0,none⟩)] #[]):=by rw [←hX];exact cell_of (heap_alloc_new w3 _) rfl
  rw [hX]
  obtain ⟨z0,z1,z2,z3,z4,z5,z6,z7,z8⟩:=HBox.out _ _ HDX.out
  clear hX x0 x1 x2 x3 x4 x5 x6 x7 x8 yy HD4 HD3 HDn m0 m1 m2 m3 m4 m5 m6 m7 m8 H0
  generalize w3.heap.size=Z at *
  go_region_law (first | (go_simp;go_at_call 77;refine (HH2.out _ (by first | exact HDX.out.drew | exact HDX.out)).mono ?_;rintro rr w5 ⟨rfl,hd5⟩;have HD5:=hide hd5;clear hd5))
  all_goals
   go_wp2
   go_end0
   exact ⟨rfl,HD5.out⟩
 ·rw [if_neg htt] at hc1
  have htI:¬ ((c.at k).term:Int)<m.term:=by omega
  have HXX:Hid (∀ wx,Below W.heap.size W wx→Did M O W d nb c1 wx):=fun wx hbx=>by rw [hc1];exact ⟨M,O,(Aft.refl _ hGW.sta).below hbx,hGW.below hbx⟩
  generalize c.peers.length=NP at *
  generalize (c.at k).term=T at *
  clear hn hbox hGW bW h st hc1 hup htt HH
  go_enter Tryz.func63,Tryz.ntmps63
  go_wp2
  go_quiet (fail)
  go_wp2
  go_quiet (fail)
  generalize hY:World.drewN _ _=Y
  have HDY:Hid (Did M O W d nb c1 Y):=HXX.out Y (by rw [←hY];exact ⟨rfl,rfl,rfl,Nat.le_refl _,fun _ _=>rfl⟩)
  clear hY
  obtain ⟨x0,x1,x2,x3,x4,x5,x6,x7,x8⟩:=HBox.out _ _ HDY.out
  go_wp2
  obtain ⟨X,hX⟩:∃ X,Y.alloc (.cells #[Value.nilFunc,.func (.func 77) #[.pointer (some ⟨d,0,none⟩)] #[],.func (.func 78) #[.pointer (some ⟨d,0,none⟩)] #[],.func (.func 79) #[.pointer (some ⟨d,0,none⟩)] #[],.func (.func 80) #[.pointer (some ⟨d,0,none⟩)] #[]] 111)=X:=⟨_,rfl⟩
  have HDX:Hid (Did M O W d nb c1 X):=by rw [←hX];exact HDY.out.below (more (Below.refl _ _) _)
  have hfK:X.cell? ⟨Y.heap.size,1,none⟩=some (.func (.func 77) #[.pointer (some ⟨d,0,none⟩)] #[]):=by rw [←hX];exact cell_of (heap_alloc_new Y _) rfl
  rw [hX]
  obtain ⟨z0,z1,z2,z3,z4,z5,z6,z7,z8⟩:=HBox.out _ _ HDX.out
  clear hX HXX x0 x1 x2 x3 x4 x5 x6 x7 x8 HDY m0 m1 m2 m3 m4 m5 m6 m7 m8 H0
  generalize Y.heap.size=Z at *
  go_region_law (first | (go_simp;go_at_call 77;refine (HH2.out _ (by first | exact HDX.out.drew | exact HDX.out)).mono ?_;rintro rr w5 ⟨rfl,hd5⟩;have HD5:=hide hd5;clear hd5))
  all_goals
   go_wp2
   go_end0
   exact ⟨rfl,HD5.out⟩
set_option maxRecDepth 20000 in
set_option maxHeartbeats 2000000 in
theorem arrive_2 (w:World) (M:Fz) (O:Lb) (d:Nat) (nb:List Nat) (c c2:Cl) (h:G w M O d nb c) (k b:Nat) (m:Msg) (hb:nb[k]?=some b) (o:Option Addr) (n lc:Nat) (hup:(c.at k).up=true)
  (HH:Hid (∀ (wx:World) (M1:Fz) (O1:Lb),Le M M1→G wx M1 O1 d nb (if (c.at k).term<m.term then c.down k m.term else c)→Calls Tryz.prog 78 #[.pointer (some ⟨d,0,none⟩),.pointer (some ⟨b,0,none⟩),.agg #[.int .i64 2,.int .i64 m.frm,.int .i64 k,.int .i64 m.term,.int .i64 m.a,.int .i64 m.b,.int .i64 m.c,.bool m.ok,.slice o n lc]] wx fun r w'=>r=.returned (.tuple #[])∧Did M1 O1 wx d nb c2 w')) :
  Calls Tryz.prog 63 #[.pointer (some ⟨d,0,none⟩),.agg #[.int .i64 2,.int .i64 m.frm,.int .i64 k,.int .i64 m.term,.int .i64 m.a,.int .i64 m.b,.int .i64 m.c,.bool m.ok,.slice o n lc]] w fun r w'=>r=.returned (.tuple #[])∧Did M O w d nb c2 w':=by
 have st:=h.sta
 have hkl:k<c.peers.length:=by have:=(List.getElem?_eq_some_iff.1 hb).1;have:=h.len;omega
 obtain ⟨W,hW⟩:∃ W,w.alloc (.cells #[.int .i64 2,.int .i64 m.frm,.int .i64 k,.int .i64 m.term,.int .i64 m.a,.int .i64 m.b,.int .i64 m.c,.bool m.ok,.slice o n lc] 69)=W:=⟨_,rfl⟩
 have bW:Below w.heap.size w W:=by rw [←hW];exact more (Below.refl _ _) _
 have hbox:W.heap[w.heap.size]?=some (.cells #[.int .i64 2,.int .i64 m.frm,.int .i64 k,.int .i64 m.term,.int .i64 m.a,.int .i64 m.b,.int .i64 m.c,.bool m.ok,.slice o n lc] 69 (0,0)):=by rw [←hW];exact heap_alloc_new w _
 have hfr:=(st.fresh (Nat.le_refl w.heap.size)).1
 have hGW:=h.below bW
 have HBox:Hid (∀ (cX:Cl) (wx:World),Did M O W d nb cX wx→(wx.cell? ⟨w.heap.size,0,none⟩=some (.int .i64 2)∧wx.cell? ⟨w.heap.size,1,none⟩=some (.int .i64 m.frm)∧wx.cell? ⟨w.heap.size,2,none⟩=some (.int .i64 k)∧wx.cell? ⟨w.heap.size,3,none⟩=some (.int .i64 m.term)∧wx.cell? ⟨w.heap.size,4,none⟩=some (.int .i64 m.a)∧wx.cell? ⟨w.heap.size,5,none⟩=some (.int .i64 m.b)∧wx.cell? ⟨w.heap.size,6,none⟩=some (.int .i64 m.c)∧wx.cell? ⟨w.heap.size,7,none⟩=some (.bool m.ok)∧wx.cell? ⟨w.heap.size,8,none⟩=some (.slice o n lc))):=fun cX wx hx=>by
  have hk:=box_kept hx hfr hbox
  exact ⟨cell_of hk rfl,cell_of hk rfl,cell_of hk rfl,cell_of hk rfl,cell_of hk rfl,cell_of hk rfl,cell_of hk rfl,cell_of hk rfl,cell_of hk rfl⟩
 have H0:Hid (∀ q,Did M O W d nb c (W.drewN q)):=fun q=>⟨M,O,(Aft.refl _ hGW.sta).below (drewN_below W q),hGW.below (drewN_below W q)⟩
 obtain ⟨us,lv,vv,nv,mv,hn⟩:=hGW.at hb
 have c0:=(Nd.cs hn).1.1
 obtain ⟨m0,m1,m2,m3,m4,m5,m6,m7,m8⟩:=HBox.out c W (H0.out 0)
 have c4:=(Nd.cs hn).1.2.2.2.2.1
 obtain ⟨g,off,cp,p2,pg,hcp,hcp2,hkl2⟩:=G.peer hGW hb
 rw [hup] at c4
 obtain ⟨c1,hc1⟩:∃ c1,c1=(if (c.at k).term<m.term then c.down k m.term else c):=⟨_,rfl⟩
 rw [←hc1] at HH
 have HH2:Hid (∀ (wx:World),Did M O W d nb c1 wx→Calls Tryz.prog 78 #[.pointer (some ⟨d,0,none⟩),.pointer (some ⟨b,0,none⟩),.agg #[.int .i64 2,.int .i64 m.frm,.int .i64 k,.int .i64 m.term,.int .i64 m.a,.int .i64 m.b,.int .i64 m.c,.bool m.ok,.slice o n lc]] wx fun r w'=>r=.returned (.tuple #[])∧Did M O w d nb c2 w'):=fun wx hx=>by
  obtain ⟨M1,O1,a1,g1⟩:=hx
  refine (HH.out wx M1 O1 a1.le g1).mono ?_
  rintro r w' ⟨rfl,hd⟩
  exact ⟨rfl,Did.from st bW (Did.trans a1 hd)⟩
 have hkI:(k:Int)<c.peers.length:=by omega
 have HAl:Hid (∀ (cX:Cl) (wx:World) (ob:Obj),Did M O W d nb cX wx→Did M O W d nb cX (wx.alloc ob)):=fun cX wx ob hx=>hx.below (more (Below.refl _ _) ob)
 by_cases htt:(c.at k).term<m.term
 ·rw [if_pos htt] at hc1
  have htI:((c.at k).term:Int)<m.term:=by omega
  have HDn:Hid (∀ wx,Below W.heap.size W wx→Calls Tryz.prog 76 #[.pointer (some ⟨b,0,none⟩),.int .i64 m.term] wx fun r w'=>r=.returned (.tuple #[])∧Did M O W d nb c1 w'):=fun wx hbx=>by
   have hGq:=hGW.below hbx
   refine (stepDown_any wx M O b k _ hGq.sta (hGq.at hb) m.term).mono ?_
   rintro r w' ⟨rfl,hd⟩
   have h2:=NDid.lift hd hGq hb
   rw [←down_put,←hc1] at h2
   exact ⟨rfl,Did.from hGW.sta hbx h2⟩
  generalize c.peers.length=NP at *
  generalize (c.at k).term=T at *
  clear hn hbox hGW bW h st hc1 hup htt HH
  go_enter Tryz.func63,Tryz.ntmps63
  go_wp2
  go_quiet (fail)
  go_wp2
  go_quiet (fail)
  go_wp2_with (go_at_call 76;refine (HDn.out _ (by first | exact drewN_below _ _ | exact ⟨rfl,rfl,rfl,Nat.le_refl _,fun _ _=>rfl⟩)).mono ?_;rintro rr w3 ⟨rfl,hd3⟩;obtain ⟨x0,x1,x2,x3,x4,x5,x6,x7,x8⟩:=HBox.out _ _ hd3;have HD3:=hide hd3;have HD4:=hide (fun ob=>HAl.out _ _ ob hd3);have yy:=fun ob=>HBox.out _ _ (HAl.out _ _ ob hd3);clear hd3)
  obtain ⟨X,hX⟩:∃ X,w3.alloc (.cells #[Value.nilFunc,.func (.func 77) #[.pointer (some ⟨d,0,none⟩)] #[],.func (.func 78) #[.pointer (some ⟨d,0,none⟩)] #[],.func (.func 79) #[.pointer (some ⟨d,0,none⟩)] #[],.func (.func 80) #[.pointer (some ⟨d,0,none⟩)] #[]] 111)=X:=⟨_,rfl⟩
  have HDX:Hid (Did M O W d nb c1 X):=by rw [←hX];exact HD3.out.below (more (Below.refl _ _) _)
  have hfK:X.cell? ⟨w3.heap.size,2,none⟩=some (.func (.func 78) #[.pointer (some ⟨d,0,none⟩)] #[]):=by rw [←hX];exact cell_of (heap_alloc_new w3 _) rfl
  rw [hX]
  obtain ⟨z0,z1,z2,z3,z4,z5,z6,z7,z8⟩:=HBox.out _ _ HDX.out
  clear hX x0 x1 x2 x3 x4 x5 x6 x7 x8 yy HD4 HD3 HDn m0 m1 m2 m3 m4 m5 m6 m7 m8 H0
  generalize w3.heap.size=Z at *
  go_region_law (first | (go_simp;go_at_call 78;refine (HH2.out _ (by first | exact HDX.out.drew | exact HDX.out)).mono ?_;rintro rr w5 ⟨rfl,hd5⟩;have HD5:=hide hd5;clear hd5))
  all_goals
   go_wp2
   go_end0
   exact ⟨rfl,HD5.out⟩
 ·rw [if_neg htt] at hc1
  have htI:¬ ((c.at k).term:Int)<m.term:=by omega
  have HXX:Hid (∀ wx,Below W.heap.size W wx→Did M O W d nb c1 wx):=fun wx hbx=>by rw [hc1];exact ⟨M,O,(Aft.refl _ hGW.sta).below hbx,hGW.below hbx⟩
  generalize c.peers.length=NP at *
  generalize (c.at k).term=T at *
  clear hn hbox hGW bW h st hc1 hup htt HH
  go_enter Tryz.func63,Tryz.ntmps63
  go_wp2
  go_quiet (fail)
  go_wp2
  go_quiet (fail)
  generalize hY:World.drewN _ _=Y
  have HDY:Hid (Did M O W d nb c1 Y):=HXX.out Y (by rw [←hY];exact ⟨rfl,rfl,rfl,Nat.le_refl _,fun _ _=>rfl⟩)
  clear hY
  obtain ⟨x0,x1,x2,x3,x4,x5,x6,x7,x8⟩:=HBox.out _ _ HDY.out
  go_wp2
  obtain ⟨X,hX⟩:∃ X,Y.alloc (.cells #[Value.nilFunc,.func (.func 77) #[.pointer (some ⟨d,0,none⟩)] #[],.func (.func 78) #[.pointer (some ⟨d,0,none⟩)] #[],.func (.func 79) #[.pointer (some ⟨d,0,none⟩)] #[],.func (.func 80) #[.pointer (some ⟨d,0,none⟩)] #[]] 111)=X:=⟨_,rfl⟩
  have HDX:Hid (Did M O W d nb c1 X):=by rw [←hX];exact HDY.out.below (more (Below.refl _ _) _)
  have hfK:X.cell? ⟨Y.heap.size,2,none⟩=some (.func (.func 78) #[.pointer (some ⟨d,0,none⟩)] #[]):=by rw [←hX];exact cell_of (heap_alloc_new Y _) rfl
  rw [hX]
  obtain ⟨z0,z1,z2,z3,z4,z5,z6,z7,z8⟩:=HBox.out _ _ HDX.out
  clear hX HXX x0 x1 x2 x3 x4 x5 x6 x7 x8 HDY m0 m1 m2 m3 m4 m5 m6 m7 m8 H0
  generalize Y.heap.size=Z at *
  go_region_law (first | (go_simp;go_at_call 78;refine (HH2.out _ (by first | exact HDX.out.drew | exact HDX.out)).mono ?_;rintro rr w5 ⟨rfl,hd5⟩;have HD5:=hide hd5;clear hd5))
  all_goals
   go_wp2
   go_end0
   exact ⟨rfl,HD5.out⟩
set_option maxRecDepth 20000 in
set_option maxHeartbeats 2000000 in
theorem arrive_3 (w:World) (M:Fz) (O:Lb) (d:Nat) (nb:List Nat) (c c2:Cl) (h:G w M O d nb c) (k b:Nat) (m:Msg) (hb:nb[k]?=some b) (o:Option Addr) (n lc:Nat) (hup:(c.at k).up=true)
  (HH:Hid (∀ (wx:World) (M1:Fz) (O1:Lb),Le M M1→G wx M1 O1 d nb (if (c.at k).term<m.term then c.down k m.term else c)→Calls Tryz.prog 79 #[.pointer (some ⟨d,0,none⟩),.pointer (some ⟨b,0,none⟩),.agg #[.int .i64 3,.int .i64 m.frm,.int .i64 k,.int .i64 m.term,.int .i64 m.a,.int .i64 m.b,.int .i64 m.c,.bool m.ok,.slice o n lc]] wx fun r w'=>r=.returned (.tuple #[])∧Did M1 O1 wx d nb c2 w')) :
  Calls Tryz.prog 63 #[.pointer (some ⟨d,0,none⟩),.agg #[.int .i64 3,.int .i64 m.frm,.int .i64 k,.int .i64 m.term,.int .i64 m.a,.int .i64 m.b,.int .i64 m.c,.bool m.ok,.slice o n lc]] w fun r w'=>r=.returned (.tuple #[])∧Did M O w d nb c2 w':=by
 have st:=h.sta
 have hkl:k<c.peers.length:=by have:=(List.getElem?_eq_some_iff.1 hb).1;have:=h.len;omega
 obtain ⟨W,hW⟩:∃ W,w.alloc (.cells #[.int .i64 3,.int .i64 m.frm,.int .i64 k,.int .i64 m.term,.int .i64 m.a,.int .i64 m.b,.int .i64 m.c,.bool m.ok,.slice o n lc] 69)=W:=⟨_,rfl⟩
 have bW:Below w.heap.size w W:=by rw [←hW];exact more (Below.refl _ _) _
 have hbox:W.heap[w.heap.size]?=some (.cells #[.int .i64 3,.int .i64 m.frm,.int .i64 k,.int .i64 m.term,.int .i64 m.a,.int .i64 m.b,.int .i64 m.c,.bool m.ok,.slice o n lc] 69 (0,0)):=by rw [←hW];exact heap_alloc_new w _
 have hfr:=(st.fresh (Nat.le_refl w.heap.size)).1
 have hGW:=h.below bW
 have HBox:Hid (∀ (cX:Cl) (wx:World),Did M O W d nb cX wx→(wx.cell? ⟨w.heap.size,0,none⟩=some (.int .i64 3)∧wx.cell? ⟨w.heap.size,1,none⟩=some (.int .i64 m.frm)∧wx.cell? ⟨w.heap.size,2,none⟩=some (.int .i64 k)∧wx.cell? ⟨w.heap.size,3,none⟩=some (.int .i64 m.term)∧wx.cell? ⟨w.heap.size,4,none⟩=some (.int .i64 m.a)∧wx.cell? ⟨w.heap.size,5,none⟩=some (.int .i64 m.b)∧wx.cell? ⟨w.heap.size,6,none⟩=some (.int .i64 m.c)∧wx.cell? ⟨w.heap.size,7,none⟩=some (.bool m.ok)∧wx.cell? ⟨w.heap.size,8,none⟩=some (.slice o n lc))):=fun cX wx hx=>by
  have hk:=box_kept hx hfr hbox
  exact ⟨cell_of hk rfl,cell_of hk rfl,cell_of hk rfl,cell_of hk rfl,cell_of hk rfl,cell_of hk rfl,cell_of hk rfl,cell_of hk rfl,cell_of hk rfl⟩
 have H0:Hid (∀ q,Did M O W d nb c (W.drewN q)):=fun q=>⟨M,O,(Aft.refl _ hGW.sta).below (drewN_below W q),hGW.below (drewN_below W q)⟩
 obtain ⟨us,lv,vv,nv,mv,hn⟩:=hGW.at hb
 have c0:=(Nd.cs hn).1.1
 obtain ⟨m0,m1,m2,m3,m4,m5,m6,m7,m8⟩:=HBox.out c W (H0.out 0)
 have c4:=(Nd.cs hn).1.2.2.2.2.1
 obtain ⟨g,off,cp,p2,pg,hcp,hcp2,hkl2⟩:=G.peer hGW hb
 rw [hup] at c4
 obtain ⟨c1,hc1⟩:∃ c1,c1=(if (c.at k).term<m.term then c.down k m.term else c):=⟨_,rfl⟩
 rw [←hc1] at HH
 have HH2:Hid (∀ (wx:World),Did M O W d nb c1 wx→Calls Tryz.prog 79 #[.pointer (some ⟨d,0,none⟩),.pointer (some ⟨b,0,none⟩),.agg #[.int .i64 3,.int .i64 m.frm,.int .i64 k,.int .i64 m.term,.int .i64 m.a,.int .i64 m.b,.int .i64 m.c,.bool m.ok,.slice o n lc]] wx fun r w'=>r=.returned (.tuple #[])∧Did M O w d nb c2 w'):=fun wx hx=>by
  obtain ⟨M1,O1,a1,g1⟩:=hx
  refine (HH.out wx M1 O1 a1.le g1).mono ?_
  rintro r w' ⟨rfl,hd⟩
  exact ⟨rfl,Did.from st bW (Did.trans a1 hd)⟩
 have hkI:(k:Int)<c.peers.length:=by omega
 have HAl:Hid (∀ (cX:Cl) (wx:World) (ob:Obj),Did M O W d nb cX wx→Did M O W d nb cX (wx.alloc ob)):=fun cX wx ob hx=>hx.below (more (Below.refl _ _) ob)
 by_cases htt:(c.at k).term<m.term
 ·rw [if_pos htt] at hc1
  have htI:((c.at k).term:Int)<m.term:=by omega
  have HDn:Hid (∀ wx,Below W.heap.size W wx→Calls Tryz.prog 76 #[.pointer (some ⟨b,0,none⟩),.int .i64 m.term] wx fun r w'=>r=.returned (.tuple #[])∧Did M O W d nb c1 w'):=fun wx hbx=>by
   have hGq:=hGW.below hbx
   refine (stepDown_any wx M O b k _ hGq.sta (hGq.at hb) m.term).mono ?_
   rintro r w' ⟨rfl,hd⟩
   have h2:=NDid.lift hd hGq hb
   rw [←down_put,←hc1] at h2
   exact ⟨rfl,Did.from hGW.sta hbx h2⟩
  generalize c.peers.length=NP at *
  generalize (c.at k).term=T at *
  clear hn hbox hGW bW h st hc1 hup htt HH
  go_enter Tryz.func63,Tryz.ntmps63
  go_wp2
  go_quiet (fail)
  go_wp2
  go_quiet (fail)
  go_wp2_with (go_at_call 76;refine (HDn.out _ (by first | exact drewN_below _ _ | exact ⟨rfl,rfl,rfl,Nat.le_refl _,fun _ _=>rfl⟩)).mono ?_;rintro rr w3 ⟨rfl,hd3⟩;obtain ⟨x0,x1,x2,x3,x4,x5,x6,x7,x8⟩:=HBox.out _ _ hd3;have HD3:=hide hd3;have HD4:=hide (fun ob=>HAl.out _ _ ob hd3);have yy:=fun ob=>HBox.out _ _ (HAl.out _ _ ob hd3);clear hd3)
  obtain ⟨X,hX⟩:∃ X,w3.alloc (.cells #[Value.nilFunc,.func (.func 77) #[.pointer (some ⟨d,0,none⟩)] #[],.func (.func 78) #[.pointer (some ⟨d,0,none⟩)] #[],.func (.func 79) #[.pointer (some ⟨d,0,none⟩)] #[],.func (.func 80) #[.pointer (some ⟨d,0,none⟩)] #[]] 111)=X:=⟨_,rfl⟩
  have HDX:Hid (Did M O W d nb c1 X):=by rw [←hX];exact HD3.out.below (more (Below.refl _ _) _)
  have hfK:X.cell? ⟨w3.heap.size,3,none⟩=some (.func (.func 79) #[.pointer (some ⟨d,0,none⟩)] #[]):=by rw [←hX];exact cell_of (heap_alloc_new w3 _) rfl
  rw [hX]
  obtain ⟨z0,z1,z2,z3,z4,z5,z6,z7,z8⟩:=HBox.out _ _ HDX.out
  clear hX x0 x1 x2 x3 x4 x5 x6 x7 x8 yy HD4 HD3 HDn m0 m1 m2 m3 m4 m5 m6 m7 m8 H0
  generalize w3.heap.size=Z at *
  go_region_law (first | (go_simp;go_at_call 79;refine (HH2.out _ (by first | exact HDX.out.drew | exact HDX.out)).mono ?_;rintro rr w5 ⟨rfl,hd5⟩;have HD5:=hide hd5;clear hd5))
  all_goals
   go_wp2
   go_end0
   exact ⟨rfl,HD5.out⟩
 ·rw [if_neg htt] at hc1
  have htI:¬ ((c.at k).term:Int)<m.term:=by omega
  have HXX:Hid (∀ wx,Below W.heap.size W wx→Did M O W d nb c1 wx):=fun wx hbx=>by rw [hc1];exact ⟨M,O,(Aft.refl _ hGW.sta).below hbx,hGW.below hbx⟩
  generalize c.peers.length=NP at *
  generalize (c.at k).term=T at *
  clear hn hbox hGW bW h st hc1 hup htt HH
  go_enter Tryz.func63,Tryz.ntmps63
  go_wp2
  go_quiet (fail)
  go_wp2
  go_quiet (fail)
  generalize hY:World.drewN _ _=Y
  have HDY:Hid (Did M O W d nb c1 Y):=HXX.out Y (by rw [←hY];exact ⟨rfl,rfl,rfl,Nat.le_refl _,fun _ _=>rfl⟩)
  clear hY
  obtain ⟨x0,x1,x2,x3,x4,x5,x6,x7,x8⟩:=HBox.out _ _ HDY.out
  go_wp2
  obtain ⟨X,hX⟩:∃ X,Y.alloc (.cells #[Value.nilFunc,.func (.func 77) #[.pointer (some ⟨d,0,none⟩)] #[],.func (.func 78) #[.pointer (some ⟨d,0,none⟩)] #[],.func (.func 79) #[.pointer (some ⟨d,0,none⟩)] #[],.func (.func 80) #[.pointer (some ⟨d,0,none⟩)] #[]] 111)=X:=⟨_,rfl⟩
  have HDX:Hid (Did M O W d nb c1 X):=by rw [←hX];exact HDY.out.below (more (Below.refl _ _) _)
  have hfK:X.cell? ⟨Y.heap.size,3,none⟩=some (.func (.func 79) #[.pointer (some ⟨d,0,none⟩)] #[]):=by rw [←hX];exact cell_of (heap_alloc_new Y _) rfl
  rw [hX]
  obtain ⟨z0,z1,z2,z3,z4,z5,z6,z7,z8⟩:=HBox.out _ _ HDX.out
  clear hX HXX x0 x1 x2 x3 x4 x5 x6 x7 x8 HDY m0 m1 m2 m3 m4 m5 m6 m7 m8 H0
  generalize Y.heap.size=Z at *
  go_region_law (first | (go_simp;go_at_call 79;refine (HH2.out _ (by first | exact HDX.out.drew | exact HDX.out)).mono ?_;rintro rr w5 ⟨rfl,hd5⟩;have HD5:=hide hd5;clear hd5))
  all_goals
   go_wp2
   go_end0
   exact ⟨rfl,HD5.out⟩
set_option maxRecDepth 20000 in
set_option maxHeartbeats 2000000 in
theorem arrive_4 (w:World) (M:Fz) (O:Lb) (d:Nat) (nb:List Nat) (c c2:Cl) (h:G w M O d nb c) (k b:Nat) (m:Msg) (hb:nb[k]?=some b) (o:Option Addr) (n lc:Nat) (hup:(c.at k).up=true)
  (HH:Hid (∀ (wx:World) (M1:Fz) (O1:Lb),Le M M1→G wx M1 O1 d nb (if (c.at k).term<m.term then c.down k m.term else c)→Calls Tryz.prog 80 #[.pointer (some ⟨d,0,none⟩),.pointer (some ⟨b,0,none⟩),.agg #[.int .i64 4,.int .i64 m.frm,.int .i64 k,.int .i64 m.term,.int .i64 m.a,.int .i64 m.b,.int .i64 m.c,.bool m.ok,.slice o n lc]] wx fun r w'=>r=.returned (.tuple #[])∧Did M1 O1 wx d nb c2 w')) :
  Calls Tryz.prog 63 #[.pointer (some ⟨d,0,none⟩),.agg #[.int .i64 4,.int .i64 m.frm,.int .i64 k,.int .i64 m.term,.int .i64 m.a,.int .i64 m.b,.int .i64 m.c,.bool m.ok,.slice o n lc]] w fun r w'=>r=.returned (.tuple #[])∧Did M O w d nb c2 w':=by
 have st:=h.sta
 have hkl:k<c.peers.length:=by have:=(List.getElem?_eq_some_iff.1 hb).1;have:=h.len;omega
 obtain ⟨W,hW⟩:∃ W,w.alloc (.cells #[.int .i64 4,.int .i64 m.frm,.int .i64 k,.int .i64 m.term,.int .i64 m.a,.int .i64 m.b,.int .i64 m.c,.bool m.ok,.slice o n lc] 69)=W:=⟨_,rfl⟩
 have bW:Below w.heap.size w W:=by rw [←hW];exact more (Below.refl _ _) _
 have hbox:W.heap[w.heap.size]?=some (.cells #[.int .i64 4,.int .i64 m.frm,.int .i64 k,.int .i64 m.term,.int .i64 m.a,.int .i64 m.b,.int .i64 m.c,.bool m.ok,.slice o n lc] 69 (0,0)):=by rw [←hW];exact heap_alloc_new w _
 have hfr:=(st.fresh (Nat.le_refl w.heap.size)).1
 have hGW:=h.below bW
 have HBox:Hid (∀ (cX:Cl) (wx:World),Did M O W d nb cX wx→(wx.cell? ⟨w.heap.size,0,none⟩=some (.int .i64 4)∧wx.cell? ⟨w.heap.size,1,none⟩=some (.int .i64 m.frm)∧wx.cell? ⟨w.heap.size,2,none⟩=some (.int .i64 k)∧wx.cell? ⟨w.heap.size,3,none⟩=some (.int .i64 m.term)∧wx.cell? ⟨w.heap.size,4,none⟩=some (.int .i64 m.a)∧wx.cell? ⟨w.heap.size,5,none⟩=some (.int .i64 m.b)∧wx.cell? ⟨w.heap.size,6,none⟩=some (.int .i64 m.c)∧wx.cell? ⟨w.heap.size,7,none⟩=some (.bool m.ok)∧wx.cell? ⟨w.heap.size,8,none⟩=some (.slice o n lc))):=fun cX wx hx=>by
  have hk:=box_kept hx hfr hbox
  exact ⟨cell_of hk rfl,cell_of hk rfl,cell_of hk rfl,cell_of hk rfl,cell_of hk rfl,cell_of hk rfl,cell_of hk rfl,cell_of hk rfl,cell_of hk rfl⟩
 have H0:Hid (∀ q,Did M O W d nb c (W.drewN q)):=fun q=>⟨M,O,(Aft.refl _ hGW.sta).below (drewN_below W q),hGW.below (drewN_below W q)⟩
 obtain ⟨us,lv,vv,nv,mv,hn⟩:=hGW.at hb
 have c0:=(Nd.cs hn).1.1
 obtain ⟨m0,m1,m2,m3,m4,m5,m6,m7,m8⟩:=HBox.out c W (H0.out 0)
 have c4:=(Nd.cs hn).1.2.2.2.2.1
 obtain ⟨g,off,cp,p2,pg,hcp,hcp2,hkl2⟩:=G.peer hGW hb
 rw [hup] at c4
 obtain ⟨c1,hc1⟩:∃ c1,c1=(if (c.at k).term<m.term then c.down k m.term else c):=⟨_,rfl⟩
 rw [←hc1] at HH
 have HH2:Hid (∀ (wx:World),Did M O W d nb c1 wx→Calls Tryz.prog 80 #[.pointer (some ⟨d,0,none⟩),.pointer (some ⟨b,0,none⟩),.agg #[.int .i64 4,.int .i64 m.frm,.int .i64 k,.int .i64 m.term,.int .i64 m.a,.int .i64 m.b,.int .i64 m.c,.bool m.ok,.slice o n lc]] wx fun r w'=>r=.returned (.tuple #[])∧Did M O w d nb c2 w'):=fun wx hx=>by
  obtain ⟨M1,O1,a1,g1⟩:=hx
  refine (HH.out wx M1 O1 a1.le g1).mono ?_
  rintro r w' ⟨rfl,hd⟩
  exact ⟨rfl,Did.from st bW (Did.trans a1 hd)⟩
 have hkI:(k:Int)<c.peers.length:=by omega
 have HAl:Hid (∀ (cX:Cl) (wx:World) (ob:Obj),Did M O W d nb cX wx→Did M O W d nb cX (wx.alloc ob)):=fun cX wx ob hx=>hx.below (more (Below.refl _ _) ob)
 by_cases htt:(c.at k).term<m.term
 ·rw [if_pos htt] at hc1
  have htI:((c.at k).term:Int)<m.term:=by omega
  have HDn:Hid (∀ wx,Below W.heap.size W wx→Calls Tryz.prog 76 #[.pointer (some ⟨b,0,none⟩),.int .i64 m.term] wx fun r w'=>r=.returned (.tuple #[])∧Did M O W d nb c1 w'):=fun wx hbx=>by
   have hGq:=hGW.below hbx
   refine (stepDown_any wx M O b k _ hGq.sta (hGq.at hb) m.term).mono ?_
   rintro r w' ⟨rfl,hd⟩
   have h2:=NDid.lift hd hGq hb
   rw [←down_put,←hc1] at h2
   exact ⟨rfl,Did.from hGW.sta hbx h2⟩
  generalize c.peers.length=NP at *
  generalize (c.at k).term=T at *
  clear hn hbox hGW bW h st hc1 hup htt HH
  go_enter Tryz.func63,Tryz.ntmps63
  go_wp2
  go_quiet (fail)
  go_wp2
  go_quiet (fail)
  go_wp2_with (go_at_call 76;refine (HDn.out _ (by first | exact drewN_below _ _ | exact ⟨rfl,rfl,rfl,Nat.le_refl _,fun _ _=>rfl⟩)).mono ?_;rintro rr w3 ⟨rfl,hd3⟩;obtain ⟨x0,x1,x2,x3,x4,x5,x6,x7,x8⟩:=HBox.out _ _ hd3;have HD3:=hide hd3;have HD4:=hide (fun ob=>HAl.out _ _ ob hd3);have yy:=fun ob=>HBox.out _ _ (HAl.out _ _ ob hd3);clear hd3)
  obtain ⟨X,hX⟩:∃ X,w3.alloc (.cells #[Value.nilFunc,.func (.func 77) #[.pointer (some ⟨d,0,none⟩)] #[],.func (.func 78) #[.pointer (some ⟨d,0,none⟩)] #[],.func (.func 79) #[.pointer (some ⟨d,0,none⟩)] #[],.func (.func 80) #[.pointer (some ⟨d,0,none⟩)] #[]] 111)=X:=⟨_,rfl⟩
  have HDX:Hid (Did M O W d nb c1 X):=by rw [←hX];exact HD3.out.below (more (Below.refl _ _) _)
  have hfK:X.cell? ⟨w3.heap.size,4,none⟩=some (.func (.func 80) #[.pointer (some ⟨d,0,none⟩)] #[]):=by rw [←hX];exact cell_of (heap_alloc_new w3 _) rfl
  rw [hX]
  obtain ⟨z0,z1,z2,z3,z4,z5,z6,z7,z8⟩:=HBox.out _ _ HDX.out
  clear hX x0 x1 x2 x3 x4 x5 x6 x7 x8 yy HD4 HD3 HDn m0 m1 m2 m3 m4 m5 m6 m7 m8 H0
  generalize w3.heap.size=Z at *
  go_region_law (first | (go_simp;go_at_call 80;refine (HH2.out _ (by first | exact HDX.out.drew | exact HDX.out)).mono ?_;rintro rr w5 ⟨rfl,hd5⟩;have HD5:=hide hd5;clear hd5))
  all_goals
   go_wp2
   go_end0
   exact ⟨rfl,HD5.out⟩
 ·rw [if_neg htt] at hc1
  have htI:¬ ((c.at k).term:Int)<m.term:=by omega
  have HXX:Hid (∀ wx,Below W.heap.size W wx→Did M O W d nb c1 wx):=fun wx hbx=>by rw [hc1];exact ⟨M,O,(Aft.refl _ hGW.sta).below hbx,hGW.below hbx⟩
  generalize c.peers.length=NP at *
  generalize (c.at k).term=T at *
  clear hn hbox hGW bW h st hc1 hup htt HH
  go_enter Tryz.func63,Tryz.ntmps63
  go_wp2
  go_quiet (fail)
  go_wp2
  go_quiet (fail)
  generalize hY:World.drewN _ _=Y
  have HDY:Hid (Did M O W d nb c1 Y):=HXX.out Y (by rw [←hY];exact ⟨rfl,rfl,rfl,Nat.le_refl _,fun _ _=>rfl⟩)
  clear hY
  obtain ⟨x0,x1,x2,x3,x4,x5,x6,x7,x8⟩:=HBox.out _ _ HDY.out
  go_wp2
  obtain ⟨X,hX⟩:∃ X,Y.alloc (.cells #[Value.nilFunc,.func (.func 77) #[.pointer (some ⟨d,0,none⟩)] #[],.func (.func 78) #[.pointer (some ⟨d,0,none⟩)] #[],.func (.func 79) #[.pointer (some ⟨d,0,none⟩)] #[],.func (.func 80) #[.pointer (some ⟨d,0,none⟩)] #[]] 111)=X:=⟨_,rfl⟩
  have HDX:Hid (Did M O W d nb c1 X):=by rw [←hX];exact HDY.out.below (more (Below.refl _ _) _)
  have hfK:X.cell? ⟨Y.heap.size,4,none⟩=some (.func (.func 80) #[.pointer (some ⟨d,0,none⟩)] #[]):=by rw [←hX];exact cell_of (heap_alloc_new Y _) rfl
  rw [hX]
  obtain ⟨z0,z1,z2,z3,z4,z5,z6,z7,z8⟩:=HBox.out _ _ HDX.out
  clear hX HXX x0 x1 x2 x3 x4 x5 x6 x7 x8 HDY m0 m1 m2 m3 m4 m5 m6 m7 m8 H0
  generalize Y.heap.size=Z at *
  go_region_law (first | (go_simp;go_at_call 80;refine (HH2.out _ (by first | exact HDX.out.drew | exact HDX.out)).mono ?_;rintro rr w5 ⟨rfl,hd5⟩;have HD5:=hide hd5;clear hd5))
  all_goals
   go_wp2
   go_end0
   exact ⟨rfl,HD5.out⟩
end Go.Proofs.YtcfdmbkiinjmaaaGreat.arrive
