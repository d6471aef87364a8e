import Derived.Test.YtcfdmbkiinjmaaaGreatZ11
import Derived.Test.YtcfdmbkiinjmaaaGreatZ12
set_option linter.unusedVariables false
open Go.ChangeShapes Go.WideShapes Go.ChangeAt Go.RowKit
namespace Go.Proofs.YtcfdmbkiinjmaaaGreat.came
open Raft mem grp YtcfdmbkiinjmaaaGreat.look ndw grant stand lead rows2 post postb say lookb lookc commit too elect tick vote takes
set_option maxHeartbeats 1000000 in
theorem came_old (w:World) (M:Fz) (O:Lb) (d:Nat) (nb:List Nat) (c:Cl) (h:G w M O d nb c) (k b:Nat) (hb:nb[k]?=some b) (m:Msg) (o:Option Addr) (n lc:Nat) (ht:m.term<(c.at k).term) :
  Calls Tryz.prog 79 #[.pointer (some ⟨d,0,none⟩),.pointer (some ⟨b,0,none⟩),.agg #[.int .i64 m.kind,.int .i64 m.frm,.int .i64 m.to,.int .i64 m.term,.int .i64 m.a,.int .i64 m.b,.int .i64 m.c,.bool m.ok,.slice o n lc]] w fun r w'=>r=.returned (.tuple #[])∧Did M O w d nb (c.send ⟨4,k,m.frm,(c.at k).term,0,0,0,false,[]⟩) w':=by
 have st:=h.sta
 have hkl:k<c.peers.length:=by have:=(List.getElem?_eq_some_iff.1 hb).1;have:=h.len;omega
 obtain ⟨W,hW⟩:∃ W,w.alloc (.cells #[.int .i64 m.kind,.int .i64 m.frm,.int .i64 m.to,.int .i64 m.term,.int .i64 m.a,.int .i64 m.b,.int .i64 m.c,.bool m.ok,.slice o n lc] 69)=W:=⟨_,rfl⟩
 have bW:Below w.heap.size w W:=by rw [←hW];exact more (Below.refl _ _) _
 have hbox:W.heap[w.heap.size]?=some (.cells #[.int .i64 m.kind,.int .i64 m.frm,.int .i64 m.to,.int .i64 m.term,.int .i64 m.a,.int .i64 m.b,.int .i64 m.c,.bool m.ok,.slice o n lc] 69 (0,0)):=by rw [←hW];exact heap_alloc_new w _
 have hfr:=(st.fresh (Nat.le_refl w.heap.size)).1
 have hGW:=h.below bW
 have HBox:Hid (∀ (cX:Cl) (wx:World),Did M O W d nb cX wx→(wx.cell? ⟨w.heap.size,0,none⟩=some (.int .i64 m.kind)∧wx.cell? ⟨w.heap.size,1,none⟩=some (.int .i64 m.frm)∧wx.cell? ⟨w.heap.size,2,none⟩=some (.int .i64 m.to)∧wx.cell? ⟨w.heap.size,3,none⟩=some (.int .i64 m.term)∧wx.cell? ⟨w.heap.size,4,none⟩=some (.int .i64 m.a)∧wx.cell? ⟨w.heap.size,5,none⟩=some (.int .i64 m.b)∧wx.cell? ⟨w.heap.size,6,none⟩=some (.int .i64 m.c)∧wx.cell? ⟨w.heap.size,7,none⟩=some (.bool m.ok)∧wx.cell? ⟨w.heap.size,8,none⟩=some (.slice o n lc))):=fun cX wx hx=>by
  have hk:=box_kept hx hfr hbox
  exact ⟨cell_of hk rfl,cell_of hk rfl,cell_of hk rfl,cell_of hk rfl,cell_of hk rfl,cell_of hk rfl,cell_of hk rfl,cell_of hk rfl,cell_of hk rfl⟩
 have H0:Hid (∀ q,Did M O W d nb c (W.drewN q)):=fun q=>⟨M,O,(Aft.refl _ hGW.sta).below (drewN_below W q),hGW.below (drewN_below W q)⟩
 obtain ⟨us,lv,vv,nv,mv,hn⟩:=hGW.at hb
 obtain ⟨⟨c0,_⟩,_⟩:=Nd.cs hn
 obtain ⟨m0,m1,m2,m3,m4,m5,m6,m7,m8⟩:=HBox.out c W (H0.out 0)
 have HSy:Hid (∀ q,Calls Tryz.prog 91 #[.pointer (some ⟨d,0,none⟩),.pointer (some ⟨b,0,none⟩),.int .i64 m.frm,.agg #[.int .i64 4,.int .i64 0,.int .i64 0,.int .i64 0,.int .i64 0,.int .i64 0,.int .i64 0,.bool false,.slice none 0 0]] (W.drewN q) fun r w'=>r=.returned (.tuple #[])∧Did M O w d nb (c.send ⟨4,k,m.frm,(c.at k).term,0,0,0,false,[]⟩) w'):=fun q=>by
  refine (say_any (W.drewN q) M O d nb c (hGW.below (drewN_below W q)) k b hb m.frm 4 0 0 0 false [] none 0 0 (RecsM.nil M)).mono ?_
  rintro r w' ⟨rfl,hd⟩
  exact ⟨rfl,Did.from st (bW.trans ((drewN_below W q).mono bW.size)) hd⟩
 have htI:(m.term:Int)<(c.at k).term:=by omega
 generalize (c.at k).term=T at *
 clear hn hbox hGW bW h st ht HBox H0
 go_enter Tryz.func79,Tryz.ntmps79
 go_wp2
 go_quiet (fail)
 go_wp2_with (go_at_call 91;refine (HSy.out _).mono ?_;rintro rr w5 ⟨rfl,hd5⟩;have HD5:=hide hd5;clear hd5)
 refine bodyPost_ret (results_none rfl _ _ _) rfl ?_
 exact ⟨rfl,HD5.out⟩
set_option maxHeartbeats 2000000 in
theorem came_no (w:World) (M:Fz) (O:Lb) (d:Nat) (nb:List Nat) (c:Cl) (h:G w M O d nb c) (k b:Nat) (hb:nb[k]?=some b) (m:Msg) (o:Option Addr) (n lc:Nat) (ht:¬ m.term<(c.at k).term) (hno:(c.at k).log.length<m.a∨termAt (c.at k).log m.a≠m.b) (hab:1≤m.a) (ha:m.a≤1000) (hl:(c.at k).log.length≤1000) :
  Calls Tryz.prog 79 #[.pointer (some ⟨d,0,none⟩),.pointer (some ⟨b,0,none⟩),.agg #[.int .i64 m.kind,.int .i64 m.frm,.int .i64 m.to,.int .i64 m.term,.int .i64 m.a,.int .i64 m.b,.int .i64 m.c,.bool m.ok,.slice o n lc]] w fun r w'=>r=.returned (.tuple #[])∧Did M O w d nb ((c.down k m.term).send ⟨4,k,m.frm,((c.down k m.term).at k).term,min (m.a-1) (c.at k).log.length,0,0,false,[]⟩) w':=by
 have st:=h.sta
 have hkl:k<c.peers.length:=by have:=(List.getElem?_eq_some_iff.1 hb).1;have:=h.len;omega
 obtain ⟨W,hW⟩:∃ W,w.alloc (.cells #[.int .i64 m.kind,.int .i64 m.frm,.int .i64 m.to,.int .i64 m.term,.int .i64 m.a,.int .i64 m.b,.int .i64 m.c,.bool m.ok,.slice o n lc] 69)=W:=⟨_,rfl⟩
 have bW:Below w.heap.size w W:=by rw [←hW];exact more (Below.refl _ _) _
 have hbox:W.heap[w.heap.size]?=some (.cells #[.int .i64 m.kind,.int .i64 m.frm,.int .i64 m.to,.int .i64 m.term,.int .i64 m.a,.int .i64 m.b,.int .i64 m.c,.bool m.ok,.slice o n lc] 69 (0,0)):=by rw [←hW];exact heap_alloc_new w _
 have hfr:=(st.fresh (Nat.le_refl w.heap.size)).1
 have hGW:=h.below bW
 have HBox:Hid (∀ (cX:Cl) (wx:World),Did M O W d nb cX wx→(wx.cell? ⟨w.heap.size,0,none⟩=some (.int .i64 m.kind)∧wx.cell? ⟨w.heap.size,1,none⟩=some (.int .i64 m.frm)∧wx.cell? ⟨w.heap.size,2,none⟩=some (.int .i64 m.to)∧wx.cell? ⟨w.heap.size,3,none⟩=some (.int .i64 m.term)∧wx.cell? ⟨w.heap.size,4,none⟩=some (.int .i64 m.a)∧wx.cell? ⟨w.heap.size,5,none⟩=some (.int .i64 m.b)∧wx.cell? ⟨w.heap.size,6,none⟩=some (.int .i64 m.c)∧wx.cell? ⟨w.heap.size,7,none⟩=some (.bool m.ok)∧wx.cell? ⟨w.heap.size,8,none⟩=some (.slice o n lc))):=fun cX wx hx=>by
  have hk:=box_kept hx hfr hbox
  exact ⟨cell_of hk rfl,cell_of hk rfl,cell_of hk rfl,cell_of hk rfl,cell_of hk rfl,cell_of hk rfl,cell_of hk rfl,cell_of hk rfl,cell_of hk rfl⟩
 have H0:Hid (∀ q,Did M O W d nb c (W.drewN q)):=fun q=>⟨M,O,(Aft.refl _ hGW.sta).below (drewN_below W q),hGW.below (drewN_below W q)⟩
 obtain ⟨us,lv,vv,nv,mv,hn⟩:=hGW.at hb
 obtain ⟨⟨c0,_⟩,_⟩:=Nd.cs hn
 obtain ⟨m0,m1,m2,m3,m4,m5,m6,m7,m8⟩:=HBox.out c W (H0.out 0)
 obtain ⟨c1,hc1⟩:∃ c1,c1=c.down k m.term:=⟨_,rfl⟩
 have hc1k:c1.at k=downP (c.at k) m.term:=by rw [hc1,down_put];exact at_put c k _ hkl
 rw [←hc1]
 have HDn:Hid (∀ q,Calls Tryz.prog 76 #[.pointer (some ⟨b,0,none⟩),.int .i64 m.term] (W.drewN q) fun r w'=>r=.returned (.tuple #[])∧Did M O W d nb c1 w'):=fun q=>by
  have hGq:=hGW.below (drewN_below W q)
  refine (stepDown_any (W.drewN q) M O b k _ hGq.sta (hGq.at hb) m.term).mono ?_
  rintro r w' ⟨rfl,hd⟩
  have h2:=NDid.lift hd hGq hb
  rw [←down_put,←hc1] at h2
  exact ⟨rfl,Did.from hGW.sta (drewN_below W q) h2⟩
 have HHas:Hid (∀ wx,Did M O W d nb c1 wx→Calls Tryz.prog 92 #[.pointer (some ⟨b,0,none⟩),.int .i64 m.a,.int .i64 m.b] wx fun r w'=>r=.returned (.bool false)∧w'=wx):=fun wx hx=>by
  obtain ⟨M1,O1,a1,g1⟩:=hx
  have h9:=has_any wx M1 O1 b k _ (g1.at hb) m.a m.b
  rw [hc1k] at h9
  have e:decide (m.a≤(downP (c.at k) m.term).log.length∧termAt (downP (c.at k) m.term).log m.a=m.b)=false:=by
   simp only [decide_eq_false_iff_not]
   rintro ⟨q1,q2⟩
   have q1:m.a≤(c.at k).log.length:=q1
   rcases hno with h | h
   ·omega
   ·exact h q2
  rw [e] at h9
  exact h9
 have HLa:Hid (∀ wx,Did M O W d nb c1 wx→Calls Tryz.prog 87 #[.pointer (some ⟨b,0,none⟩)] wx fun r w'=>r=.returned (.int .i64 ((c.at k).log.length:Nat))∧w'=wx):=fun wx hx=>by
  obtain ⟨M1,O1,a1,g1⟩:=hx
  have h9:=last_any wx M1 O1 b k _ (g1.at hb)
  rw [hc1k] at h9
  exact h9
 obtain ⟨V,hV⟩:∃ V,V=min (m.a-1) (c.at k).log.length:=⟨_,rfl⟩
 rw [←hV]
 have HSy:Hid (∀ wx,Did M O W d nb c1 wx→Calls Tryz.prog 91 #[.pointer (some ⟨d,0,none⟩),.pointer (some ⟨b,0,none⟩),.int .i64 m.frm,.agg #[.int .i64 4,.int .i64 0,.int .i64 0,.int .i64 0,.int .i64 V,.int .i64 0,.int .i64 0,.bool false,.slice none 0 0]] wx fun r w'=>r=.returned (.tuple #[])∧Did M O w d nb (c1.send ⟨4,k,m.frm,(c1.at k).term,V,0,0,false,[]⟩) w'):=fun wx hx=>by
  obtain ⟨M1,O1,a1,g1⟩:=hx
  refine (say_any wx M1 O1 d nb c1 g1 k b hb m.frm 4 V 0 0 false [] none 0 0 (RecsM.nil M1)).mono ?_
  rintro r w' ⟨rfl,hd⟩
  exact ⟨rfl,Did.from st bW (Did.trans a1 hd)⟩
 have HV:Hid ((if ((c.at k).log.length:Int)<IntKind.i64.wrap ((m.a:Int)-1) then ((c.at k).log.length:Int) else IntKind.i64.wrap ((m.a:Int)-1))=(V:Int)):=by
  have hw9:IntKind.i64.wrap ((m.a:Int)-1)=(m.a:Int)-1:=by rw [IntKind.wrap_i64];omega
  unfold Hid
  rw [hV,hw9]
  split <;> omega
 have htI:¬ (m.term:Int)<(c.at k).term:=by omega
 have haI:(1:Int)≤m.a:=by omega
 have haI2:(m.a:Int)≤1000:=by omega
 have hll:((c.at k).log.length:Int)≤1000:=by omega
 generalize (c.at k).term=T at *
 generalize (c.at k).log.length=L at *
 clear hn hbox hGW bW h st ht hno hc1k hc1 hV
 go_enter Tryz.func79,Tryz.ntmps79
 go_wp2
 go_quiet (fail)
 go_wp2_with (go_at_call 76;refine (HDn.out _).mono ?_;rintro rr w3 ⟨rfl,hd3⟩;obtain ⟨x0,x1,x2,x3,x4,x5,x6,x7,x8⟩:=HBox.out _ _ hd3;have HD3:=hide hd3;clear hd3)
 have HH3:Hid (∀ q,Calls Tryz.prog 92 #[.pointer (some ⟨b,0,none⟩),.int .i64 m.a,.int .i64 m.b] (w3.drewN q) fun r w'=>r=.returned (.bool false)∧w'=w3.drewN q):=fun q=>HHas.out _ (HD3.out.below (drewN_below w3 q))
 go_quiet (first | (go_at_call 92;refine Calls.quiet_of_same (HH3.out _)))
 go_wp2
 have HL3:Hid (∀ q,Calls Tryz.prog 87 #[.pointer (some ⟨b,0,none⟩)] (w3.drewN q) fun r w'=>r=.returned (.int .i64 (L:Nat))∧w'=w3.drewN q):=fun q=>HLa.out _ (HD3.out.below (drewN_below w3 q))
 have HS3:Hid (∀ q,Calls Tryz.prog 91 #[.pointer (some ⟨d,0,none⟩),.pointer (some ⟨b,0,none⟩),.int .i64 m.frm,.agg #[.int .i64 4,.int .i64 0,.int .i64 0,.int .i64 0,.int .i64 V,.int .i64 0,.int .i64 0,.bool false,.slice none 0 0]] (w3.drewN q) fun r w'=>r=.returned (.tuple #[])∧Did M O w d nb (c1.send ⟨4,k,m.frm,(c1.at k).term,V,0,0,false,[]⟩) w'):=fun q=>HSy.out _ (HD3.out.below (drewN_below w3 q))
 obtain ⟨X,hX⟩:∃ X,w3.drewN nq=X:=⟨_,rfl⟩
 have HDX:Hid (Did M O W d nb c1 X):=by rw [←hX];exact HD3.out.below (drewN_below w3 nq)
 rw [hX]
 clear hX HL3 HS3
 obtain ⟨z0,z1,z2,z3,z4,z5,z6,z7,z8⟩:=HBox.out _ _ HDX.out
 clear x0 x1 x2 x3 x4 x5 x6 x7 x8 HD3 HH3 HHas m0 m1 m2 m3 m4 m5 m6 m7 m8
 go_region_law (first
  | (go_simp;go_at_call 87;refine (HLa.out _ (by first | exact HDX.out.drew | exact HDX.out)).mono ?_;rintro rr w1 ⟨rfl,hw1⟩;have hw2:=hw1.symm;subst hw2;clear hw1)
  | (go_simp;go_at_call 91;rw [HV.out];refine (HSy.out _ (by first | exact HDX.out.drew | exact HDX.out)).mono ?_;rintro rr w5 ⟨rfl,hd5⟩;have HD5:=hide hd5;clear hd5))
 all_goals
  go_wp2
  refine bodyPost_ret (results_none rfl _ _ _) rfl ?_
  exact ⟨rfl,HD5.out⟩
end Go.Proofs.YtcfdmbkiinjmaaaGreat.came
namespace Go.Proofs.YtcfdmbkiinjmaaaGreat.cameok
open Raft mem grp YtcfdmbkiinjmaaaGreat.look ndw grant stand lead rows2 post postb say lookb lookc commit too elect tick vote takes
set_option maxHeartbeats 4000000 in
theorem came_ok (w:World) (M:Fz) (O:Lb) (d:Nat) (nb:List Nat) (c:Cl) (h:G w M O d nb c) (k b:Nat) (hb:nb[k]?=some b) (m:Msg) (o:Option Addr) (n lc:Nat) (hlv:RecsM M (.slice o n lc) m.log) (ht:¬ m.term<(c.at k).term) (hha:m.a≤(c.at k).log.length) (hhb:termAt (c.at k).log m.a=m.b) (hl:(c.at k).log.length≤500) (hml:m.log.length≤500) (hidx:∀ (j:Nat) (r:Rc),m.log[j]?=some r→r.index=m.a+j+1) (hmc:m.c≤1000) (hcm:(c.at k).commit≤(c.at k).log.length) (hch:c.chosen.length≤1000)
  (hfin:max (c.at k).commit (min m.c (m.a+m.log.length))≤(merge (c.at k).log m.a m.log).length) :
  Calls Tryz.prog 79 #[.pointer (some ⟨d,0,none⟩),.pointer (some ⟨b,0,none⟩),.agg #[.int .i64 m.kind,.int .i64 m.frm,.int .i64 m.to,.int .i64 m.term,.int .i64 m.a,.int .i64 m.b,.int .i64 m.c,.bool m.ok,.slice o n lc]] w fun r w'=>r=.returned (.tuple #[])∧Did M O w d nb ((((c.down k m.term).put k { (c.down k m.term).at k with log:=merge (c.at k).log m.a m.log,commit:=max (c.at k).commit (min m.c (m.a+m.log.length)) }).note k).send ⟨4,k,m.frm,((c.down k m.term).at k).term,m.a+m.log.length,0,0,true,[]⟩) w':=by
 have st:=h.sta
 have hkl:k<c.peers.length:=by have:=(List.getElem?_eq_some_iff.1 hb).1;have:=h.len;omega
 obtain ⟨W,hW⟩:∃ W,w.alloc (.cells #[.int .i64 m.kind,.int .i64 m.frm,.int .i64 m.to,.int .i64 m.term,.int .i64 m.a,.int .i64 m.b,.int .i64 m.c,.bool m.ok,.slice o n lc] 69)=W:=⟨_,rfl⟩
 have bW:Below w.heap.size w W:=by rw [←hW];exact more (Below.refl _ _) _
 have hbox:W.heap[w.heap.size]?=some (.cells #[.int .i64 m.kind,.int .i64 m.frm,.int .i64 m.to,.int .i64 m.term,.int .i64 m.a,.int .i64 m.b,.int .i64 m.c,.bool m.ok,.slice o n lc] 69 (0,0)):=by rw [←hW];exact heap_alloc_new w _
 have hfr:=(st.fresh (Nat.le_refl w.heap.size)).1
 have hGW:=h.below bW
 have HBox:Hid (∀ (cX:Cl) (wx:World),Did M O W d nb cX wx→(wx.cell? ⟨w.heap.size,0,none⟩=some (.int .i64 m.kind)∧wx.cell? ⟨w.heap.size,1,none⟩=some (.int .i64 m.frm)∧wx.cell? ⟨w.heap.size,2,none⟩=some (.int .i64 m.to)∧wx.cell? ⟨w.heap.size,3,none⟩=some (.int .i64 m.term)∧wx.cell? ⟨w.heap.size,4,none⟩=some (.int .i64 m.a)∧wx.cell? ⟨w.heap.size,5,none⟩=some (.int .i64 m.b)∧wx.cell? ⟨w.heap.size,6,none⟩=some (.int .i64 m.c)∧wx.cell? ⟨w.heap.size,7,none⟩=some (.bool m.ok)∧wx.cell? ⟨w.heap.size,8,none⟩=some (.slice o n lc))):=fun cX wx hx=>by
  have hk:=box_kept hx hfr hbox
  exact ⟨cell_of hk rfl,cell_of hk rfl,cell_of hk rfl,cell_of hk rfl,cell_of hk rfl,cell_of hk rfl,cell_of hk rfl,cell_of hk rfl,cell_of hk rfl⟩
 have H0:Hid (∀ q,Did M O W d nb c (W.drewN q)):=fun q=>⟨M,O,(Aft.refl _ hGW.sta).below (drewN_below W q),hGW.below (drewN_below W q)⟩
 obtain ⟨us,lv,vv,nv,mv,hn⟩:=hGW.at hb
 obtain ⟨⟨c0,_⟩,_⟩:=Nd.cs hn
 obtain ⟨m0,m1,m2,m3,m4,m5,m6,m7,m8⟩:=HBox.out c W (H0.out 0)
 obtain ⟨c1,hc1⟩:∃ c1,c1=c.down k m.term:=⟨_,rfl⟩
 have hc1k:c1.at k=downP (c.at k) m.term:=by rw [hc1,down_put];exact at_put c k _ hkl
 have hc1n:c1.peers.length=c.peers.length:=by rw [hc1,down_put];exact put_len _ _ _
 rw [←hc1]
 have HDn:Hid (∀ q,Calls Tryz.prog 76 #[.pointer (some ⟨b,0,none⟩),.int .i64 m.term] (W.drewN q) fun r w'=>r=.returned (.tuple #[])∧Did M O W d nb c1 w'):=fun q=>by
  have hGq:=hGW.below (drewN_below W q)
  refine (stepDown_any (W.drewN q) M O b k _ hGq.sta (hGq.at hb) m.term).mono ?_
  rintro r w' ⟨rfl,hd⟩
  have h2:=NDid.lift hd hGq hb
  rw [←down_put,←hc1] at h2
  exact ⟨rfl,Did.from hGW.sta (drewN_below W q) h2⟩
 have HHas:Hid (∀ wx,Did M O W d nb c1 wx→Calls Tryz.prog 92 #[.pointer (some ⟨b,0,none⟩),.int .i64 m.a,.int .i64 m.b] wx fun r w'=>r=.returned (.bool true)∧w'=wx):=fun wx hx=>by
  obtain ⟨M1,O1,a1,g1⟩:=hx
  have h9:=has_any wx M1 O1 b k _ (g1.at hb) m.a m.b
  rw [hc1k] at h9
  have e:decide (m.a≤(downP (c.at k) m.term).log.length∧termAt (downP (c.at k) m.term).log m.a=m.b)=true:=by
   simp only [decide_eq_true_eq]
   exact ⟨hha,hhb⟩
  rw [e] at h9
  exact h9
 obtain ⟨c2,hc2⟩:∃ c2,c2=c1.put k { c1.at k with log:=merge (c.at k).log m.a m.log }:=⟨_,rfl⟩
 have hc2k:c2.at k={ downP (c.at k) m.term with log:=merge (c.at k).log m.a m.log }:=by rw [hc2,at_put c1 k _ (by omega),hc1k]
 have hc2n:c2.peers.length=c.peers.length:=by rw [hc2];exact (put_len _ _ _).trans hc1n
 have HTk:Hid (∀ wx,Did M O W d nb c1 wx→Calls Tryz.prog 93 #[.pointer (some ⟨b,0,none⟩),.slice o n lc] wx fun r w'=>r=.returned (.tuple #[])∧Did M O W d nb c2 w'):=fun wx hx=>by
  obtain ⟨M1,O1,a1,g1⟩:=hx
  refine (take_any wx M1 O1 b k _ g1.sta (g1.at hb) m.log o n lc (hlv.le a1.le) m.a (by rw [hc1k];exact hha) hidx (by rw [hc1k];exact hl) hml).mono ?_
  rintro r w' ⟨rfl,hd⟩
  have e9:(c1.at k).log=(c.at k).log:=by rw [hc1k];rfl
  rw [e9] at hd
  have h2:=NDid.lift hd g1 hb
  rw [←hc2] at h2
  exact ⟨rfl,Did.trans a1 h2⟩
 obtain ⟨E,hE⟩:∃ E,E=m.a+m.log.length:=⟨_,rfl⟩
 obtain ⟨V,hV⟩:∃ V,V=max (c.at k).commit (min m.c E):=⟨_,rfl⟩
 rw [←hE,←hV] at hfin ⊢
 obtain ⟨c3,hc3⟩:∃ c3,c3=c1.put k { c1.at k with log:=merge (c.at k).log m.a m.log,commit:=V }:=⟨_,rfl⟩
 have hc3k:c3.at k={ downP (c.at k) m.term with log:=merge (c.at k).log m.a m.log,commit:=V }:=by rw [hc3,at_put c1 k _ (by omega),hc1k]
 rw [←hc3]
 have HSt:Hid (∀ wx,Did M O W d nb c2 wx→Did M O W d nb c3 (wx.setCell ⟨b,5,none⟩ (.int .i64 V))∧wx.cell? ⟨b,5,none⟩=some (.int .i64 (c.at k).commit)∧wx.frozen? ⟨b,5,none⟩=false):=fun wx hx=>by
  obtain ⟨M1,O1,a1,g1⟩:=hx
  obtain ⟨us1,lv1,vv1,nv1,mv1,hn1⟩:=g1.at hb
  have h2:=NDid.lift (NDid.sets g1.sta hn1 (Below.refl _ _) [(5,.int .i64 V)] { c2.at k with commit:=V } vv1 nv1 mv1 rfl rfl (.inl ⟨rfl,rfl⟩) (.inl ⟨rfl,rfl⟩) (.inl ⟨rfl,rfl⟩)) g1 hb
  have e9:c2.put k { c2.at k with commit:=V }=c3:=by
   rw [hc2k,hc2,hc3,hc1k]
   simp [Cl.put,List.set_set]
  rw [e9] at h2
  have hcs:=Nd.cs hn1
  rw [hc2k] at hcs
  exact ⟨Did.trans a1 h2,hcs.1.2.2.2.2.2.1,hcs.2.2.2.2.2.2.1⟩
 have HLk:Hid (∀ wx,Did M O W d nb c3 wx→Calls Tryz.prog 94 #[.pointer (some ⟨d,0,none⟩),.pointer (some ⟨b,0,none⟩)] wx fun r w'=>r=.returned (.tuple #[])∧Did M O W d nb (c3.note k) w'):=fun wx hx=>by
  obtain ⟨M1,O1,a1,g1⟩:=hx
  have hmg:=mg_len (c.at k).log m.a m.log hha m.log.length (Nat.le_refl _)
  have e8:mg (c.at k).log m.a m.log m.log.length=merge (c.at k).log m.a m.log:=by unfold mg;rw [List.take_length]
  rw [e8] at hmg
  refine (look_any wx M1 O1 d nb c3 g1 k b hb (by rw [hc3k];exact hfin) (by rw [hc3k];show (merge (c.at k).log m.a m.log).length≤1000;omega) (by rw [hc3,hc1];exact hch)).mono ?_
  rintro r w' ⟨rfl,hd⟩
  exact ⟨rfl,Did.trans a1 (LDid.did hd)⟩
 have HSy:Hid (∀ wx,Did M O W d nb (c3.note k) wx→Calls Tryz.prog 91 #[.pointer (some ⟨d,0,none⟩),.pointer (some ⟨b,0,none⟩),.int .i64 m.frm,.agg #[.int .i64 4,.int .i64 0,.int .i64 0,.int .i64 0,.int .i64 E,.int .i64 0,.int .i64 0,.bool true,.slice none 0 0]] wx fun r w'=>r=.returned (.tuple #[])∧Did M O w d nb ((c3.note k).send ⟨4,k,m.frm,(c1.at k).term,E,0,0,true,[]⟩) w'):=fun wx hx=>by
  obtain ⟨M1,O1,a1,g1⟩:=hx
  refine (say_any wx M1 O1 d nb (c3.note k) g1 k b hb m.frm 4 E 0 0 true [] none 0 0 (RecsM.nil M1)).mono ?_
  rintro r w' ⟨rfl,hd⟩
  have e9:((c3.note k).at k).term=(c1.at k).term:=by rw [(note_at c3 k k).1,hc3k,hc1k]
  rw [e9] at hd
  exact ⟨rfl,Did.from st bW (Did.trans a1 hd)⟩
 have hnl:n=m.log.length:=by
  obtain ⟨us',e',⟨ao,cap,e1,_⟩,_⟩:=hlv
  simp only [Value.slice.injEq] at e1
  rw [←e'];simp;exact e1.2.1
 have htI:¬ (m.term:Int)<(c.at k).term:=by omega
 have hEI:(m.a:Int)+n=E:=by omega
 have hEI2:(E:Int)≤1000:=by omega
 obtain ⟨Q,hQ⟩:∃ Q,Q=min m.c E:=⟨_,rfl⟩
 have HQ:Hid ((if E<m.c then (E:Int) else (m.c:Int))=(Q:Int)):=by unfold Hid;rw [hQ];split <;> omega
 have HV2:Hid ((if ((c.at k).commit:Int)<(Q:Int) then (Q:Int) else ((c.at k).commit:Int))=(V:Int)):=by unfold Hid;rw [hV,hQ];split <;> omega
 generalize (c.at k).term=T at *
 generalize (c.at k).commit=C at *
 clear hn hbox hGW bW h st ht hc1k hc1 hV hfin hc3k hc3 hc2k hc2 hc2n hc1n hlv hidx hcm hch hl hml hE hnl hhb hha hmc hQ
 go_enter Tryz.func79,Tryz.ntmps79
 go_wp2
 go_quiet (fail)
 go_wp2_with (go_at_call 76;refine (HDn.out _).mono ?_;rintro rr w3 ⟨rfl,hd3⟩;obtain ⟨x0,x1,x2,x3,x4,x5,x6,x7,x8⟩:=HBox.out _ _ hd3;have HD3:=hide hd3;clear hd3)
 have HH3:Hid (∀ q,Calls Tryz.prog 92 #[.pointer (some ⟨b,0,none⟩),.int .i64 m.a,.int .i64 m.b] (w3.drewN q) fun r w'=>r=.returned (.bool true)∧w'=w3.drewN q):=fun q=>HHas.out _ (HD3.out.below (drewN_below w3 q))
 go_quiet (first | (go_at_call 92;refine Calls.quiet_of_same (HH3.out _)))
 go_wp2
 obtain ⟨X,hX⟩:∃ X,w3.drewN nq=X:=⟨_,rfl⟩
 have HDX:Hid (Did M O W d nb c1 X):=by rw [←hX];exact HD3.out.below (drewN_below w3 nq)
 rw [hX]
 clear hX
 obtain ⟨z0,z1,z2,z3,z4,z5,z6,z7,z8⟩:=HBox.out _ _ HDX.out
 clear x0 x1 x2 x3 x4 x5 x6 x7 x8 HD3 HH3 HHas m0 m1 m2 m3 m4 m5 m6 m7 m8
 go_region_law (first
  | (go_simp;go_at_call 93;refine (HTk.out _ (by first | exact HDX.out.drew | exact HDX.out)).mono ?_;rintro rr w4 ⟨rfl,hd4⟩;obtain ⟨t0,t1,t2,t3,t4,t5,t6,t7,t8⟩:=HBox.out _ _ hd4;have HD4:=hide hd4;clear hd4))
 all_goals
  obtain ⟨hst,s5,sf5⟩:=HSt.out _ HD4.out
  have HC3:=hide hst
  clear hst
  go_wp2
  go_region
  rw [HQ.out,HV2.out]
  go_wp2_with (first
   | (go_at_call 94;refine (HLk.out _ HC3.out.drew).mono ?_;rintro rr w5 ⟨rfl,hd5⟩;obtain ⟨v0,v1,v2,v3,v4,v5,v6,v7,v8⟩:=HBox.out _ _ hd5;have HD5:=hide hd5;clear hd5)
   | (go_at_call 91;refine (HSy.out _ HD5.out).mono ?_;rintro rr w6 ⟨rfl,hd6⟩;have HD6:=hide hd6;clear hd6))
  go_end0
  exact ⟨rfl,HD6.out⟩
end Go.Proofs.YtcfdmbkiinjmaaaGreat.cameok
namespace Go.Proofs.YtcfdmbkiinjmaaaGreat.answ
open Raft mem grp YtcfdmbkiinjmaaaGreat.look ndw grant stand lead rows2 post postb say lookb lookc commit too elect tick vote
set_option maxHeartbeats 1000000 in
theorem answ_no (w:World) (M:Fz) (O:Lb) (d:Nat) (nb:List Nat) (c:Cl) (h:G w M O d nb c) (k b:Nat) (hb:nb[k]?=some b) (m:Msg) (o:Option Addr) (n lc:Nat) (hno:m.term≠(c.at k).term∨(c.at k).role≠2) :
  Calls Tryz.prog 80 #[.pointer (some ⟨d,0,none⟩),.pointer (some ⟨b,0,none⟩),.agg #[.int .i64 m.kind,.int .i64 m.frm,.int .i64 m.to,.int .i64 m.term,.int .i64 m.a,.int .i64 m.b,.int .i64 m.c,.bool m.ok,.slice o n lc]] w fun r w'=>r=.returned (.tuple #[])∧Did M O w d nb c w':=by
 have st:=h.sta
 obtain ⟨W,hW⟩:∃ W,w.alloc (.cells #[.int .i64 m.kind,.int .i64 m.frm,.int .i64 m.to,.int .i64 m.term,.int .i64 m.a,.int .i64 m.b,.int .i64 m.c,.bool m.ok,.slice o n lc] 69)=W:=⟨_,rfl⟩
 have bW:Below w.heap.size w W:=by rw [←hW];exact more (Below.refl _ _) _
 have hbox:W.heap[w.heap.size]?=some (.cells #[.int .i64 m.kind,.int .i64 m.frm,.int .i64 m.to,.int .i64 m.term,.int .i64 m.a,.int .i64 m.b,.int .i64 m.c,.bool m.ok,.slice o n lc] 69 (0,0)):=by rw [←hW];exact heap_alloc_new w _
 have hGW:=h.below bW
 have HF:Hid (∀ q,Did M O w d nb c (W.drewN q)):=fun q=>⟨M,O,((Aft.refl _ st).below bW).below (drewN_below W q),hGW.below (drewN_below W q)⟩
 obtain ⟨us,lv,vv,nv,mv,hn⟩:=hGW.at hb
 obtain ⟨⟨c0,_,_,_,_,_,c6,_⟩,_⟩:=Nd.cs hn
 have m0:=cell_of (i:=0) hbox (v:=.int .i64 m.kind) rfl
 have m1:=cell_of (i:=1) hbox (v:=.int .i64 m.frm) rfl
 have m2:=cell_of (i:=2) hbox (v:=.int .i64 m.to) rfl
 have m3:=cell_of (i:=3) hbox (v:=.int .i64 m.term) rfl
 have m4:=cell_of (i:=4) hbox (v:=.int .i64 m.a) rfl
 have m5:=cell_of (i:=5) hbox (v:=.int .i64 m.b) rfl
 have m6:=cell_of (i:=6) hbox (v:=.int .i64 m.c) rfl
 have m7:=cell_of (i:=7) hbox (v:=.bool m.ok) rfl
 have m8:=cell_of (i:=8) hbox (v:=.slice o n lc) rfl
 by_cases ht:m.term=(c.at k).term
 ·have hr:(c.at k).role≠2:=by rcases hno with h | h;exact absurd ht h;exact h
  have e1:((m.term:Int) != ((c.at k).term:Int))=false:=by simp;omega
  have e2:(((c.at k).role:Int) != 2)=true:=by simp;omega
  generalize (c.at k).role=R at *
  generalize (c.at k).term=T at *
  clear hn hbox hGW bW h st ht hr hno
  go_enter Tryz.func80,Tryz.ntmps80
  go_wp2
  go_quiet (fail)
  go_wp2
  refine bodyPost_ret (results_none rfl _ _ _) rfl ?_
  exact ⟨rfl,HF.out _⟩
 ·have e1:((m.term:Int) != ((c.at k).term:Int))=true:=by simp;omega
  generalize (c.at k).role=R at *
  generalize (c.at k).term=T at *
  clear hn hbox hGW bW h st ht hno
  go_enter Tryz.func80,Tryz.ntmps80
  go_wp2
  go_quiet (fail)
  go_wp2
  refine bodyPost_ret (results_none rfl _ _ _) rfl ?_
  exact ⟨rfl,HF.out _⟩
set_option maxHeartbeats 2000000 in
theorem answ_ok (w:World) (M:Fz) (O:Lb) (d:Nat) (nb:List Nat) (c:Cl) (h:G w M O d nb c) (k b:Nat) (hb:nb[k]?=some b) (m:Msg) (o:Option Addr) (n lc:Nat) (h1:1≤c.peers.length) (h7:c.peers.length≤7) (hf:m.frm<c.peers.length) (hF:Fine c.peers.length (c.at k)) (hch:c.chosen.length≤1000)
  (ht:m.term=(c.at k).term) (hr:(c.at k).role=2) (hok:m.ok=true) (ha:m.a≤1000) (hml:∀ x∈(c.at k).mat,x≤1000) :
  Calls Tryz.prog 80 #[.pointer (some ⟨d,0,none⟩),.pointer (some ⟨b,0,none⟩),.agg #[.int .i64 m.kind,.int .i64 m.frm,.int .i64 m.to,.int .i64 m.term,.int .i64 m.a,.int .i64 m.b,.int .i64 m.c,.bool m.ok,.slice o n lc]] w fun r w'=>r=.returned (.tuple #[])∧Did M O w d nb ((c.put k { c.at k with mat:=(c.at k).mat.set m.frm (max ((c.at k).mat.getD m.frm 0) m.a),next:=(c.at k).next.set m.frm (max ((c.at k).next.getD m.frm 0) (m.a+1)) }).commits k) w':=by
 have st:=h.sta
 have hkl:k<c.peers.length:=by have:=(List.getElem?_eq_some_iff.1 hb).1;have:=h.len;omega
 obtain ⟨W,hW⟩:∃ W,w.alloc (.cells #[.int .i64 m.kind,.int .i64 m.frm,.int .i64 m.to,.int .i64 m.term,.int .i64 m.a,.int .i64 m.b,.int .i64 m.c,.bool true,.slice o n lc] 69)=W:=⟨_,rfl⟩
 have bW:Below w.heap.size w W:=by rw [←hW];exact more (Below.refl _ _) _
 have hbox:W.heap[w.heap.size]?=some (.cells #[.int .i64 m.kind,.int .i64 m.frm,.int .i64 m.to,.int .i64 m.term,.int .i64 m.a,.int .i64 m.b,.int .i64 m.c,.bool true,.slice o n lc] 69 (0,0)):=by rw [←hW];exact heap_alloc_new w _
 have hfr:=(st.fresh (Nat.le_refl w.heap.size)).1
 have hGW:=h.below bW
 obtain ⟨us,lv,vv,nv,mv,hn⟩:=hGW.at hb
 obtain ⟨⟨c0,_,_,_,_,_,c6,_,c8,c9⟩,_⟩:=Nd.cs hn
 have m0:=cell_of (i:=0) hbox (v:=.int .i64 m.kind) rfl
 have m1:=cell_of (i:=1) hbox (v:=.int .i64 m.frm) rfl
 have m2:=cell_of (i:=2) hbox (v:=.int .i64 m.to) rfl
 have m3:=cell_of (i:=3) hbox (v:=.int .i64 m.term) rfl
 have m4:=cell_of (i:=4) hbox (v:=.int .i64 m.a) rfl
 have m5:=cell_of (i:=5) hbox (v:=.int .i64 m.b) rfl
 have m6:=cell_of (i:=6) hbox (v:=.int .i64 m.c) rfl
 have m7:=cell_of (i:=7) hbox (v:=.bool true) rfl
 have m8:=cell_of (i:=8) hbox (v:=.slice o n lc) rfl
 obtain ⟨q1,q2,q3⟩:=hF.lists hr
 obtain ⟨g,cap,rfl,hg1,hg2,hcells,hfz⟩:=own_at hn.mat (by omega)
 obtain ⟨g',cap',rfl,hg1',hg2',hcells',hfz'⟩:=own_at hn.next (by omega)
 unfold maxLen at hg2 hg2'
 have cg:=hcells m.frm (.int .i64 ((c.at k).mat.getD m.frm 0)) (by rw [List.getElem?_map,getD_get (by omega)];rfl)
 have fg:=hfz m.frm
 have cg':=hcells' m.frm (.int .i64 ((c.at k).next.getD m.frm 0)) (by rw [List.getElem?_map,getD_get (by omega)];rfl)
 have fg':=hfz' m.frm
 have hmb:(c.at k).mat.getD m.frm 0≤1000:=hml _ (List.mem_iff_getElem?.2 ⟨m.frm,getD_get (by omega)⟩)
 have hnb:=(q3 m.frm hf).2
 have hlog:=hF.log
 obtain ⟨c2,hc2⟩:∃ c2,c2=c.put k { c.at k with mat:=(c.at k).mat.set m.frm (max ((c.at k).mat.getD m.frm 0) m.a),next:=(c.at k).next.set m.frm (max ((c.at k).next.getD m.frm 0) (m.a+1)) }:=⟨_,rfl⟩
 have hc2k:c2.at k={ c.at k with mat:=(c.at k).mat.set m.frm (max ((c.at k).mat.getD m.frm 0) m.a),next:=(c.at k).next.set m.frm (max ((c.at k).next.getD m.frm 0) (m.a+1)) }:=by rw [hc2];exact at_put c k _ hkl
 rw [←hc2]
 generalize hA:(c.at k).mat.getD m.frm 0=A at *
 generalize hB:(c.at k).next.getD m.frm 0=B at *
 have hgg:g'≠g:=fun e=>hn.apart g' rfl (by rw [e];rfl)
 have hgb:g≠b:=fun e=>hn.ne.2.2.2 (by rw [e];rfl)
 have hgb':g'≠b:=fun e=>hn.ne.2.2.1 (by rw [e];rfl)
 have hgx:g≠w.heap.size:=fun e=>by
  have:=hn.lab (.slice (some ⟨g,0,none⟩) (c.at k).mat.length cap) (by simp) g rfl
  rw [e,hfr] at this;cases this
 have hgx':g'≠w.heap.size:=fun e=>by
  have:=hn.lab (.slice (some ⟨g',0,none⟩) (c.at k).next.length cap') (by simp) g' rfl
  rw [e,hfr] at this;cases this
 have HSt:Hid (∀ q q',Did M O w d nb c2 ((((W.drewN q).setCell ⟨g,m.frm,none⟩ (.int .i64 (max A m.a:Nat))).drewN q').setCell ⟨g',m.frm,none⟩ (.int .i64 (max B (m.a+1):Nat)))):=fun q q'=>by
  have hGq:=hGW.below (drewN_below W q)
  have h2:=NDid.setMat hGq.sta (hn.keep (w':=W.drewN q) (fun _ _=>rfl) (Le.refl _) (fun _ h=>h)) m.frm (max A m.a)
  obtain ⟨M1,O1,a1,us1,lv1,vv1,nv1,mv1,hn1⟩:=h2.below (drewN_below _ q')
  have hblk:((((W.drewN q).setCell ⟨g,m.frm,none⟩ (.int .i64 (max A m.a:Nat))).drewN q').heap[b]?)=W.heap[b]? := Below.heap_setCell W ⟨g,m.frm,none⟩ _ b (fun e=>hgb e.symm)
  have e9:nv1=.slice (some ⟨g',0,none⟩) (c.at k).next.length cap':=by
   have h5:=hn1.blk
   rw [hblk,hn.blk] at h5
   simp at h5
   exact h5.2.2.1.symm
  subst e9
  have h3:=NDid.setNext a1.sta hn1 m.frm (max B (m.a+1))
  obtain ⟨M2,O2,a2,h4⟩:=h3
  have h6:=NDid.lift (⟨M2,O2,a1.trans a2,h4⟩:NDid M O (W.drewN q) b k _ _) hGq hb
  have e7:c2=c.put k { c.at k with mat:=(c.at k).mat.set m.frm (max A m.a),next:=(c.at k).next.set m.frm (max B (m.a+1)) }:=hc2
  rw [e7]
  exact Did.from st (bW.trans ((drewN_below W q).mono bW.size)) h6
 have HCm:Hid (∀ wx,Did M O w d nb c2 wx→Calls Tryz.prog 89 #[.pointer (some ⟨d,0,none⟩),.pointer (some ⟨b,0,none⟩)] wx fun r w'=>r=.returned (.tuple #[])∧Did M O w d nb (c2.commits k) w'):=fun wx hx=>by
  obtain ⟨M1,O1,a1,g1⟩:=hx
  have hn2:c2.peers.length=c.peers.length:=by rw [hc2];exact put_len _ _ _
  refine (commits_any wx M1 O1 d nb c2 g1 k b hb (by omega) (by omega) (by rw [hc2k];simp;omega) (by rw [hc2k];exact hF.commit) (by rw [hc2k];show (c.at k).log.length≤1000;omega) (by rw [hc2];exact hch)).mono ?_
  rintro r w' ⟨rfl,hd⟩
  exact ⟨rfl,Did.trans a1 hd⟩
 have e1:((m.term:Int) != ((c.at k).term:Int))=false:=by simp;omega
 have e2:(((c.at k).role:Int) != 2)=false:=by simp;omega
 rw [show (Value.bool m.ok)=.bool true from by rw [hok]]
 have hfM:m.frm<(c.at k).mat.length:=by omega
 have hfN:m.frm<(c.at k).next.length:=by omega
 have hfMI:(m.frm:Int)<(c.at k).mat.length:=by omega
 have hfNI:(m.frm:Int)<(c.at k).next.length:=by omega
 have haI:(m.a:Int)≤1000:=by omega
 generalize (c.at k).mat.length=ML at *
 generalize (c.at k).next.length=NL at *
 generalize (c.at k).role=R at *
 generalize (c.at k).term=T at *
 clear hn hcells hfz hcells' hfz' hbox hGW bW h st hc2k hc2 ht hr hok hF q1 q2 q3 hA hB hml hfr
 go_enter Tryz.func80,Tryz.ntmps80
 go_wp2
 go_quiet (fail)
 go_wp2
 have eM:(if A<m.a then (m.a:Int) else (A:Int))=((max A m.a:Nat):Int):=by split <;> omega
 have HeM:=hide eM
 clear eM
 go_region
 rw [HeM.out]
 have hgd:w.heap.size≠g:=fun e=>hgx e.symm
 obtain ⟨W2,hW2⟩:∃ W2,(W.drewN (nq+1)).setCell ⟨g,m.frm,none⟩ (.int .i64 ((max A m.a:Nat):Int))=W2:=⟨_,rfl⟩
 rw [hW2]
 have z8:W2.cell? ⟨b,8,none⟩=some (.slice (some ⟨g',0,none⟩) NL cap'):=by rw [←hW2,World.cell?_of_block (a:=⟨b,8,none⟩) (Below.heap_setCell _ _ _ b (fun e=>hgb e.symm))];exact c8
 have zg:W2.cell? ⟨g',m.frm,none⟩=some (.int .i64 B):=by rw [←hW2,World.cell?_of_block (a:=⟨g',m.frm,none⟩) (Below.heap_setCell _ _ _ g' hgg)];exact cg'
 have zf:W2.frozen? ⟨g',m.frm,none⟩=false:=by
  have h9:W2.heap[g']?=W.heap[g']? := by rw [←hW2];exact Below.heap_setCell _ _ _ g' hgg
  have h8:=fg'
  simp only [World.frozen?] at h8 ⊢
  rw [h9];exact h8
 have zm:W2.cell? ⟨w.heap.size,4,none⟩=some (.int .i64 m.a):=by rw [←hW2,World.cell?_of_block (a:=⟨w.heap.size,4,none⟩) (Below.heap_setCell _ _ _ w.heap.size hgd)];exact m4
 have HS2:Hid (Did M O w d nb c2 (W2.setCell ⟨g',m.frm,none⟩ (.int .i64 (max B (m.a+1):Nat)))):=by rw [←hW2];exact HSt.out (nq+1) 0
 have HeN:Hid ((if (B:Int)<(m.a:Int)+1 then (m.a:Int)+1 else (B:Int))=((max B (m.a+1):Nat):Int)):=by unfold Hid;split <;> omega
 clear hW2 HSt
 go_wp2
 go_region
 rw [HeN.out]
 go_wp2_with (go_at_call 89;refine (HCm.out _ HS2.out.drew).mono ?_;rintro rr w5 ⟨rfl,hd5⟩;have HD5:=hide hd5;clear hd5)
 go_end0
 exact ⟨rfl,HD5.out⟩
set_option maxHeartbeats 2000000 in
theorem answ_lo (w:World) (M:Fz) (O:Lb) (d:Nat) (nb:List Nat) (c:Cl) (h:G w M O d nb c) (k b:Nat) (hb:nb[k]?=some b) (m:Msg) (o:Option Addr) (n lc:Nat) (h1:1≤c.peers.length) (h7:c.peers.length≤7) (hf:m.frm<c.peers.length) (hF:Fine c.peers.length (c.at k))
  (ht:m.term=(c.at k).term) (hr:(c.at k).role=2) (hok:m.ok=false) (ha:m.a≤1000) (hml:∀ x∈(c.at k).mat,x≤(c.at k).log.length) :
  Calls Tryz.prog 80 #[.pointer (some ⟨d,0,none⟩),.pointer (some ⟨b,0,none⟩),.agg #[.int .i64 m.kind,.int .i64 m.frm,.int .i64 m.to,.int .i64 m.term,.int .i64 m.a,.int .i64 m.b,.int .i64 m.c,.bool m.ok,.slice o n lc]] w fun r w'=>r=.returned (.tuple #[])∧Did M O w d nb (if m.a+1<(c.at k).next.getD m.frm 0 then (c.put k { c.at k with next:=(c.at k).next.set m.frm (max ((c.at k).mat.getD m.frm 0+1) (m.a+1)) }).records k m.frm else c) w':=by
 have st:=h.sta
 have hkl:k<c.peers.length:=by have:=(List.getElem?_eq_some_iff.1 hb).1;have:=h.len;omega
 obtain ⟨W,hW⟩:∃ W,w.alloc (.cells #[.int .i64 m.kind,.int .i64 m.frm,.int .i64 m.to,.int .i64 m.term,.int .i64 m.a,.int .i64 m.b,.int .i64 m.c,.bool false,.slice o n lc] 69)=W:=⟨_,rfl⟩
 have bW:Below w.heap.size w W:=by rw [←hW];exact more (Below.refl _ _) _
 have hbox:W.heap[w.heap.size]?=some (.cells #[.int .i64 m.kind,.int .i64 m.frm,.int .i64 m.to,.int .i64 m.term,.int .i64 m.a,.int .i64 m.b,.int .i64 m.c,.bool false,.slice o n lc] 69 (0,0)):=by rw [←hW];exact heap_alloc_new w _
 have hfr:=(st.fresh (Nat.le_refl w.heap.size)).1
 have hGW:=h.below bW
 obtain ⟨us,lv,vv,nv,mv,hn⟩:=hGW.at hb
 obtain ⟨⟨c0,_,_,_,_,_,c6,_,c8,c9⟩,_⟩:=Nd.cs hn
 have m0:=cell_of (i:=0) hbox (v:=.int .i64 m.kind) rfl
 have m1:=cell_of (i:=1) hbox (v:=.int .i64 m.frm) rfl
 have m2:=cell_of (i:=2) hbox (v:=.int .i64 m.to) rfl
 have m3:=cell_of (i:=3) hbox (v:=.int .i64 m.term) rfl
 have m4:=cell_of (i:=4) hbox (v:=.int .i64 m.a) rfl
 have m5:=cell_of (i:=5) hbox (v:=.int .i64 m.b) rfl
 have m6:=cell_of (i:=6) hbox (v:=.int .i64 m.c) rfl
 have m7:=cell_of (i:=7) hbox (v:=.bool false) rfl
 have m8:=cell_of (i:=8) hbox (v:=.slice o n lc) rfl
 obtain ⟨q1,q2,q3⟩:=hF.lists hr
 obtain ⟨g,cap,rfl,hg1,hg2,hcells,hfz⟩:=own_at hn.mat (by omega)
 obtain ⟨g',cap',rfl,hg1',hg2',hcells',hfz'⟩:=own_at hn.next (by omega)
 unfold maxLen at hg2 hg2'
 have cg:=hcells m.frm (.int .i64 ((c.at k).mat.getD m.frm 0)) (by rw [List.getElem?_map,getD_get (by omega)];rfl)
 have cg':=hcells' m.frm (.int .i64 ((c.at k).next.getD m.frm 0)) (by rw [List.getElem?_map,getD_get (by omega)];rfl)
 have fg':=hfz' m.frm
 have hmb:(c.at k).mat.getD m.frm 0≤(c.at k).log.length:=hml _ (List.mem_iff_getElem?.2 ⟨m.frm,getD_get (by omega)⟩)
 have hnb:=(q3 m.frm hf).2
 have hlog:=hF.log
 have e1:((m.term:Int) != ((c.at k).term:Int))=false:=by simp;omega
 have e2:(((c.at k).role:Int) != 2)=false:=by simp;omega
 rw [show (Value.bool m.ok)=.bool false from by rw [hok]]
 have hfM:m.frm<(c.at k).mat.length:=by omega
 have hfN:m.frm<(c.at k).next.length:=by omega
 have hfMI:(m.frm:Int)<(c.at k).mat.length:=by omega
 have hfNI:(m.frm:Int)<(c.at k).next.length:=by omega
 have haI:(m.a:Int)≤1000:=by omega
 by_cases hlt:m.a+1<(c.at k).next.getD m.frm 0
 ·rw [if_pos hlt]
  have hltI:(m.a:Int)+1<(c.at k).next.getD m.frm 0:=by omega
  obtain ⟨c2,hc2⟩:∃ c2,c2=c.put k { c.at k with next:=(c.at k).next.set m.frm (max ((c.at k).mat.getD m.frm 0+1) (m.a+1)) }:=⟨_,rfl⟩
  have hc2k:c2.at k={ c.at k with next:=(c.at k).next.set m.frm (max ((c.at k).mat.getD m.frm 0+1) (m.a+1)) }:=by rw [hc2];exact at_put c k _ hkl
  rw [←hc2]
  generalize hA:(c.at k).mat.getD m.frm 0=A at *
  generalize hB:(c.at k).next.getD m.frm 0=B at *
  obtain ⟨V,hV⟩:∃ V,V=max (A+1) (m.a+1):=⟨_,rfl⟩
  have HSt:Hid (∀ q,Did M O w d nb c2 ((W.drewN q).setCell ⟨g',m.frm,none⟩ (.int .i64 (V:Nat)))):=fun q=>by
   rw [hV]
   have hGq:=hGW.below (drewN_below W q)
   have h2:=NDid.setNext hGq.sta (hn.keep (w':=W.drewN q) (fun _ _=>rfl) (Le.refl _) (fun _ h=>h)) m.frm (max (A+1) (m.a+1))
   have h6:=NDid.lift h2 hGq hb
   rw [←hc2] at h6
   exact Did.from st (bW.trans ((drewN_below W q).mono bW.size)) h6
  have HSr:Hid (∀ wx,Did M O w d nb c2 wx→Calls Tryz.prog 83 #[.pointer (some ⟨d,0,none⟩),.pointer (some ⟨b,0,none⟩),.int .i64 m.frm] wx fun r w'=>r=.returned (.tuple #[])∧Did M O w d nb (c2.records k m.frm) w'):=fun wx hx=>by
   obtain ⟨M1,O1,a1,g1⟩:=hx
   refine (sendr.sendRecords_any wx M1 O1 d nb c2 g1 k b hb m.frm (max (A+1) (m.a+1)) ?_ (by omega) ?_ ?_ (by omega)).mono ?_
   ·rw [hc2k]
    show ((c.at k).next.set m.frm (max (A+1) (m.a+1)))[m.frm]?=_
    rw [List.getElem?_set_self hfN]
   ·rw [hc2k]
    show max (A+1) (m.a+1)≤(c.at k).log.length+1
    omega
   ·rw [hc2k]
    show (c.at k).log.length≤1000
    omega
   ·rintro r w' ⟨rfl,hd⟩
    exact ⟨rfl,Did.trans a1 hd⟩
  have HeN:Hid ((if A<m.a then (m.a:Int)+1 else (A:Int)+1)=(V:Int)):=by unfold Hid;rw [hV];split <;> omega
  have hAI:(A:Int)≤1000:=by omega
  generalize (c.at k).mat.length=ML at *
  generalize (c.at k).next.length=NL at *
  generalize (c.at k).role=R at *
  generalize (c.at k).term=T at *
  clear hn hcells hfz hcells' hfz' hbox hGW bW h st hc2k hc2 ht hr hok hF q1 q2 q3 hA hB hml hfr hV
  go_enter Tryz.func80,Tryz.ntmps80
  go_wp2
  go_quiet (fail)
  go_wp2
  go_quiet (fail)
  go_wp2
  go_region
  rw [HeN.out]
  go_wp2_with (go_at_call 83;refine (HSr.out _ (HSt.out _)).mono ?_;rintro rr w5 ⟨rfl,hd5⟩;have HD5:=hide hd5;clear hd5)
  go_end0
  exact ⟨rfl,HD5.out⟩
 ·rw [if_neg hlt]
  have hltI:¬ (m.a:Int)+1<(c.at k).next.getD m.frm 0:=by omega
  have HF:Hid (∀ q,Did M O w d nb c (W.drewN q)):=fun q=>⟨M,O,((Aft.refl _ st).below bW).below (drewN_below W q),hGW.below (drewN_below W q)⟩
  generalize hB:(c.at k).next.getD m.frm 0=B at *
  generalize (c.at k).mat.length=ML at *
  generalize (c.at k).next.length=NL at *
  generalize (c.at k).role=R at *
  generalize (c.at k).term=T at *
  clear hn hcells hfz hcells' hfz' hbox hGW bW h st ht hr hok hF q1 q2 q3 hB hml hfr
  go_enter Tryz.func80,Tryz.ntmps80
  go_wp2
  go_quiet (fail)
  go_wp2
  go_quiet (fail)
  go_wp2
  go_end0
  exact ⟨rfl,(HF.out _).below (drewN_below _ _)⟩
end Go.Proofs.YtcfdmbkiinjmaaaGreat.answ
