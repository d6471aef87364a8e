import Derived.Test.YtcfdmbkiinjmaaaGreatZ15
import Derived.Test.YtcfdmbkiinjmaaaGreatZ16
import Derived.WalkMore
import Derived.Deep.Cut
import Derived.Deep.CutRange
import Derived.Deep.DeepCutAuto
import Derived.Deep.QuietTactic
import Derived.BigQuiet
import Derived.Deep.RegionLaw
import Derived.Deep.RegionHeldLaw
set_option linter.unusedVariables false
open Go.ChangeShapes Go.WideShapes Go.ChangeAt Go.RowKit
namespace Go.Proofs.YtcfdmbkiinjmaaaGreat.sdl2
open Raft mem srun ssend sdown ssmall scopy srecs sapp ssame schos schosen scom sgrow sin sel stk slog sap0 sdl0
variable {F:Nat→Option Obj}
open sdl3 sel2
theorem sd_below {w wr wx:World} {M:Fz} {base d P pc:Nat} {c:Cl} (h:SD F w M base d P pc c wr) (hl:base≤wr.heap.size) (hb:Below wr.heap.size wr wx):SD F w M base d P pc c wx:=by
 obtain ⟨M',us,ns,nv,cs,cv,h1,h2,h3,h4⟩:=h
 exact ⟨M',us,ns,nv,cs,cv,h1,h2.trans (hb.mono hl),h3.below hb,h4⟩
set_option maxRecDepth 20000 in
set_option maxHeartbeats 2000000 in
theorem deliver_2 (w:World) (M:Fz) (base d P pc:Nat) (c:Cl) (us:List PV) (ns:List MV) (nv:Value) (cs:List RV) (cv:Value) (h:Run (TS F) w M base d P pc c us ns nv cs cv) (m:Msg) (lo:Option Addr) (ln lc:Nat) (hlv:RecsM M (.slice lo ln lc) m.log) (x:PV) (hk:us[m.to]?=some x) (hup:x.p.up=true) (hkd:m.kind=2) (hU1:1≤us.length) (hU7:us.length≤7) (hcm:((deliv.seen c m.to m.term).at m.to).commit≤((deliv.seen c m.to m.term).at m.to).log.length) (hlen:((deliv.seen c m.to m.term).at m.to).log.length≤1000) (hcl:c.chosen.length≤1000) (hvl:((deliv.seen c m.to m.term).at m.to).role=1→((deliv.seen c m.to m.term).at m.to).votes.length≤1000) (hfr:((deliv.seen c m.to m.term).at m.to).role=1→m.frm<((deliv.seen c m.to m.term).at m.to).votes.length) :
  Calls Tryz.prog 36 #[.pointer (some ⟨d,0,none⟩),.agg #[.int .i64 m.kind,.int .i64 m.frm,.int .i64 m.to,.int .i64 m.term,.int .i64 m.a,.int .i64 m.b,.int .i64 m.c,.bool m.ok,.slice lo ln lc]] w fun r w'=>r=.returned (.tuple #[])∧SD F w M base d P pc (c.deliver m) w':=by
 have hlt:m.to<us.length:=(List.getElem?_eq_some_iff.1 hk).1
 have hat:=(sdown.Run.at h hk).1
 have hcap:=h.cap
 unfold maxLen at hcap
 obtain ⟨W,hW⟩:∃ W,w.alloc (.cells #[.int .i64 m.kind,.int .i64 m.frm,.int .i64 m.to,.int .i64 m.term,.int .i64 m.a,.int .i64 m.b,.int .i64 m.c,.bool m.ok,.slice lo ln lc] 69)=W:=⟨_,rfl⟩
 have h0:=St1.begin h hW
 have c0:W.cell? ⟨d,0,none⟩=some (.slice (some ⟨P,0,none⟩) us.length pc):=cell_of h0.run.blk rfl
 have m2:W.cell? ⟨w.heap.size,2,none⟩=some (.int .i64 m.to):=cell_of h0.b0 rfl
 have m3:W.cell? ⟨w.heap.size,3,none⟩=some (.int .i64 m.term):=cell_of h0.b0 rfl
 obtain ⟨p0,f0⟩:=h0.run.peerCell hk (j:=0) (v:=.bool x.p.up) rfl
 rw [hup,Nat.add_zero] at p0
 have p1:=(h0.run.peerCell hk (j:=1) (v:=.int .i64 x.p.term) rfl).1
 have H0:=hide h0
 have HNot:Hid (¬ x.p.term<m.term→∀ wx,St1 F w M base d P pc 69 #[.int .i64 m.kind,.int .i64 m.frm,.int .i64 m.to,.int .i64 m.term,.int .i64 m.a,.int .i64 m.b,.int .i64 m.c,.bool m.ok,.slice lo ln lc] c us ns nv cs cv M wx→∃ us1 x1,Hid (Seen F w M base d P pc #[.int .i64 m.kind,.int .i64 m.frm,.int .i64 m.to,.int .i64 m.term,.int .i64 m.a,.int .i64 m.b,.int .i64 m.c,.bool m.ok,.slice lo ln lc] c us ns nv cs cv m.to m.term us1 x1 wx)):=fun ht wx hx=>⟨us,x,seen_not hx hk ht⟩
 have HDn:Hid (x.p.term<m.term→∀ wx,St1 F w M base d P pc 69 #[.int .i64 m.kind,.int .i64 m.frm,.int .i64 m.to,.int .i64 m.term,.int .i64 m.a,.int .i64 m.b,.int .i64 m.c,.bool m.ok,.slice lo ln lc] c us ns nv cs cv M wx→Calls Tryz.prog 55 #[.pointer (some ⟨d,0,none⟩),.int .i64 m.to,.int .i64 m.term] wx fun r w'=>r=.returned (.tuple #[])∧∃ us1 x1,Hid (Seen F w M base d P pc #[.int .i64 m.kind,.int .i64 m.frm,.int .i64 m.to,.int .i64 m.term,.int .i64 m.a,.int .i64 m.b,.int .i64 m.c,.bool m.ok,.slice lo ln lc] c us ns nv cs cv m.to m.term us1 x1 w')):=fun ht wx hx=>(hx.down m.to m.term x hk).mono (by
  rintro r w' ⟨rfl,hh⟩
  exact ⟨rfl,_,_,seen_down hh hk hat ht⟩)
 have hkI:(m.to:Int)<us.length:=by omega
 have HNo:Hid (∀ us1 x1 wx,Seen F w M base d P pc #[.int .i64 m.kind,.int .i64 m.frm,.int .i64 m.to,.int .i64 m.term,.int .i64 m.a,.int .i64 m.b,.int .i64 m.c,.bool m.ok,.slice lo ln lc] c us ns nv cs cv m.to m.term us1 x1 wx→¬ (m.term=x1.p.term∧x1.p.role=1∧m.ok=true)→SD F w M base d P pc (c.deliver m) wx):=fun us1 x1 wx hx hno=>by
  obtain ⟨hs,hk1,hl1,ha1⟩:=hx
  rw [deliv.deliver_2 c m (by rw [hat];exact hup) hkd,ha1,if_neg hno]
  exact hs.sd
 have HYes:Hid (∀ us1 x1 wx,Seen F w M base d P pc #[.int .i64 m.kind,.int .i64 m.frm,.int .i64 m.to,.int .i64 m.term,.int .i64 m.a,.int .i64 m.b,.int .i64 m.c,.bool m.ok,.slice lo ln lc] c us ns nv cs cv m.to m.term us1 x1 wx→(m.term=x1.p.term∧x1.p.role=1∧m.ok=true)→∃ g VL cap,x1.vv=.slice (some ⟨g,0,none⟩) VL cap∧cap≤maxLen∧m.frm<VL∧VL≤cap∧¬ g=P∧¬ g=w.heap.size∧∀ wy,Below wx.heap.size wx wy→(∃ u,wy.cell? ⟨g,m.frm,none⟩=some (.bool u))∧wy.frozen? ⟨g,m.frm,none⟩=false ∧
   ∀ W5,(wy.setCell ⟨g,m.frm,none⟩ (.bool true)).drew=W5→W5.cell? ⟨w.heap.size,2,none⟩=some (.int .i64 m.to)∧Calls Tryz.prog 57 #[.pointer (some ⟨d,0,none⟩),.int .i64 m.to] W5 fun r w'=>r=.returned (.tuple #[])∧SD F w M base d P pc (c.deliver m) w'):=fun us1 x1 wx hx hyes=>by
  obtain ⟨hs,hk1,hl1,ha1⟩:=hx
  rw [ha1] at hcm hlen hvl hfr
  have hxm:x1∈us1:=List.mem_iff_getElem?.2 ⟨m.to,hk1⟩
  have hf:=hfr hyes.2.1
  obtain ⟨e0,⟨e1,e2⟩|⟨g,cap,cur,e1,e2,e3,e4,e5,e6,e7⟩⟩:=hs.run.votes x1 hxm
  ·omega
  ·have hrow:IsRow us1 g:=⟨m.to,x1,0,x1.vv,hk1,rfl,by rw [e1];rfl⟩
   refine ⟨g,_,cap,e1,e5,hf,e4,fun e=>hs.run.apart.2.2.1 (e ▸ hrow),hs.no g (.inr (.inr (.inl hrow))),fun wy hy => ?_⟩
   have hg:=kept hy e3 (Nat.le_refl _)
   obtain ⟨u,hu⟩:∃ u,x1.p.votes[m.frm]?=some u:=⟨_,List.getElem?_eq_getElem hf⟩
   refine ⟨⟨u,cell_of hg ?_⟩,frozen_of hg _,fun W5 e => ?_⟩
   ·have e8:(x1.p.votes.map Value.bool)[m.frm]?=some (.bool u):=by rw [List.getElem?_map,hu];rfl
    rw [←e7,List.getElem?_take_of_lt (by omega)] at e8
    simpa using e8
   ·have h5:=((hs.below hy).votes hk1 e1 m.frm true).below (Below.refl _ _).drew
    rw [e] at h5
    refine ⟨cell_of h5.b0 rfl,?_⟩
    have hul:(us1.set m.to { x1 with p:={ x1.p with votes:=x1.p.votes.set m.frm true } }).length=us.length:=by rw [List.length_set,hl1]
    have hch:(deliv.seen c m.to m.term).chosen=c.chosen:=by unfold deliv.seen;split <;> rfl
    refine (elected_any W5 M base d P pc _ _ ns nv cs cv h5.run m.to _ (got_set hk1) (by omega) (by omega) hcm hlen (by show (deliv.seen c m.to m.term).chosen.length≤1000;rw [hch];exact hcl) (by show (x1.p.votes.set m.frm true).length≤1000;rw [List.length_set];exact hvl hyes.2.1)).mono ?_
    rintro r w' ⟨rfl,hsd⟩
    refine ⟨rfl,?_⟩
    rw [deliv.deliver_2 c m (by rw [hat];exact hup) hkd,ha1,if_pos hyes]
    exact h5.step hsd
 have k1b:((m.kind:Int) == 1)=false:=by rw [hkd];decide
 have k2b:((m.kind:Int) == 2)=true:=by rw [hkd];decide
 obtain ⟨U,eU⟩:∃ U,us.length=U:=⟨_,rfl⟩
 rw [eU] at c0 hlt hcap hkI
 clear h hat hk f0 h0 eU hkd
 go_enter Tryz.func36,Tryz.ntmps36
 go_wp2
 (try rw [hW])
 clear hW
 go_quiet (fail)
 obtain ⟨W1,hW1,bW1,sW1⟩:=fold_dn W nq
 (try rw [hW1])
 have H1:=hide (H0.out.below bW1)
 have p0:=(kept_cell bW1 p0)
 have p1:=(kept_cell bW1 p1)
 have m3:=(kept_cell bW1 m3)
 have m2:=(kept_cell bW1 m2)
 clear hW1 bW1 H0 c0
 go_wp2
 go_quiet (fail)
 obtain ⟨W2,hW2,bW2,sW2⟩:=fold_dn W1 nq
 (try rw [hW2])
 have H2:=hide (H1.out.below bW2)
 have m3:=(kept_cell bW2 m3)
 have m2:=(kept_cell bW2 m2)
 clear hW2 bW2 H1 p0 p1
 go_upto_if 27 with fail
 go_cut [] from 27 to 33 (fun wx=>∃ us1 x1,Hid (Seen F w M base d P pc #[.int .i64 m.kind,.int .i64 m.frm,.int .i64 m.to,.int .i64 m.term,.int .i64 m.a,.int .i64 m.b,.int .i64 m.c,.bool m.ok,.slice lo ln lc] c us ns nv cs cv m.to m.term us1 x1 wx))
 case first =>
  by_cases ht:x.p.term<m.term
  ·have htI:(x.p.term:Int)<m.term:=by omega
   have HD:=hide (HDn.out ht _ H2.out)
   clear HDn HNot
   go_wp2_with (go_at_call 55;refine HD.out.mono ?_;rintro rr w3 ⟨rfl,us1,x1,H3⟩)
   go_meet
   exact ⟨us1,x1,H3⟩
  ·have htI:¬ (x.p.term:Int)<m.term:=by omega
   have HD:=HNot.out ht _ H2.out
   clear HDn HNot
   go_wp2_with fail
   go_meet
   exact HD
 case rest =>
  obtain ⟨us1,x1,HSn⟩:=hcut
  clear HDn HNot H2 m2 m3
  have H3:=hide HSn.out.1
  have hk1:=HSn.out.2.1
  have m0:wc.cell? ⟨w.heap.size,0,none⟩=some (.int .i64 m.kind):=cell_of H3.out.b0 rfl
  have m1:wc.cell? ⟨w.heap.size,1,none⟩=some (.int .i64 m.frm):=cell_of H3.out.b0 rfl
  have m2:wc.cell? ⟨w.heap.size,2,none⟩=some (.int .i64 m.to):=cell_of H3.out.b0 rfl
  have m3:wc.cell? ⟨w.heap.size,3,none⟩=some (.int .i64 m.term):=cell_of H3.out.b0 rfl
  have m4:wc.cell? ⟨w.heap.size,4,none⟩=some (.int .i64 m.a):=cell_of H3.out.b0 rfl
  have m5:wc.cell? ⟨w.heap.size,5,none⟩=some (.int .i64 m.b):=cell_of H3.out.b0 rfl
  have m6:wc.cell? ⟨w.heap.size,6,none⟩=some (.int .i64 m.c):=cell_of H3.out.b0 rfl
  have m7:wc.cell? ⟨w.heap.size,7,none⟩=some (.bool m.ok):=cell_of H3.out.b0 rfl
  have m8:wc.cell? ⟨w.heap.size,8,none⟩=some (.slice lo ln lc):=cell_of H3.out.b0 rfl
  have p1:=(H3.out.run.peerCell hk1 (j:=1) (v:=.int .i64 x1.p.term) rfl).1
  have p4:=(H3.out.run.peerCell hk1 (j:=4) (v:=.int .i64 x1.p.role) rfl).1
  have p6:=(H3.out.run.peerCell hk1 (j:=6) (v:=x1.vv) rfl).1
  clear hk1 m4 m5 m6 m8
  by_cases hA:m.term=x1.p.term
  ·have hAb:((m.term:Int) == x1.p.term)=true:=by rw [hA];simp
   by_cases hB:x1.p.role=1
   ·have hBb:((x1.p.role:Int) == 1)=true:=by rw [hB];simp
    cases hC:m.ok with
    | false =>
     have hno:¬ (m.term=x1.p.term∧x1.p.role=1∧m.ok=true):=fun q=>by rw [hC] at q;exact Bool.noConfusion q.2.2
     rw [hC] at m7
     clear hA hB hC
     have HN:=hide (HNo.out us1 x1 wc HSn.out hno)
     clear HNo HYes HSn
     go_wp2
     go_quiet (fail)
     obtain ⟨W4,hW4,bW4,sW4⟩:=fold_dn wc nq
     (try rw [hW4])
     have HN4:=hide (sd_below HN.out H3.out.low bW4)
     clear hW4 bW4 HN H3
     go_wp2
     go_end0
     exact ⟨rfl,HN4.out⟩
    | true =>
     obtain ⟨g,VL,cap,evv,hcapm,hfl,hVc,hgP,hgB,hfin⟩:=HYes.out us1 x1 wc HSn.out ⟨hA,hB,hC⟩
     rw [evv] at p6
     rw [hC] at m7
     unfold maxLen at hcapm
     have HFin:=hide hfin
     have hfI:(m.frm:Int)<VL:=by omega
     have hPg:¬ P=g:=fun e=>hgP e.symm
     have hBg:¬ w.heap.size=g:=fun e=>hgB e.symm
     clear HNo HYes HSn hA hB hC hfin evv
     go_wp2
     go_quiet (fail)
     obtain ⟨W4,hW4,bW4,sW4⟩:=fold_dn wc nq
     (try rw [hW4])
     have p6:=kept_cell bW4 p6
     have m1:=kept_cell bW4 m1
     obtain ⟨⟨u,q1⟩,q2,q3⟩:=HFin.out W4 bW4
     have HQ:=hide q3
     clear hW4 bW4 H3 HFin q3 m0 m2 m3 m7 p1 p4
     go_wp2
     go_region_held_law (fun wx=>wx.cell? ⟨P,m.to*9+6,none⟩=some (.slice (some ⟨g,0,none⟩) VL cap)∧wx.cell? ⟨w.heap.size,1,none⟩=some (.int .i64 m.frm)) (go_keep) (fail)
     generalize hW5:World.drew (World.setCell W4 _ _)=W5
     obtain ⟨r2,hr⟩:=HQ.out W5 hW5
     have HR:=hide hr
     clear hW5 hr HQ
     go_wp2_with (go_at_call 57;refine HR.out.mono ?_;rintro rr w8 ⟨rfl,hsd⟩)
     go_end0
     exact ⟨rfl,hsd⟩
   ·have hBb:((x1.p.role:Int) == 1)=false:=by simp;omega
    have hno:¬ (m.term=x1.p.term∧x1.p.role=1∧m.ok=true):=fun q=>hB q.2.1
    clear hA hB
    have HN:=hide (HNo.out us1 x1 wc HSn.out hno)
    clear HNo HYes HSn
    go_wp2
    go_quiet (fail)
    obtain ⟨W4,hW4,bW4,sW4⟩:=fold_dn wc nq
    (try rw [hW4])
    have HN4:=hide (sd_below HN.out H3.out.low bW4)
    clear hW4 bW4 HN H3
    go_wp2
    go_end0
    exact ⟨rfl,HN4.out⟩
  ·have hAb:((m.term:Int) == x1.p.term)=false:=by simp;omega
   have hno:¬ (m.term=x1.p.term∧x1.p.role=1∧m.ok=true):=fun q=>hA q.1
   clear hA
   have HN:=hide (HNo.out us1 x1 wc HSn.out hno)
   clear HNo HYes HSn
   go_wp2
   go_quiet (fail)
   obtain ⟨W4,hW4,bW4,sW4⟩:=fold_dn wc nq
   (try rw [hW4])
   have HN4:=hide (sd_below HN.out H3.out.low bW4)
   clear hW4 bW4 HN H3
   go_wp2
   go_end0
   exact ⟨rfl,HN4.out⟩
end Go.Proofs.YtcfdmbkiinjmaaaGreat.sdl2
