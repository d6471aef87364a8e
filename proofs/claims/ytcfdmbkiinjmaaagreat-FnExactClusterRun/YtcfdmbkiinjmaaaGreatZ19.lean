import Derived.Test.YtcfdmbkiinjmaaaGreatZ15
import Derived.Test.YtcfdmbkiinjmaaaGreatZ18
import Derived.BigRegion
import Derived.WalkMore
import Derived.Deep.Cut
import Derived.Deep.CutRange
import Derived.Deep.DeepCutAuto
import Derived.Deep.QuietTactic
import Derived.BigQuiet
import Derived.Deep.RegionLaw
import Derived.Deep.RegionHeldLaw
set_option linter.unusedVariables false
open Go.ChangeShapes Go.WideShapes Go.ChangeAt Go.RowKit
namespace Go.Proofs.YtcfdmbkiinjmaaaGreat.sdl4
open Raft mem srun ssend sdown ssmall scopy srecs sapp ssame schos schosen scom sgrow sin sel stk slog sap0 sdl0
variable {F:Nat→Option Obj}
open sdl3 sdl2
set_option maxRecDepth 20000 in
set_option maxHeartbeats 2000000 in
theorem deliver_4 (w:World) (M:Fz) (base d P pc:Nat) (c:Cl) (us:List PV) (ns:List MV) (nv:Value) (cs:List RV) (cv:Value) (h:Run (TS F) w M base d P pc c us ns nv cs cv) (m:Msg) (lo:Option Addr) (ln lc:Nat) (hlv:RecsM M (.slice lo ln lc) m.log) (x:PV) (hk:us[m.to]?=some x) (hup:x.p.up=true) (hkd:m.kind=4) (hU1:1≤us.length) (hU7:us.length≤7) (hcm:((deliv.seen c m.to m.term).at m.to).commit≤((deliv.seen c m.to m.term).at m.to).log.length) (hlen:((deliv.seen c m.to m.term).at m.to).log.length≤1000) (hcl:c.chosen.length≤1000) (hma:m.a≤1000)
  (hro:((deliv.seen c m.to m.term).at m.to).role=2→m.frm<((deliv.seen c m.to m.term).at m.to).next.length∧m.frm<((deliv.seen c m.to m.term).at m.to).mat.length∧((deliv.seen c m.to m.term).at m.to).next.length≤1000∧((deliv.seen c m.to m.term).at m.to).mat.length≤1000∧((deliv.seen c m.to m.term).at m.to).mat.getD m.frm 0≤((deliv.seen c m.to m.term).at m.to).log.length∧((deliv.seen c m.to m.term).at m.to).next.getD m.frm 0≤((deliv.seen c m.to m.term).at m.to).log.length+1) :
  Calls Tryz.prog 36 #[.pointer (some ⟨d,0,none⟩),.agg #[.int .i64 m.kind,.int .i64 m.frm,.int .i64 m.to,.int .i64 m.term,.int .i64 m.a,.int .i64 m.b,.int .i64 m.c,.bool m.ok,.slice lo ln lc]] w fun r w'=>r=.returned (.tuple #[])∧SD F w M base d P pc (c.deliver m) w':=by
 have hlt:m.to<us.length:=(List.getElem?_eq_some_iff.1 hk).1
 have hat:=(sdown.Run.at h hk).1
 have hcap:=h.cap
 unfold maxLen at hcap
 obtain ⟨W,hW⟩:∃ W,w.alloc (.cells #[.int .i64 m.kind,.int .i64 m.frm,.int .i64 m.to,.int .i64 m.term,.int .i64 m.a,.int .i64 m.b,.int .i64 m.c,.bool m.ok,.slice lo ln lc] 69)=W:=⟨_,rfl⟩
 have h0:=St1.begin h hW
 have c0:W.cell? ⟨d,0,none⟩=some (.slice (some ⟨P,0,none⟩) us.length pc):=cell_of h0.run.blk rfl
 have m2:W.cell? ⟨w.heap.size,2,none⟩=some (.int .i64 m.to):=cell_of h0.b0 rfl
 have m3:W.cell? ⟨w.heap.size,3,none⟩=some (.int .i64 m.term):=cell_of h0.b0 rfl
 obtain ⟨p0,f0⟩:=h0.run.peerCell hk (j:=0) (v:=.bool x.p.up) rfl
 rw [hup,Nat.add_zero] at p0
 have p1:=(h0.run.peerCell hk (j:=1) (v:=.int .i64 x.p.term) rfl).1
 have H0:=hide h0
 have HNot:Hid (¬ x.p.term<m.term→∀ wx,St1 F w M base d P pc 69 #[.int .i64 m.kind,.int .i64 m.frm,.int .i64 m.to,.int .i64 m.term,.int .i64 m.a,.int .i64 m.b,.int .i64 m.c,.bool m.ok,.slice lo ln lc] c us ns nv cs cv M wx→∃ us1 x1,Hid (Seen F w M base d P pc #[.int .i64 m.kind,.int .i64 m.frm,.int .i64 m.to,.int .i64 m.term,.int .i64 m.a,.int .i64 m.b,.int .i64 m.c,.bool m.ok,.slice lo ln lc] c us ns nv cs cv m.to m.term us1 x1 wx)):=fun ht wx hx=>⟨us,x,seen_not hx hk ht⟩
 have HDn:Hid (x.p.term<m.term→∀ wx,St1 F w M base d P pc 69 #[.int .i64 m.kind,.int .i64 m.frm,.int .i64 m.to,.int .i64 m.term,.int .i64 m.a,.int .i64 m.b,.int .i64 m.c,.bool m.ok,.slice lo ln lc] c us ns nv cs cv M wx→Calls Tryz.prog 55 #[.pointer (some ⟨d,0,none⟩),.int .i64 m.to,.int .i64 m.term] wx fun r w'=>r=.returned (.tuple #[])∧∃ us1 x1,Hid (Seen F w M base d P pc #[.int .i64 m.kind,.int .i64 m.frm,.int .i64 m.to,.int .i64 m.term,.int .i64 m.a,.int .i64 m.b,.int .i64 m.c,.bool m.ok,.slice lo ln lc] c us ns nv cs cv m.to m.term us1 x1 w')):=fun ht wx hx=>(hx.down m.to m.term x hk).mono (by
  rintro r w' ⟨rfl,hh⟩
  exact ⟨rfl,_,_,seen_down hh hk hat ht⟩)
 have hkI:(m.to:Int)<us.length:=by omega
 have HNo:Hid (∀ us1 x1 wx,Seen F w M base d P pc #[.int .i64 m.kind,.int .i64 m.frm,.int .i64 m.to,.int .i64 m.term,.int .i64 m.a,.int .i64 m.b,.int .i64 m.c,.bool m.ok,.slice lo ln lc] c us ns nv cs cv m.to m.term us1 x1 wx→¬ (m.term=x1.p.term∧x1.p.role=2)→SD F w M base d P pc (c.deliver m) wx):=fun us1 x1 wx hx hno=>by
  obtain ⟨hs,hk1,hl1,ha1⟩:=hx
  rw [deliv.deliver_4 c m (by rw [hat];exact hup) hkd,ha1,if_pos (by
   by_cases e:m.term=x1.p.term
   ·exact .inr (fun q=>hno ⟨e,q⟩)
   ·exact .inl e)]
  exact hs.sd
 have HYes:Hid (∀ us1 x1 wx,Seen F w M base d P pc #[.int .i64 m.kind,.int .i64 m.frm,.int .i64 m.to,.int .i64 m.term,.int .i64 m.a,.int .i64 m.b,.int .i64 m.c,.bool m.ok,.slice lo ln lc] c us ns nv cs cv m.to m.term us1 x1 wx→(m.term=x1.p.term∧x1.p.role=2)→∃ g8 n8 c8 g7 n7 c7 A B,x1.mv=.slice (some ⟨g8,0,none⟩) n8 c8∧x1.nv=.slice (some ⟨g7,0,none⟩) n7 c7∧c8≤maxLen∧c7≤maxLen∧m.frm<n8∧m.frm<n7∧n8≤c8∧n7≤c7∧¬ g8=P∧¬ g7=P∧¬ g8=w.heap.size∧¬ g7=w.heap.size∧¬ g7=g8∧A≤1000∧B≤1001 ∧
   (∀ wy,Below wx.heap.size wx wy→(wy.cell? ⟨g8,m.frm,none⟩=some (.int .i64 (A:Nat))∧wy.frozen? ⟨g8,m.frm,none⟩=false)∧wy.cell? ⟨g7,m.frm,none⟩=some (.int .i64 (B:Nat))∧wy.frozen? ⟨g7,m.frm,none⟩=false) ∧
   (m.ok=true→∀ wy,Below wx.heap.size wx wy→∀ v1:Int,v1=((max A m.a:Nat):Int)→∀ W5,(wy.setCell ⟨g8,m.frm,none⟩ (.int .i64 v1)).drew=W5→W5.cell? ⟨P,m.to*9+7,none⟩=some (.slice (some ⟨g7,0,none⟩) n7 c7)∧W5.cell? ⟨w.heap.size,1,none⟩=some (.int .i64 m.frm)∧W5.cell? ⟨w.heap.size,4,none⟩=some (.int .i64 m.a)∧W5.cell? ⟨g7,m.frm,none⟩=some (.int .i64 (B:Nat))∧W5.frozen? ⟨g7,m.frm,none⟩=false ∧
    ∀ v2:Int,v2=((max B (m.a+1):Nat):Int)→∀ W6,(W5.setCell ⟨g7,m.frm,none⟩ (.int .i64 v2)).drew=W6→W6.cell? ⟨w.heap.size,2,none⟩=some (.int .i64 m.to)∧Calls Tryz.prog 40 #[.pointer (some ⟨d,0,none⟩),.int .i64 m.to] W6 fun r w'=>r=.returned (.tuple #[])∧SD F w M base d P pc (c.deliver m) w') ∧
   (m.ok=false→m.a+1<B→∀ wy,Below wx.heap.size wx wy→∀ v:Int,v=((max (A+1) (m.a+1):Nat):Int)→∀ W5,(wy.setCell ⟨g7,m.frm,none⟩ (.int .i64 v)).drew=W5→W5.cell? ⟨w.heap.size,2,none⟩=some (.int .i64 m.to)∧W5.cell? ⟨w.heap.size,1,none⟩=some (.int .i64 m.frm)∧Calls Tryz.prog 59 #[.pointer (some ⟨d,0,none⟩),.int .i64 m.to,.int .i64 m.frm] W5 fun r w'=>r=.returned (.tuple #[])∧SD F w M base d P pc (c.deliver m) w') ∧
   (m.ok=false→¬ m.a+1<B→SD F w M base d P pc (c.deliver m) wx)):=fun us1 x1 wx hx hyes=>by
  obtain ⟨hs,hk1,hl1,ha1⟩:=hx
  rw [ha1] at hcm hlen hro
  have hxm:x1∈us1:=List.mem_iff_getElem?.2 ⟨m.to,hk1⟩
  obtain ⟨hf7,hf8,hb7,hb8,hA8,hB7⟩:=hro hyes.2
  have hdel:=deliv.deliver_4 c m (by rw [hat];exact hup) hkd
  rw [ha1,if_neg (fun q=>q.elim (fun q=>q hyes.1) (fun q=>q hyes.2))] at hdel
  obtain ⟨_,⟨e1,e2⟩|⟨g8,c8,cur8,e1,e2,e3,e4,e5,e6,e7⟩⟩:=hs.run.mat x1 hxm
  ·omega
  obtain ⟨_,⟨f1,f2⟩|⟨g7,c7,cur7,f1,f2,f3,f4,f5,f6,f7⟩⟩:=hs.run.next x1 hxm
  ·omega
  have hr8:IsRow us1 g8:=⟨m.to,x1,2,x1.mv,hk1,rfl,by rw [e1];rfl⟩
  have hr7:IsRow us1 g7:=⟨m.to,x1,1,x1.nv,hk1,rfl,by rw [f1];rfl⟩
  have h78:¬ g7=g8:=fun e=>by
   have:=(hs.run.lone m.to m.to x1 x1 1 2 x1.nv x1.mv g7 hk1 hk1 rfl rfl (by rw [f1];rfl) (by rw [e1,e];rfl)).2
   omega
  obtain ⟨A,hA⟩:∃ A,x1.p.mat[m.frm]?=some A:=⟨_,List.getElem?_eq_getElem hf8⟩
  obtain ⟨B,hB⟩:∃ B,x1.p.next[m.frm]?=some B:=⟨_,List.getElem?_eq_getElem hf7⟩
  have gA:x1.p.mat.getD m.frm 0=A:=by rw [List.getD_eq_getElem?_getD,hA];rfl
  have gB:x1.p.next.getD m.frm 0=B:=by rw [List.getD_eq_getElem?_getD,hB];rfl
  rw [gA] at hA8
  rw [gB] at hB7
  rw [gA,gB] at hdel
  have hch:(deliv.seen c m.to m.term).chosen=c.chosen:=by unfold deliv.seen;split <;> rfl
  have hP8:¬ g8=P:=fun e=>hs.run.apart.2.2.1 (e ▸ hr8)
  have hP7:¬ g7=P:=fun e=>hs.run.apart.2.2.1 (e ▸ hr7)
  have cells:∀ wy,Below wx.heap.size wx wy→(wy.cell? ⟨g8,m.frm,none⟩=some (.int .i64 (A:Nat))∧wy.frozen? ⟨g8,m.frm,none⟩=false)∧wy.cell? ⟨g7,m.frm,none⟩=some (.int .i64 (B:Nat))∧wy.frozen? ⟨g7,m.frm,none⟩=false:=fun wy hy=>by
   have q8:=kept hy e3 (Nat.le_refl _)
   have q7:=kept hy f3 (Nat.le_refl _)
   refine ⟨⟨cell_of q8 ?_,frozen_of q8 _⟩,cell_of q7 ?_,frozen_of q7 _⟩
   ·have e8:(x1.p.mat.map fun (n:Nat)=>Value.int .i64 (n:Int))[m.frm]?=some (.int .i64 (A:Nat)):=by rw [List.getElem?_map,hA];rfl
    rw [←e7,List.getElem?_take_of_lt (by omega)] at e8
    simpa using e8
   ·have e8:(x1.p.next.map fun (n:Nat)=>Value.int .i64 (n:Int))[m.frm]?=some (.int .i64 (B:Nat)):=by rw [List.getElem?_map,hB];rfl
    rw [←f7,List.getElem?_take_of_lt (by omega)] at e8
    simpa using e8
  refine ⟨g8,_,c8,g7,_,c7,A,B,e1,f1,e5,f5,hf8,hf7,e4,f4,hP8,hP7,hs.no g8 (.inr (.inr (.inl hr8))),hs.no g7 (.inr (.inr (.inl hr7))),h78,by omega,by omega,cells,?_,?_,?_⟩
  ·intro hok wy hy v1 hv1 W5 e
   have h5:=((hs.below hy).mat hk1 e1 m.frm (max A m.a)).below (Below.refl _ _).drew
   rw [←hv1,e] at h5
   have hk5:=got_set (x':={ x1 with p:={ x1.p with mat:=x1.p.mat.set m.frm (max A m.a) } }) hk1
   have q7:=(h5.run.peerCell hk5 (j:=7) (v:=x1.nv) rfl).1
   rw [f1] at q7
   have c5:W5.cell? ⟨g7,m.frm,none⟩=some (.int .i64 (B:Nat))∧W5.frozen? ⟨g7,m.frm,none⟩=false:=by
    have q:=kept hy f3 (Nat.le_refl _)
    have q2:W5.heap[g7]?=some (.cells cur7 3 (0,0)):=by
     rw [←e]
     show (wy.setCell _ _).heap[g7]?=_
     rw [Below.heap_setCell wy ⟨g8,m.frm,none⟩ _ g7 h78]
     exact q
    have e8:(x1.p.next.map fun (n:Nat)=>Value.int .i64 (n:Int))[m.frm]?=some (.int .i64 (B:Nat)):=by rw [List.getElem?_map,hB];rfl
    rw [←f7,List.getElem?_take_of_lt (by omega)] at e8
    exact ⟨cell_of q2 (by simpa using e8),frozen_of q2 _⟩
   refine ⟨q7,cell_of h5.b0 rfl,cell_of h5.b0 rfl,c5.1,c5.2,fun v2 hv2 W6 e' => ?_⟩
   have h6:=(h5.next hk5 f1 m.frm (max B (m.a+1))).below (Below.refl _ _).drew
   rw [←hv2,e'] at h6
   refine ⟨cell_of h6.b0 rfl,?_⟩
   refine (commit_any W6 M base d P pc _ _ ns nv cs cv h6.run m.to _ (got_set hk5) (by simp [hl1];omega) (by simp [hl1];omega) hcm hlen (by show (deliv.seen c m.to m.term).chosen.length≤1000;rw [hch];exact hcl) (by show (x1.p.mat.set m.frm _).length≤1000;rw [List.length_set];exact hb8)).mono ?_
   rintro r w' ⟨rfl,hsd⟩
   refine ⟨rfl,?_⟩
   rw [hdel,if_pos hok]
   have h7:=h6.step hsd
   rw [List.set_set] at h7
   exact h7
  ·intro hok hlt2 wy hy v hv W5 e
   have h5:=((hs.below hy).next hk1 f1 m.frm (max (A+1) (m.a+1))).below (Below.refl _ _).drew
   rw [←hv,e] at h5
   have hk5:=got_set (x':={ x1 with p:={ x1.p with next:=x1.p.next.set m.frm (max (A+1) (m.a+1)) } }) hk1
   refine ⟨cell_of h5.b0 rfl,cell_of h5.b0 rfl,?_⟩
   refine (append_any W5 M base d P pc _ _ ns nv cs cv h5.run m.to m.frm _ hk5 (max (A+1) (m.a+1)) (by show (x1.p.next.set m.frm _)[m.frm]?=_;rw [List.getElem?_set_self hf7]) (by omega) (by show _≤x1.p.log.length+1;omega) hlen).mono ?_
   rintro r w' ⟨rfl,hsn⟩
   refine ⟨rfl,?_⟩
   rw [hdel,if_neg (by rw [hok];decide),if_pos hlt2]
   exact SD.sent h5.le h5.bel h5.run h5.dom hsn
  ·intro hok hlt2
   rw [hdel,if_neg (by rw [hok];decide),if_neg hlt2]
   exact hs.sd
 have k1b:((m.kind:Int) == 1)=false:=by rw [hkd];decide
 have k2b:((m.kind:Int) == 2)=false:=by rw [hkd];decide
 have k3b:((m.kind:Int) == 3)=false:=by rw [hkd];decide
 have k4b:((m.kind:Int) == 4)=true:=by rw [hkd];decide
 have aa:IntKind.i64.wrap ((m.a:Int)+1)=(m.a:Int)+1:=by rw [IntKind.wrap_i64];omega
 obtain ⟨U,eU⟩:∃ U,us.length=U:=⟨_,rfl⟩
 rw [eU] at c0 hlt hcap hkI
 clear h hat hk f0 h0 eU hkd
 go_enter Tryz.func36,Tryz.ntmps36
 go_wp2
 (try rw [hW])
 clear hW
 go_quiet (fail)
 obtain ⟨W1,hW1,bW1,sW1⟩:=fold_dn W nq
 (try rw [hW1])
 have H1:=hide (H0.out.below bW1)
 have p0:=(kept_cell bW1 p0)
 have p1:=(kept_cell bW1 p1)
 have m3:=(kept_cell bW1 m3)
 have m2:=(kept_cell bW1 m2)
 clear hW1 bW1 H0 c0
 go_wp2
 go_quiet (fail)
 obtain ⟨W2,hW2,bW2,sW2⟩:=fold_dn W1 nq
 (try rw [hW2])
 have H2:=hide (H1.out.below bW2)
 have m3:=(kept_cell bW2 m3)
 have m2:=(kept_cell bW2 m2)
 clear hW2 bW2 H1 p0 p1
 go_upto_if 27 with fail
 go_cut [] from 27 to 33 (fun wx=>∃ us1 x1,Hid (Seen F w M base d P pc #[.int .i64 m.kind,.int .i64 m.frm,.int .i64 m.to,.int .i64 m.term,.int .i64 m.a,.int .i64 m.b,.int .i64 m.c,.bool m.ok,.slice lo ln lc] c us ns nv cs cv m.to m.term us1 x1 wx))
 case first =>
  by_cases ht:x.p.term<m.term
  ·have htI:(x.p.term:Int)<m.term:=by omega
   have HD:=hide (HDn.out ht _ H2.out)
   clear HDn HNot
   go_wp2_with (go_at_call 55;refine HD.out.mono ?_;rintro rr w3 ⟨rfl,us1,x1,H3⟩)
   go_meet
   exact ⟨us1,x1,H3⟩
  ·have htI:¬ (x.p.term:Int)<m.term:=by omega
   have HD:=HNot.out ht _ H2.out
   clear HDn HNot
   go_wp2_with fail
   go_meet
   exact HD
 case rest =>
  obtain ⟨us1,x1,HSn⟩:=hcut
  clear HDn HNot H2 m2 m3
  have H3:=hide HSn.out.1
  have hk1:=HSn.out.2.1
  have m0:wc.cell? ⟨w.heap.size,0,none⟩=some (.int .i64 m.kind):=cell_of H3.out.b0 rfl
  have m1:wc.cell? ⟨w.heap.size,1,none⟩=some (.int .i64 m.frm):=cell_of H3.out.b0 rfl
  have m2:wc.cell? ⟨w.heap.size,2,none⟩=some (.int .i64 m.to):=cell_of H3.out.b0 rfl
  have m3:wc.cell? ⟨w.heap.size,3,none⟩=some (.int .i64 m.term):=cell_of H3.out.b0 rfl
  have m4:wc.cell? ⟨w.heap.size,4,none⟩=some (.int .i64 m.a):=cell_of H3.out.b0 rfl
  have m5:wc.cell? ⟨w.heap.size,5,none⟩=some (.int .i64 m.b):=cell_of H3.out.b0 rfl
  have m6:wc.cell? ⟨w.heap.size,6,none⟩=some (.int .i64 m.c):=cell_of H3.out.b0 rfl
  have m7:wc.cell? ⟨w.heap.size,7,none⟩=some (.bool m.ok):=cell_of H3.out.b0 rfl
  have m8:wc.cell? ⟨w.heap.size,8,none⟩=some (.slice lo ln lc):=cell_of H3.out.b0 rfl
  have p1:=(H3.out.run.peerCell hk1 (j:=1) (v:=.int .i64 x1.p.term) rfl).1
  have p4:=(H3.out.run.peerCell hk1 (j:=4) (v:=.int .i64 x1.p.role) rfl).1
  have p7:=(H3.out.run.peerCell hk1 (j:=7) (v:=x1.nv) rfl).1
  have p8:=(H3.out.run.peerCell hk1 (j:=8) (v:=x1.mv) rfl).1
  clear hk1 m5 m6 m8
  by_cases hA:m.term=x1.p.term
  ·have hAb:((m.term:Int) != x1.p.term)=false:=by rw [hA];simp
   by_cases hB:x1.p.role=2
   ·have hBb:((x1.p.role:Int) != 2)=false:=by rw [hB];simp
    obtain ⟨g8,n8,c8,g7,n7,c7,A,B,em,en,hc8,hc7,hf8,hf7,hn8,hn7,hP8,hP7,hB8,hB7,h78,hA1,hB1,hcl,hok1,hno1,hno2⟩:=HYes.out us1 x1 wc HSn.out ⟨hA,hB⟩
    rw [em] at p8
    rw [en] at p7
    unfold maxLen at hc8 hc7
    have HCl:=hide hcl
    have HOk:=hide hok1
    have HNo1:=hide hno1
    have HNo2:=hide hno2
    have hf8I:(m.frm:Int)<n8:=by omega
    have hf7I:(m.frm:Int)<n7:=by omega
    have i1:¬ P=g8:=fun e=>hP8 e.symm
    have i2:¬ P=g7:=fun e=>hP7 e.symm
    have i3:¬ w.heap.size=g8:=fun e=>hB8 e.symm
    have i4:¬ w.heap.size=g7:=fun e=>hB7 e.symm
    have i5:¬ g8=g7:=fun e=>h78 e.symm
    have aA:IntKind.i64.wrap ((A:Int)+1)=(A:Int)+1:=by rw [IntKind.wrap_i64];omega
    clear HNo HYes HSn hA hB hcl hok1 hno1 hno2 em en
    go_wp2
    go_quiet (fail)
    obtain ⟨W4,hW4,bW4,sW4⟩:=fold_dn wc nq
    (try rw [hW4])
    have p7:=kept_cell bW4 p7
    have p8:=kept_cell bW4 p8
    have m1:=kept_cell bW4 m1
    have m2:=kept_cell bW4 m2
    have m4:=kept_cell bW4 m4
    have m7:=kept_cell bW4 m7
    obtain ⟨⟨q1,q2⟩,q3,q4⟩:=HCl.out W4 bW4
    have HB4:=hide bW4
    have HL4:=hide H3.out.low
    clear hW4 bW4 H3 m0 m3 p1 p4 HCl
    cases hC:m.ok with
    | true =>
     rw [hC] at m7
     have HQ:=hide (HOk.out hC W4 HB4.out)
     clear HOk HNo1 HNo2 hC q3 q4 p7
     go_wp2
     go_cut [] from 160 to 177 (fun wx=>∃ v1:Int,v1=((max A m.a:Nat):Int)∧(W4.setCell ⟨g8,m.frm,none⟩ (.int .i64 v1)).drew=wx)
     case first =>
      have HG:Hid (∀ v:Int,v=(if A<m.a then (m.a:Int) else A)→∀ W5,(W4.setCell ⟨g8,m.frm,none⟩ (.int .i64 v)).drew=W5→∃ v1:Int,v1=((max A m.a:Nat):Int)∧(W4.setCell ⟨g8,m.frm,none⟩ (.int .i64 v1)).drew=W5):=fun v hv W5 e=>⟨v,by rw [hv];split <;> omega,e⟩
      clear HQ m2 m7
      go_region
      generalize hW5:World.drew (World.setCell W4 _ _)=W5
      have HE:=hide (HG.out _ rfl W5 hW5)
      clear hW5 HG
      go_wp2_with fail
      all_goals
       go_meet
       exact HE.out
     case rest =>
      obtain ⟨v1,hv1,hwc⟩:=hcut
      obtain ⟨r7,r1,r4,s7,sf7,hq⟩:=HQ.out v1 hv1 _ hwc
      have HR:=hide hq
      clear HQ hq hwc hv1 m1 m2 m4 m7 p8 q1 q2 HB4 HL4
      obtain ⟨wc4,hwc4⟩:∃ W,W=wc:=⟨_,rfl⟩
      subst hwc4
      go_wp2
      go_cut [] from 178 to 196 (fun wx=>∃ v2:Int,v2=((max B (m.a+1):Nat):Int)∧(wc4.setCell ⟨g7,m.frm,none⟩ (.int .i64 v2)).drew=wx)
      case first =>
       have HG:Hid (∀ v:Int,v=(if (B:Int)<(m.a:Int)+1 then (m.a:Int)+1 else B)→∀ W5,(wc4.setCell ⟨g7,m.frm,none⟩ (.int .i64 v)).drew=W5→∃ v1:Int,v1=((max B (m.a+1):Nat):Int)∧(wc4.setCell ⟨g7,m.frm,none⟩ (.int .i64 v1)).drew=W5):=fun v hv W5 e=>⟨v,by rw [hv];split <;> omega,e⟩
       clear HR
       go_region
       generalize hW5:World.drew (World.setCell wc4 _ _)=W5
       have HE:=hide (HG.out _ rfl W5 hW5)
       clear hW5 HG
       go_wp2_with fail
       all_goals
        go_meet
        exact HE.out
      case rest =>
       obtain ⟨v2,hv2,hwc⟩:=hcut
       obtain ⟨t2,hc⟩:=HR.out v2 hv2 _ hwc
       have HZ:=hide hc
       clear HR hc hwc hv2 r7 r1 r4 s7 sf7
       go_wp2_with (go_at_call 40;refine HZ.out.mono ?_;rintro rr w8 ⟨rfl,hsd⟩)
       go_end0
       exact ⟨rfl,hsd⟩
    | false =>
     rw [hC] at m7
     clear HOk q2
     by_cases hlt2:m.a+1<B
     ·have hltI:(m.a:Int)+1<B:=by omega
      have HQ:=hide (HNo1.out hC hlt2)
      clear HNo1 HNo2 hC hlt2
      go_wp2
      go_quiet (fail)
      obtain ⟨W5,hW5,bW5,sW5⟩:=fold_dn W4 nq
      (try rw [hW5])
      have p7:=kept_cell bW5 p7
      have p8:=kept_cell bW5 p8
      have m1:=kept_cell bW5 m1
      have m4:=kept_cell bW5 m4
      have q1:=kept_cell bW5 q1
      have q3:=kept_cell bW5 q3
      have q4:W5.frozen? ⟨g7,m.frm,none⟩=false:=by rw [←hW5];exact q4
      have HW5:=hide (HQ.out W5 (HB4.out.trans (bW5.mono HB4.out.size)))
      clear hW5 bW5 HQ HB4 HL4 m2 m7
      go_wp2
      go_cut [] from 213 to 232 (fun wx=>∃ v2:Int,v2=((max (A+1) (m.a+1):Nat):Int)∧(W5.setCell ⟨g7,m.frm,none⟩ (.int .i64 v2)).drew=wx)
      case first =>
       have HG:Hid (∀ v:Int,v=(if (A:Int)+1<(m.a:Int)+1 then (m.a:Int)+1 else (A:Int)+1)→∀ W6,(W5.setCell ⟨g7,m.frm,none⟩ (.int .i64 v)).drew=W6→∃ v1:Int,v1=((max (A+1) (m.a+1):Nat):Int)∧(W5.setCell ⟨g7,m.frm,none⟩ (.int .i64 v1)).drew=W6):=fun v hv W6 e=>⟨v,by rw [hv];split <;> omega,e⟩
       clear HW5
       go_region
       generalize hW6:World.drew (World.setCell W5 _ _)=W6
       have HE:=hide (HG.out _ (by first | rfl | (simp;done)) W6 hW6)
       clear hW6 HG
       go_wp2_with fail
       all_goals
        go_meet
        exact HE.out
      case rest =>
       obtain ⟨v2,hv2,hwc⟩:=hcut
       obtain ⟨t2,t1,hc⟩:=HW5.out v2 hv2 _ hwc
       have HZ:=hide hc
       clear HW5 hc hwc hv2 p7 p8 m1 m4 q1 q3 q4
       go_wp2_with (go_at_call 59;refine HZ.out.mono ?_;rintro rr w8 ⟨rfl,hsd⟩)
       go_end0
       exact ⟨rfl,hsd⟩
     ·have hltI:¬ (m.a:Int)+1<B:=by omega
      have HQ:=hide (HNo2.out hC hlt2)
      clear HNo1 HNo2 hC hlt2
      go_wp2
      go_quiet (fail)
      obtain ⟨W5,hW5,bW5,sW5⟩:=fold_dn W4 nq
      (try rw [hW5])
      have HN5:=hide (sd_below HQ.out HL4.out (HB4.out.trans (bW5.mono HB4.out.size)))
      clear hW5 bW5 HQ HB4 HL4
      go_wp2
      go_end0
      exact ⟨rfl,HN5.out⟩
   ·have hBb:((x1.p.role:Int) != 2)=true:=by simp;omega
    have hno:¬ (m.term=x1.p.term∧x1.p.role=2):=fun q=>hB q.2
    clear hA hB
    have HN:=hide (HNo.out us1 x1 wc HSn.out hno)
    clear HNo HYes HSn
    go_wp2
    go_quiet (fail)
    obtain ⟨W4,hW4,bW4,sW4⟩:=fold_dn wc nq
    (try rw [hW4])
    have HN4:=hide (sd_below HN.out H3.out.low bW4)
    clear hW4 bW4 HN H3
    go_wp2
    refine bodyPost_ret (v:=.tuple #[]) (by simp [results,Tryz.results36]) rfl ⟨rfl,HN4.out⟩
  ·have hAb:((m.term:Int) != x1.p.term)=true:=by simp;omega
   have hno:¬ (m.term=x1.p.term∧x1.p.role=2):=fun q=>hA q.1
   clear hA
   have HN:=hide (HNo.out us1 x1 wc HSn.out hno)
   clear HNo HYes HSn
   go_wp2
   go_quiet (fail)
   obtain ⟨W4,hW4,bW4,sW4⟩:=fold_dn wc nq
   (try rw [hW4])
   have HN4:=hide (sd_below HN.out H3.out.low bW4)
   clear hW4 bW4 HN H3
   go_wp2
   refine bodyPost_ret (v:=.tuple #[]) (by simp [results,Tryz.results36]) rfl ⟨rfl,HN4.out⟩
end Go.Proofs.YtcfdmbkiinjmaaaGreat.sdl4
