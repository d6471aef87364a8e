import Derived.Test.YtcfdmbkiinjmaaaGreatZ10
import Derived.WalkMore
import Derived.Deep.Cut
import Derived.Deep.QuietTactic
import Derived.BigQuiet
import Derived.Deep.RegionLaw
import Derived.Deep.RegionHeldLaw
set_option linter.unusedVariables false
open Go.ChangeShapes Go.WideShapes Go.ChangeAt Go.RowKit
namespace Go.Proofs.YtcfdmbkiinjmaaaGreat.sapn
open Raft mem srun ssend sdown ssmall scopy srecs sapp ssame schos schosen scom sgrow sin sel stk slog sap0
variable {F:Nat→Option Obj}
set_option maxRecDepth 20000 in
set_option maxHeartbeats 2000000 in
theorem appended_no (w:World) (M:Fz) (base d P pc:Nat) (c:Cl) (us:List PV) (ns:List MV) (nv:Value) (cs:List RV) (cv:Value) (h:Run (TS F) w M base d P pc c us ns nv cs cv) (m:Msg) (lo:Option Addr) (ln lc:Nat) (hlv:RecsM M (.slice lo ln lc) m.log) (x:PV) (hk:us[m.to]?=some x) (ht:¬ m.term<x.p.term) (hmt:m.term≤x.p.term) (h0:1≤m.a) (hma:m.a≤1000) (hL:x.p.log.length≤1000) (hno:x.p.log.length<m.a∨termAt x.p.log m.a≠m.b) :
  Calls Tryz.prog 58 #[.pointer (some ⟨d,0,none⟩),.agg #[.int .i64 m.kind,.int .i64 m.frm,.int .i64 m.to,.int .i64 m.term,.int .i64 m.a,.int .i64 m.b,.int .i64 m.c,.bool m.ok,.slice lo ln lc]] w fun r w'=>r=.returned (.tuple #[])∧SD F w M base d P pc (c.appended m) w':=by
 have hlt:m.to<us.length:=(List.getElem?_eq_some_iff.1 hk).1
 have hat:=(sdown.Run.at h hk).1
 have hcap:=h.cap
 unfold maxLen at hcap
 have hbs:=scom.Run.base_le h
 obtain ⟨W,hW⟩:∃ W,w.alloc (.cells #[.int .i64 m.kind,.int .i64 m.frm,.int .i64 m.to,.int .i64 m.term,.int .i64 m.a,.int .i64 m.b,.int .i64 m.c,.bool m.ok,.slice lo ln lc] 69)=W:=⟨_,rfl⟩
 have bW:Below w.heap.size w W:=by rw [←hW];exact more (Below.refl _ _) _
 have sW:W.heap.size=w.heap.size+1:=by rw [←hW];simp [World.size_alloc]
 have hm:W.heap[w.heap.size]?=some (.cells #[.int .i64 m.kind,.int .i64 m.frm,.int .i64 m.to,.int .i64 m.term,.int .i64 m.a,.int .i64 m.b,.int .i64 m.c,.bool m.ok,.slice lo ln lc] 69 (0,0)):=by rw [←hW];exact heap_alloc_new w _
 have hR:=h.below bW
 have c0:W.cell? ⟨d,0,none⟩=some (.slice (some ⟨P,0,none⟩) us.length pc):=cell_of hR.blk rfl
 have m2:W.cell? ⟨w.heap.size,2,none⟩=some (.int .i64 m.to):=cell_of hm rfl
 have HS:Hid (∀ wx,Below W.heap.size W wx→wx.cell? ⟨P,m.to*9+1,none⟩=some (.int .i64 x.p.term)∧wx.cell? ⟨w.heap.size,1,none⟩=some (.int .i64 m.frm)∧wx.cell? ⟨w.heap.size,2,none⟩=some (.int .i64 m.to)∧wx.cell? ⟨w.heap.size,3,none⟩=some (.int .i64 m.term)):=fun wx hx=>by
  have q:=kept hx hm (Nat.le_refl _)
  exact ⟨((hR.below hx).peerCell hk (j:=1) (v:=.int .i64 x.p.term) rfl).1,cell_of q rfl,cell_of q rfl,cell_of q rfl⟩
 have HSt:Hid (∀ W1 W2,Below W.heap.size W W1→W1.heap.size=W.heap.size→(W1.alloc (.cells #[.int .i64 4,.int .i64 m.to,.int .i64 m.frm,.int .i64 x.p.term,.int .i64 0,.int .i64 0,.int .i64 0,.bool false,.slice none 0 0] 69)).drew=W2→St2 F w M base d P pc #[.int .i64 m.kind,.int .i64 m.frm,.int .i64 m.to,.int .i64 m.term,.int .i64 m.a,.int .i64 m.b,.int .i64 m.c,.bool m.ok,.slice lo ln lc] #[.int .i64 4,.int .i64 m.to,.int .i64 m.frm,.int .i64 x.p.term,.int .i64 0,.int .i64 0,.int .i64 0,.bool false,.slice none 0 0] c us ns nv cs cv M W2):=fun W1 W2 hb1 hs1 e=>by
  have hb2:Below W.heap.size W W2:=by rw [←e];exact (more hb1 _).drew
  refine ⟨hR.below hb2,Le.refl M,(bW.trans (hb2.mono bW.size)).mono hbs,fun b hb=>.inl hb,kept hb2 hm (Nat.le_refl _),?_,fun b hb=>.inl (h.mine hb),⟨h.inn.fresh (Nat.le_refl _),h.inn.fresh (by omega)⟩,fun b o e=>h.farL e⟩
  rw [←e]
  show (W1.alloc _).heap[w.heap.size+1]?=_
  exact new_at (by omega)
 have hxm:x∈us:=List.mem_iff_getElem?.2 ⟨m.to,hk⟩
 obtain ⟨ro,rc,elv⟩:=recsM_slice (h.logs x hxm)
 have hlog:=h.logs x hxm
 rw [elv] at hlog
 have hrc:=(recs_len hlog).2.1
 have hk2:(us.set m.to (downV x m.term))[m.to]?=some (downV x m.term):=got_set hk
 obtain ⟨L,eL⟩:∃ L,x.p.log.length=L:=⟨_,rfl⟩
 obtain ⟨T2,eT2⟩:∃ T2,T2=(downV x m.term).p.term:=⟨_,rfl⟩
 obtain ⟨V2,eV2⟩:∃ V2,V2=(downV x m.term).p.vote:=⟨_,rfl⟩
 rw [eL] at elv hlog
 have HDn:Hid (∀ wx,St2 F w M base d P pc #[.int .i64 m.kind,.int .i64 m.frm,.int .i64 m.to,.int .i64 m.term,.int .i64 m.a,.int .i64 m.b,.int .i64 m.c,.bool m.ok,.slice lo ln lc] #[.int .i64 4,.int .i64 m.to,.int .i64 m.frm,.int .i64 x.p.term,.int .i64 0,.int .i64 0,.int .i64 0,.bool false,.slice none 0 0] c us ns nv cs cv M wx→Calls Tryz.prog 55 #[.pointer (some ⟨d,0,none⟩),.int .i64 m.to,.int .i64 m.term] wx fun r w'=>r=.returned (.tuple #[])∧Hid (St2 F w M base d P pc #[.int .i64 m.kind,.int .i64 m.frm,.int .i64 m.to,.int .i64 m.term,.int .i64 m.a,.int .i64 m.b,.int .i64 m.c,.bool m.ok,.slice lo ln lc] #[.int .i64 4,.int .i64 m.to,.int .i64 m.frm,.int .i64 x.p.term,.int .i64 0,.int .i64 0,.int .i64 0,.bool false,.slice none 0 0] (c.down m.to m.term) (us.set m.to (downV x m.term)) ns nv cs cv M w')):=fun wx hx=>hx.down m.to m.term x hk
 have HPc:Hid (∀ wx bk,St2 F w M base d P pc #[.int .i64 m.kind,.int .i64 m.frm,.int .i64 m.to,.int .i64 m.term,.int .i64 m.a,.int .i64 m.b,.int .i64 m.c,.bool m.ok,.slice lo ln lc] bk (c.down m.to m.term) (us.set m.to (downV x m.term)) ns nv cs cv M wx→wx.cell? ⟨P,m.to*9,none⟩=some (.bool x.p.up)∧wx.cell? ⟨P,m.to*9+1,none⟩=some (.int .i64 T2)∧wx.cell? ⟨P,m.to*9+2,none⟩=some (.int .i64 V2)∧wx.cell? ⟨P,m.to*9+3,none⟩=some (.int .i64 x.p.commit)∧wx.cell? ⟨P,m.to*9+4,none⟩=some (.int .i64 0)∧wx.cell? ⟨P,m.to*9+5,none⟩=some (.slice ro L rc)∧wx.cell? ⟨P,m.to*9+6,none⟩=some (.slice none 0 0)∧wx.cell? ⟨P,m.to*9+7,none⟩=some (.slice none 0 0)∧wx.cell? ⟨P,m.to*9+8,none⟩=some (.slice none 0 0)):=fun wx bk hx=>by
  have q:=fun j v hj=>(hx.run.peerCell hk2 (j:=j) (v:=v) hj).1
  have q5:=q 5 x.lv rfl
  rw [elv] at q5
  exact ⟨q 0 _ rfl,by rw [eT2];exact q 1 _ rfl,by rw [eV2];exact q 2 _ rfl,q 3 _ rfl,q 4 _ rfl,q5,q 6 _ rfl,q 7 _ rfl,q 8 _ rfl⟩
 have HTm:Hid (m.a≤L→∀ wx bk,St2 F w M base d P pc #[.int .i64 m.kind,.int .i64 m.frm,.int .i64 m.to,.int .i64 m.term,.int .i64 m.a,.int .i64 m.b,.int .i64 m.c,.bool m.ok,.slice lo ln lc] bk (c.down m.to m.term) (us.set m.to (downV x m.term)) ns nv cs cv M wx→Calls Tryz.prog 74 #[.agg #[.bool x.p.up,.int .i64 T2,.int .i64 V2,.int .i64 x.p.commit,.int .i64 0,.slice ro L rc,.slice none 0 0,.slice none 0 0,.slice none 0 0],.int .i64 m.a] wx fun r w'=>r=.returned (.int .i64 (termAt x.p.log m.a:Nat))∧Hid (Below wx.heap.size wx w')):=fun hle wx bk hx=>by
  rw [eT2,eV2]
  exact term_any wx M hx.run.inn (downV x m.term).p L ro rc _ _ _ hlog m.a hle
 have HSend:Hid (∀ wx,St2 F w M base d P pc #[.int .i64 m.kind,.int .i64 m.frm,.int .i64 m.to,.int .i64 m.term,.int .i64 m.a,.int .i64 m.b,.int .i64 m.c,.bool m.ok,.slice lo ln lc] #[.int .i64 4,.int .i64 m.to,.int .i64 m.frm,.int .i64 x.p.term,.int .i64 ((min (m.a-1) L:Nat):Int),.int .i64 0,.int .i64 0,.bool false,.slice none 0 0] (c.down m.to m.term) (us.set m.to (downV x m.term)) ns nv cs cv M wx→Calls Tryz.prog 38 #[.pointer (some ⟨d,0,none⟩),.agg #[.int .i64 4,.int .i64 m.to,.int .i64 m.frm,.int .i64 x.p.term,.int .i64 ((min (m.a-1) L:Nat):Int),.int .i64 0,.int .i64 0,.bool false,.slice none 0 0]] wx fun r w'=>r=.returned (.tuple #[])∧SD F w M base d P pc (c.appended m) w'):=fun wx hx=>by
  have hat2:=(sdown.Run.at hx.run hk2).1
  have e:c.appended m=(c.down m.to m.term).send ⟨4,m.to,m.frm,x.p.term,min (m.a-1) L,0,0,false,[]⟩:=by
   unfold Cl.appended
   dsimp only
   rw [hat,if_neg ht,hat2]
   have e1:(downV x m.term).p.log=x.p.log:=rfl
   have e2:(downV x m.term).p.term=x.p.term:=by show max x.p.term m.term=x.p.term;omega
   rw [e1,e2,if_pos hno,eL]
  rw [e]
  exact hx.send ⟨4,m.to,m.frm,x.p.term,min (m.a-1) L,0,0,false,[]⟩ none 0 0 (RecsM.nil M)
 have HBox:Hid (∀ W4,St2 F w M base d P pc #[.int .i64 m.kind,.int .i64 m.frm,.int .i64 m.to,.int .i64 m.term,.int .i64 m.a,.int .i64 m.b,.int .i64 m.c,.bool m.ok,.slice lo ln lc] #[.int .i64 4,.int .i64 m.to,.int .i64 m.frm,.int .i64 x.p.term,.int .i64 0,.int .i64 0,.int .i64 0,.bool false,.slice none 0 0] (c.down m.to m.term) (us.set m.to (downV x m.term)) ns nv cs cv M W4→∀ v:Int,v=((min (m.a-1) L:Nat):Int)→∀ W5,(W4.setCell ⟨w.heap.size+1,4,none⟩ (.int .i64 v)).drew=W5→St2 F w M base d P pc #[.int .i64 m.kind,.int .i64 m.frm,.int .i64 m.to,.int .i64 m.term,.int .i64 m.a,.int .i64 m.b,.int .i64 m.c,.bool m.ok,.slice lo ln lc] #[.int .i64 4,.int .i64 m.to,.int .i64 m.frm,.int .i64 x.p.term,.int .i64 ((min (m.a-1) L:Nat):Int),.int .i64 0,.int .i64 0,.bool false,.slice none 0 0] (c.down m.to m.term) (us.set m.to (downV x m.term)) ns nv cs cv M W5):=fun W4 h4 v hv W5 e=>by
  have:=h4.box 4 (.int .i64 v) hbs
  rw [hv] at this e
  rw [←e]
  exact this.below (Below.refl _ _).drew
 have hkI:(m.to:Int)<us.length:=by omega
 have htI:¬ (m.term:Int)<x.p.term:=by omega
 obtain ⟨U,eU⟩:∃ U,us.length=U:=⟨_,rfl⟩
 rw [eU] at c0 hlt hcap hkI
 rw [eL] at hL hno
 have hBs:Hid (base≤w.heap.size):=hbs
 unfold maxLen at hrc
 clear h hR hat hk hm bW hbs eU hxm hlog elv hk2 eL eT2 eV2
 go_enter Tryz.func58,Tryz.ntmps58
 go_wp2
 (try rw [hW])
 clear hW
 go_quiet (fail)
 go_wp2
 obtain ⟨W1,hW1,bW1,sW1⟩:=fold_dn W nq
 rw [hW1]
 have HB1:=hide bW1
 obtain ⟨s1,s2,s3,s4⟩:=HS.out W1 bW1
 clear hW1 bW1 m2 c0
 go_region_held_law (fun wx=>wx.cell? ⟨P,m.to*9+1,none⟩=some (.int .i64 x.p.term)∧wx.cell? ⟨w.heap.size,1,none⟩=some (.int .i64 m.frm)∧wx.cell? ⟨w.heap.size,2,none⟩=some (.int .i64 m.to)∧wx.cell? ⟨w.heap.size,3,none⟩=some (.int .i64 m.term)) ((refine HS.out _ ?_;first | exact HB1.out | exact HB1.out.drew | exact more HB1.out _ | exact (more HB1.out _).drew | exact more HB1.out.drew _)) (fail)
 go_wp2
 obtain ⟨W2,hW2⟩:∃ W2,(W1.alloc (.cells #[.int .i64 4,.int .i64 m.to,.int .i64 m.frm,.int .i64 x.p.term,.int .i64 0,.int .i64 0,.int .i64 0,.bool false,.slice none 0 0] 69)).drew=W2:=⟨_,rfl⟩
 (try rw [hW2])
 have H2:=hide (HSt.out W1 W2 HB1.out sW1 hW2)
 obtain ⟨s1,s2,s3,s4⟩:=HS.out W2 (by rw [←hW2];exact (more HB1.out _).drew)
 clear hW2 HB1 HS HSt s2 s3 sW1
 go_quiet (fail)
 obtain ⟨W3,hW3,bW3,sW3⟩:=fold_dn W2 nq
 (try rw [hW3])
 have H3:=hide (H2.out.below bW3)
 have q2:W3.cell? ⟨w.heap.size,2,none⟩=some (.int .i64 m.to):=cell_of H3.out.b0 rfl
 have q3:W3.cell? ⟨w.heap.size,3,none⟩=some (.int .i64 m.term):=cell_of H3.out.b0 rfl
 clear hW3 bW3 H2 s1 s4 sW3
 go_wp2_with (go_at_call 55;refine (HDn.out _ H3.out).mono ?_;rintro rr wd ⟨rfl,HD⟩;obtain ⟨y0,y1,y2,y3,y4,y5,y6,y7,y8⟩:=HPc.out _ _ HD.out;have z2:wd.cell? ⟨w.heap.size,2,none⟩=some (.int .i64 m.to):=cell_of HD.out.b0 rfl;have z4:wd.cell? ⟨w.heap.size,4,none⟩=some (.int .i64 m.a):=cell_of HD.out.b0 rfl;have z5:wd.cell? ⟨w.heap.size,5,none⟩=some (.int .i64 m.b):=cell_of HD.out.b0 rfl)
 clear q2 q3 H3 HDn
 by_cases hA:L<m.a
 ·have hAI:(L:Int)<m.a:=by omega
  go_wp2
  go_quiet (fail)
  obtain ⟨W4,hW4,bW4,sW4⟩:=fold_dn wd nq
  (try rw [hW4])
  have H4:=hide (HD.out.below bW4)
  obtain ⟨y0,y1,y2,y3,y4,y5,y6,y7,y8⟩:=HPc.out _ _ H4.out
  have z4:W4.cell? ⟨w.heap.size,4,none⟩=some (.int .i64 m.a):=cell_of H4.out.b0 rfl
  have v4:W4.cell? ⟨w.heap.size+1,4,none⟩=some (.int .i64 0):=cell_of H4.out.b1 rfl
  have vf:W4.frozen? ⟨w.heap.size+1,4,none⟩=false:=frozen_of H4.out.b1 4
  have hPn:=H4.out.no P (.inr (.inl rfl))
  have n1:¬ P=w.heap.size:=by omega
  have n2:¬ P=w.heap.size+1:=by omega
  have n3:¬ w.heap.size+1=P:=by omega
  have aA:IntKind.i64.wrap ((m.a:Int)-1)=(m.a:Int)-1:=by rw [IntKind.wrap_i64];omega
  clear hW4 bW4 HD HPc HTm y0 y1 y2 y3 y4 y6 y7 y8 sW4
  go_wp2
  by_cases hmn:L<m.a-1
  all_goals
   first | (have hmnI:(L:Int)<(m.a:Int)-1:=by omega) | (have hmnI:¬ (L:Int)<(m.a:Int)-1:=by omega)
   go_region_held_law (fun wx=>wx.cell? ⟨w.heap.size,4,none⟩=some (.int .i64 m.a)∧wx.cell? ⟨P,m.to*9+5,none⟩=some (.slice ro L rc)) (go_keep) (fail)
   generalize hW5:World.drew (World.setCell W4 _ _)=W5
   have H5:=hide (HBox.out W4 H4.out _ (by omega) W5 hW5)
   have HZ:=hide (HSend.out W5 H5.out)
   have q0:=cell_of (i:=0) H5.out.b1 rfl
   have q1:=cell_of (i:=1) H5.out.b1 rfl
   have q2:=cell_of (i:=2) H5.out.b1 rfl
   have q3:=cell_of (i:=3) H5.out.b1 rfl
   have q4:=cell_of (i:=4) H5.out.b1 rfl
   have q5:=cell_of (i:=5) H5.out.b1 rfl
   have q6:=cell_of (i:=6) H5.out.b1 rfl
   have q7:=cell_of (i:=7) H5.out.b1 rfl
   have q8:=cell_of (i:=8) H5.out.b1 rfl
   clear H4 H5 HSend HBox hW5 z4 v4 vf
   go_wp2_with (go_at_call 38;refine HZ.out.mono ?_;rintro rr w1 ⟨rfl,hsd⟩)
   refine bodyPost_ret (v:=.tuple #[]) (by simp [results,Tryz.results58]) rfl ⟨rfl,hsd⟩
 ·have hAI:¬ (L:Int)<m.a:=by omega
  have hne:((termAt x.p.log m.a:Nat):Int)≠m.b:=by
   have:=hno.resolve_left hA
   omega
  have hneb:(((termAt x.p.log m.a:Nat):Int) != m.b)=true:=by simpa using hne
  have HS6:Hid (∀ wx,Below wd.heap.size wd wx→(wx.cell? ⟨P,m.to*9,none⟩=some (.bool x.p.up)∧wx.cell? ⟨P,m.to*9+1,none⟩=some (.int .i64 T2)∧wx.cell? ⟨P,m.to*9+2,none⟩=some (.int .i64 V2)∧wx.cell? ⟨P,m.to*9+3,none⟩=some (.int .i64 x.p.commit)∧wx.cell? ⟨P,m.to*9+4,none⟩=some (.int .i64 0)∧wx.cell? ⟨P,m.to*9+5,none⟩=some (.slice ro L rc)∧wx.cell? ⟨P,m.to*9+6,none⟩=some (.slice none 0 0)∧wx.cell? ⟨P,m.to*9+7,none⟩=some (.slice none 0 0)∧wx.cell? ⟨P,m.to*9+8,none⟩=some (.slice none 0 0))∧wx.cell? ⟨w.heap.size,4,none⟩=some (.int .i64 m.a)∧wx.cell? ⟨w.heap.size,5,none⟩=some (.int .i64 m.b)):=fun wx hx=>⟨HPc.out _ _ (HD.out.below hx),cell_of (HD.out.below hx).b0 rfl,cell_of (HD.out.below hx).b0 rfl⟩
  have HT:=hide (HTm.out (by omega))
  obtain ⟨TT,eTT⟩:∃ T,termAt x.p.log m.a=T:=⟨_,rfl⟩
  rw [eTT] at HT hneb hne
  clear eTT hno
  go_wp2
  go_region_held_law (fun wx=>(wx.cell? ⟨P,m.to*9,none⟩=some (.bool x.p.up)∧wx.cell? ⟨P,m.to*9+1,none⟩=some (.int .i64 T2)∧wx.cell? ⟨P,m.to*9+2,none⟩=some (.int .i64 V2)∧wx.cell? ⟨P,m.to*9+3,none⟩=some (.int .i64 x.p.commit)∧wx.cell? ⟨P,m.to*9+4,none⟩=some (.int .i64 0)∧wx.cell? ⟨P,m.to*9+5,none⟩=some (.slice ro L rc)∧wx.cell? ⟨P,m.to*9+6,none⟩=some (.slice none 0 0)∧wx.cell? ⟨P,m.to*9+7,none⟩=some (.slice none 0 0)∧wx.cell? ⟨P,m.to*9+8,none⟩=some (.slice none 0 0))∧wx.cell? ⟨w.heap.size,4,none⟩=some (.int .i64 m.a)∧wx.cell? ⟨w.heap.size,5,none⟩=some (.int .i64 m.b)) ((refine HS6.out _ ?_;first | exact Below.refl _ _ | exact (Below.refl _ _).drew | exact HB4.out)) (first | (go_at_call 74;refine (HT.out _ _ (HD.out.below (Below.refl _ _).drew)).mono ?_;rintro rr W4 ⟨rfl,HX4⟩;have HB4:Hid (Below wd.heap.size wd W4):=(Below.refl _ _).drew.trans HX4.out))
  have bW4:=HB4.out
  have hW4:True:=trivial
  have sW4:True:=trivial
  clear HB4 HX4 HS6 HT
  have H4:=hide (HD.out.below bW4)
  obtain ⟨y0,y1,y2,y3,y4,y5,y6,y7,y8⟩:=HPc.out _ _ H4.out
  have z4:W4.cell? ⟨w.heap.size,4,none⟩=some (.int .i64 m.a):=cell_of H4.out.b0 rfl
  have v4:W4.cell? ⟨w.heap.size+1,4,none⟩=some (.int .i64 0):=cell_of H4.out.b1 rfl
  have vf:W4.frozen? ⟨w.heap.size+1,4,none⟩=false:=frozen_of H4.out.b1 4
  have hPn:=H4.out.no P (.inr (.inl rfl))
  have n1:¬ P=w.heap.size:=by omega
  have n2:¬ P=w.heap.size+1:=by omega
  have n3:¬ w.heap.size+1=P:=by omega
  have aA:IntKind.i64.wrap ((m.a:Int)-1)=(m.a:Int)-1:=by rw [IntKind.wrap_i64];omega
  clear hW4 bW4 HD HPc HTm y0 y1 y2 y3 y4 y6 y7 y8 sW4
  go_wp2
  by_cases hmn:L<m.a-1
  all_goals
   first | (have hmnI:(L:Int)<(m.a:Int)-1:=by omega) | (have hmnI:¬ (L:Int)<(m.a:Int)-1:=by omega)
   go_region_held_law (fun wx=>wx.cell? ⟨w.heap.size,4,none⟩=some (.int .i64 m.a)∧wx.cell? ⟨P,m.to*9+5,none⟩=some (.slice ro L rc)) (go_keep) (fail)
   generalize hW5:World.drew (World.setCell W4 _ _)=W5
   have H5:=hide (HBox.out W4 H4.out _ (by omega) W5 hW5)
   have HZ:=hide (HSend.out W5 H5.out)
   have q0:=cell_of (i:=0) H5.out.b1 rfl
   have q1:=cell_of (i:=1) H5.out.b1 rfl
   have q2:=cell_of (i:=2) H5.out.b1 rfl
   have q3:=cell_of (i:=3) H5.out.b1 rfl
   have q4:=cell_of (i:=4) H5.out.b1 rfl
   have q5:=cell_of (i:=5) H5.out.b1 rfl
   have q6:=cell_of (i:=6) H5.out.b1 rfl
   have q7:=cell_of (i:=7) H5.out.b1 rfl
   have q8:=cell_of (i:=8) H5.out.b1 rfl
   clear H4 H5 HSend HBox hW5 z4 v4 vf
   go_wp2_with (go_at_call 38;refine HZ.out.mono ?_;rintro rr w1 ⟨rfl,hsd⟩)
   refine bodyPost_ret (v:=.tuple #[]) (by simp [results,Tryz.results58]) rfl ⟨rfl,hsd⟩
end Go.Proofs.YtcfdmbkiinjmaaaGreat.sapn
