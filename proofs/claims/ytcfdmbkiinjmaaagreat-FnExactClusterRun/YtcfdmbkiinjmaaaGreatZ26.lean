import Derived.Test.YtcfdmbkiinjmaaaGreatZ23
import Derived.Test.YtcfdmbkiinjmaaaGreatZ17
import Derived.WalkMore
import Derived.Deep.Cut
import Derived.Deep.CutRange
import Derived.Deep.DeepCutAuto
import Derived.Deep.QuietTactic
import Derived.BigQuiet
import Derived.BigRegion
import Derived.Deep.RegionLaw
import Derived.Deep.RegionHeldLaw
import Derived.Test.YtcfdmbkiinjmaaaGreatZ25
set_option linter.unusedVariables false
open Go.ChangeShapes Go.WideShapes Go.ChangeAt Go.RowKit
namespace Go.Proofs.YtcfdmbkiinjmaaaGreat.sev1
open Raft mem srun ssend sdown ssmall scopy srecs sapp ssame schos schosen scom sgrow sin sel stk slog sap0 sdl0 sdl3 sdl2
variable {F:Nat→Option Obj}
set_option maxRecDepth 20000 in
set_option maxHeartbeats 2000000 in
theorem event_2 (w:World) (M:Fz) (base d P pc:Nat) (c:Cl) (us:List PV) (ns:List MV) (nv:Value) (cs:List RV) (cv:Value) (h:Run (TS F) w M base d P pc c us ns nv cs cv) (e:Ev) (eo:Option Addr) (el ec:Nat) (hkd:e.kind=2) (n:Nat) (h1:1≤n) (h7:n≤7) (hg:Raft.Good n c) :
  Calls Tryz.prog 18 #[.pointer (some ⟨d,0,none⟩),.agg #[.int .i64 e.kind,.int .i64 e.n,.slice eo el ec]] w fun r w'=>r=.returned (.int .i64 (c.event e).2)∧SD F w M base d P pc (c.event e).1 w':=by
 obtain ⟨W,hW⟩:∃ W,w.alloc (.cells #[.int .i64 e.kind,.int .i64 e.n,.slice eo el ec] 48)=W:=⟨_,rfl⟩
 have h0:=St1.begin h hW
 have c0:W.cell? ⟨w.heap.size,0,none⟩=some (.int .i64 e.kind):=cell_of h0.b0 rfl
 have c1:W.cell? ⟨w.heap.size,1,none⟩=some (.int .i64 e.n):=cell_of h0.b0 rfl
 have H0:=hide h0
 obtain ⟨hB,hC,s,hR⟩:=hg
 obtain ⟨no,nc,hnve,hncm⟩:=slice_one h.net.1
 subst hnve
 have hnl:ns.length=c.net.length:=by rw [←h.nets,List.length_map]
 have d1:W.cell? ⟨d,1,none⟩=some (.slice no ns.length nc):=cell_of h0.run.blk rfl
 have hn200:ns.length≤200:=by have:=hB.size;omega
 have k1:(e.kind == 1)=false:=by rw [hkd];decide
 have k2:(e.kind == 2)=true:=by rw [hkd];decide
 have k3:(e.kind == 3)=false:=by rw [hkd];decide
 have k4:(e.kind == 4)=false:=by rw [hkd];decide
 have k5:(e.kind == 5)=false:=by rw [hkd];decide
 have k6:(e.kind == 6)=false:=by rw [hkd];decide
 have k7:(e.kind == 7)=false:=by rw [hkd];decide
 unfold maxLen at hncm
 by_cases hneg:e.n<0
 ·have HE:Hid ((c.event e).2=6∧(c.event e).1=c):=by
   unfold Cl.event
   rw [if_pos (by omega),if_pos (by exact .inl hneg)]
   exact ⟨rfl,rfl⟩
  rw [HE.out.1,HE.out.2]
  clear h h0 hkd HE
  go_enter Tryz.func18,Tryz.ntmps18
  go_wp2
  (try rw [hW])
  clear hW
  go_quiet (fail)
  obtain ⟨W1,hW1,bW1,sW1⟩:=fold_dn W nq
  (try rw [hW1])
  have H1:=hide (H0.out.below bW1)
  clear hW1 bW1 H0
  go_wp2
  go_ret
  exact ⟨rfl,H1.out.sd⟩
 ·by_cases hbig:(ns.length:Int)≤e.n
  ·have HE:Hid ((c.event e).2=6∧(c.event e).1=c):=by
    unfold Cl.event
    rw [if_pos (by omega),if_pos (by exact .inr (by omega))]
    exact ⟨rfl,rfl⟩
   rw [HE.out.1,HE.out.2]
   clear h h0 hkd HE
   go_enter Tryz.func18,Tryz.ntmps18
   go_wp2
   (try rw [hW])
   clear hW
   go_quiet (fail)
   obtain ⟨W1,hW1,bW1,sW1⟩:=fold_dn W nq
   (try rw [hW1])
   have H1:=hide (H0.out.below bW1)
   clear hW1 bW1 H0
   go_wp2
   go_ret
   exact ⟨rfl,H1.out.sd⟩
  ·obtain ⟨i,hi⟩:∃ i:Nat,e.n=(i:Int):=⟨e.n.toNat,by omega⟩
   have hil:i<ns.length:=by omega
   obtain ⟨x,hx⟩:∃ x,ns[i]?=some x:=⟨_,List.getElem?_eq_getElem hil⟩
   have hxm:x∈ns:=List.mem_iff_getElem?.2 ⟨i,hx⟩
   obtain ⟨lo,ln0,elv⟩:=recsM_slice (h.net.2 x hxm)
   obtain ⟨ln,eln⟩:∃ ln,x.m.log.length=ln:=⟨_,rfl⟩
   obtain ⟨lc,elc⟩:∃ lc,ln0=lc:=⟨_,rfl⟩
   rw [eln,elc] at elv
   have hcx:c.net[i]?=some x.m:=by rw [←h.nets,List.getElem?_map,hx];rfl
   have hmem:x.m∈c.net:=List.mem_of_getElem? hcx
   have hev:c.event e=(({ c with net:=c.net.eraseIdx i }:Cl).deliver x.m,0):=by
    unfold Cl.event
    rw [if_pos (by omega),if_neg (by rw [hi];omega),hi,Int.toNat_natCast,hcx]
    dsimp only
    rw [if_pos hkd]
   rw [hev]
   rw [hi] at c1 hneg hbig
   have HTk:Hid (∀ wx,St1 F w M base d P pc 48 #[.int .i64 e.kind,.int .i64 e.n,.slice eo el ec] c us ns (.slice no ns.length nc) cs cv M wx→Calls Tryz.prog 37 #[.pointer (some ⟨d,0,none⟩),.int .i64 i] wx fun r w'=>r=.returned (.agg #[.int .i64 x.m.kind,.int .i64 x.m.frm,.int .i64 x.m.to,.int .i64 x.m.term,.int .i64 x.m.a,.int .i64 x.m.b,.int .i64 x.m.c,.bool x.m.ok,.slice lo ln lc])∧Hid (Calls Tryz.prog 36 #[.pointer (some ⟨d,0,none⟩),.agg #[.int .i64 x.m.kind,.int .i64 x.m.frm,.int .i64 x.m.to,.int .i64 x.m.term,.int .i64 x.m.a,.int .i64 x.m.b,.int .i64 x.m.c,.bool x.m.ok,.slice lo ln lc]] w' fun r w''=>r=.returned (.tuple #[])∧SD F w M base d P pc (({ c with net:=c.net.eraseIdx i }:Cl).deliver x.m) w'')):=fun wx hw=>by
    refine (stake.take_any wx M base d P pc c us ns _ cs cv hw.run i x hx hn200 lo ln lc elv).mono ?_
    rintro r w' ⟨rfl,hs⟩
    have hsd:=SD.sent hw.le hw.bel hw.run hw.dom hs
    refine ⟨rfl,?_⟩
    obtain ⟨M',ns',nv',l1,r1,g1,d1⟩:=hs
    have hR2:Rel n { c with net:=c.net.eraseIdx i } s:=hR.part (fun m hm=>List.mem_of_mem_eraseIdx hm)
    have hB2:Bd { c with net:=c.net.eraseIdx i }:=hB.part (fun m hm=>List.mem_of_mem_eraseIdx hm) (List.length_eraseIdx_le _ _)
    have hl2:RecsM M' (.slice lo ln lc) x.m.log:=by rw [←elv];exact (h.net.2 x hxm).le l1
    refine (sdlv.deliver_any w' M' base d P pc _ us ns' nv' cs cv r1 n h1 h7 s hR2 hC hB2 x.m (hR.msgs x.m hmem) (hB.net x.m hmem) lo ln lc hl2).mono ?_
    rintro r w'' ⟨rfl,M2,us2,ns2,nv2,cs2,cv2,b1,b2,b3,b4⟩
    have hbw:Below base wx w':=⟨g1.os,g1.tape,g1.output,g1.size,fun q hq=>g1.block q (by have:=hw.low;omega) (fun e=>by simp only [Option.some.injEq] at e;have:=hw.run.low.1;omega)⟩
    refine ⟨rfl,M2,us2,ns2,nv2,cs2,cv2,hw.le.trans (l1.trans b1),hw.bel.trans (hbw.trans b2),b3,fun b hb => ?_⟩
    rcases b4 b hb with q | q
    ·rcases d1 b q with q | q
     ·exact hw.dom b q
     ·exact .inr (by have:=hw.low;omega)
    ·exact .inr q
   have nb:¬ (i:Int)<0:=by omega
   have hilI:¬ (ns.length:Int)≤i:=by omega
   clear h h0 hkd hev hx hxm hmem hcx elv eln elc hnl hi hR hC hB
   go_enter Tryz.func18,Tryz.ntmps18
   go_wp2
   (try rw [hW])
   clear hW
   go_quiet (fail)
   obtain ⟨W1,hW1,bW1,sW1⟩:=fold_dn W nq
   (try rw [hW1])
   have HT:=hide (HTk.out W1 (H0.out.below bW1))
   have c0:=kept_cell bW1 c0
   have c1:=kept_cell bW1 c1
   clear hW1 bW1 H0 HTk d1
   go_wp2_with (first | (go_at_call 37;refine HT.out.mono ?_;rintro rr w2 ⟨rfl,HD⟩) | (go_at_call 36;refine HD.out.mono ?_;rintro rr w3 ⟨rfl,hsd⟩))
   go_ret
   exact ⟨rfl,hsd⟩
set_option maxRecDepth 20000 in
set_option maxHeartbeats 2000000 in
theorem event_3 (w:World) (M:Fz) (base d P pc:Nat) (c:Cl) (us:List PV) (ns:List MV) (nv:Value) (cs:List RV) (cv:Value) (h:Run (TS F) w M base d P pc c us ns nv cs cv) (e:Ev) (eo:Option Addr) (el ec:Nat) (hkd:e.kind=3) (n:Nat) (h1:1≤n) (h7:n≤7) (hg:Raft.Good n c) :
  Calls Tryz.prog 18 #[.pointer (some ⟨d,0,none⟩),.agg #[.int .i64 e.kind,.int .i64 e.n,.slice eo el ec]] w fun r w'=>r=.returned (.int .i64 (c.event e).2)∧SD F w M base d P pc (c.event e).1 w':=by
 obtain ⟨W,hW⟩:∃ W,w.alloc (.cells #[.int .i64 e.kind,.int .i64 e.n,.slice eo el ec] 48)=W:=⟨_,rfl⟩
 have h0:=St1.begin h hW
 have c0:W.cell? ⟨w.heap.size,0,none⟩=some (.int .i64 e.kind):=cell_of h0.b0 rfl
 have c1:W.cell? ⟨w.heap.size,1,none⟩=some (.int .i64 e.n):=cell_of h0.b0 rfl
 have H0:=hide h0
 obtain ⟨hB,hC,s,hR⟩:=hg
 obtain ⟨no,nc,hnve,hncm⟩:=slice_one h.net.1
 subst hnve
 have hnl:ns.length=c.net.length:=by rw [←h.nets,List.length_map]
 have d1:W.cell? ⟨d,1,none⟩=some (.slice no ns.length nc):=cell_of h0.run.blk rfl
 have hn200:ns.length≤200:=by have:=hB.size;omega
 have k1:(e.kind == 1)=false:=by rw [hkd];decide
 have k2:(e.kind == 2)=false:=by rw [hkd];decide
 have k3:(e.kind == 3)=true:=by rw [hkd];decide
 have k4:(e.kind == 4)=false:=by rw [hkd];decide
 have k5:(e.kind == 5)=false:=by rw [hkd];decide
 have k6:(e.kind == 6)=false:=by rw [hkd];decide
 have k7:(e.kind == 7)=false:=by rw [hkd];decide
 unfold maxLen at hncm
 by_cases hneg:e.n<0
 ·have HE:Hid ((c.event e).2=6∧(c.event e).1=c):=by
   unfold Cl.event
   rw [if_pos (by omega),if_pos (by exact .inl hneg)]
   exact ⟨rfl,rfl⟩
  rw [HE.out.1,HE.out.2]
  clear h h0 hkd HE
  go_enter Tryz.func18,Tryz.ntmps18
  go_wp2
  (try rw [hW])
  clear hW
  go_quiet (fail)
  obtain ⟨W1,hW1,bW1,sW1⟩:=fold_dn W nq
  (try rw [hW1])
  have H1:=hide (H0.out.below bW1)
  clear hW1 bW1 H0
  go_wp2
  go_ret
  exact ⟨rfl,H1.out.sd⟩
 ·by_cases hbig:(ns.length:Int)≤e.n
  ·have HE:Hid ((c.event e).2=6∧(c.event e).1=c):=by
    unfold Cl.event
    rw [if_pos (by omega),if_pos (by exact .inr (by omega))]
    exact ⟨rfl,rfl⟩
   rw [HE.out.1,HE.out.2]
   clear h h0 hkd HE
   go_enter Tryz.func18,Tryz.ntmps18
   go_wp2
   (try rw [hW])
   clear hW
   go_quiet (fail)
   obtain ⟨W1,hW1,bW1,sW1⟩:=fold_dn W nq
   (try rw [hW1])
   have H1:=hide (H0.out.below bW1)
   clear hW1 bW1 H0
   go_wp2
   go_ret
   exact ⟨rfl,H1.out.sd⟩
  ·obtain ⟨i,hi⟩:∃ i:Nat,e.n=(i:Int):=⟨e.n.toNat,by omega⟩
   have hil:i<ns.length:=by omega
   obtain ⟨x,hx⟩:∃ x,ns[i]?=some x:=⟨_,List.getElem?_eq_getElem hil⟩
   have hxm:x∈ns:=List.mem_iff_getElem?.2 ⟨i,hx⟩
   obtain ⟨lo,ln0,elv⟩:=recsM_slice (h.net.2 x hxm)
   obtain ⟨ln,eln⟩:∃ ln,x.m.log.length=ln:=⟨_,rfl⟩
   obtain ⟨lc,elc⟩:∃ lc,ln0=lc:=⟨_,rfl⟩
   rw [eln,elc] at elv
   have hcx:c.net[i]?=some x.m:=by rw [←h.nets,List.getElem?_map,hx];rfl
   have hmem:x.m∈c.net:=List.mem_of_getElem? hcx
   have hev:c.event e=(({ c with net:=c.net.eraseIdx i }:Cl),0):=by
    unfold Cl.event
    rw [if_pos (by omega),if_neg (by rw [hi];omega),hi,Int.toNat_natCast,hcx]
    dsimp only
    rw [if_neg (by omega),if_pos hkd]
   rw [hev]
   rw [hi] at c1 hneg hbig
   have HTk:Hid (∀ wx,St1 F w M base d P pc 48 #[.int .i64 e.kind,.int .i64 e.n,.slice eo el ec] c us ns (.slice no ns.length nc) cs cv M wx→Calls Tryz.prog 37 #[.pointer (some ⟨d,0,none⟩),.int .i64 i] wx fun r w'=>r=.returned (.agg #[.int .i64 x.m.kind,.int .i64 x.m.frm,.int .i64 x.m.to,.int .i64 x.m.term,.int .i64 x.m.a,.int .i64 x.m.b,.int .i64 x.m.c,.bool x.m.ok,.slice lo ln lc])∧Hid (SD F w M base d P pc (({ c with net:=c.net.eraseIdx i }:Cl)) w')):=fun wx hw=>by
    refine (stake.take_any wx M base d P pc c us ns _ cs cv hw.run i x hx hn200 lo ln lc elv).mono ?_
    rintro r w' ⟨rfl,hs⟩
    have hsd:=SD.sent hw.le hw.bel hw.run hw.dom hs
    exact ⟨rfl,hsd⟩
   have nb:¬ (i:Int)<0:=by omega
   have hilI:¬ (ns.length:Int)≤i:=by omega
   clear h h0 hkd hev hx hxm hmem hcx elv eln elc hnl hi hR hC hB
   go_enter Tryz.func18,Tryz.ntmps18
   go_wp2
   (try rw [hW])
   clear hW
   go_quiet (fail)
   obtain ⟨W1,hW1,bW1,sW1⟩:=fold_dn W nq
   (try rw [hW1])
   have HT:=hide (HTk.out W1 (H0.out.below bW1))
   have c0:=kept_cell bW1 c0
   have c1:=kept_cell bW1 c1
   clear hW1 bW1 H0 HTk d1
   go_wp2_with (go_at_call 37;refine HT.out.mono ?_;rintro rr w2 ⟨rfl,HD⟩;have hsd:=HD.out)
   go_ret
   exact ⟨rfl,hsd⟩
set_option maxRecDepth 20000 in
set_option maxHeartbeats 2000000 in
theorem event_4 (w:World) (M:Fz) (base d P pc:Nat) (c:Cl) (us:List PV) (ns:List MV) (nv:Value) (cs:List RV) (cv:Value) (h:Run (TS F) w M base d P pc c us ns nv cs cv) (e:Ev) (eo:Option Addr) (el ec:Nat) (hkd:e.kind=4) (n:Nat) (h1:1≤n) (h7:n≤7) (hg:Raft.Good n c) :
  Calls Tryz.prog 18 #[.pointer (some ⟨d,0,none⟩),.agg #[.int .i64 e.kind,.int .i64 e.n,.slice eo el ec]] w fun r w'=>r=.returned (.int .i64 (c.event e).2)∧SD F w M base d P pc (c.event e).1 w':=by
 obtain ⟨W,hW⟩:∃ W,w.alloc (.cells #[.int .i64 e.kind,.int .i64 e.n,.slice eo el ec] 48)=W:=⟨_,rfl⟩
 have h0:=St1.begin h hW
 have c0:W.cell? ⟨w.heap.size,0,none⟩=some (.int .i64 e.kind):=cell_of h0.b0 rfl
 have c1:W.cell? ⟨w.heap.size,1,none⟩=some (.int .i64 e.n):=cell_of h0.b0 rfl
 have H0:=hide h0
 obtain ⟨hB,hC,s,hR⟩:=hg
 obtain ⟨no,nc,hnve,hncm⟩:=slice_one h.net.1
 subst hnve
 have hnl:ns.length=c.net.length:=by rw [←h.nets,List.length_map]
 have d1:W.cell? ⟨d,1,none⟩=some (.slice no ns.length nc):=cell_of h0.run.blk rfl
 have hn200:ns.length≤200:=by have:=hB.size;omega
 have k1:(e.kind == 1)=false:=by rw [hkd];decide
 have k2:(e.kind == 2)=false:=by rw [hkd];decide
 have k3:(e.kind == 3)=false:=by rw [hkd];decide
 have k4:(e.kind == 4)=true:=by rw [hkd];decide
 have k5:(e.kind == 5)=false:=by rw [hkd];decide
 have k6:(e.kind == 6)=false:=by rw [hkd];decide
 have k7:(e.kind == 7)=false:=by rw [hkd];decide
 unfold maxLen at hncm
 by_cases hneg:e.n<0
 ·have HE:Hid ((c.event e).2=6∧(c.event e).1=c):=by
   unfold Cl.event
   rw [if_pos (by omega),if_pos (by exact .inl hneg)]
   exact ⟨rfl,rfl⟩
  rw [HE.out.1,HE.out.2]
  clear h h0 hkd HE
  go_enter Tryz.func18,Tryz.ntmps18
  go_wp2
  (try rw [hW])
  clear hW
  go_quiet (fail)
  obtain ⟨W1,hW1,bW1,sW1⟩:=fold_dn W nq
  (try rw [hW1])
  have H1:=hide (H0.out.below bW1)
  clear hW1 bW1 H0
  go_wp2
  go_ret
  exact ⟨rfl,H1.out.sd⟩
 ·by_cases hbig:(ns.length:Int)≤e.n
  ·have HE:Hid ((c.event e).2=6∧(c.event e).1=c):=by
    unfold Cl.event
    rw [if_pos (by omega),if_pos (by exact .inr (by omega))]
    exact ⟨rfl,rfl⟩
   rw [HE.out.1,HE.out.2]
   clear h h0 hkd HE
   go_enter Tryz.func18,Tryz.ntmps18
   go_wp2
   (try rw [hW])
   clear hW
   go_quiet (fail)
   obtain ⟨W1,hW1,bW1,sW1⟩:=fold_dn W nq
   (try rw [hW1])
   have H1:=hide (H0.out.below bW1)
   clear hW1 bW1 H0
   go_wp2
   go_ret
   exact ⟨rfl,H1.out.sd⟩
  ·obtain ⟨i,hi⟩:∃ i:Nat,e.n=(i:Int):=⟨e.n.toNat,by omega⟩
   have hil:i<ns.length:=by omega
   obtain ⟨x,hx⟩:∃ x,ns[i]?=some x:=⟨_,List.getElem?_eq_getElem hil⟩
   have hxm:x∈ns:=List.mem_iff_getElem?.2 ⟨i,hx⟩
   obtain ⟨lo,ln0,elv⟩:=recsM_slice (h.net.2 x hxm)
   obtain ⟨ln,eln⟩:∃ ln,x.m.log.length=ln:=⟨_,rfl⟩
   obtain ⟨lc,elc⟩:∃ lc,ln0=lc:=⟨_,rfl⟩
   rw [eln,elc] at elv
   have hcx:c.net[i]?=some x.m:=by rw [←h.nets,List.getElem?_map,hx];rfl
   have hmem:x.m∈c.net:=List.mem_of_getElem? hcx
   have hev:c.event e=(c.send x.m,0):=by
    unfold Cl.event
    rw [if_pos (by omega),if_neg (by rw [hi];omega),hi,Int.toNat_natCast,hcx]
    dsimp only
    rw [if_neg (by omega),if_neg (by omega)]
   rw [hev]
   rw [hi] at c1 hneg hbig
   obtain ⟨ao,cap,e',r1,r2,r3⟩:=RowM.world h0.run.net.1 h0.run.inn
   simp only [Value.slice.injEq,true_and] at e'
   obtain ⟨rfl,rfl⟩:=e'
   obtain ⟨b,off,rfl,hc⟩:=r3 (by omega)
   have HC:Hid (∀ wx,Below W.heap.size W wx→∀ j v,(msgCells x)[j]?=some v→wx.cell? ⟨b,off+i*9+j,none⟩=some v):=fun wx hb j v hj=>by
    have hj9:j<9:=by have:=(List.getElem?_eq_some_iff.1 hj).1;rw [msgCells_len] at this;exact this
    have e1:=flat_get msgCells 9 msgCells_len ns i j x hx hj9
    have:=hc _ v (e1.trans hj)
    rw [←Nat.add_assoc] at this
    exact kept_cell hb this
   have HSn:Hid (∀ wx,St1 F w M base d P pc 48 #[.int .i64 e.kind,.int .i64 e.n,.slice eo el ec] c us ns (.slice (some ⟨b,off,none⟩) ns.length nc) cs cv M wx→Calls Tryz.prog 38 #[.pointer (some ⟨d,0,none⟩),.agg #[.int .i64 x.m.kind,.int .i64 x.m.frm,.int .i64 x.m.to,.int .i64 x.m.term,.int .i64 x.m.a,.int .i64 x.m.b,.int .i64 x.m.c,.bool x.m.ok,.slice lo ln lc]] wx fun r w'=>r=.returned (.tuple #[])∧SD F w M base d P pc (c.send x.m) w'):=fun wx hw=>hw.send x.m lo ln lc (by rw [←elv];exact h.net.2 x hxm)
   have HLv:Hid (x.lv=.slice lo ln lc):=elv
   have nb:¬ (i:Int)<0:=by omega
   have hilI:¬ (ns.length:Int)≤i:=by omega
   have hilJ:(i:Int)<ns.length:=by omega
   have hr1:ns.length≤nc:=by
    obtain ⟨ao',cap',e2,h2,_⟩:=h.net.1
    simp only [Value.slice.injEq,true_and] at e2
    omega
   clear h h0 hkd hev hx hxm hmem hcx elv eln elc hnl hi hR hC hB hc r1 r2 r3
   go_enter Tryz.func18,Tryz.ntmps18
   go_wp2
   (try rw [hW])
   clear hW
   go_quiet (fail)
   obtain ⟨W1,hW1,bW1,sW1⟩:=fold_dn W nq
   (try rw [hW1])
   have H1:=hide (H0.out.below bW1)
   have c0:=kept_cell bW1 c0
   have c1:=kept_cell bW1 c1
   have d1:=kept_cell bW1 d1
   have m0:=HC.out W1 bW1 0 _ rfl
   have m1:=HC.out W1 bW1 1 _ rfl
   have m2:=HC.out W1 bW1 2 _ rfl
   have m3:=HC.out W1 bW1 3 _ rfl
   have m4:=HC.out W1 bW1 4 _ rfl
   have m5:=HC.out W1 bW1 5 _ rfl
   have m6:=HC.out W1 bW1 6 _ rfl
   have m7:=HC.out W1 bW1 7 _ rfl
   have m8:=HC.out W1 bW1 8 x.lv rfl
   rw [HLv.out] at m8
   rw [Nat.add_zero] at m0
   clear hW1 bW1 H0 HC HLv
   go_wp2
   go_region_law ((go_simp;go_at_call 38;refine (HSn.out _ (H1.out.below (Below.refl _ _).drew)).mono ?_;rintro rr w2 ⟨rfl,hsd⟩))
   all_goals
    go_wp2
    go_ret
    exact ⟨rfl,hsd⟩
end Go.Proofs.YtcfdmbkiinjmaaaGreat.sev1
namespace Go.Proofs.YtcfdmbkiinjmaaaGreat.sev7
open Raft mem srun ssend sdown ssmall scopy srecs sapp ssame schos schosen scom sgrow sin sel stk slog sap0 sdl0 sdl3 sdl2
variable {F:Nat→Option Obj}
set_option maxRecDepth 20000 in
set_option maxHeartbeats 2000000 in
theorem event_7 (w:World) (M:Fz) (base d P pc:Nat) (c:Cl) (us:List PV) (ns:List MV) (nv:Value) (cs:List RV) (cv:Value) (h:Run (TS F) w M base d P pc c us ns nv cs cv) (e:Ev) (eo:Option Addr) (el ec:Nat) (hkd:e.kind=7) (n:Nat) (h1:1≤n) (h7:n≤7) (hg:Raft.Good n c) (hd:BytesM M (.slice eo el ec) e.data) :
  Calls Tryz.prog 18 #[.pointer (some ⟨d,0,none⟩),.agg #[.int .i64 e.kind,.int .i64 e.n,.slice eo el ec]] w fun r w'=>r=.returned (.int .i64 (c.event e).2)∧SD F w M base d P pc (c.event e).1 w':=by
 obtain ⟨W,hW⟩:∃ W,w.alloc (.cells #[.int .i64 e.kind,.int .i64 e.n,.slice eo el ec] 48)=W:=⟨_,rfl⟩
 have h0:=St1.begin h hW
 have c0:W.cell? ⟨w.heap.size,0,none⟩=some (.int .i64 e.kind):=cell_of h0.b0 rfl
 have c1:W.cell? ⟨w.heap.size,1,none⟩=some (.int .i64 e.n):=cell_of h0.b0 rfl
 have H0:=hide h0
 obtain ⟨hB,hC,s,hR⟩:=hg
 have hul:us.length=c.peers.length:=by rw [←h.peers,List.length_map]
 have hcap:=h.cap
 unfold maxLen at hcap
 have d0:W.cell? ⟨d,0,none⟩=some (.slice (some ⟨P,0,none⟩) us.length pc):=cell_of h0.run.blk rfl
 have k1:(e.kind == 1)=false:=by rw [hkd];decide
 have k2:(e.kind == 2)=false:=by rw [hkd];decide
 have k3:(e.kind == 3)=false:=by rw [hkd];decide
 have k4:(e.kind == 4)=false:=by rw [hkd];decide
 have k5:(e.kind == 5)=false:=by rw [hkd];decide
 have k6:(e.kind == 6)=false:=by rw [hkd];decide
 have k7:(e.kind == 7)=true:=by rw [hkd];decide
 have kt:(false == false)=true:=rfl
 have kf:(true == false)=false:=rfl
 have kg:(false == true)=false:=rfl
 have kh:(true == true)=true:=rfl
 by_cases hneg:e.n<0
 ·have HE:Hid ((c.event e).2=6∧(c.event e).1=c):=by
   unfold Cl.event
   rw [if_neg (by omega),if_pos (by omega),if_pos (by exact .inl hneg)]
   exact ⟨rfl,rfl⟩
  rw [HE.out.1,HE.out.2]
  clear h h0 hkd HE hul
  go_enter Tryz.func18,Tryz.ntmps18
  go_wp2
  (try rw [hW])
  clear hW
  go_quiet (fail)
  obtain ⟨W1,hW1,bW1,sW1⟩:=fold_dn W nq
  (try rw [hW1])
  have H1:=hide (H0.out.below bW1)
  clear hW1 bW1 H0
  go_wp2
  go_ret
  exact ⟨rfl,H1.out.sd⟩
 ·by_cases hbig:(us.length:Int)≤e.n
  ·have HE:Hid ((c.event e).2=6∧(c.event e).1=c):=by
    unfold Cl.event
    rw [if_neg (by omega),if_pos (by omega),if_pos (by exact .inr (by omega))]
    exact ⟨rfl,rfl⟩
   rw [HE.out.1,HE.out.2]
   clear h h0 hkd HE hul
   go_enter Tryz.func18,Tryz.ntmps18
   go_wp2
   (try rw [hW])
   clear hW
   go_quiet (fail)
   obtain ⟨W1,hW1,bW1,sW1⟩:=fold_dn W nq
   (try rw [hW1])
   have H1:=hide (H0.out.below bW1)
   clear hW1 bW1 H0
   go_wp2
   go_ret
   exact ⟨rfl,H1.out.sd⟩
  ·obtain ⟨i,hi⟩:∃ i:Nat,e.n=(i:Int):=⟨e.n.toNat,by omega⟩
   have hil:i<us.length:=by omega
   obtain ⟨x,hk⟩:∃ x,us[i]?=some x:=⟨_,List.getElem?_eq_getElem hil⟩
   have hat:=(sdown.Run.at h hk).1
   have hin:i<n:=by rw [←hR.len,←hul];exact hil
   have p0:=(h0.run.peerCell hk (j:=0) (v:=.bool x.p.up) rfl).1
   rw [Nat.add_zero] at p0
   have nb:¬ (i:Int)<0:=by omega
   have hilI:¬ (us.length:Int)≤i:=by omega
   have hilJ:(i:Int)<us.length:=by omega
   rw [hi] at c1 hneg hbig
   cases hup:x.p.up with
   | false =>
    have hev:c.event e=(c,15):=by
     unfold Cl.event
     rw [if_neg (by omega),if_pos (by omega),if_neg (by rw [hi];omega),hi,Int.toNat_natCast]
     dsimp only
     rw [hat,hup,if_pos (by rw [hkd];rfl)]
    rw [hev]
    rw [hup] at p0
    clear h h0 hkd hk hat hul hi hB hC hR hev hup
    go_enter Tryz.func18,Tryz.ntmps18
    go_wp2
    (try rw [hW])
    clear hW
    go_quiet (fail)
    obtain ⟨W1,hW1,bW1,sW1⟩:=fold_dn W nq
    (try rw [hW1])
    have H1:=hide (H0.out.below bW1)
    have c0:=kept_cell bW1 c0
    have c1:=kept_cell bW1 c1
    have d0:=kept_cell bW1 d0
    have p0:=kept_cell bW1 p0
    clear hW1 bW1 H0 sW1
    go_wp2
    go_quiet (fail)
    obtain ⟨W2,hW2,bW2,sW2⟩:=fold_dn W1 nq
    (try rw [hW2])
    have H2:=hide (H1.out.below bW2)
    have c0:=kept_cell bW2 c0
    have c1:=kept_cell bW2 c1
    have d0:=kept_cell bW2 d0
    have p0:=kept_cell bW2 p0
    clear hW2 bW2 H1 sW2
    go_wp2
    go_quiet (fail)
    obtain ⟨W3,hW3,bW3,sW3⟩:=fold_dn W2 nq
    (try rw [hW3])
    have H3:=hide (H2.out.below bW3)
    have c0:=kept_cell bW3 c0
    have c1:=kept_cell bW3 c1
    have d0:=kept_cell bW3 d0
    have p0:=kept_cell bW3 p0
    clear hW3 bW3 H2 sW3
    go_wp2
    go_ret
    exact ⟨rfl,H3.out.sd⟩
   | true =>
    rw [hup] at p0
    have hxm:x∈us:=List.mem_iff_getElem?.2 ⟨i,hk⟩
    have hF:=deliv.fine hR hB hin
    rw [hat] at hF
    by_cases hro:x.p.role=2
    ·have hrob:((x.p.role:Int) != 2)=false:=by rw [hro];simp
     obtain ⟨lo,lc,elv⟩:=recsM_slice (h.logs x hxm)
     have hlog:=h.logs x hxm
     rw [elv] at hlog
     have hlcm:=(recs_len hlog).2.1
     obtain ⟨L,eL⟩:∃ L,x.p.log.length=L:=⟨_,rfl⟩
     rw [eL] at elv hlog
     obtain ⟨ho,hc,ehd⟩:∃ o c,(.slice eo el ec:Value)=.slice o e.data.length c:=by
      obtain ⟨⟨ao,cap,e1,_⟩,_⟩:=hd
      exact ⟨ao,cap,e1⟩
     simp only [Value.slice.injEq] at ehd
     obtain ⟨rfl,rfl,rfl⟩:=ehd
     have hecm:ec≤maxLen:=by
      obtain ⟨⟨ao,cap,e1,e2,e3,_⟩,_⟩:=hd
      simp only [Value.slice.injEq] at e1
      obtain ⟨_,_,rfl⟩:=e1
      exact e3
     by_cases hsz:1000<e.data.length∨x.p.log.length=100
     ·have hev:c.event e=(c,14):=by
       unfold Cl.event
       rw [if_neg (by omega),if_pos (by omega),if_neg (by rw [hi];omega),hi,Int.toNat_natCast]
       dsimp only
       rw [hat,hup,if_neg (by rw [hkd];decide),if_neg (by omega),if_neg (by omega),if_neg (by omega),if_neg (fun q=>q hro),if_pos hsz]
      rw [hev]
      obtain ⟨DL,eDL⟩:∃ DL,e.data.length=DL:=⟨_,rfl⟩
      rw [eDL] at hsz
      rw [eL] at hsz
      have HP:Hid (∀ wx,St1 F w M base d P pc 48 #[.int .i64 e.kind,.int .i64 e.n,.slice eo e.data.length ec] c us ns nv cs cv M wx→wx.cell? ⟨P,i*9+4,none⟩=some (.int .i64 x.p.role)∧wx.cell? ⟨P,i*9+5,none⟩=some (.slice lo L lc)∧wx.cell? ⟨w.heap.size,2,none⟩=some (.slice eo DL ec)):=fun wx hw=>by
       have q5:=(hw.run.peerCell hk (j:=5) (v:=x.lv) rfl).1
       rw [elv] at q5
       refine ⟨(hw.run.peerCell hk (j:=4) (v:=.int .i64 x.p.role) rfl).1,q5,?_⟩
       rw [←eDL]
       exact cell_of hw.b0 rfl
      unfold maxLen at hlcm hecm
      clear h h0 hkd hk hat hul hi hB hC hR hev hup hF hxm eL elv hlog hro eDL hd
      go_enter Tryz.func18,Tryz.ntmps18
      go_wp2
      (try rw [hW])
      clear hW
      go_quiet (fail)
      obtain ⟨W1,hW1,bW1,sW1⟩:=fold_dn W nq
      (try rw [hW1])
      have H1:=hide (H0.out.below bW1)
      have c0:=kept_cell bW1 c0
      have c1:=kept_cell bW1 c1
      have d0:=kept_cell bW1 d0
      have p0:=kept_cell bW1 p0
      clear hW1 bW1 H0 sW1
      go_wp2
      go_quiet (fail)
      obtain ⟨W2,hW2,bW2,sW2⟩:=fold_dn W1 nq
      (try rw [hW2])
      have H2:=hide (H1.out.below bW2)
      have c0:=kept_cell bW2 c0
      have c1:=kept_cell bW2 c1
      have d0:=kept_cell bW2 d0
      have p0:=kept_cell bW2 p0
      clear hW2 bW2 H1 sW2
      go_wp2
      go_quiet (fail)
      obtain ⟨W3,hW3,bW3,sW3⟩:=fold_dn W2 nq
      (try rw [hW3])
      have H3:=hide (H2.out.below bW3)
      have c0:=kept_cell bW3 c0
      have c1:=kept_cell bW3 c1
      have d0:=kept_cell bW3 d0
      have p0:=kept_cell bW3 p0
      clear hW3 bW3 H2 sW3
      obtain ⟨q4,q5,e2⟩:=HP.out W3 H3.out
      clear HP d0 p0
      by_cases hs1:1000<DL
      ·have hs1I:(1000:Int)<DL:=by omega
       go_wp2
       go_ret
       exact ⟨rfl,H3.out.sd⟩
      ·have hs1I:¬ (1000:Int)<DL:=by omega
       have hs2:((L:Int) == 100)=true:=by have:=hsz.resolve_left hs1;rw [this];rfl
       go_wp2
       go_ret
       exact ⟨rfl,H3.out.sd⟩
     ·exact sev8.propose w M base d P pc c us ns nv cs cv h e eo _ ec hkd n h1 h7 ⟨hB,hC,s,hR⟩ hd i hi x hk hup hro hsz
    ·have hrob:((x.p.role:Int) != 2)=true:=by simp;omega
     have hev:c.event e=(c,15):=by
      unfold Cl.event
      rw [if_neg (by omega),if_pos (by omega),if_neg (by rw [hi];omega),hi,Int.toNat_natCast]
      dsimp only
      rw [hat,hup,if_neg (by rw [hkd];decide),if_neg (by omega),if_neg (by omega),if_neg (by omega),if_pos hro]
     rw [hev]
     have HP:Hid (∀ wx,St1 F w M base d P pc 48 #[.int .i64 e.kind,.int .i64 e.n,.slice eo el ec] c us ns nv cs cv M wx→wx.cell? ⟨P,i*9+4,none⟩=some (.int .i64 x.p.role)):=fun wx hw=>(hw.run.peerCell hk (j:=4) (v:=.int .i64 x.p.role) rfl).1
     clear h h0 hkd hk hat hul hi hB hC hR hev hup hF hxm hro
     go_enter Tryz.func18,Tryz.ntmps18
     go_wp2
     (try rw [hW])
     clear hW
     go_quiet (fail)
     obtain ⟨W1,hW1,bW1,sW1⟩:=fold_dn W nq
     (try rw [hW1])
     have H1:=hide (H0.out.below bW1)
     have c0:=kept_cell bW1 c0
     have c1:=kept_cell bW1 c1
     have d0:=kept_cell bW1 d0
     have p0:=kept_cell bW1 p0
     clear hW1 bW1 H0 sW1
     go_wp2
     go_quiet (fail)
     obtain ⟨W2,hW2,bW2,sW2⟩:=fold_dn W1 nq
     (try rw [hW2])
     have H2:=hide (H1.out.below bW2)
     have c0:=kept_cell bW2 c0
     have c1:=kept_cell bW2 c1
     have d0:=kept_cell bW2 d0
     have p0:=kept_cell bW2 p0
     clear hW2 bW2 H1 sW2
     go_wp2
     go_quiet (fail)
     obtain ⟨W3,hW3,bW3,sW3⟩:=fold_dn W2 nq
     (try rw [hW3])
     have H3:=hide (H2.out.below bW3)
     have c0:=kept_cell bW3 c0
     have c1:=kept_cell bW3 c1
     have d0:=kept_cell bW3 d0
     have p0:=kept_cell bW3 p0
     clear hW3 bW3 H2 sW3
     have q4:=HP.out W3 H3.out
     clear HP d0 p0
     go_wp2
     go_ret
     exact ⟨rfl,H3.out.sd⟩
theorem event_any (w:World) (M:Fz) (base d P pc:Nat) (c:Cl) (us:List PV) (ns:List MV) (nv:Value) (cs:List RV) (cv:Value) (h:Run (TS F) w M base d P pc c us ns nv cs cv) (e:Ev) (eo:Option Addr) (el ec:Nat) (n:Nat) (h1:1≤n) (h7:n≤7) (hg:Raft.Good n c) (hd:BytesM M (.slice eo el ec) e.data) :
  Calls Tryz.prog 18 #[.pointer (some ⟨d,0,none⟩),.agg #[.int .i64 e.kind,.int .i64 e.n,.slice eo el ec]] w fun r w'=>r=.returned (.int .i64 (c.event e).2)∧SD F w M base d P pc (c.event e).1 w':=by
 by_cases k:e.kind=1∨e.kind=2∨e.kind=3∨e.kind=4∨e.kind=5∨e.kind=6∨e.kind=7
 ·rcases k with k | k | k | k | k | k | k
  ·exact sev2.event_1 w M base d P pc c us ns nv cs cv h e eo el ec k n h1 h7 hg
  ·exact sev1.event_2 w M base d P pc c us ns nv cs cv h e eo el ec k n h1 h7 hg
  ·exact sev1.event_3 w M base d P pc c us ns nv cs cv h e eo el ec k n h1 h7 hg
  ·exact sev1.event_4 w M base d P pc c us ns nv cs cv h e eo el ec k n h1 h7 hg
  ·exact sev2.event_5 w M base d P pc c us ns nv cs cv h e eo el ec k n h1 h7 hg
  ·exact sev2.event_6 w M base d P pc c us ns nv cs cv h e eo el ec k n h1 h7 hg
  ·exact event_7 w M base d P pc c us ns nv cs cv h e eo el ec k n h1 h7 hg hd
 ·exact sev0.event_none w M base d P pc c us ns nv cs cv h e eo el ec k
end Go.Proofs.YtcfdmbkiinjmaaaGreat.sev7
