import Derived.Test.YtcfdmbkiinjmaaaGreatZ23
import Derived.Test.YtcfdmbkiinjmaaaGreatZ17
import Derived.WalkMore
import Derived.Deep.Cut
import Derived.Deep.CutRange
import Derived.Deep.DeepCutAuto
import Derived.Deep.QuietTactic
import Derived.BigQuiet
import Derived.BigRegion
import Derived.Deep.RegionLaw
import Derived.Deep.RegionHeldLaw
set_option linter.unusedVariables false
open Go.ChangeShapes Go.WideShapes Go.ChangeAt Go.RowKit
namespace Go.Proofs.YtcfdmbkiinjmaaaGreat.sev2
open Raft mem srun ssend sdown ssmall scopy srecs sapp ssame schos schosen scom sgrow sin sel stk slog sap0 sdl0 sdl3 sdl2
variable {F:Nat→Option Obj}
def crashP (p:Peer):Peer:=⟨false,p.term,p.vote,0,0,p.log,[],[],[]⟩
def crashV (x:PV):PV:=⟨crashP x.p,x.lv,.slice none 0 0,.slice none 0 0,.slice none 0 0⟩
theorem Run.crash {T:Ty} {w:World} {M:Fz} {base d P pc:Nat} {c:Cl} {us:List PV} {ns:List MV} {nv:Value} {cs:List RV} {cv:Value} (h:Run T w M base d P pc c us ns nv cs cv) {k:Nat} {x:PV} (hk:us[k]?=some x) :
  Run T (((((((((w.setCell ⟨P,k*9+0,none⟩ (.bool false)).setCell ⟨P,k*9+1,none⟩ (.int .i64 x.p.term)).setCell ⟨P,k*9+2,none⟩ (.int .i64 x.p.vote)).setCell ⟨P,k*9+3,none⟩ (.int .i64 0)).setCell ⟨P,k*9+4,none⟩ (.int .i64 0)).setCell ⟨P,k*9+5,none⟩ x.lv).setCell ⟨P,k*9+6,none⟩ (.slice none 0 0)).setCell ⟨P,k*9+7,none⟩ (.slice none 0 0)).setCell ⟨P,k*9+8,none⟩ (.slice none 0 0)) M base d P pc { c with peers:=c.peers.set k (crashP x.p) } (us.set k (crashV x)) ns nv cs cv:=by
 have hx:x∈us:=List.mem_iff_getElem?.2 ⟨k,hk⟩
 have h0:=sdown.Run.setScalar h { x.p with up:=false } (v:=.bool false) hk (j:=0) (by decide) rfl rfl rfl rfl rfl
 have h1:=sdown.Run.setScalar h0 { x.p with up:=false } (v:=.int .i64 x.p.term) (got_set hk) (j:=1) (by decide) rfl rfl rfl rfl rfl
 have h2:=sdown.Run.setScalar h1 { x.p with up:=false } (v:=.int .i64 x.p.vote) (got_set (got_set hk)) (j:=2) (by decide) rfl rfl rfl rfl rfl
 have h3:=sdown.Run.setScalar h2 { x.p with up:=false,commit:=0 } (v:=.int .i64 0) (got_set (got_set (got_set hk))) (j:=3) (by decide) rfl rfl rfl rfl rfl
 have h4:=sdown.Run.setScalar h3 { x.p with up:=false,commit:=0,role:=0 } (v:=.int .i64 0) (got_set (got_set (got_set (got_set hk)))) (j:=4) (by decide) rfl rfl rfl rfl rfl
 have h5:=sdown.Run.setScalar h4 { x.p with up:=false,commit:=0,role:=0 } (v:=x.lv) (got_set (got_set (got_set (got_set (got_set hk))))) (j:=5) (by decide) rfl rfl rfl rfl rfl
 have g5:=got_set (x':={ x with p:={ x.p with up:=false,commit:=0,role:=0 } }) (got_set (x':={ x with p:={ x.p with up:=false,commit:=0,role:=0 } }) (got_set (x':={ x with p:={ x.p with up:=false,commit:=0 } }) (got_set (x':={ x with p:={ x.p with up:=false } }) (got_set (x':={ x with p:={ x.p with up:=false } }) (got_set (x':={ x with p:={ x.p with up:=false } }) hk)))))
 have h6:=sdown.Run.noVotes h5 g5
 have h7:=sdown.Run.noNext h6 (got_set g5)
 have h8:=sdown.Run.noMat h7 (got_set (got_set g5))
 simpa [List.set_set,crashP,crashV] using h8
set_option maxRecDepth 20000 in
set_option maxHeartbeats 2000000 in
theorem event_1 (w:World) (M:Fz) (base d P pc:Nat) (c:Cl) (us:List PV) (ns:List MV) (nv:Value) (cs:List RV) (cv:Value) (h:Run (TS F) w M base d P pc c us ns nv cs cv) (e:Ev) (eo:Option Addr) (el ec:Nat) (hkd:e.kind=1) (n:Nat) (h1:1≤n) (h7:n≤7) (hg:Raft.Good n c) :
  Calls Tryz.prog 18 #[.pointer (some ⟨d,0,none⟩),.agg #[.int .i64 e.kind,.int .i64 e.n,.slice eo el ec]] w fun r w'=>r=.returned (.int .i64 (c.event e).2)∧SD F w M base d P pc (c.event e).1 w':=by
 obtain ⟨W,hW⟩:∃ W,w.alloc (.cells #[.int .i64 e.kind,.int .i64 e.n,.slice eo el ec] 48)=W:=⟨_,rfl⟩
 have h0:=St1.begin h hW
 have c0:W.cell? ⟨w.heap.size,0,none⟩=some (.int .i64 e.kind):=cell_of h0.b0 rfl
 have c1:W.cell? ⟨w.heap.size,1,none⟩=some (.int .i64 e.n):=cell_of h0.b0 rfl
 have H0:=hide h0
 obtain ⟨hB,hC,s,hR⟩:=hg
 have hul:us.length=c.peers.length:=by rw [←h.peers,List.length_map]
 have hcap:=h.cap
 unfold maxLen at hcap
 have d0:W.cell? ⟨d,0,none⟩=some (.slice (some ⟨P,0,none⟩) us.length pc):=cell_of h0.run.blk rfl
 have k1:(e.kind == 1)=true:=by rw [hkd];decide
 have k2:(e.kind == 2)=false:=by rw [hkd];decide
 have k3:(e.kind == 3)=false:=by rw [hkd];decide
 have k4:(e.kind == 4)=false:=by rw [hkd];decide
 have k5:(e.kind == 5)=false:=by rw [hkd];decide
 have k6:(e.kind == 6)=false:=by rw [hkd];decide
 have k7:(e.kind == 7)=false:=by rw [hkd];decide
 have kt:(false == false)=true:=rfl
 have kf:(true == false)=false:=rfl
 have kg:(false == true)=false:=rfl
 have kh:(true == true)=true:=rfl
 by_cases hneg:e.n<0
 ·have HE:Hid ((c.event e).2=6∧(c.event e).1=c):=by
   unfold Cl.event
   rw [if_neg (by omega),if_pos (by omega),if_pos (by exact .inl hneg)]
   exact ⟨rfl,rfl⟩
  rw [HE.out.1,HE.out.2]
  clear h h0 hkd HE hul
  go_enter Tryz.func18,Tryz.ntmps18
  go_wp2
  (try rw [hW])
  clear hW
  go_quiet (fail)
  obtain ⟨W1,hW1,bW1,sW1⟩:=fold_dn W nq
  (try rw [hW1])
  have H1:=hide (H0.out.below bW1)
  clear hW1 bW1 H0
  go_wp2
  go_ret
  exact ⟨rfl,H1.out.sd⟩
 ·by_cases hbig:(us.length:Int)≤e.n
  ·have HE:Hid ((c.event e).2=6∧(c.event e).1=c):=by
    unfold Cl.event
    rw [if_neg (by omega),if_pos (by omega),if_pos (by exact .inr (by omega))]
    exact ⟨rfl,rfl⟩
   rw [HE.out.1,HE.out.2]
   clear h h0 hkd HE hul
   go_enter Tryz.func18,Tryz.ntmps18
   go_wp2
   (try rw [hW])
   clear hW
   go_quiet (fail)
   obtain ⟨W1,hW1,bW1,sW1⟩:=fold_dn W nq
   (try rw [hW1])
   have H1:=hide (H0.out.below bW1)
   clear hW1 bW1 H0
   go_wp2
   go_ret
   exact ⟨rfl,H1.out.sd⟩
  ·obtain ⟨i,hi⟩:∃ i:Nat,e.n=(i:Int):=⟨e.n.toNat,by omega⟩
   have hil:i<us.length:=by omega
   obtain ⟨x,hk⟩:∃ x,us[i]?=some x:=⟨_,List.getElem?_eq_getElem hil⟩
   have hat:=(sdown.Run.at h hk).1
   have hin:i<n:=by rw [←hR.len,←hul];exact hil
   have p0:=(h0.run.peerCell hk (j:=0) (v:=.bool x.p.up) rfl).1
   rw [Nat.add_zero] at p0
   have nb:¬ (i:Int)<0:=by omega
   have hilI:¬ (us.length:Int)≤i:=by omega
   have hilJ:(i:Int)<us.length:=by omega
   rw [hi] at c1 hneg hbig
   cases hup:x.p.up with
   | false =>
    have hev:c.event e=(c,15):=by
     unfold Cl.event
     rw [if_neg (by omega),if_pos (by omega),if_neg (by rw [hi];omega),hi,Int.toNat_natCast]
     dsimp only
     rw [hat,hup,if_pos (by rw [hkd];rfl)]
    rw [hev]
    rw [hup] at p0
    clear h h0 hkd hk hat hul hi hB hC hR hev hup
    go_enter Tryz.func18,Tryz.ntmps18
    go_wp2
    (try rw [hW])
    clear hW
    go_quiet (fail)
    obtain ⟨W1,hW1,bW1,sW1⟩:=fold_dn W nq
    (try rw [hW1])
    have H1:=hide (H0.out.below bW1)
    have c0:=kept_cell bW1 c0
    have c1:=kept_cell bW1 c1
    have d0:=kept_cell bW1 d0
    have p0:=kept_cell bW1 p0
    clear hW1 bW1 H0 sW1
    go_wp2
    go_quiet (fail)
    obtain ⟨W2,hW2,bW2,sW2⟩:=fold_dn W1 nq
    (try rw [hW2])
    have H2:=hide (H1.out.below bW2)
    have c0:=kept_cell bW2 c0
    have c1:=kept_cell bW2 c1
    have d0:=kept_cell bW2 d0
    have p0:=kept_cell bW2 p0
    clear hW2 bW2 H1 sW2
    go_wp2
    go_quiet (fail)
    obtain ⟨W3,hW3,bW3,sW3⟩:=fold_dn W2 nq
    (try rw [hW3])
    have H3:=hide (H2.out.below bW3)
    have c0:=kept_cell bW3 c0
    have c1:=kept_cell bW3 c1
    have d0:=kept_cell bW3 d0
    have p0:=kept_cell bW3 p0
    clear hW3 bW3 H2 sW3
    go_wp2
    go_ret
    exact ⟨rfl,H3.out.sd⟩
   | true =>
    rw [hup] at p0
    have hev:c.event e=(c.tick i,0):=by
     unfold Cl.event
     rw [if_neg (by omega),if_pos (by omega),if_neg (by rw [hi];omega),hi,Int.toNat_natCast]
     dsimp only
     rw [hat,hup,if_neg (by rw [hkd];decide),if_pos hkd]
    rw [hev]
    have hF:=deliv.fine hR hB hin
    rw [hat] at hF
    have hnn:us.length=n:=by rw [hul];exact hR.len
    have HTk:Hid (∀ wx,St1 F w M base d P pc 48 #[.int .i64 e.kind,.int .i64 e.n,.slice eo el ec] c us ns nv cs cv M wx→Calls Tryz.prog 39 #[.pointer (some ⟨d,0,none⟩),.int .i64 i] wx fun r w'=>r=.returned (.tuple #[])∧SD F w M base d P pc (c.tick i) w'):=fun wx hw=>by
     refine (stick.tick_any wx M base d P pc c us ns nv cs cv hw.run i x hk (by omega) (by omega) hF.commit (by have:=hF.log;omega) (by have:=hB.chosen;omega) hF.term (fun hr2 j hj => ?_)).mono ?_
     ·obtain ⟨l1,l2,l3⟩:=hF.lists hr2
      obtain ⟨f,hf⟩:∃ f,x.p.next[j]?=some f:=⟨_,List.getElem?_eq_getElem (by omega)⟩
      have:=l3 j (by omega)
      rw [List.getD_eq_getElem?_getD,hf] at this
      exact ⟨f,hf,this⟩
     ·rintro r w' ⟨rfl,hsd⟩
      exact ⟨rfl,hw.step hsd⟩
    clear h h0 hkd hk hat hul hi hB hC hR hev hup hF hnn
    go_enter Tryz.func18,Tryz.ntmps18
    go_wp2
    (try rw [hW])
    clear hW
    go_quiet (fail)
    obtain ⟨W1,hW1,bW1,sW1⟩:=fold_dn W nq
    (try rw [hW1])
    have H1:=hide (H0.out.below bW1)
    have c0:=kept_cell bW1 c0
    have c1:=kept_cell bW1 c1
    have d0:=kept_cell bW1 d0
    have p0:=kept_cell bW1 p0
    clear hW1 bW1 H0 sW1
    go_wp2
    go_quiet (fail)
    obtain ⟨W2,hW2,bW2,sW2⟩:=fold_dn W1 nq
    (try rw [hW2])
    have H2:=hide (H1.out.below bW2)
    have c0:=kept_cell bW2 c0
    have c1:=kept_cell bW2 c1
    have d0:=kept_cell bW2 d0
    have p0:=kept_cell bW2 p0
    clear hW2 bW2 H1 sW2
    go_wp2
    go_quiet (fail)
    obtain ⟨W3,hW3,bW3,sW3⟩:=fold_dn W2 nq
    (try rw [hW3])
    have H3:=hide (H2.out.below bW3)
    have c0:=kept_cell bW3 c0
    have c1:=kept_cell bW3 c1
    have d0:=kept_cell bW3 d0
    have p0:=kept_cell bW3 p0
    clear hW3 bW3 H2 sW3
    have HZ:=hide (HTk.out W3 H3.out)
    clear H3 HTk d0 p0
    go_wp2_with (go_at_call 39;refine HZ.out.mono ?_;rintro rr w8 ⟨rfl,hsd⟩)
    go_ret
    exact ⟨rfl,hsd⟩
set_option maxRecDepth 20000 in
set_option maxHeartbeats 2000000 in
theorem event_6 (w:World) (M:Fz) (base d P pc:Nat) (c:Cl) (us:List PV) (ns:List MV) (nv:Value) (cs:List RV) (cv:Value) (h:Run (TS F) w M base d P pc c us ns nv cs cv) (e:Ev) (eo:Option Addr) (el ec:Nat) (hkd:e.kind=6) (n:Nat) (h1:1≤n) (h7:n≤7) (hg:Raft.Good n c) :
  Calls Tryz.prog 18 #[.pointer (some ⟨d,0,none⟩),.agg #[.int .i64 e.kind,.int .i64 e.n,.slice eo el ec]] w fun r w'=>r=.returned (.int .i64 (c.event e).2)∧SD F w M base d P pc (c.event e).1 w':=by
 obtain ⟨W,hW⟩:∃ W,w.alloc (.cells #[.int .i64 e.kind,.int .i64 e.n,.slice eo el ec] 48)=W:=⟨_,rfl⟩
 have h0:=St1.begin h hW
 have c0:W.cell? ⟨w.heap.size,0,none⟩=some (.int .i64 e.kind):=cell_of h0.b0 rfl
 have c1:W.cell? ⟨w.heap.size,1,none⟩=some (.int .i64 e.n):=cell_of h0.b0 rfl
 have H0:=hide h0
 obtain ⟨hB,hC,s,hR⟩:=hg
 have hul:us.length=c.peers.length:=by rw [←h.peers,List.length_map]
 have hcap:=h.cap
 unfold maxLen at hcap
 have d0:W.cell? ⟨d,0,none⟩=some (.slice (some ⟨P,0,none⟩) us.length pc):=cell_of h0.run.blk rfl
 have k1:(e.kind == 1)=false:=by rw [hkd];decide
 have k2:(e.kind == 2)=false:=by rw [hkd];decide
 have k3:(e.kind == 3)=false:=by rw [hkd];decide
 have k4:(e.kind == 4)=false:=by rw [hkd];decide
 have k5:(e.kind == 5)=false:=by rw [hkd];decide
 have k6:(e.kind == 6)=true:=by rw [hkd];decide
 have k7:(e.kind == 7)=false:=by rw [hkd];decide
 have kt:(false == false)=true:=rfl
 have kf:(true == false)=false:=rfl
 have kg:(false == true)=false:=rfl
 have kh:(true == true)=true:=rfl
 by_cases hneg:e.n<0
 ·have HE:Hid ((c.event e).2=6∧(c.event e).1=c):=by
   unfold Cl.event
   rw [if_neg (by omega),if_pos (by omega),if_pos (by exact .inl hneg)]
   exact ⟨rfl,rfl⟩
  rw [HE.out.1,HE.out.2]
  clear h h0 hkd HE hul
  go_enter Tryz.func18,Tryz.ntmps18
  go_wp2
  (try rw [hW])
  clear hW
  go_quiet (fail)
  obtain ⟨W1,hW1,bW1,sW1⟩:=fold_dn W nq
  (try rw [hW1])
  have H1:=hide (H0.out.below bW1)
  clear hW1 bW1 H0
  go_wp2
  go_ret
  exact ⟨rfl,H1.out.sd⟩
 ·by_cases hbig:(us.length:Int)≤e.n
  ·have HE:Hid ((c.event e).2=6∧(c.event e).1=c):=by
    unfold Cl.event
    rw [if_neg (by omega),if_pos (by omega),if_pos (by exact .inr (by omega))]
    exact ⟨rfl,rfl⟩
   rw [HE.out.1,HE.out.2]
   clear h h0 hkd HE hul
   go_enter Tryz.func18,Tryz.ntmps18
   go_wp2
   (try rw [hW])
   clear hW
   go_quiet (fail)
   obtain ⟨W1,hW1,bW1,sW1⟩:=fold_dn W nq
   (try rw [hW1])
   have H1:=hide (H0.out.below bW1)
   clear hW1 bW1 H0
   go_wp2
   go_ret
   exact ⟨rfl,H1.out.sd⟩
  ·obtain ⟨i,hi⟩:∃ i:Nat,e.n=(i:Int):=⟨e.n.toNat,by omega⟩
   have hil:i<us.length:=by omega
   obtain ⟨x,hk⟩:∃ x,us[i]?=some x:=⟨_,List.getElem?_eq_getElem hil⟩
   have hat:=(sdown.Run.at h hk).1
   have hin:i<n:=by rw [←hR.len,←hul];exact hil
   have p0:=(h0.run.peerCell hk (j:=0) (v:=.bool x.p.up) rfl).1
   rw [Nat.add_zero] at p0
   have nb:¬ (i:Int)<0:=by omega
   have hilI:¬ (us.length:Int)≤i:=by omega
   have hilJ:(i:Int)<us.length:=by omega
   rw [hi] at c1 hneg hbig
   cases hup:x.p.up with
   | true =>
    have hev:c.event e=(c,15):=by
     unfold Cl.event
     rw [if_neg (by omega),if_pos (by omega),if_neg (by rw [hi];omega),hi,Int.toNat_natCast]
     dsimp only
     rw [hat,hup,if_pos (by rw [hkd];rfl)]
    rw [hev]
    rw [hup] at p0
    clear h h0 hkd hk hat hul hi hB hC hR hev hup
    go_enter Tryz.func18,Tryz.ntmps18
    go_wp2
    (try rw [hW])
    clear hW
    go_quiet (fail)
    obtain ⟨W1,hW1,bW1,sW1⟩:=fold_dn W nq
    (try rw [hW1])
    have H1:=hide (H0.out.below bW1)
    have c0:=kept_cell bW1 c0
    have c1:=kept_cell bW1 c1
    have d0:=kept_cell bW1 d0
    have p0:=kept_cell bW1 p0
    clear hW1 bW1 H0 sW1
    go_wp2
    go_quiet (fail)
    obtain ⟨W2,hW2,bW2,sW2⟩:=fold_dn W1 nq
    (try rw [hW2])
    have H2:=hide (H1.out.below bW2)
    have c0:=kept_cell bW2 c0
    have c1:=kept_cell bW2 c1
    have d0:=kept_cell bW2 d0
    have p0:=kept_cell bW2 p0
    clear hW2 bW2 H1 sW2
    go_wp2
    go_quiet (fail)
    obtain ⟨W3,hW3,bW3,sW3⟩:=fold_dn W2 nq
    (try rw [hW3])
    have H3:=hide (H2.out.below bW3)
    have c0:=kept_cell bW3 c0
    have c1:=kept_cell bW3 c1
    have d0:=kept_cell bW3 d0
    have p0:=kept_cell bW3 p0
    clear hW3 bW3 H2 sW3
    go_wp2
    go_ret
    exact ⟨rfl,H3.out.sd⟩
   | false =>
    rw [hup] at p0
    have hev:c.event e=(c.put i { x.p with up:=true },0):=by
     unfold Cl.event
     rw [if_neg (by omega),if_pos (by omega),if_neg (by rw [hi];omega),hi,Int.toNat_natCast]
     dsimp only
     rw [hat,hup,if_neg (by rw [hkd];decide),if_neg (by omega),if_neg (by omega),if_pos hkd]
    rw [hev]
    have HUp:Hid (∀ wx,St1 F w M base d P pc 48 #[.int .i64 e.kind,.int .i64 e.n,.slice eo el ec] c us ns nv cs cv M wx→wx.frozen? ⟨P,i*9,none⟩=false∧SD F w M base d P pc (c.put i { x.p with up:=true }) (wx.setCell ⟨P,i*9,none⟩ (.bool true))):=fun wx hw=>by
     have q:=hw.run.peerCell hk (j:=0) (v:=.bool x.p.up) rfl
     rw [Nat.add_zero] at q
     refine ⟨q.2,?_⟩
     have h5:=hw.peer { x.p with up:=true } hk (j:=0) (v:=.bool true) (by decide) rfl rfl rfl rfl rfl
     rw [Nat.add_zero] at h5
     exact h5.sd
    clear h h0 hkd hk hat hul hi hB hC hR hev hup
    go_enter Tryz.func18,Tryz.ntmps18
    go_wp2
    (try rw [hW])
    clear hW
    go_quiet (fail)
    obtain ⟨W1,hW1,bW1,sW1⟩:=fold_dn W nq
    (try rw [hW1])
    have H1:=hide (H0.out.below bW1)
    have c0:=kept_cell bW1 c0
    have c1:=kept_cell bW1 c1
    have d0:=kept_cell bW1 d0
    have p0:=kept_cell bW1 p0
    clear hW1 bW1 H0 sW1
    go_wp2
    go_quiet (fail)
    obtain ⟨W2,hW2,bW2,sW2⟩:=fold_dn W1 nq
    (try rw [hW2])
    have H2:=hide (H1.out.below bW2)
    have c0:=kept_cell bW2 c0
    have c1:=kept_cell bW2 c1
    have d0:=kept_cell bW2 d0
    have p0:=kept_cell bW2 p0
    clear hW2 bW2 H1 sW2
    go_wp2
    go_quiet (fail)
    obtain ⟨W3,hW3,bW3,sW3⟩:=fold_dn W2 nq
    (try rw [hW3])
    have H3:=hide (H2.out.below bW3)
    have c0:=kept_cell bW3 c0
    have c1:=kept_cell bW3 c1
    have d0:=kept_cell bW3 d0
    have p0:=kept_cell bW3 p0
    clear hW3 bW3 H2 sW3
    obtain ⟨f0,hz⟩:=HUp.out W3 H3.out
    have HZ:=hide hz
    clear H3 HUp d0 hz
    go_wp2
    go_ret
    exact ⟨rfl,HZ.out⟩
set_option maxRecDepth 20000 in
set_option maxHeartbeats 2000000 in
theorem event_5 (w:World) (M:Fz) (base d P pc:Nat) (c:Cl) (us:List PV) (ns:List MV) (nv:Value) (cs:List RV) (cv:Value) (h:Run (TS F) w M base d P pc c us ns nv cs cv) (e:Ev) (eo:Option Addr) (el ec:Nat) (hkd:e.kind=5) (n:Nat) (h1:1≤n) (h7:n≤7) (hg:Raft.Good n c) :
  Calls Tryz.prog 18 #[.pointer (some ⟨d,0,none⟩),.agg #[.int .i64 e.kind,.int .i64 e.n,.slice eo el ec]] w fun r w'=>r=.returned (.int .i64 (c.event e).2)∧SD F w M base d P pc (c.event e).1 w':=by
 obtain ⟨W,hW⟩:∃ W,w.alloc (.cells #[.int .i64 e.kind,.int .i64 e.n,.slice eo el ec] 48)=W:=⟨_,rfl⟩
 have h0:=St1.begin h hW
 have c0:W.cell? ⟨w.heap.size,0,none⟩=some (.int .i64 e.kind):=cell_of h0.b0 rfl
 have c1:W.cell? ⟨w.heap.size,1,none⟩=some (.int .i64 e.n):=cell_of h0.b0 rfl
 have H0:=hide h0
 obtain ⟨hB,hC,s,hR⟩:=hg
 have hul:us.length=c.peers.length:=by rw [←h.peers,List.length_map]
 have hcap:=h.cap
 unfold maxLen at hcap
 have d0:W.cell? ⟨d,0,none⟩=some (.slice (some ⟨P,0,none⟩) us.length pc):=cell_of h0.run.blk rfl
 have k1:(e.kind == 1)=false:=by rw [hkd];decide
 have k2:(e.kind == 2)=false:=by rw [hkd];decide
 have k3:(e.kind == 3)=false:=by rw [hkd];decide
 have k4:(e.kind == 4)=false:=by rw [hkd];decide
 have k5:(e.kind == 5)=true:=by rw [hkd];decide
 have k6:(e.kind == 6)=false:=by rw [hkd];decide
 have k7:(e.kind == 7)=false:=by rw [hkd];decide
 have kt:(false == false)=true:=rfl
 have kf:(true == false)=false:=rfl
 have kg:(false == true)=false:=rfl
 have kh:(true == true)=true:=rfl
 by_cases hneg:e.n<0
 ·have HE:Hid ((c.event e).2=6∧(c.event e).1=c):=by
   unfold Cl.event
   rw [if_neg (by omega),if_pos (by omega),if_pos (by exact .inl hneg)]
   exact ⟨rfl,rfl⟩
  rw [HE.out.1,HE.out.2]
  clear h h0 hkd HE hul
  go_enter Tryz.func18,Tryz.ntmps18
  go_wp2
  (try rw [hW])
  clear hW
  go_quiet (fail)
  obtain ⟨W1,hW1,bW1,sW1⟩:=fold_dn W nq
  (try rw [hW1])
  have H1:=hide (H0.out.below bW1)
  clear hW1 bW1 H0
  go_wp2
  go_ret
  exact ⟨rfl,H1.out.sd⟩
 ·by_cases hbig:(us.length:Int)≤e.n
  ·have HE:Hid ((c.event e).2=6∧(c.event e).1=c):=by
    unfold Cl.event
    rw [if_neg (by omega),if_pos (by omega),if_pos (by exact .inr (by omega))]
    exact ⟨rfl,rfl⟩
   rw [HE.out.1,HE.out.2]
   clear h h0 hkd HE hul
   go_enter Tryz.func18,Tryz.ntmps18
   go_wp2
   (try rw [hW])
   clear hW
   go_quiet (fail)
   obtain ⟨W1,hW1,bW1,sW1⟩:=fold_dn W nq
   (try rw [hW1])
   have H1:=hide (H0.out.below bW1)
   clear hW1 bW1 H0
   go_wp2
   go_ret
   exact ⟨rfl,H1.out.sd⟩
  ·obtain ⟨i,hi⟩:∃ i:Nat,e.n=(i:Int):=⟨e.n.toNat,by omega⟩
   have hil:i<us.length:=by omega
   obtain ⟨x,hk⟩:∃ x,us[i]?=some x:=⟨_,List.getElem?_eq_getElem hil⟩
   have hat:=(sdown.Run.at h hk).1
   have hin:i<n:=by rw [←hR.len,←hul];exact hil
   have p0:=(h0.run.peerCell hk (j:=0) (v:=.bool x.p.up) rfl).1
   rw [Nat.add_zero] at p0
   have nb:¬ (i:Int)<0:=by omega
   have hilI:¬ (us.length:Int)≤i:=by omega
   have hilJ:(i:Int)<us.length:=by omega
   rw [hi] at c1 hneg hbig
   cases hup:x.p.up with
   | false =>
    have hev:c.event e=(c,15):=by
     unfold Cl.event
     rw [if_neg (by omega),if_pos (by omega),if_neg (by rw [hi];omega),hi,Int.toNat_natCast]
     dsimp only
     rw [hat,hup,if_pos (by rw [hkd];rfl)]
    rw [hev]
    rw [hup] at p0
    clear h h0 hkd hk hat hul hi hB hC hR hev hup
    go_enter Tryz.func18,Tryz.ntmps18
    go_wp2
    (try rw [hW])
    clear hW
    go_quiet (fail)
    obtain ⟨W1,hW1,bW1,sW1⟩:=fold_dn W nq
    (try rw [hW1])
    have H1:=hide (H0.out.below bW1)
    have c0:=kept_cell bW1 c0
    have c1:=kept_cell bW1 c1
    have d0:=kept_cell bW1 d0
    have p0:=kept_cell bW1 p0
    clear hW1 bW1 H0 sW1
    go_wp2
    go_quiet (fail)
    obtain ⟨W2,hW2,bW2,sW2⟩:=fold_dn W1 nq
    (try rw [hW2])
    have H2:=hide (H1.out.below bW2)
    have c0:=kept_cell bW2 c0
    have c1:=kept_cell bW2 c1
    have d0:=kept_cell bW2 d0
    have p0:=kept_cell bW2 p0
    clear hW2 bW2 H1 sW2
    go_wp2
    go_quiet (fail)
    obtain ⟨W3,hW3,bW3,sW3⟩:=fold_dn W2 nq
    (try rw [hW3])
    have H3:=hide (H2.out.below bW3)
    have c0:=kept_cell bW3 c0
    have c1:=kept_cell bW3 c1
    have d0:=kept_cell bW3 d0
    have p0:=kept_cell bW3 p0
    clear hW3 bW3 H2 sW3
    go_wp2
    go_ret
    exact ⟨rfl,H3.out.sd⟩
   | true =>
    rw [hup] at p0
    have hev:c.event e=(c.put i (crashP x.p),0):=by
     unfold Cl.event
     rw [if_neg (by omega),if_pos (by omega),if_neg (by rw [hi];omega),hi,Int.toNat_natCast]
     dsimp only
     rw [hat,hup,if_neg (by rw [hkd];decide),if_neg (by omega),if_pos hkd]
     rfl
    rw [hev]
    have hxm:x∈us:=List.mem_iff_getElem?.2 ⟨i,hk⟩
    obtain ⟨lo,lc,elv⟩:=recsM_slice (h.logs x hxm)
    obtain ⟨L,eL⟩:∃ L,x.p.log.length=L:=⟨_,rfl⟩
    rw [eL] at elv
    have HCr:Hid (∀ wx,St1 F w M base d P pc 48 #[.int .i64 e.kind,.int .i64 e.n,.slice eo el ec] c us ns nv cs cv M wx→((∀ j v,(peerCells x)[j]?=some v→wx.cell? ⟨P,i*9+j,none⟩=some v∧wx.frozen? ⟨P,i*9+j,none⟩=false))∧∀ W5,(((((((((wx.setCell ⟨P,i*9,none⟩ (.bool false)).setCell ⟨P,i*9+1,none⟩ (.int .i64 x.p.term)).setCell ⟨P,i*9+2,none⟩ (.int .i64 x.p.vote)).setCell ⟨P,i*9+3,none⟩ (.int .i64 0)).setCell ⟨P,i*9+4,none⟩ (.int .i64 0)).setCell ⟨P,i*9+5,none⟩ (.slice lo L lc)).setCell ⟨P,i*9+6,none⟩ (.slice none 0 0)).setCell ⟨P,i*9+7,none⟩ (.slice none 0 0)).setCell ⟨P,i*9+8,none⟩ (.slice none 0 0)).drew=W5→SD F w M base d P pc (c.put i (crashP x.p)) W5):=fun wx hw=>by
     refine ⟨fun j v hj=>hw.run.peerCell hk hj,fun W5 e5 => ?_⟩
     have h9:=Run.crash hw.run hk
     rw [elv,Nat.add_zero] at h9
     have hb:=hw.run.low.2
     have h10:=(h9.below (Below.refl _ _).drew)
     rw [e5] at h10
     refine ⟨M,_,ns,nv,cs,cv,hw.le,?_,h10,hw.dom⟩
     rw [←e5]
     exact (((((((((hw.bel.setCell hb _).setCell hb _).setCell hb _).setCell hb _).setCell hb _).setCell hb _).setCell hb _).setCell hb _).setCell hb _).drew
    clear h h0 hkd hk hat hul hi hB hC hR hev hup hxm eL
    go_enter Tryz.func18,Tryz.ntmps18
    go_wp2
    (try rw [hW])
    clear hW
    go_quiet (fail)
    obtain ⟨W1,hW1,bW1,sW1⟩:=fold_dn W nq
    (try rw [hW1])
    have H1:=hide (H0.out.below bW1)
    have c0:=kept_cell bW1 c0
    have c1:=kept_cell bW1 c1
    have d0:=kept_cell bW1 d0
    have p0:=kept_cell bW1 p0
    clear hW1 bW1 H0 sW1
    go_wp2
    go_quiet (fail)
    obtain ⟨W2,hW2,bW2,sW2⟩:=fold_dn W1 nq
    (try rw [hW2])
    have H2:=hide (H1.out.below bW2)
    have c0:=kept_cell bW2 c0
    have c1:=kept_cell bW2 c1
    have d0:=kept_cell bW2 d0
    have p0:=kept_cell bW2 p0
    clear hW2 bW2 H1 sW2
    go_wp2
    go_quiet (fail)
    obtain ⟨W3,hW3,bW3,sW3⟩:=fold_dn W2 nq
    (try rw [hW3])
    have H3:=hide (H2.out.below bW3)
    have c0:=kept_cell bW3 c0
    have c1:=kept_cell bW3 c1
    have d0:=kept_cell bW3 d0
    have p0:=kept_cell bW3 p0
    clear hW3 bW3 H2 sW3
    obtain ⟨hq,hz⟩:=HCr.out W3 H3.out
    have HZ:=hide hz
    have q0:=(hq 0 _ rfl).1
    have f0:=(hq 0 _ rfl).2
    rw [Nat.add_zero] at q0 f0
    obtain ⟨q1,f1⟩:=hq 1 _ rfl
    obtain ⟨q2,f2⟩:=hq 2 _ rfl
    obtain ⟨q3,f3⟩:=hq 3 _ rfl
    obtain ⟨q4,f4⟩:=hq 4 _ rfl
    obtain ⟨q5,f5⟩:=hq 5 x.lv rfl
    rw [elv] at q5
    obtain ⟨q6,f6⟩:=hq 6 x.vv rfl
    obtain ⟨q7,f7⟩:=hq 7 x.nv rfl
    obtain ⟨q8,f8⟩:=hq 8 x.mv rfl
    clear H3 HCr hq hz elv p0
    go_wp2
    go_region
    generalize hW5:World.drew (World.setCell _ _ _)=W5
    have HF:=hide (HZ.out W5 hW5)
    clear hW5 HZ
    go_wp2
    go_ret
    exact ⟨rfl,HF.out⟩
end Go.Proofs.YtcfdmbkiinjmaaaGreat.sev2
