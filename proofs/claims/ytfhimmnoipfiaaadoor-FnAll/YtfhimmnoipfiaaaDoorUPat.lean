import Derived.Test.YtfhimmnoipfiaaaDoorUPes
import Derived.Test.YtfhimmnoipfiaaaDoorUPbk
import Derived.Deep.QuietTactic
import Derived.BigQuiet
namespace Go.Proofs.YtfhimmnoipfiaaaDoor.eng
open Go.ChangeShapes Go.WideShapes Go.ChangeAt Go.RowKit
open bytes places sets tz rex
set_option linter.unusedVariables false
set_option maxRecDepth 10000 in
set_option maxHeartbeats 16000000 in
theorem atom_ere (n:Nat) (hw:WholeOf n) (p:Pq) (b:Nat) (W:World) (h:PB p b W) (hk:Okp p) (hc:p.code=0) (he:p.ere=true) (hl:p.at_<p.ts.length) (hn':p.ts.length-p.at_≤n+1) (first:Bool) :
  Calls Tryd.prog 83 #[.pointer (some ⟨b,0,none⟩),.bool first] W (TrR 1 p b W):=by
 obtain ⟨W1,hW1,hbox⟩:=box_new W
 obtain ⟨hBx,hRZ⟩:=hbox b h.lt
 have HBX:=hide hBx
 have HRZ:=hide hRZ
 have rd0:Hid (Rd b W1 p W1):=hide (Rd.refl (h.below hBx.bel))
 have HOK:=hide hk
 have HC0:=hide hc
 have hL9:Hid (p.ts.length≤200∧p.at_<p.ts.length∧p.open_≤p.at_∧p.groups≤p.at_):=hide ⟨hk.len,hl,hk.op,hk.gr⟩
 have HER:=hide he
 obtain ⟨y0,y1,y2,y3,y5,y6,yf1,yf5,yf6⟩:=rd0.out.can
 rw [he] at y2
 have hS:=strOfNums_size p.ts
 obtain ⟨q1,hq1⟩:∃ q1:Pq,q1={ p with at_:=p.at_+1 }:=⟨_,rfl⟩
 obtain ⟨k2,hk2⟩:∃ k2,k2=p.at_+2:=⟨_,rfl⟩
 obtain ⟨k3,hk3⟩:∃ k3,k3=p.at_+3:=⟨_,rfl⟩
 have hw1:IntKind.i64.wrap ((p.at_:Int)+1)=(q1.at_:Int):=by rw [IntKind.wrap_i64,hq1];show _=((p.at_+1:Nat):Int);have:=hL9.out;omega
 have hw2:IntKind.i64.wrap ((p.at_:Int)+2)=(k2:Int):=by rw [IntKind.wrap_i64];have:=hL9.out;omega
 have hw3:IntKind.i64.wrap ((p.at_:Int)+3)=(k3:Int):=by rw [IntKind.wrap_i64];have:=hL9.out;omega
 have hix:=index_text p.ts hk.bytes p.at_ hl
 have i0:(p.at_:Int)<(p.ts.length:Int):=by omega
 have HCB:=hide (getD_bd hk.bytes p.at_)
 have HDr:Hid (∀ m,Rd b W1 p (W1.drewN m)):=hide fun m=>rd0.out.drawn ⟨m,rfl⟩
 have HSS:Hid (∀ m,Rd b W1 q1 ((W1.drewN m).setCell ⟨b,1,none⟩ (.int .i64 (q1.at_:Int)))):=hide fun m=>by
  rw [hq1]
  exact ⟨((rd0.out.drawn ⟨m,rfl⟩).pb).setAt (p.at_+1),(rd0.out.drawn ⟨m,rfl⟩).pg.tr (PG.set 1 _)⟩
 have HNX:Hid (Nx p q1):=hide (by rw [hq1];exact Nx.at p (Nat.le_succ _))
 have HGR:Hid (q1.groups=p.groups):=hide (by rw [hq1])
 have HAT:Hid (p.at_+1≤q1.at_∧q1.at_≤p.ts.length):=hide (by rw [hq1];exact ⟨Nat.le_refl _,hl⟩)
 have HQ1:Hid (q1.at_=p.at_+1):=hide (by rw [hq1])
 have HK2:=hide hk2
 have HK3:=hide hk3
 generalize p.ts.getD p.at_ 0=c at hix HCB
 generalize strOfNums p.ts=T at *
 clear hbox hBx hRZ h hk he hq1 hk2 hk3 hc hl
 by_cases h92:c=92
 ·have t92:(c == 92)=true:=by simp [h92]
  have t92':decide (c=92)=true:=decide_eq_true h92
  have HG:Hid (∀ m,Calls Tryd.prog 93 #[.pointer (some ⟨b,0,none⟩)] (W1.drewN m) (TrR 1 p b (W1.drewN m))):=hide fun m=>escape_ere n hw p b (W1.drewN m) (HDr.out m).pb HOK.out HC0.out HER.out hL9.out.2.1 hn'
  go_enter Tryd.func83,Tryd.ntmps83
  (try rw [hW1])
  go_wp2
  go_quiet (fail)
  go_wp2_with fail
  refine (HG.out _).mono ?_
  rintro e wg ⟨kind,n9,m9,ss,o,ln,cp,qg,rfl,tg'⟩
  have tg:=hide (tg'.from_ (HDr.out _))
  clear tg' HG
  have xr:=HRZ.out _ tg.out.rd.pg
  obtain ⟨r0',r1',r2',r3',r4'⟩:=cells5c xr
  have z0:=fz5c xr 0
  have z1:=fz5c xr 1
  have z2:=fz5c xr 2
  have z3:=fz5c xr 3
  have z4:=fz5c xr 4
  have HE:Hid ((set5 wg W.heap.size (.int .i64 kind) (.int .i64 n9) (.int .i64 m9) (.string ss) (.slice o ln cp)).heap[W.heap.size]?=some (.cells #[.int .i64 kind,.int .i64 n9,.int .i64 m9,.string ss,.slice o ln cp] 25 (0,0))∧TrP 1 p b W #[.int .i64 kind,.int .i64 n9,.int .i64 m9,.string ss,.slice o ln cp] qg (set5 wg W.heap.size (.int .i64 kind) (.int .i64 n9) (.int .i64 m9) (.string ss) (.slice o ln cp))):=hide ⟨set5_at xr trivial (.int .i64 kind) (.int .i64 n9) (.int .i64 m9) (.string ss) (.slice o ln cp),tg.out.up HBX.out _ _ _ _ _⟩
  unfold set5 at HE
  clear xr
  go_wp2
  generalize (((((wg.setCell ⟨W.heap.size,0,none⟩ (.int .i64 kind)).setCell ⟨W.heap.size,1,none⟩ (.int .i64 n9)).setCell ⟨W.heap.size,2,none⟩ (.int .i64 m9)).setCell ⟨W.heap.size,3,none⟩ (.string ss)).setCell ⟨W.heap.size,4,none⟩ (.slice o ln cp))=Wf at HE ⊢
  obtain ⟨u0,u1,u2,u3,u4⟩:=cells5c HE.out.1
  refine bodyPost_ret (v:=.agg #[.int .i64 kind,.int .i64 n9,.int .i64 m9,.string ss,.slice o ln cp]) ?_ rfl ⟨_,_,_,_,_,_,_,qg,rfl,HE.out.2⟩
  simp [results,Tryd.results83,go_sem,u0,u1,u2,u3,u4]
 ·have f92:(c == 92)=false:=by rw [beq_eq_false_iff_ne];exact h92
  have f92':decide (c=92)=false:=decide_eq_false (h92)
  by_cases h91:c=91
  ·have t91:(c == 91)=true:=by simp [h91]
   have t91':decide (c=91)=true:=decide_eq_true h91
   have HG:Hid (∀ m,Calls Tryd.prog 94 #[.pointer (some ⟨b,0,none⟩)] (W1.drewN m) (TrR 1 p b (W1.drewN m))):=hide fun m=>bracket_any p b (W1.drewN m) (HDr.out m).pb HOK.out HC0.out hL9.out.2.1
   go_enter Tryd.func83,Tryd.ntmps83
   (try rw [hW1])
   go_wp2
   go_quiet (fail)
   go_wp2_with fail
   refine (HG.out _).mono ?_
   rintro e wg ⟨kind,n9,m9,ss,o,ln,cp,qg,rfl,tg'⟩
   have tg:=hide (tg'.from_ (HDr.out _))
   clear tg' HG
   have xr:=HRZ.out _ tg.out.rd.pg
   obtain ⟨r0',r1',r2',r3',r4'⟩:=cells5c xr
   have z0:=fz5c xr 0
   have z1:=fz5c xr 1
   have z2:=fz5c xr 2
   have z3:=fz5c xr 3
   have z4:=fz5c xr 4
   have HE:Hid ((set5 wg W.heap.size (.int .i64 kind) (.int .i64 n9) (.int .i64 m9) (.string ss) (.slice o ln cp)).heap[W.heap.size]?=some (.cells #[.int .i64 kind,.int .i64 n9,.int .i64 m9,.string ss,.slice o ln cp] 25 (0,0))∧TrP 1 p b W #[.int .i64 kind,.int .i64 n9,.int .i64 m9,.string ss,.slice o ln cp] qg (set5 wg W.heap.size (.int .i64 kind) (.int .i64 n9) (.int .i64 m9) (.string ss) (.slice o ln cp))):=hide ⟨set5_at xr trivial (.int .i64 kind) (.int .i64 n9) (.int .i64 m9) (.string ss) (.slice o ln cp),tg.out.up HBX.out _ _ _ _ _⟩
   unfold set5 at HE
   clear xr
   go_wp2
   generalize (((((wg.setCell ⟨W.heap.size,0,none⟩ (.int .i64 kind)).setCell ⟨W.heap.size,1,none⟩ (.int .i64 n9)).setCell ⟨W.heap.size,2,none⟩ (.int .i64 m9)).setCell ⟨W.heap.size,3,none⟩ (.string ss)).setCell ⟨W.heap.size,4,none⟩ (.slice o ln cp))=Wf at HE ⊢
   obtain ⟨u0,u1,u2,u3,u4⟩:=cells5c HE.out.1
   refine bodyPost_ret (v:=.agg #[.int .i64 kind,.int .i64 n9,.int .i64 m9,.string ss,.slice o ln cp]) ?_ rfl ⟨_,_,_,_,_,_,_,qg,rfl,HE.out.2⟩
   simp [results,Tryd.results83,go_sem,u0,u1,u2,u3,u4]
  ·have f91:(c == 91)=false:=by rw [beq_eq_false_iff_ne];exact h91
   have f91':decide (c=91)=false:=decide_eq_false (h91)
   by_cases h46:c=46
   ·have t46:(c == 46)=true:=by simp [h46]
    have t46':decide (c=46)=true:=decide_eq_true h46
    have HND:Hid (∀ m,Calls Tryd.prog 44 #[.int .i64 2,.int .i64 0,.int .i64 0,.slice none 0 0] ((W1.drewN m).setCell ⟨b,1,none⟩ (.int .i64 (q1.at_:Int))) fun e w'=>e=.returned (.agg (rxV 2 0 0 mt0 (.slice none 0 0)))∧Rd b W1 q1 w'):=hide fun m=>(node_any _ 2 0 0 none 0 0).mono fun e w' ⟨h1,h2⟩=>⟨h1,(HSS.out m).below h2⟩
    go_enter Tryd.func83,Tryd.ntmps83
    (try rw [hW1])
    go_wp2
    go_quiet (fail)
    go_wp2_with fail
    refine (HND.out _).mono ?_
    rintro e wn ⟨rfl,rn'⟩
    have rn:=hide rn'
    unfold rxV
    clear rn' HND
    have xr:=HRZ.out _ rn.out.pg
    obtain ⟨r0',r1',r2',r3',r4'⟩:=cells5c xr
    have z0:=fz5c xr 0
    have z1:=fz5c xr 1
    have z2:=fz5c xr 2
    have z3:=fz5c xr 3
    have z4:=fz5c xr 4
    have HE:Hid ((set5 wn W.heap.size (.int .i64 2) (.int .i64 0) (.int .i64 0) (.string mt0) (.slice none 0 0)).heap[W.heap.size]?=some (.cells #[.int .i64 2,.int .i64 0,.int .i64 0,.string mt0,.slice none 0 0] 25 (0,0))∧TrP 1 p b W #[.int .i64 2,.int .i64 0,.int .i64 0,.string mt0,.slice none 0 0] q1 (set5 wn W.heap.size (.int .i64 2) (.int .i64 0) (.int .i64 0) (.string mt0) (.slice none 0 0))):=hide ⟨set5_at xr trivial (.int .i64 2) (.int .i64 0) (.int .i64 0) (.string mt0) (.slice none 0 0),(TrP.leaf (s:=1) (p:=p) (W:=W1) (cs:=rxV 2 0 0 mt0 nilV) (q:=q1) rn.out HNX.out HGR.out HAT.out.1 HAT.out.2 HOK.out (TreeAt.any _ _ _)).up HBX.out _ _ _ _ _⟩
    unfold set5 at HE
    clear xr
    go_wp2
    generalize (((((wn.setCell ⟨W.heap.size,0,none⟩ (.int .i64 2)).setCell ⟨W.heap.size,1,none⟩ (.int .i64 0)).setCell ⟨W.heap.size,2,none⟩ (.int .i64 0)).setCell ⟨W.heap.size,3,none⟩ (.string mt0)).setCell ⟨W.heap.size,4,none⟩ (.slice none 0 0))=Wf at HE ⊢
    obtain ⟨u0,u1,u2,u3,u4⟩:=cells5c HE.out.1
    refine bodyPost_ret (v:=.agg #[.int .i64 2,.int .i64 0,.int .i64 0,.string mt0,.slice none 0 0]) ?_ rfl ⟨_,_,_,_,_,_,_,q1,rfl,HE.out.2⟩
    simp [results,Tryd.results83,go_sem,u0,u1,u2,u3,u4]
   ·have f46:(c == 46)=false:=by rw [beq_eq_false_iff_ne];exact h46
    have f46':decide (c=46)=false:=decide_eq_false (h46)
    by_cases h94:c=94
    ·have t94:(c == 94)=true:=by simp [h94]
     have t94':decide (c=94)=true:=decide_eq_true h94
     have HND:Hid (∀ m,Calls Tryd.prog 44 #[.int .i64 4,.int .i64 0,.int .i64 0,.slice none 0 0] ((W1.drewN m).setCell ⟨b,1,none⟩ (.int .i64 (q1.at_:Int))) fun e w'=>e=.returned (.agg (rxV 4 0 0 mt0 (.slice none 0 0)))∧Rd b W1 q1 w'):=hide fun m=>(node_any _ 4 0 0 none 0 0).mono fun e w' ⟨h1,h2⟩=>⟨h1,(HSS.out m).below h2⟩
     go_enter Tryd.func83,Tryd.ntmps83
     (try rw [hW1])
     go_wp2
     go_quiet (fail)
     go_wp2_with fail
     refine (HND.out _).mono ?_
     rintro e wn ⟨rfl,rn'⟩
     have rn:=hide rn'
     unfold rxV
     clear rn' HND
     have xr:=HRZ.out _ rn.out.pg
     obtain ⟨r0',r1',r2',r3',r4'⟩:=cells5c xr
     have z0:=fz5c xr 0
     have z1:=fz5c xr 1
     have z2:=fz5c xr 2
     have z3:=fz5c xr 3
     have z4:=fz5c xr 4
     have HE:Hid ((set5 wn W.heap.size (.int .i64 4) (.int .i64 0) (.int .i64 0) (.string mt0) (.slice none 0 0)).heap[W.heap.size]?=some (.cells #[.int .i64 4,.int .i64 0,.int .i64 0,.string mt0,.slice none 0 0] 25 (0,0))∧TrP 1 p b W #[.int .i64 4,.int .i64 0,.int .i64 0,.string mt0,.slice none 0 0] q1 (set5 wn W.heap.size (.int .i64 4) (.int .i64 0) (.int .i64 0) (.string mt0) (.slice none 0 0))):=hide ⟨set5_at xr trivial (.int .i64 4) (.int .i64 0) (.int .i64 0) (.string mt0) (.slice none 0 0),(TrP.leaf (s:=1) (p:=p) (W:=W1) (cs:=rxV 4 0 0 mt0 nilV) (q:=q1) rn.out HNX.out HGR.out HAT.out.1 HAT.out.2 HOK.out (TreeAt.beg _ _ _)).up HBX.out _ _ _ _ _⟩
     unfold set5 at HE
     clear xr
     go_wp2
     generalize (((((wn.setCell ⟨W.heap.size,0,none⟩ (.int .i64 4)).setCell ⟨W.heap.size,1,none⟩ (.int .i64 0)).setCell ⟨W.heap.size,2,none⟩ (.int .i64 0)).setCell ⟨W.heap.size,3,none⟩ (.string mt0)).setCell ⟨W.heap.size,4,none⟩ (.slice none 0 0))=Wf at HE ⊢
     obtain ⟨u0,u1,u2,u3,u4⟩:=cells5c HE.out.1
     refine bodyPost_ret (v:=.agg #[.int .i64 4,.int .i64 0,.int .i64 0,.string mt0,.slice none 0 0]) ?_ rfl ⟨_,_,_,_,_,_,_,q1,rfl,HE.out.2⟩
     simp [results,Tryd.results83,go_sem,u0,u1,u2,u3,u4]
    ·have f94:(c == 94)=false:=by rw [beq_eq_false_iff_ne];exact h94
     have f94':decide (c=94)=false:=decide_eq_false (h94)
     by_cases h36:c=36
     ·have t36:(c == 36)=true:=by simp [h36]
      have t36':decide (c=36)=true:=decide_eq_true h36
      have HND:Hid (∀ m,Calls Tryd.prog 44 #[.int .i64 5,.int .i64 0,.int .i64 0,.slice none 0 0] ((W1.drewN m).setCell ⟨b,1,none⟩ (.int .i64 (q1.at_:Int))) fun e w'=>e=.returned (.agg (rxV 5 0 0 mt0 (.slice none 0 0)))∧Rd b W1 q1 w'):=hide fun m=>(node_any _ 5 0 0 none 0 0).mono fun e w' ⟨h1,h2⟩=>⟨h1,(HSS.out m).below h2⟩
      go_enter Tryd.func83,Tryd.ntmps83
      (try rw [hW1])
      go_wp2
      go_quiet (fail)
      go_wp2
      go_quiet (fail)
      go_wp2_with fail
      refine (HND.out _).mono ?_
      rintro e wn ⟨rfl,rn'⟩
      have rn:=hide rn'
      unfold rxV
      clear rn' HND
      have xr:=HRZ.out _ rn.out.pg
      obtain ⟨r0',r1',r2',r3',r4'⟩:=cells5c xr
      have z0:=fz5c xr 0
      have z1:=fz5c xr 1
      have z2:=fz5c xr 2
      have z3:=fz5c xr 3
      have z4:=fz5c xr 4
      have HE:Hid ((set5 wn W.heap.size (.int .i64 5) (.int .i64 0) (.int .i64 0) (.string mt0) (.slice none 0 0)).heap[W.heap.size]?=some (.cells #[.int .i64 5,.int .i64 0,.int .i64 0,.string mt0,.slice none 0 0] 25 (0,0))∧TrP 1 p b W #[.int .i64 5,.int .i64 0,.int .i64 0,.string mt0,.slice none 0 0] q1 (set5 wn W.heap.size (.int .i64 5) (.int .i64 0) (.int .i64 0) (.string mt0) (.slice none 0 0))):=hide ⟨set5_at xr trivial (.int .i64 5) (.int .i64 0) (.int .i64 0) (.string mt0) (.slice none 0 0),(TrP.leaf (s:=1) (p:=p) (W:=W1) (cs:=rxV 5 0 0 mt0 nilV) (q:=q1) rn.out HNX.out HGR.out HAT.out.1 HAT.out.2 HOK.out (TreeAt.fin _ _ _)).up HBX.out _ _ _ _ _⟩
      unfold set5 at HE
      clear xr
      go_wp2
      generalize (((((wn.setCell ⟨W.heap.size,0,none⟩ (.int .i64 5)).setCell ⟨W.heap.size,1,none⟩ (.int .i64 0)).setCell ⟨W.heap.size,2,none⟩ (.int .i64 0)).setCell ⟨W.heap.size,3,none⟩ (.string mt0)).setCell ⟨W.heap.size,4,none⟩ (.slice none 0 0))=Wf at HE ⊢
      obtain ⟨u0,u1,u2,u3,u4⟩:=cells5c HE.out.1
      refine bodyPost_ret (v:=.agg #[.int .i64 5,.int .i64 0,.int .i64 0,.string mt0,.slice none 0 0]) ?_ rfl ⟨_,_,_,_,_,_,_,q1,rfl,HE.out.2⟩
      simp [results,Tryd.results83,go_sem,u0,u1,u2,u3,u4]
     ·have f36:(c == 36)=false:=by rw [beq_eq_false_iff_ne];exact h36
      have f36':decide (c=36)=false:=decide_eq_false (h36)
      by_cases h40:c=40
      ·have t40:(c == 40)=true:=by simp [h40]
       have t40':decide (c=40)=true:=decide_eq_true h40
       have HG:Hid (∀ m,Calls Tryd.prog 95 #[.pointer (some ⟨b,0,none⟩),.int .i64 1] (W1.drewN m) (TrR 1 p b (W1.drewN m))):=hide fun m=>group_ere n hw p b (W1.drewN m) (HDr.out m).pb HOK.out HC0.out HER.out 1 1 rfl (by omega) (by have:=hL9.out;omega) hn'
       go_enter Tryd.func83,Tryd.ntmps83
       (try rw [hW1])
       go_wp2
       go_quiet (fail)
       go_wp2
       go_quiet (fail)
       go_wp2_with fail
       refine (HG.out _).mono ?_
       rintro e wg ⟨kind,n9,m9,ss,o,ln,cp,qg,rfl,tg'⟩
       have tg:=hide (tg'.from_ (HDr.out _))
       clear tg' HG
       have xr:=HRZ.out _ tg.out.rd.pg
       obtain ⟨r0',r1',r2',r3',r4'⟩:=cells5c xr
       have z0:=fz5c xr 0
       have z1:=fz5c xr 1
       have z2:=fz5c xr 2
       have z3:=fz5c xr 3
       have z4:=fz5c xr 4
       have HE:Hid ((set5 wg W.heap.size (.int .i64 kind) (.int .i64 n9) (.int .i64 m9) (.string ss) (.slice o ln cp)).heap[W.heap.size]?=some (.cells #[.int .i64 kind,.int .i64 n9,.int .i64 m9,.string ss,.slice o ln cp] 25 (0,0))∧TrP 1 p b W #[.int .i64 kind,.int .i64 n9,.int .i64 m9,.string ss,.slice o ln cp] qg (set5 wg W.heap.size (.int .i64 kind) (.int .i64 n9) (.int .i64 m9) (.string ss) (.slice o ln cp))):=hide ⟨set5_at xr trivial (.int .i64 kind) (.int .i64 n9) (.int .i64 m9) (.string ss) (.slice o ln cp),tg.out.up HBX.out _ _ _ _ _⟩
       unfold set5 at HE
       clear xr
       go_wp2
       generalize (((((wg.setCell ⟨W.heap.size,0,none⟩ (.int .i64 kind)).setCell ⟨W.heap.size,1,none⟩ (.int .i64 n9)).setCell ⟨W.heap.size,2,none⟩ (.int .i64 m9)).setCell ⟨W.heap.size,3,none⟩ (.string ss)).setCell ⟨W.heap.size,4,none⟩ (.slice o ln cp))=Wf at HE ⊢
       obtain ⟨u0,u1,u2,u3,u4⟩:=cells5c HE.out.1
       refine bodyPost_ret (v:=.agg #[.int .i64 kind,.int .i64 n9,.int .i64 m9,.string ss,.slice o ln cp]) ?_ rfl ⟨_,_,_,_,_,_,_,qg,rfl,HE.out.2⟩
       simp [results,Tryd.results83,go_sem,u0,u1,u2,u3,u4]
      ·have f40:(c == 40)=false:=by rw [beq_eq_false_iff_ne];exact h40
       have f40':decide (c=40)=false:=decide_eq_false (h40)
       by_cases h42:c=42
       ·have t42:(c == 42)=true:=by simp [h42]
        have t42':decide (c=42)=true:=decide_eq_true h42
        have HFq:Hid (∀ m,Calls Tryd.prog 40 #[.pointer (some ⟨b,0,none⟩),.int .i64 4,.int .i64 (p.at_:Int)] (W1.drewN m) fun e w'=>∃ r:Pq,e=.returned (.tuple #[])∧Rd b W1 r w'∧r.code≠0∧r.ts=p.ts∧r.at_=p.at_∧r.ere=p.ere∧r.groups=p.groups∧r.open_=p.open_):=hide fun m=>(HDr.out m).failx (c:=4) (by decide) (p.at_:Int)
        clear hw1
        go_enter Tryd.func83,Tryd.ntmps83
        (try rw [hW1])
        go_wp2
        go_quiet (fail)
        go_wp2
        go_quiet (fail)
        go_wp2_with fail
        refine (HFq.out _).mono ?_
        rintro e wf ⟨qf,rfl,rdf',kc,kt,ka,ke,kg,ko⟩
        obtain ⟨qg,wg,eg,hwg,rqg,rdg'⟩:=rdf'.stepn (by rw [ka];have:=hL9.out;omega) 1 1 rfl (by omega)
        obtain ⟨x0,x1,x2,x3,x5,x6,xf1,xf5,xf6⟩:=rdf'.can
        have rdg:=hide rdg'
        have HCg:Hid (qg.code≠0):=hide (by rw [rqg];exact kc)
        have HNg:Hid (Nx p qg):=hide (by rw [rqg];exact ⟨kt,ke,ko,by show _≤qf.at_+1;omega,by show _≤qf.groups;omega,fun e=>absurd e kc⟩)
        have HAg:Hid (p.at_+1≤qg.at_∧qg.at_+2*p.open_≤3*p.ts.length+10∧qg.groups≤qg.at_):=hide (by rw [rqg];show _≤qf.at_+1∧qf.at_+1+_≤_∧qf.groups≤qf.at_+1;rw [ka,kg];have h3:=hL9.out;exact ⟨by omega,by omega,by omega⟩)
        clear HFq rdf' rdg' rqg kc kt ke kg ko
        rw [ka] at hwg x1
        clear ka
        have xr:=HRZ.out _ rdg.out.pg
        obtain ⟨r0',r1',r2',r3',r4'⟩:=cells5c xr
        have z0:=fz5c xr 0
        have z1:=fz5c xr 1
        have z2:=fz5c xr 2
        have z3:=fz5c xr 3
        have z4:=fz5c xr 4
        have HE:Hid ((set5 wg W.heap.size (.int .i64 0) (.int .i64 0) (.int .i64 0) (.string ⟨#[]⟩) (.slice none 0 0)).heap[W.heap.size]?=some (.cells #[.int .i64 0,.int .i64 0,.int .i64 0,.string ⟨#[]⟩,.slice none 0 0] 25 (0,0))∧TrP 1 p b W #[.int .i64 0,.int .i64 0,.int .i64 0,.string ⟨#[]⟩,.slice none 0 0] qg (set5 wg W.heap.size (.int .i64 0) (.int .i64 0) (.int .i64 0) (.string ⟨#[]⟩) (.slice none 0 0))):=hide ⟨set5_at xr trivial (.int .i64 0) (.int .i64 0) (.int .i64 0) (.string ⟨#[]⟩) (.slice none 0 0),(TrP.bad (s:=1) (p:=p) (W:=W1) (q:=qg) rdg.out HNg.out HCg.out HAg.out.1 HAg.out.2.1 HAg.out.2.2).up HBX.out _ _ _ _ _⟩
        unfold set5 at HE
        clear xr
        go_wp2
        generalize (((((wg.setCell ⟨W.heap.size,0,none⟩ (.int .i64 0)).setCell ⟨W.heap.size,1,none⟩ (.int .i64 0)).setCell ⟨W.heap.size,2,none⟩ (.int .i64 0)).setCell ⟨W.heap.size,3,none⟩ (.string ⟨#[]⟩)).setCell ⟨W.heap.size,4,none⟩ (.slice none 0 0))=Wf at HE ⊢
        obtain ⟨u0,u1,u2,u3,u4⟩:=cells5c HE.out.1
        refine bodyPost_ret (v:=.agg #[.int .i64 0,.int .i64 0,.int .i64 0,.string ⟨#[]⟩,.slice none 0 0]) ?_ rfl ⟨_,_,_,_,_,_,_,qg,rfl,HE.out.2⟩
        simp [results,Tryd.results83,go_sem,u0,u1,u2,u3,u4]
       ·have f42:(c == 42)=false:=by rw [beq_eq_false_iff_ne];exact h42
        have f42':decide (c=42)=false:=decide_eq_false (h42)
        by_cases h43:c=43
        ·have t43:(c == 43)=true:=by simp [h43]
         have t43':decide (c=43)=true:=decide_eq_true h43
         have HFq:Hid (∀ m,Calls Tryd.prog 40 #[.pointer (some ⟨b,0,none⟩),.int .i64 4,.int .i64 (p.at_:Int)] (W1.drewN m) fun e w'=>∃ r:Pq,e=.returned (.tuple #[])∧Rd b W1 r w'∧r.code≠0∧r.ts=p.ts∧r.at_=p.at_∧r.ere=p.ere∧r.groups=p.groups∧r.open_=p.open_):=hide fun m=>(HDr.out m).failx (c:=4) (by decide) (p.at_:Int)
         clear hw1
         go_enter Tryd.func83,Tryd.ntmps83
         (try rw [hW1])
         go_wp2
         go_quiet (fail)
         go_wp2
         go_quiet (fail)
         go_wp2_with fail
         refine (HFq.out _).mono ?_
         rintro e wf ⟨qf,rfl,rdf',kc,kt,ka,ke,kg,ko⟩
         obtain ⟨qg,wg,eg,hwg,rqg,rdg'⟩:=rdf'.stepn (by rw [ka];have:=hL9.out;omega) 1 1 rfl (by omega)
         obtain ⟨x0,x1,x2,x3,x5,x6,xf1,xf5,xf6⟩:=rdf'.can
         have rdg:=hide rdg'
         have HCg:Hid (qg.code≠0):=hide (by rw [rqg];exact kc)
         have HNg:Hid (Nx p qg):=hide (by rw [rqg];exact ⟨kt,ke,ko,by show _≤qf.at_+1;omega,by show _≤qf.groups;omega,fun e=>absurd e kc⟩)
         have HAg:Hid (p.at_+1≤qg.at_∧qg.at_+2*p.open_≤3*p.ts.length+10∧qg.groups≤qg.at_):=hide (by rw [rqg];show _≤qf.at_+1∧qf.at_+1+_≤_∧qf.groups≤qf.at_+1;rw [ka,kg];have h3:=hL9.out;exact ⟨by omega,by omega,by omega⟩)
         clear HFq rdf' rdg' rqg kc kt ke kg ko
         rw [ka] at hwg x1
         clear ka
         have xr:=HRZ.out _ rdg.out.pg
         obtain ⟨r0',r1',r2',r3',r4'⟩:=cells5c xr
         have z0:=fz5c xr 0
         have z1:=fz5c xr 1
         have z2:=fz5c xr 2
         have z3:=fz5c xr 3
         have z4:=fz5c xr 4
         have HE:Hid ((set5 wg W.heap.size (.int .i64 0) (.int .i64 0) (.int .i64 0) (.string ⟨#[]⟩) (.slice none 0 0)).heap[W.heap.size]?=some (.cells #[.int .i64 0,.int .i64 0,.int .i64 0,.string ⟨#[]⟩,.slice none 0 0] 25 (0,0))∧TrP 1 p b W #[.int .i64 0,.int .i64 0,.int .i64 0,.string ⟨#[]⟩,.slice none 0 0] qg (set5 wg W.heap.size (.int .i64 0) (.int .i64 0) (.int .i64 0) (.string ⟨#[]⟩) (.slice none 0 0))):=hide ⟨set5_at xr trivial (.int .i64 0) (.int .i64 0) (.int .i64 0) (.string ⟨#[]⟩) (.slice none 0 0),(TrP.bad (s:=1) (p:=p) (W:=W1) (q:=qg) rdg.out HNg.out HCg.out HAg.out.1 HAg.out.2.1 HAg.out.2.2).up HBX.out _ _ _ _ _⟩
         unfold set5 at HE
         clear xr
         go_wp2
         generalize (((((wg.setCell ⟨W.heap.size,0,none⟩ (.int .i64 0)).setCell ⟨W.heap.size,1,none⟩ (.int .i64 0)).setCell ⟨W.heap.size,2,none⟩ (.int .i64 0)).setCell ⟨W.heap.size,3,none⟩ (.string ⟨#[]⟩)).setCell ⟨W.heap.size,4,none⟩ (.slice none 0 0))=Wf at HE ⊢
         obtain ⟨u0,u1,u2,u3,u4⟩:=cells5c HE.out.1
         refine bodyPost_ret (v:=.agg #[.int .i64 0,.int .i64 0,.int .i64 0,.string ⟨#[]⟩,.slice none 0 0]) ?_ rfl ⟨_,_,_,_,_,_,_,qg,rfl,HE.out.2⟩
         simp [results,Tryd.results83,go_sem,u0,u1,u2,u3,u4]
        ·have f43:(c == 43)=false:=by rw [beq_eq_false_iff_ne];exact h43
         have f43':decide (c=43)=false:=decide_eq_false (h43)
         by_cases h63:c=63
         ·have t63:(c == 63)=true:=by simp [h63]
          have t63':decide (c=63)=true:=decide_eq_true h63
          have HFq:Hid (∀ m,Calls Tryd.prog 40 #[.pointer (some ⟨b,0,none⟩),.int .i64 4,.int .i64 (p.at_:Int)] (W1.drewN m) fun e w'=>∃ r:Pq,e=.returned (.tuple #[])∧Rd b W1 r w'∧r.code≠0∧r.ts=p.ts∧r.at_=p.at_∧r.ere=p.ere∧r.groups=p.groups∧r.open_=p.open_):=hide fun m=>(HDr.out m).failx (c:=4) (by decide) (p.at_:Int)
          clear hw1
          go_enter Tryd.func83,Tryd.ntmps83
          (try rw [hW1])
          go_wp2
          go_quiet (fail)
          go_wp2
          go_quiet (fail)
          go_wp2_with fail
          refine (HFq.out _).mono ?_
          rintro e wf ⟨qf,rfl,rdf',kc,kt,ka,ke,kg,ko⟩
          obtain ⟨qg,wg,eg,hwg,rqg,rdg'⟩:=rdf'.stepn (by rw [ka];have:=hL9.out;omega) 1 1 rfl (by omega)
          obtain ⟨x0,x1,x2,x3,x5,x6,xf1,xf5,xf6⟩:=rdf'.can
          have rdg:=hide rdg'
          have HCg:Hid (qg.code≠0):=hide (by rw [rqg];exact kc)
          have HNg:Hid (Nx p qg):=hide (by rw [rqg];exact ⟨kt,ke,ko,by show _≤qf.at_+1;omega,by show _≤qf.groups;omega,fun e=>absurd e kc⟩)
          have HAg:Hid (p.at_+1≤qg.at_∧qg.at_+2*p.open_≤3*p.ts.length+10∧qg.groups≤qg.at_):=hide (by rw [rqg];show _≤qf.at_+1∧qf.at_+1+_≤_∧qf.groups≤qf.at_+1;rw [ka,kg];have h3:=hL9.out;exact ⟨by omega,by omega,by omega⟩)
          clear HFq rdf' rdg' rqg kc kt ke kg ko
          rw [ka] at hwg x1
          clear ka
          have xr:=HRZ.out _ rdg.out.pg
          obtain ⟨r0',r1',r2',r3',r4'⟩:=cells5c xr
          have z0:=fz5c xr 0
          have z1:=fz5c xr 1
          have z2:=fz5c xr 2
          have z3:=fz5c xr 3
          have z4:=fz5c xr 4
          have HE:Hid ((set5 wg W.heap.size (.int .i64 0) (.int .i64 0) (.int .i64 0) (.string ⟨#[]⟩) (.slice none 0 0)).heap[W.heap.size]?=some (.cells #[.int .i64 0,.int .i64 0,.int .i64 0,.string ⟨#[]⟩,.slice none 0 0] 25 (0,0))∧TrP 1 p b W #[.int .i64 0,.int .i64 0,.int .i64 0,.string ⟨#[]⟩,.slice none 0 0] qg (set5 wg W.heap.size (.int .i64 0) (.int .i64 0) (.int .i64 0) (.string ⟨#[]⟩) (.slice none 0 0))):=hide ⟨set5_at xr trivial (.int .i64 0) (.int .i64 0) (.int .i64 0) (.string ⟨#[]⟩) (.slice none 0 0),(TrP.bad (s:=1) (p:=p) (W:=W1) (q:=qg) rdg.out HNg.out HCg.out HAg.out.1 HAg.out.2.1 HAg.out.2.2).up HBX.out _ _ _ _ _⟩
          unfold set5 at HE
          clear xr
          go_wp2
          generalize (((((wg.setCell ⟨W.heap.size,0,none⟩ (.int .i64 0)).setCell ⟨W.heap.size,1,none⟩ (.int .i64 0)).setCell ⟨W.heap.size,2,none⟩ (.int .i64 0)).setCell ⟨W.heap.size,3,none⟩ (.string ⟨#[]⟩)).setCell ⟨W.heap.size,4,none⟩ (.slice none 0 0))=Wf at HE ⊢
          obtain ⟨u0,u1,u2,u3,u4⟩:=cells5c HE.out.1
          refine bodyPost_ret (v:=.agg #[.int .i64 0,.int .i64 0,.int .i64 0,.string ⟨#[]⟩,.slice none 0 0]) ?_ rfl ⟨_,_,_,_,_,_,_,qg,rfl,HE.out.2⟩
          simp [results,Tryd.results83,go_sem,u0,u1,u2,u3,u4]
         ·have f63:(c == 63)=false:=by rw [beq_eq_false_iff_ne];exact h63
          have f63':decide (c=63)=false:=decide_eq_false (h63)
          by_cases h123:c=123
          ·have t123:(c == 123)=true:=by simp [h123]
           have t123':decide (c=123)=true:=decide_eq_true h123
           have HFq:Hid (∀ m,Calls Tryd.prog 40 #[.pointer (some ⟨b,0,none⟩),.int .i64 4,.int .i64 (p.at_:Int)] (W1.drewN m) fun e w'=>∃ r:Pq,e=.returned (.tuple #[])∧Rd b W1 r w'∧r.code≠0∧r.ts=p.ts∧r.at_=p.at_∧r.ere=p.ere∧r.groups=p.groups∧r.open_=p.open_):=hide fun m=>(HDr.out m).failx (c:=4) (by decide) (p.at_:Int)
           clear hw1
           go_enter Tryd.func83,Tryd.ntmps83
           (try rw [hW1])
           go_wp2
           go_quiet (fail)
           go_wp2
           go_quiet (fail)
           go_wp2_with fail
           refine (HFq.out _).mono ?_
           rintro e wf ⟨qf,rfl,rdf',kc,kt,ka,ke,kg,ko⟩
           obtain ⟨qg,wg,eg,hwg,rqg,rdg'⟩:=rdf'.stepn (by rw [ka];have:=hL9.out;omega) 1 1 rfl (by omega)
           obtain ⟨x0,x1,x2,x3,x5,x6,xf1,xf5,xf6⟩:=rdf'.can
           have rdg:=hide rdg'
           have HCg:Hid (qg.code≠0):=hide (by rw [rqg];exact kc)
           have HNg:Hid (Nx p qg):=hide (by rw [rqg];exact ⟨kt,ke,ko,by show _≤qf.at_+1;omega,by show _≤qf.groups;omega,fun e=>absurd e kc⟩)
           have HAg:Hid (p.at_+1≤qg.at_∧qg.at_+2*p.open_≤3*p.ts.length+10∧qg.groups≤qg.at_):=hide (by rw [rqg];show _≤qf.at_+1∧qf.at_+1+_≤_∧qf.groups≤qf.at_+1;rw [ka,kg];have h3:=hL9.out;exact ⟨by omega,by omega,by omega⟩)
           clear HFq rdf' rdg' rqg kc kt ke kg ko
           rw [ka] at hwg x1
           clear ka
           have xr:=HRZ.out _ rdg.out.pg
           obtain ⟨r0',r1',r2',r3',r4'⟩:=cells5c xr
           have z0:=fz5c xr 0
           have z1:=fz5c xr 1
           have z2:=fz5c xr 2
           have z3:=fz5c xr 3
           have z4:=fz5c xr 4
           have HE:Hid ((set5 wg W.heap.size (.int .i64 0) (.int .i64 0) (.int .i64 0) (.string ⟨#[]⟩) (.slice none 0 0)).heap[W.heap.size]?=some (.cells #[.int .i64 0,.int .i64 0,.int .i64 0,.string ⟨#[]⟩,.slice none 0 0] 25 (0,0))∧TrP 1 p b W #[.int .i64 0,.int .i64 0,.int .i64 0,.string ⟨#[]⟩,.slice none 0 0] qg (set5 wg W.heap.size (.int .i64 0) (.int .i64 0) (.int .i64 0) (.string ⟨#[]⟩) (.slice none 0 0))):=hide ⟨set5_at xr trivial (.int .i64 0) (.int .i64 0) (.int .i64 0) (.string ⟨#[]⟩) (.slice none 0 0),(TrP.bad (s:=1) (p:=p) (W:=W1) (q:=qg) rdg.out HNg.out HCg.out HAg.out.1 HAg.out.2.1 HAg.out.2.2).up HBX.out _ _ _ _ _⟩
           unfold set5 at HE
           clear xr
           go_wp2
           generalize (((((wg.setCell ⟨W.heap.size,0,none⟩ (.int .i64 0)).setCell ⟨W.heap.size,1,none⟩ (.int .i64 0)).setCell ⟨W.heap.size,2,none⟩ (.int .i64 0)).setCell ⟨W.heap.size,3,none⟩ (.string ⟨#[]⟩)).setCell ⟨W.heap.size,4,none⟩ (.slice none 0 0))=Wf at HE ⊢
           obtain ⟨u0,u1,u2,u3,u4⟩:=cells5c HE.out.1
           refine bodyPost_ret (v:=.agg #[.int .i64 0,.int .i64 0,.int .i64 0,.string ⟨#[]⟩,.slice none 0 0]) ?_ rfl ⟨_,_,_,_,_,_,_,qg,rfl,HE.out.2⟩
           simp [results,Tryd.results83,go_sem,u0,u1,u2,u3,u4]
          ·have f123:(c == 123)=false:=by rw [beq_eq_false_iff_ne];exact h123
           have f123':decide (c=123)=false:=decide_eq_false (h123)
           by_cases h41:c=41
           ·have t41:(c == 41)=true:=by simp [h41]
            have t41':decide (c=41)=true:=decide_eq_true h41
            have HFq:Hid (∀ m,Calls Tryd.prog 40 #[.pointer (some ⟨b,0,none⟩),.int .i64 4,.int .i64 (p.at_:Int)] (W1.drewN m) fun e w'=>∃ r:Pq,e=.returned (.tuple #[])∧Rd b W1 r w'∧r.code≠0∧r.ts=p.ts∧r.at_=p.at_∧r.ere=p.ere∧r.groups=p.groups∧r.open_=p.open_):=hide fun m=>(HDr.out m).failx (c:=4) (by decide) (p.at_:Int)
            clear hw1
            go_enter Tryd.func83,Tryd.ntmps83
            (try rw [hW1])
            go_wp2
            go_quiet (fail)
            go_wp2
            go_quiet (fail)
            go_wp2_with fail
            refine (HFq.out _).mono ?_
            rintro e wf ⟨qf,rfl,rdf',kc,kt,ka,ke,kg,ko⟩
            obtain ⟨qg,wg,eg,hwg,rqg,rdg'⟩:=rdf'.stepn (by rw [ka];have:=hL9.out;omega) 1 1 rfl (by omega)
            obtain ⟨x0,x1,x2,x3,x5,x6,xf1,xf5,xf6⟩:=rdf'.can
            have rdg:=hide rdg'
            have HCg:Hid (qg.code≠0):=hide (by rw [rqg];exact kc)
            have HNg:Hid (Nx p qg):=hide (by rw [rqg];exact ⟨kt,ke,ko,by show _≤qf.at_+1;omega,by show _≤qf.groups;omega,fun e=>absurd e kc⟩)
            have HAg:Hid (p.at_+1≤qg.at_∧qg.at_+2*p.open_≤3*p.ts.length+10∧qg.groups≤qg.at_):=hide (by rw [rqg];show _≤qf.at_+1∧qf.at_+1+_≤_∧qf.groups≤qf.at_+1;rw [ka,kg];have h3:=hL9.out;exact ⟨by omega,by omega,by omega⟩)
            clear HFq rdf' rdg' rqg kc kt ke kg ko
            rw [ka] at hwg x1
            clear ka
            have xr:=HRZ.out _ rdg.out.pg
            obtain ⟨r0',r1',r2',r3',r4'⟩:=cells5c xr
            have z0:=fz5c xr 0
            have z1:=fz5c xr 1
            have z2:=fz5c xr 2
            have z3:=fz5c xr 3
            have z4:=fz5c xr 4
            have HE:Hid ((set5 wg W.heap.size (.int .i64 0) (.int .i64 0) (.int .i64 0) (.string ⟨#[]⟩) (.slice none 0 0)).heap[W.heap.size]?=some (.cells #[.int .i64 0,.int .i64 0,.int .i64 0,.string ⟨#[]⟩,.slice none 0 0] 25 (0,0))∧TrP 1 p b W #[.int .i64 0,.int .i64 0,.int .i64 0,.string ⟨#[]⟩,.slice none 0 0] qg (set5 wg W.heap.size (.int .i64 0) (.int .i64 0) (.int .i64 0) (.string ⟨#[]⟩) (.slice none 0 0))):=hide ⟨set5_at xr trivial (.int .i64 0) (.int .i64 0) (.int .i64 0) (.string ⟨#[]⟩) (.slice none 0 0),(TrP.bad (s:=1) (p:=p) (W:=W1) (q:=qg) rdg.out HNg.out HCg.out HAg.out.1 HAg.out.2.1 HAg.out.2.2).up HBX.out _ _ _ _ _⟩
            unfold set5 at HE
            clear xr
            go_wp2
            generalize (((((wg.setCell ⟨W.heap.size,0,none⟩ (.int .i64 0)).setCell ⟨W.heap.size,1,none⟩ (.int .i64 0)).setCell ⟨W.heap.size,2,none⟩ (.int .i64 0)).setCell ⟨W.heap.size,3,none⟩ (.string ⟨#[]⟩)).setCell ⟨W.heap.size,4,none⟩ (.slice none 0 0))=Wf at HE ⊢
            obtain ⟨u0,u1,u2,u3,u4⟩:=cells5c HE.out.1
            refine bodyPost_ret (v:=.agg #[.int .i64 0,.int .i64 0,.int .i64 0,.string ⟨#[]⟩,.slice none 0 0]) ?_ rfl ⟨_,_,_,_,_,_,_,qg,rfl,HE.out.2⟩
            simp [results,Tryd.results83,go_sem,u0,u1,u2,u3,u4]
           ·have f41:(c == 41)=false:=by rw [beq_eq_false_iff_ne];exact h41
            have f41':decide (c=41)=false:=decide_eq_false (h41)
            have HND:Hid (∀ m,Calls Tryd.prog 28 #[.int .u8 c] ((W1.drewN m).setCell ⟨b,1,none⟩ (.int .i64 (q1.at_:Int))) fun e w'=>e=.returned (.agg (rxV 1 c 0 mt0 nilV))∧Rd b W1 q1 w'):=hide fun m=>(char_any _ c HCB.out.1 HCB.out.2).mono fun e w' ⟨h1,h2⟩=>⟨h1,(HSS.out m).below h2⟩
            go_enter Tryd.func83,Tryd.ntmps83
            (try rw [hW1])
            go_wp2
            go_quiet (fail)
            go_wp2
            go_quiet (fail)
            go_wp2_with fail
            refine (HND.out _).mono ?_
            rintro e wn ⟨rfl,rn'⟩
            have rn:=hide rn'
            unfold rxV
            clear rn' HND
            have xr:=HRZ.out _ rn.out.pg
            obtain ⟨r0',r1',r2',r3',r4'⟩:=cells5c xr
            have z0:=fz5c xr 0
            have z1:=fz5c xr 1
            have z2:=fz5c xr 2
            have z3:=fz5c xr 3
            have z4:=fz5c xr 4
            have HE:Hid ((set5 wn W.heap.size (.int .i64 1) (.int .i64 c) (.int .i64 0) (.string mt0) (.slice none 0 0)).heap[W.heap.size]?=some (.cells #[.int .i64 1,.int .i64 c,.int .i64 0,.string mt0,.slice none 0 0] 25 (0,0))∧TrP 1 p b W #[.int .i64 1,.int .i64 c,.int .i64 0,.string mt0,.slice none 0 0] q1 (set5 wn W.heap.size (.int .i64 1) (.int .i64 c) (.int .i64 0) (.string mt0) (.slice none 0 0))):=hide ⟨set5_at xr trivial (.int .i64 1) (.int .i64 c) (.int .i64 0) (.string mt0) (.slice none 0 0),(TrP.leaf (s:=1) (p:=p) (W:=W1) (cs:=rxV 1 c 0 mt0 nilV) (q:=q1) rn.out HNX.out HGR.out HAT.out.1 HAT.out.2 HOK.out (TreeAt.char _ _ _ HCB.out.1 HCB.out.2)).up HBX.out _ _ _ _ _⟩
            unfold set5 at HE
            clear xr
            go_wp2
            generalize (((((wn.setCell ⟨W.heap.size,0,none⟩ (.int .i64 1)).setCell ⟨W.heap.size,1,none⟩ (.int .i64 c)).setCell ⟨W.heap.size,2,none⟩ (.int .i64 0)).setCell ⟨W.heap.size,3,none⟩ (.string mt0)).setCell ⟨W.heap.size,4,none⟩ (.slice none 0 0))=Wf at HE ⊢
            obtain ⟨u0,u1,u2,u3,u4⟩:=cells5c HE.out.1
            refine bodyPost_ret (v:=.agg #[.int .i64 1,.int .i64 c,.int .i64 0,.string mt0,.slice none 0 0]) ?_ rfl ⟨_,_,_,_,_,_,_,q1,rfl,HE.out.2⟩
            simp [results,Tryd.results83,go_sem,u0,u1,u2,u3,u4]
set_option maxRecDepth 10000 in
set_option maxHeartbeats 16000000 in
theorem atom_bre (n:Nat) (hw:WholeOf n) (p:Pq) (b:Nat) (W:World) (h:PB p b W) (hk:Okp p) (hc:p.code=0) (he:p.ere=false) (hl:p.at_<p.ts.length) (hn':p.ts.length-p.at_≤n+1) (first:Bool) :
  Calls Tryd.prog 83 #[.pointer (some ⟨b,0,none⟩),.bool first] W (TrR 1 p b W):=by
 obtain ⟨W1,hW1,hbox⟩:=box_new W
 obtain ⟨hBx,hRZ⟩:=hbox b h.lt
 have HBX:=hide hBx
 have HRZ:=hide hRZ
 have rd0:Hid (Rd b W1 p W1):=hide (Rd.refl (h.below hBx.bel))
 have HOK:=hide hk
 have HC0:=hide hc
 have hL9:Hid (p.ts.length≤200∧p.at_<p.ts.length∧p.open_≤p.at_∧p.groups≤p.at_):=hide ⟨hk.len,hl,hk.op,hk.gr⟩
 have HER:=hide he
 obtain ⟨y0,y1,y2,y3,y5,y6,yf1,yf5,yf6⟩:=rd0.out.can
 rw [he] at y2
 have hS:=strOfNums_size p.ts
 obtain ⟨q1,hq1⟩:∃ q1:Pq,q1={ p with at_:=p.at_+1 }:=⟨_,rfl⟩
 obtain ⟨k2,hk2⟩:∃ k2,k2=p.at_+2:=⟨_,rfl⟩
 obtain ⟨k3,hk3⟩:∃ k3,k3=p.at_+3:=⟨_,rfl⟩
 have hw1:IntKind.i64.wrap ((p.at_:Int)+1)=(q1.at_:Int):=by rw [IntKind.wrap_i64,hq1];show _=((p.at_+1:Nat):Int);have:=hL9.out;omega
 have hw2:IntKind.i64.wrap ((p.at_:Int)+2)=(k2:Int):=by rw [IntKind.wrap_i64];have:=hL9.out;omega
 have hw3:IntKind.i64.wrap ((p.at_:Int)+3)=(k3:Int):=by rw [IntKind.wrap_i64];have:=hL9.out;omega
 have hix:=index_text p.ts hk.bytes p.at_ hl
 have i0:(p.at_:Int)<(p.ts.length:Int):=by omega
 have HCB:=hide (getD_bd hk.bytes p.at_)
 have HDr:Hid (∀ m,Rd b W1 p (W1.drewN m)):=hide fun m=>rd0.out.drawn ⟨m,rfl⟩
 have HSS:Hid (∀ m,Rd b W1 q1 ((W1.drewN m).setCell ⟨b,1,none⟩ (.int .i64 (q1.at_:Int)))):=hide fun m=>by
  rw [hq1]
  exact ⟨((rd0.out.drawn ⟨m,rfl⟩).pb).setAt (p.at_+1),(rd0.out.drawn ⟨m,rfl⟩).pg.tr (PG.set 1 _)⟩
 have HNX:Hid (Nx p q1):=hide (by rw [hq1];exact Nx.at p (Nat.le_succ _))
 have HGR:Hid (q1.groups=p.groups):=hide (by rw [hq1])
 have HAT:Hid (p.at_+1≤q1.at_∧q1.at_≤p.ts.length):=hide (by rw [hq1];exact ⟨Nat.le_refl _,hl⟩)
 have HQ1:Hid (q1.at_=p.at_+1):=hide (by rw [hq1])
 have HK2:=hide hk2
 have HK3:=hide hk3
 generalize p.ts.getD p.at_ 0=c at hix HCB
 generalize strOfNums p.ts=T at *
 clear hbox hBx hRZ h hk he hq1 hk2 hk3 hc hl
 by_cases h92:c=92
 ·have t92:(c == 92)=true:=by simp [h92]
  have t92':decide (c=92)=true:=decide_eq_true h92
  have HG:Hid (∀ m,Calls Tryd.prog 93 #[.pointer (some ⟨b,0,none⟩)] (W1.drewN m) (TrR 1 p b (W1.drewN m))):=hide fun m=>escape_bre n hw p b (W1.drewN m) (HDr.out m).pb HOK.out HC0.out HER.out hL9.out.2.1 hn'
  go_enter Tryd.func83,Tryd.ntmps83
  (try rw [hW1])
  go_wp2
  go_quiet (fail)
  go_wp2_with fail
  refine (HG.out _).mono ?_
  rintro e wg ⟨kind,n9,m9,ss,o,ln,cp,qg,rfl,tg'⟩
  have tg:=hide (tg'.from_ (HDr.out _))
  clear tg' HG
  have xr:=HRZ.out _ tg.out.rd.pg
  obtain ⟨r0',r1',r2',r3',r4'⟩:=cells5c xr
  have z0:=fz5c xr 0
  have z1:=fz5c xr 1
  have z2:=fz5c xr 2
  have z3:=fz5c xr 3
  have z4:=fz5c xr 4
  have HE:Hid ((set5 wg W.heap.size (.int .i64 kind) (.int .i64 n9) (.int .i64 m9) (.string ss) (.slice o ln cp)).heap[W.heap.size]?=some (.cells #[.int .i64 kind,.int .i64 n9,.int .i64 m9,.string ss,.slice o ln cp] 25 (0,0))∧TrP 1 p b W #[.int .i64 kind,.int .i64 n9,.int .i64 m9,.string ss,.slice o ln cp] qg (set5 wg W.heap.size (.int .i64 kind) (.int .i64 n9) (.int .i64 m9) (.string ss) (.slice o ln cp))):=hide ⟨set5_at xr trivial (.int .i64 kind) (.int .i64 n9) (.int .i64 m9) (.string ss) (.slice o ln cp),tg.out.up HBX.out _ _ _ _ _⟩
  unfold set5 at HE
  clear xr
  go_wp2
  generalize (((((wg.setCell ⟨W.heap.size,0,none⟩ (.int .i64 kind)).setCell ⟨W.heap.size,1,none⟩ (.int .i64 n9)).setCell ⟨W.heap.size,2,none⟩ (.int .i64 m9)).setCell ⟨W.heap.size,3,none⟩ (.string ss)).setCell ⟨W.heap.size,4,none⟩ (.slice o ln cp))=Wf at HE ⊢
  obtain ⟨u0,u1,u2,u3,u4⟩:=cells5c HE.out.1
  refine bodyPost_ret (v:=.agg #[.int .i64 kind,.int .i64 n9,.int .i64 m9,.string ss,.slice o ln cp]) ?_ rfl ⟨_,_,_,_,_,_,_,qg,rfl,HE.out.2⟩
  simp [results,Tryd.results83,go_sem,u0,u1,u2,u3,u4]
 ·have f92:(c == 92)=false:=by rw [beq_eq_false_iff_ne];exact h92
  have f92':decide (c=92)=false:=decide_eq_false (h92)
  by_cases h91:c=91
  ·have t91:(c == 91)=true:=by simp [h91]
   have t91':decide (c=91)=true:=decide_eq_true h91
   have HG:Hid (∀ m,Calls Tryd.prog 94 #[.pointer (some ⟨b,0,none⟩)] (W1.drewN m) (TrR 1 p b (W1.drewN m))):=hide fun m=>bracket_any p b (W1.drewN m) (HDr.out m).pb HOK.out HC0.out hL9.out.2.1
   go_enter Tryd.func83,Tryd.ntmps83
   (try rw [hW1])
   go_wp2
   go_quiet (fail)
   go_wp2_with fail
   refine (HG.out _).mono ?_
   rintro e wg ⟨kind,n9,m9,ss,o,ln,cp,qg,rfl,tg'⟩
   have tg:=hide (tg'.from_ (HDr.out _))
   clear tg' HG
   have xr:=HRZ.out _ tg.out.rd.pg
   obtain ⟨r0',r1',r2',r3',r4'⟩:=cells5c xr
   have z0:=fz5c xr 0
   have z1:=fz5c xr 1
   have z2:=fz5c xr 2
   have z3:=fz5c xr 3
   have z4:=fz5c xr 4
   have HE:Hid ((set5 wg W.heap.size (.int .i64 kind) (.int .i64 n9) (.int .i64 m9) (.string ss) (.slice o ln cp)).heap[W.heap.size]?=some (.cells #[.int .i64 kind,.int .i64 n9,.int .i64 m9,.string ss,.slice o ln cp] 25 (0,0))∧TrP 1 p b W #[.int .i64 kind,.int .i64 n9,.int .i64 m9,.string ss,.slice o ln cp] qg (set5 wg W.heap.size (.int .i64 kind) (.int .i64 n9) (.int .i64 m9) (.string ss) (.slice o ln cp))):=hide ⟨set5_at xr trivial (.int .i64 kind) (.int .i64 n9) (.int .i64 m9) (.string ss) (.slice o ln cp),tg.out.up HBX.out _ _ _ _ _⟩
   unfold set5 at HE
   clear xr
   go_wp2
   generalize (((((wg.setCell ⟨W.heap.size,0,none⟩ (.int .i64 kind)).setCell ⟨W.heap.size,1,none⟩ (.int .i64 n9)).setCell ⟨W.heap.size,2,none⟩ (.int .i64 m9)).setCell ⟨W.heap.size,3,none⟩ (.string ss)).setCell ⟨W.heap.size,4,none⟩ (.slice o ln cp))=Wf at HE ⊢
   obtain ⟨u0,u1,u2,u3,u4⟩:=cells5c HE.out.1
   refine bodyPost_ret (v:=.agg #[.int .i64 kind,.int .i64 n9,.int .i64 m9,.string ss,.slice o ln cp]) ?_ rfl ⟨_,_,_,_,_,_,_,qg,rfl,HE.out.2⟩
   simp [results,Tryd.results83,go_sem,u0,u1,u2,u3,u4]
  ·have f91:(c == 91)=false:=by rw [beq_eq_false_iff_ne];exact h91
   have f91':decide (c=91)=false:=decide_eq_false (h91)
   by_cases h46:c=46
   ·have t46:(c == 46)=true:=by simp [h46]
    have t46':decide (c=46)=true:=decide_eq_true h46
    have HND:Hid (∀ m,Calls Tryd.prog 44 #[.int .i64 2,.int .i64 0,.int .i64 0,.slice none 0 0] ((W1.drewN m).setCell ⟨b,1,none⟩ (.int .i64 (q1.at_:Int))) fun e w'=>e=.returned (.agg (rxV 2 0 0 mt0 (.slice none 0 0)))∧Rd b W1 q1 w'):=hide fun m=>(node_any _ 2 0 0 none 0 0).mono fun e w' ⟨h1,h2⟩=>⟨h1,(HSS.out m).below h2⟩
    go_enter Tryd.func83,Tryd.ntmps83
    (try rw [hW1])
    go_wp2
    go_quiet (fail)
    go_wp2_with fail
    refine (HND.out _).mono ?_
    rintro e wn ⟨rfl,rn'⟩
    have rn:=hide rn'
    unfold rxV
    clear rn' HND
    have xr:=HRZ.out _ rn.out.pg
    obtain ⟨r0',r1',r2',r3',r4'⟩:=cells5c xr
    have z0:=fz5c xr 0
    have z1:=fz5c xr 1
    have z2:=fz5c xr 2
    have z3:=fz5c xr 3
    have z4:=fz5c xr 4
    have HE:Hid ((set5 wn W.heap.size (.int .i64 2) (.int .i64 0) (.int .i64 0) (.string mt0) (.slice none 0 0)).heap[W.heap.size]?=some (.cells #[.int .i64 2,.int .i64 0,.int .i64 0,.string mt0,.slice none 0 0] 25 (0,0))∧TrP 1 p b W #[.int .i64 2,.int .i64 0,.int .i64 0,.string mt0,.slice none 0 0] q1 (set5 wn W.heap.size (.int .i64 2) (.int .i64 0) (.int .i64 0) (.string mt0) (.slice none 0 0))):=hide ⟨set5_at xr trivial (.int .i64 2) (.int .i64 0) (.int .i64 0) (.string mt0) (.slice none 0 0),(TrP.leaf (s:=1) (p:=p) (W:=W1) (cs:=rxV 2 0 0 mt0 nilV) (q:=q1) rn.out HNX.out HGR.out HAT.out.1 HAT.out.2 HOK.out (TreeAt.any _ _ _)).up HBX.out _ _ _ _ _⟩
    unfold set5 at HE
    clear xr
    go_wp2
    generalize (((((wn.setCell ⟨W.heap.size,0,none⟩ (.int .i64 2)).setCell ⟨W.heap.size,1,none⟩ (.int .i64 0)).setCell ⟨W.heap.size,2,none⟩ (.int .i64 0)).setCell ⟨W.heap.size,3,none⟩ (.string mt0)).setCell ⟨W.heap.size,4,none⟩ (.slice none 0 0))=Wf at HE ⊢
    obtain ⟨u0,u1,u2,u3,u4⟩:=cells5c HE.out.1
    refine bodyPost_ret (v:=.agg #[.int .i64 2,.int .i64 0,.int .i64 0,.string mt0,.slice none 0 0]) ?_ rfl ⟨_,_,_,_,_,_,_,q1,rfl,HE.out.2⟩
    simp [results,Tryd.results83,go_sem,u0,u1,u2,u3,u4]
   ·have f46:(c == 46)=false:=by rw [beq_eq_false_iff_ne];exact h46
    have f46':decide (c=46)=false:=decide_eq_false (h46)
    by_cases h94:c=94
    ·cases first with
     | true =>
      have t94:(c == 94)=true:=by simp [h94]
      have t94':decide (c=94)=true:=decide_eq_true h94
      have HND:Hid (∀ m,Calls Tryd.prog 44 #[.int .i64 4,.int .i64 0,.int .i64 0,.slice none 0 0] ((W1.drewN m).setCell ⟨b,1,none⟩ (.int .i64 (q1.at_:Int))) fun e w'=>e=.returned (.agg (rxV 4 0 0 mt0 (.slice none 0 0)))∧Rd b W1 q1 w'):=hide fun m=>(node_any _ 4 0 0 none 0 0).mono fun e w' ⟨h1,h2⟩=>⟨h1,(HSS.out m).below h2⟩
      go_enter Tryd.func83,Tryd.ntmps83
      (try rw [hW1])
      go_wp2
      go_quiet (fail)
      go_wp2_with fail
      refine (HND.out _).mono ?_
      rintro e wn ⟨rfl,rn'⟩
      have rn:=hide rn'
      unfold rxV
      clear rn' HND
      have xr:=HRZ.out _ rn.out.pg
      obtain ⟨r0',r1',r2',r3',r4'⟩:=cells5c xr
      have z0:=fz5c xr 0
      have z1:=fz5c xr 1
      have z2:=fz5c xr 2
      have z3:=fz5c xr 3
      have z4:=fz5c xr 4
      have HE:Hid ((set5 wn W.heap.size (.int .i64 4) (.int .i64 0) (.int .i64 0) (.string mt0) (.slice none 0 0)).heap[W.heap.size]?=some (.cells #[.int .i64 4,.int .i64 0,.int .i64 0,.string mt0,.slice none 0 0] 25 (0,0))∧TrP 1 p b W #[.int .i64 4,.int .i64 0,.int .i64 0,.string mt0,.slice none 0 0] q1 (set5 wn W.heap.size (.int .i64 4) (.int .i64 0) (.int .i64 0) (.string mt0) (.slice none 0 0))):=hide ⟨set5_at xr trivial (.int .i64 4) (.int .i64 0) (.int .i64 0) (.string mt0) (.slice none 0 0),(TrP.leaf (s:=1) (p:=p) (W:=W1) (cs:=rxV 4 0 0 mt0 nilV) (q:=q1) rn.out HNX.out HGR.out HAT.out.1 HAT.out.2 HOK.out (TreeAt.beg _ _ _)).up HBX.out _ _ _ _ _⟩
      unfold set5 at HE
      clear xr
      go_wp2
      generalize (((((wn.setCell ⟨W.heap.size,0,none⟩ (.int .i64 4)).setCell ⟨W.heap.size,1,none⟩ (.int .i64 0)).setCell ⟨W.heap.size,2,none⟩ (.int .i64 0)).setCell ⟨W.heap.size,3,none⟩ (.string mt0)).setCell ⟨W.heap.size,4,none⟩ (.slice none 0 0))=Wf at HE ⊢
      obtain ⟨u0,u1,u2,u3,u4⟩:=cells5c HE.out.1
      refine bodyPost_ret (v:=.agg #[.int .i64 4,.int .i64 0,.int .i64 0,.string mt0,.slice none 0 0]) ?_ rfl ⟨_,_,_,_,_,_,_,q1,rfl,HE.out.2⟩
      simp [results,Tryd.results83,go_sem,u0,u1,u2,u3,u4]
     | false =>
      have t94:(c == 94)=true:=by simp [h94]
      have t94':decide (c=94)=true:=decide_eq_true h94
      have f36:(c == 36)=false:=by rw [beq_eq_false_iff_ne];rw [h94];decide
      have f36':decide (c=36)=false:=decide_eq_false (by rw [h94];decide)
      have HND:Hid (∀ m,Calls Tryd.prog 28 #[.int .u8 94] ((W1.drewN m).setCell ⟨b,1,none⟩ (.int .i64 (q1.at_:Int))) fun e w'=>e=.returned (.agg (rxV 1 94 0 mt0 nilV))∧Rd b W1 q1 w'):=hide fun m=>(char_any _ 94 (by decide) (by decide)).mono fun e w' ⟨h1,h2⟩=>⟨h1,(HSS.out m).below h2⟩
      go_enter Tryd.func83,Tryd.ntmps83
      (try rw [hW1])
      go_wp2
      go_quiet (fail)
      go_wp2
      go_quiet (fail)
      go_wp2_with fail
      refine (HND.out _).mono ?_
      rintro e wn ⟨rfl,rn'⟩
      have rn:=hide rn'
      unfold rxV
      clear rn' HND
      have xr:=HRZ.out _ rn.out.pg
      obtain ⟨r0',r1',r2',r3',r4'⟩:=cells5c xr
      have z0:=fz5c xr 0
      have z1:=fz5c xr 1
      have z2:=fz5c xr 2
      have z3:=fz5c xr 3
      have z4:=fz5c xr 4
      have HE:Hid ((set5 wn W.heap.size (.int .i64 1) (.int .i64 94) (.int .i64 0) (.string mt0) (.slice none 0 0)).heap[W.heap.size]?=some (.cells #[.int .i64 1,.int .i64 94,.int .i64 0,.string mt0,.slice none 0 0] 25 (0,0))∧TrP 1 p b W #[.int .i64 1,.int .i64 94,.int .i64 0,.string mt0,.slice none 0 0] q1 (set5 wn W.heap.size (.int .i64 1) (.int .i64 94) (.int .i64 0) (.string mt0) (.slice none 0 0))):=hide ⟨set5_at xr trivial (.int .i64 1) (.int .i64 94) (.int .i64 0) (.string mt0) (.slice none 0 0),(TrP.leaf (s:=1) (p:=p) (W:=W1) (cs:=rxV 1 94 0 mt0 nilV) (q:=q1) rn.out HNX.out HGR.out HAT.out.1 HAT.out.2 HOK.out (TreeAt.char _ _ _ (by decide) (by decide))).up HBX.out _ _ _ _ _⟩
      unfold set5 at HE
      clear xr
      go_wp2
      generalize (((((wn.setCell ⟨W.heap.size,0,none⟩ (.int .i64 1)).setCell ⟨W.heap.size,1,none⟩ (.int .i64 94)).setCell ⟨W.heap.size,2,none⟩ (.int .i64 0)).setCell ⟨W.heap.size,3,none⟩ (.string mt0)).setCell ⟨W.heap.size,4,none⟩ (.slice none 0 0))=Wf at HE ⊢
      obtain ⟨u0,u1,u2,u3,u4⟩:=cells5c HE.out.1
      refine bodyPost_ret (v:=.agg #[.int .i64 1,.int .i64 94,.int .i64 0,.string mt0,.slice none 0 0]) ?_ rfl ⟨_,_,_,_,_,_,_,q1,rfl,HE.out.2⟩
      simp [results,Tryd.results83,go_sem,u0,u1,u2,u3,u4]
    ·have f94:(c == 94)=false:=by rw [beq_eq_false_iff_ne];exact h94
     have f94':decide (c=94)=false:=decide_eq_false (h94)
     by_cases h36:c=36
     ·have t36:(c == 36)=true:=by simp [h36]
      have t36':decide (c=36)=true:=decide_eq_true h36
      by_cases ha1:p.at_+1=p.ts.length
      ·have b1:((q1.at_:Int) == (p.ts.length:Int))=true:=by rw [HQ1.out];simp;omega
       have b2:decide ((q1.at_:Int)=(p.ts.length:Int))=true:=decide_eq_true (by rw [HQ1.out];omega)
       have b3:(q1.at_ == p.ts.length)=true:=by rw [HQ1.out];simp;omega
       have b4:decide (q1.at_=p.ts.length)=true:=decide_eq_true (by rw [HQ1.out];omega)
       clear ha1
       have HND:Hid (∀ m,Calls Tryd.prog 44 #[.int .i64 5,.int .i64 0,.int .i64 0,.slice none 0 0] ((W1.drewN m).setCell ⟨b,1,none⟩ (.int .i64 (q1.at_:Int))) fun e w'=>e=.returned (.agg (rxV 5 0 0 mt0 (.slice none 0 0)))∧Rd b W1 q1 w'):=hide fun m=>(node_any _ 5 0 0 none 0 0).mono fun e w' ⟨h1,h2⟩=>⟨h1,(HSS.out m).below h2⟩
       go_enter Tryd.func83,Tryd.ntmps83
       (try rw [hW1])
       go_wp2
       go_quiet (fail)
       go_wp2
       go_quiet (fail)
       go_wp2_with fail
       refine (HND.out _).mono ?_
       rintro e wn ⟨rfl,rn'⟩
       have rn:=hide rn'
       unfold rxV
       clear rn' HND
       have xr:=HRZ.out _ rn.out.pg
       obtain ⟨r0',r1',r2',r3',r4'⟩:=cells5c xr
       have z0:=fz5c xr 0
       have z1:=fz5c xr 1
       have z2:=fz5c xr 2
       have z3:=fz5c xr 3
       have z4:=fz5c xr 4
       have HE:Hid ((set5 wn W.heap.size (.int .i64 5) (.int .i64 0) (.int .i64 0) (.string mt0) (.slice none 0 0)).heap[W.heap.size]?=some (.cells #[.int .i64 5,.int .i64 0,.int .i64 0,.string mt0,.slice none 0 0] 25 (0,0))∧TrP 1 p b W #[.int .i64 5,.int .i64 0,.int .i64 0,.string mt0,.slice none 0 0] q1 (set5 wn W.heap.size (.int .i64 5) (.int .i64 0) (.int .i64 0) (.string mt0) (.slice none 0 0))):=hide ⟨set5_at xr trivial (.int .i64 5) (.int .i64 0) (.int .i64 0) (.string mt0) (.slice none 0 0),(TrP.leaf (s:=1) (p:=p) (W:=W1) (cs:=rxV 5 0 0 mt0 nilV) (q:=q1) rn.out HNX.out HGR.out HAT.out.1 HAT.out.2 HOK.out (TreeAt.fin _ _ _)).up HBX.out _ _ _ _ _⟩
       unfold set5 at HE
       clear xr
       go_wp2
       generalize (((((wn.setCell ⟨W.heap.size,0,none⟩ (.int .i64 5)).setCell ⟨W.heap.size,1,none⟩ (.int .i64 0)).setCell ⟨W.heap.size,2,none⟩ (.int .i64 0)).setCell ⟨W.heap.size,3,none⟩ (.string mt0)).setCell ⟨W.heap.size,4,none⟩ (.slice none 0 0))=Wf at HE ⊢
       obtain ⟨u0,u1,u2,u3,u4⟩:=cells5c HE.out.1
       refine bodyPost_ret (v:=.agg #[.int .i64 5,.int .i64 0,.int .i64 0,.string mt0,.slice none 0 0]) ?_ rfl ⟨_,_,_,_,_,_,_,q1,rfl,HE.out.2⟩
       simp [results,Tryd.results83,go_sem,u0,u1,u2,u3,u4]
      ·have b1:((q1.at_:Int) == (p.ts.length:Int))=false:=by rw [HQ1.out,beq_eq_false_iff_ne];omega
       have b2:decide ((q1.at_:Int)=(p.ts.length:Int))=false:=decide_eq_false (by rw [HQ1.out];omega)
       have b3:(q1.at_ == p.ts.length)=false:=by rw [HQ1.out,beq_eq_false_iff_ne];omega
       have b4:decide (q1.at_=p.ts.length)=false:=decide_eq_false (by rw [HQ1.out];omega)
       have HA1:=hide ha1
       clear ha1
       by_cases hop:0<p.open_
       ·have o1:(0:Int)<(p.open_:Int):=by omega
        have o2:decide ((0:Int)<(p.open_:Int))=true:=decide_eq_true o1
        have o3:decide (0<p.open_)=true:=decide_eq_true hop
        by_cases ha2:k2<p.ts.length
        ·have g1:(k2:Int)<(p.ts.length:Int):=by omega
         have g2:decide ((k2:Int)<(p.ts.length:Int))=true:=decide_eq_true g1
         have g3:decide (k2<p.ts.length)=true:=decide_eq_true ha2
         have s1:(q1.at_:Int)≤(k3:Int):=by rw [HQ1.out,HK3.out];omega
         have s2:(k3:Int)≤(p.ts.length:Int):=by rw [HK3.out];have:=HK2.out;omega
         have s3:q1.at_≤k3:=by omega
         have s4:k3≤p.ts.length:=by omega
         obtain ⟨X,eX⟩:∃ X,T.extract q1.at_ k3=X:=⟨_,rfl⟩
         cases hXb:(X.toList == [92,41]) with
         | true =>
          have HND:Hid (∀ m,Calls Tryd.prog 44 #[.int .i64 5,.int .i64 0,.int .i64 0,.slice none 0 0] ((W1.drewN m).setCell ⟨b,1,none⟩ (.int .i64 (q1.at_:Int))) fun e w'=>e=.returned (.agg (rxV 5 0 0 mt0 (.slice none 0 0)))∧Rd b W1 q1 w'):=hide fun m=>(node_any _ 5 0 0 none 0 0).mono fun e w' ⟨h1,h2⟩=>⟨h1,(HSS.out m).below h2⟩
          go_enter Tryd.func83,Tryd.ntmps83
          (try rw [hW1])
          go_wp2
          go_quiet (fail)
          go_wp2
          go_quiet (fail)
          go_wp2_with fail
          refine (HND.out _).mono ?_
          rintro e wn ⟨rfl,rn'⟩
          have rn:=hide rn'
          unfold rxV
          clear rn' HND
          have xr:=HRZ.out _ rn.out.pg
          obtain ⟨r0',r1',r2',r3',r4'⟩:=cells5c xr
          have z0:=fz5c xr 0
          have z1:=fz5c xr 1
          have z2:=fz5c xr 2
          have z3:=fz5c xr 3
          have z4:=fz5c xr 4
          have HE:Hid ((set5 wn W.heap.size (.int .i64 5) (.int .i64 0) (.int .i64 0) (.string mt0) (.slice none 0 0)).heap[W.heap.size]?=some (.cells #[.int .i64 5,.int .i64 0,.int .i64 0,.string mt0,.slice none 0 0] 25 (0,0))∧TrP 1 p b W #[.int .i64 5,.int .i64 0,.int .i64 0,.string mt0,.slice none 0 0] q1 (set5 wn W.heap.size (.int .i64 5) (.int .i64 0) (.int .i64 0) (.string mt0) (.slice none 0 0))):=hide ⟨set5_at xr trivial (.int .i64 5) (.int .i64 0) (.int .i64 0) (.string mt0) (.slice none 0 0),(TrP.leaf (s:=1) (p:=p) (W:=W1) (cs:=rxV 5 0 0 mt0 nilV) (q:=q1) rn.out HNX.out HGR.out HAT.out.1 HAT.out.2 HOK.out (TreeAt.fin _ _ _)).up HBX.out _ _ _ _ _⟩
          unfold set5 at HE
          clear xr
          go_wp2
          generalize (((((wn.setCell ⟨W.heap.size,0,none⟩ (.int .i64 5)).setCell ⟨W.heap.size,1,none⟩ (.int .i64 0)).setCell ⟨W.heap.size,2,none⟩ (.int .i64 0)).setCell ⟨W.heap.size,3,none⟩ (.string mt0)).setCell ⟨W.heap.size,4,none⟩ (.slice none 0 0))=Wf at HE ⊢
          obtain ⟨u0,u1,u2,u3,u4⟩:=cells5c HE.out.1
          refine bodyPost_ret (v:=.agg #[.int .i64 5,.int .i64 0,.int .i64 0,.string mt0,.slice none 0 0]) ?_ rfl ⟨_,_,_,_,_,_,_,q1,rfl,HE.out.2⟩
          simp [results,Tryd.results83,go_sem,u0,u1,u2,u3,u4]
         | false =>
          have HND:Hid (∀ m,Calls Tryd.prog 28 #[.int .u8 36] ((W1.drewN m).setCell ⟨b,1,none⟩ (.int .i64 (q1.at_:Int))) fun e w'=>e=.returned (.agg (rxV 1 36 0 mt0 nilV))∧Rd b W1 q1 w'):=hide fun m=>(char_any _ 36 (by decide) (by decide)).mono fun e w' ⟨h1,h2⟩=>⟨h1,(HSS.out m).below h2⟩
          go_enter Tryd.func83,Tryd.ntmps83
          (try rw [hW1])
          go_wp2
          go_quiet (fail)
          go_wp2
          go_quiet (fail)
          go_wp2_with fail
          refine (HND.out _).mono ?_
          rintro e wn ⟨rfl,rn'⟩
          have rn:=hide rn'
          unfold rxV
          clear rn' HND
          have xr:=HRZ.out _ rn.out.pg
          obtain ⟨r0',r1',r2',r3',r4'⟩:=cells5c xr
          have z0:=fz5c xr 0
          have z1:=fz5c xr 1
          have z2:=fz5c xr 2
          have z3:=fz5c xr 3
          have z4:=fz5c xr 4
          have HE:Hid ((set5 wn W.heap.size (.int .i64 1) (.int .i64 36) (.int .i64 0) (.string mt0) (.slice none 0 0)).heap[W.heap.size]?=some (.cells #[.int .i64 1,.int .i64 36,.int .i64 0,.string mt0,.slice none 0 0] 25 (0,0))∧TrP 1 p b W #[.int .i64 1,.int .i64 36,.int .i64 0,.string mt0,.slice none 0 0] q1 (set5 wn W.heap.size (.int .i64 1) (.int .i64 36) (.int .i64 0) (.string mt0) (.slice none 0 0))):=hide ⟨set5_at xr trivial (.int .i64 1) (.int .i64 36) (.int .i64 0) (.string mt0) (.slice none 0 0),(TrP.leaf (s:=1) (p:=p) (W:=W1) (cs:=rxV 1 36 0 mt0 nilV) (q:=q1) rn.out HNX.out HGR.out HAT.out.1 HAT.out.2 HOK.out (TreeAt.char _ _ _ (by decide) (by decide))).up HBX.out _ _ _ _ _⟩
          unfold set5 at HE
          clear xr
          go_wp2
          generalize (((((wn.setCell ⟨W.heap.size,0,none⟩ (.int .i64 1)).setCell ⟨W.heap.size,1,none⟩ (.int .i64 36)).setCell ⟨W.heap.size,2,none⟩ (.int .i64 0)).setCell ⟨W.heap.size,3,none⟩ (.string mt0)).setCell ⟨W.heap.size,4,none⟩ (.slice none 0 0))=Wf at HE ⊢
          obtain ⟨u0,u1,u2,u3,u4⟩:=cells5c HE.out.1
          refine bodyPost_ret (v:=.agg #[.int .i64 1,.int .i64 36,.int .i64 0,.string mt0,.slice none 0 0]) ?_ rfl ⟨_,_,_,_,_,_,_,q1,rfl,HE.out.2⟩
          simp [results,Tryd.results83,go_sem,u0,u1,u2,u3,u4]
        ·have g1:¬ (k2:Int)<(p.ts.length:Int):=by omega
         have g2:decide ((k2:Int)<(p.ts.length:Int))=false:=decide_eq_false g1
         have g3:decide (k2<p.ts.length)=false:=decide_eq_false ha2
         have HND:Hid (∀ m,Calls Tryd.prog 28 #[.int .u8 36] ((W1.drewN m).setCell ⟨b,1,none⟩ (.int .i64 (q1.at_:Int))) fun e w'=>e=.returned (.agg (rxV 1 36 0 mt0 nilV))∧Rd b W1 q1 w'):=hide fun m=>(char_any _ 36 (by decide) (by decide)).mono fun e w' ⟨h1,h2⟩=>⟨h1,(HSS.out m).below h2⟩
         go_enter Tryd.func83,Tryd.ntmps83
         (try rw [hW1])
         go_wp2
         go_quiet (fail)
         go_wp2
         go_quiet (fail)
         go_wp2_with fail
         refine (HND.out _).mono ?_
         rintro e wn ⟨rfl,rn'⟩
         have rn:=hide rn'
         unfold rxV
         clear rn' HND
         have xr:=HRZ.out _ rn.out.pg
         obtain ⟨r0',r1',r2',r3',r4'⟩:=cells5c xr
         have z0:=fz5c xr 0
         have z1:=fz5c xr 1
         have z2:=fz5c xr 2
         have z3:=fz5c xr 3
         have z4:=fz5c xr 4
         have HE:Hid ((set5 wn W.heap.size (.int .i64 1) (.int .i64 36) (.int .i64 0) (.string mt0) (.slice none 0 0)).heap[W.heap.size]?=some (.cells #[.int .i64 1,.int .i64 36,.int .i64 0,.string mt0,.slice none 0 0] 25 (0,0))∧TrP 1 p b W #[.int .i64 1,.int .i64 36,.int .i64 0,.string mt0,.slice none 0 0] q1 (set5 wn W.heap.size (.int .i64 1) (.int .i64 36) (.int .i64 0) (.string mt0) (.slice none 0 0))):=hide ⟨set5_at xr trivial (.int .i64 1) (.int .i64 36) (.int .i64 0) (.string mt0) (.slice none 0 0),(TrP.leaf (s:=1) (p:=p) (W:=W1) (cs:=rxV 1 36 0 mt0 nilV) (q:=q1) rn.out HNX.out HGR.out HAT.out.1 HAT.out.2 HOK.out (TreeAt.char _ _ _ (by decide) (by decide))).up HBX.out _ _ _ _ _⟩
         unfold set5 at HE
         clear xr
         go_wp2
         generalize (((((wn.setCell ⟨W.heap.size,0,none⟩ (.int .i64 1)).setCell ⟨W.heap.size,1,none⟩ (.int .i64 36)).setCell ⟨W.heap.size,2,none⟩ (.int .i64 0)).setCell ⟨W.heap.size,3,none⟩ (.string mt0)).setCell ⟨W.heap.size,4,none⟩ (.slice none 0 0))=Wf at HE ⊢
         obtain ⟨u0,u1,u2,u3,u4⟩:=cells5c HE.out.1
         refine bodyPost_ret (v:=.agg #[.int .i64 1,.int .i64 36,.int .i64 0,.string mt0,.slice none 0 0]) ?_ rfl ⟨_,_,_,_,_,_,_,q1,rfl,HE.out.2⟩
         simp [results,Tryd.results83,go_sem,u0,u1,u2,u3,u4]
       ·have o1:¬ (0:Int)<(p.open_:Int):=by omega
        have o2:decide ((0:Int)<(p.open_:Int))=false:=decide_eq_false o1
        have o3:decide (0<p.open_)=false:=decide_eq_false hop
        have HND:Hid (∀ m,Calls Tryd.prog 28 #[.int .u8 36] ((W1.drewN m).setCell ⟨b,1,none⟩ (.int .i64 (q1.at_:Int))) fun e w'=>e=.returned (.agg (rxV 1 36 0 mt0 nilV))∧Rd b W1 q1 w'):=hide fun m=>(char_any _ 36 (by decide) (by decide)).mono fun e w' ⟨h1,h2⟩=>⟨h1,(HSS.out m).below h2⟩
        go_enter Tryd.func83,Tryd.ntmps83
        (try rw [hW1])
        go_wp2
        go_quiet (fail)
        go_wp2
        go_quiet (fail)
        go_wp2_with fail
        refine (HND.out _).mono ?_
        rintro e wn ⟨rfl,rn'⟩
        have rn:=hide rn'
        unfold rxV
        clear rn' HND
        have xr:=HRZ.out _ rn.out.pg
        obtain ⟨r0',r1',r2',r3',r4'⟩:=cells5c xr
        have z0:=fz5c xr 0
        have z1:=fz5c xr 1
        have z2:=fz5c xr 2
        have z3:=fz5c xr 3
        have z4:=fz5c xr 4
        have HE:Hid ((set5 wn W.heap.size (.int .i64 1) (.int .i64 36) (.int .i64 0) (.string mt0) (.slice none 0 0)).heap[W.heap.size]?=some (.cells #[.int .i64 1,.int .i64 36,.int .i64 0,.string mt0,.slice none 0 0] 25 (0,0))∧TrP 1 p b W #[.int .i64 1,.int .i64 36,.int .i64 0,.string mt0,.slice none 0 0] q1 (set5 wn W.heap.size (.int .i64 1) (.int .i64 36) (.int .i64 0) (.string mt0) (.slice none 0 0))):=hide ⟨set5_at xr trivial (.int .i64 1) (.int .i64 36) (.int .i64 0) (.string mt0) (.slice none 0 0),(TrP.leaf (s:=1) (p:=p) (W:=W1) (cs:=rxV 1 36 0 mt0 nilV) (q:=q1) rn.out HNX.out HGR.out HAT.out.1 HAT.out.2 HOK.out (TreeAt.char _ _ _ (by decide) (by decide))).up HBX.out _ _ _ _ _⟩
        unfold set5 at HE
        clear xr
        go_wp2
        generalize (((((wn.setCell ⟨W.heap.size,0,none⟩ (.int .i64 1)).setCell ⟨W.heap.size,1,none⟩ (.int .i64 36)).setCell ⟨W.heap.size,2,none⟩ (.int .i64 0)).setCell ⟨W.heap.size,3,none⟩ (.string mt0)).setCell ⟨W.heap.size,4,none⟩ (.slice none 0 0))=Wf at HE ⊢
        obtain ⟨u0,u1,u2,u3,u4⟩:=cells5c HE.out.1
        refine bodyPost_ret (v:=.agg #[.int .i64 1,.int .i64 36,.int .i64 0,.string mt0,.slice none 0 0]) ?_ rfl ⟨_,_,_,_,_,_,_,q1,rfl,HE.out.2⟩
        simp [results,Tryd.results83,go_sem,u0,u1,u2,u3,u4]
     ·have f36:(c == 36)=false:=by rw [beq_eq_false_iff_ne];exact h36
      have f36':decide (c=36)=false:=decide_eq_false (h36)
      have HND:Hid (∀ m,Calls Tryd.prog 28 #[.int .u8 c] ((W1.drewN m).setCell ⟨b,1,none⟩ (.int .i64 (q1.at_:Int))) fun e w'=>e=.returned (.agg (rxV 1 c 0 mt0 nilV))∧Rd b W1 q1 w'):=hide fun m=>(char_any _ c HCB.out.1 HCB.out.2).mono fun e w' ⟨h1,h2⟩=>⟨h1,(HSS.out m).below h2⟩
      go_enter Tryd.func83,Tryd.ntmps83
      (try rw [hW1])
      go_wp2
      go_quiet (fail)
      go_wp2
      go_quiet (fail)
      go_wp2_with fail
      refine (HND.out _).mono ?_
      rintro e wn ⟨rfl,rn'⟩
      have rn:=hide rn'
      unfold rxV
      clear rn' HND
      have xr:=HRZ.out _ rn.out.pg
      obtain ⟨r0',r1',r2',r3',r4'⟩:=cells5c xr
      have z0:=fz5c xr 0
      have z1:=fz5c xr 1
      have z2:=fz5c xr 2
      have z3:=fz5c xr 3
      have z4:=fz5c xr 4
      have HE:Hid ((set5 wn W.heap.size (.int .i64 1) (.int .i64 c) (.int .i64 0) (.string mt0) (.slice none 0 0)).heap[W.heap.size]?=some (.cells #[.int .i64 1,.int .i64 c,.int .i64 0,.string mt0,.slice none 0 0] 25 (0,0))∧TrP 1 p b W #[.int .i64 1,.int .i64 c,.int .i64 0,.string mt0,.slice none 0 0] q1 (set5 wn W.heap.size (.int .i64 1) (.int .i64 c) (.int .i64 0) (.string mt0) (.slice none 0 0))):=hide ⟨set5_at xr trivial (.int .i64 1) (.int .i64 c) (.int .i64 0) (.string mt0) (.slice none 0 0),(TrP.leaf (s:=1) (p:=p) (W:=W1) (cs:=rxV 1 c 0 mt0 nilV) (q:=q1) rn.out HNX.out HGR.out HAT.out.1 HAT.out.2 HOK.out (TreeAt.char _ _ _ HCB.out.1 HCB.out.2)).up HBX.out _ _ _ _ _⟩
      unfold set5 at HE
      clear xr
      go_wp2
      generalize (((((wn.setCell ⟨W.heap.size,0,none⟩ (.int .i64 1)).setCell ⟨W.heap.size,1,none⟩ (.int .i64 c)).setCell ⟨W.heap.size,2,none⟩ (.int .i64 0)).setCell ⟨W.heap.size,3,none⟩ (.string mt0)).setCell ⟨W.heap.size,4,none⟩ (.slice none 0 0))=Wf at HE ⊢
      obtain ⟨u0,u1,u2,u3,u4⟩:=cells5c HE.out.1
      refine bodyPost_ret (v:=.agg #[.int .i64 1,.int .i64 c,.int .i64 0,.string mt0,.slice none 0 0]) ?_ rfl ⟨_,_,_,_,_,_,_,q1,rfl,HE.out.2⟩
      simp [results,Tryd.results83,go_sem,u0,u1,u2,u3,u4]
end Go.Proofs.YtfhimmnoipfiaaaDoor.eng
