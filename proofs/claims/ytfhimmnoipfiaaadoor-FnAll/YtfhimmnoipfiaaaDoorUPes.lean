import Derived.Test.YtfhimmnoipfiaaaDoorQ12
import Derived.Test.YtfhimmnoipfiaaaDoorUPgr
import Derived.Test.YtfhimmnoipfiaaaDoorQ03
import Derived.Deep.QuietTactic
import Derived.BigQuiet
namespace Go.Proofs.YtfhimmnoipfiaaaDoor.eng
open Go.ChangeShapes Go.WideShapes Go.ChangeAt Go.RowKit
open bytes places sets tz rex
set_option linter.unusedVariables false
theorem plain_ix (B:ByteArray) (l:List Int) (hB:strOfNums l=B) (hl:∀ t∈l,0≤t∧t≤255) (i:Nat) (hi:i<l.length) (W:World):(Instr.index 9 (.string B) (.int .i64 (i:Int))).run Tryd.prog W=.ok (.int .u8 (l.getD i 0)) W:=by
 subst hB
 exact index_text l hl i hi W
set_option maxRecDepth 10000 in
set_option maxHeartbeats 8000000 in
theorem escape_ere (n:Nat) (hw:WholeOf n) (p:Pq) (b:Nat) (W:World) (h:PB p b W) (hk:Okp p) (hc:p.code=0) (he:p.ere=true) (hl:p.at_<p.ts.length) (hn':p.ts.length-p.at_≤n+1) :
  Calls Tryd.prog 93 #[.pointer (some ⟨b,0,none⟩)] W (TrR 1 p b W):=by
 obtain ⟨W1,hW1,hbox⟩:=box_new W
 obtain ⟨hBx,hRZ⟩:=hbox b h.lt
 have HBX:=hide hBx
 have HRZ:=hide hRZ
 have rd0:Hid (Rd b W1 p W1):=hide (Rd.refl (h.below hBx.bel))
 have HOK:=hide hk
 have HC0:=hide hc
 have hL9:Hid (p.ts.length≤200∧p.at_<p.ts.length∧p.open_≤p.at_∧p.groups≤p.at_):=hide ⟨hk.len,hl,hk.op,hk.gr⟩
 have HER:=hide he
 obtain ⟨y0,y1,y2,y3,y5,y6,yf1,yf5,yf6⟩:=rd0.out.can
 rw [he] at y2
 have hS:=strOfNums_size p.ts
 obtain ⟨k1,hk1⟩:∃ k1,k1=p.at_+1:=⟨_,rfl⟩
 have hw1:IntKind.i64.wrap ((p.at_:Int)+1)=(k1:Int):=by rw [IntKind.wrap_i64];have:=hL9.out;omega
 have HTX:=hide fun (k:Nat) (hlt:k<p.ts.length) (W:World)=>index_text p.ts hk.bytes k hlt W
 have HCC:=hide fun (k:Nat)=>getD_bd hk.bytes k
 generalize strOfNums p.ts=T at *
 clear hbox hBx hRZ h hk he
 by_cases hend:p.at_+1=p.ts.length
 ·have e1:((k1:Int) == (p.ts.length:Int))=true:=by simp;omega
  have e2:decide ((k1:Int)=(p.ts.length:Int))=true:=decide_eq_true (by omega)
  have e3:(k1 == p.ts.length)=true:=by simp;omega
  have e4:decide (k1=p.ts.length)=true:=decide_eq_true (by omega)
  have HFq:Hid (∀ m,Calls Tryd.prog 40 #[.pointer (some ⟨b,0,none⟩),.int .i64 4,.int .i64 (p.at_:Int)] (W1.drewN m) fun e w'=>∃ r:Pq,e=.returned (.tuple #[])∧Rd b W1 r w'∧r.code≠0∧r.ts=p.ts∧r.at_=p.at_∧r.ere=p.ere∧r.groups=p.groups∧r.open_=p.open_):=hide fun m=>(rd0.out.drawn ⟨m,rfl⟩).failx (c:=4) (by decide) (p.at_:Int)
  clear hend hk1
  go_enter Tryd.func93,Tryd.ntmps93
  (try rw [hW1])
  go_wp2
  go_quiet (fail)
  go_wp2_with fail
  refine (HFq.out _).mono ?_
  rintro e wf ⟨qf,rfl,rdf',kc,kt,ka,ke,kg,ko⟩
  obtain ⟨qg,wg,eg,hwg,rqg,rdg'⟩:=rdf'.stepn (by rw [ka];have:=hL9.out;omega) 1 1 rfl (by omega)
  obtain ⟨x0,x1,x2,x3,x5,x6,xf1,xf5,xf6⟩:=rdf'.can
  have rdg:=hide rdg'
  have HCg:Hid (qg.code≠0):=hide (by rw [rqg];exact kc)
  have HNg:Hid (Nx p qg):=hide (by rw [rqg];exact ⟨kt,ke,ko,by show _≤qf.at_+1;omega,by show _≤qf.groups;omega,fun e=>absurd e kc⟩)
  have HAg:Hid (p.at_+1≤qg.at_∧qg.at_+2*p.open_≤3*p.ts.length+10∧qg.groups≤qg.at_):=hide (by rw [rqg];show _≤qf.at_+1∧qf.at_+1+_≤_∧qf.groups≤qf.at_+1;rw [ka,kg];have h3:=hL9.out;exact ⟨by omega,by omega,by omega⟩)
  clear HFq rdf' rdg' rqg kc kt ke kg ko
  rw [ka] at hwg x1
  clear ka hw1
  have xr:=HRZ.out _ rdg.out.pg
  obtain ⟨r0',r1',r2',r3',r4'⟩:=cells5c xr
  have z0:=fz5c xr 0
  have z1:=fz5c xr 1
  have z2:=fz5c xr 2
  have z3:=fz5c xr 3
  have z4:=fz5c xr 4
  have HE:Hid ((set5 wg W.heap.size (.int .i64 0) (.int .i64 0) (.int .i64 0) (.string ⟨#[]⟩) (.slice none 0 0)).heap[W.heap.size]?=some (.cells #[.int .i64 0,.int .i64 0,.int .i64 0,.string ⟨#[]⟩,.slice none 0 0] 25 (0,0))∧TrP 1 p b W #[.int .i64 0,.int .i64 0,.int .i64 0,.string ⟨#[]⟩,.slice none 0 0] qg (set5 wg W.heap.size (.int .i64 0) (.int .i64 0) (.int .i64 0) (.string ⟨#[]⟩) (.slice none 0 0))):=hide ⟨set5_at xr trivial (.int .i64 0) (.int .i64 0) (.int .i64 0) (.string ⟨#[]⟩) (.slice none 0 0),(TrP.bad (s:=1) (p:=p) (W:=W1) (q:=qg) rdg.out HNg.out HCg.out HAg.out.1 HAg.out.2.1 HAg.out.2.2).up HBX.out _ _ _ _ _⟩
  unfold set5 at HE
  clear xr
  go_wp2
  generalize (((((wg.setCell ⟨W.heap.size,0,none⟩ (.int .i64 0)).setCell ⟨W.heap.size,1,none⟩ (.int .i64 0)).setCell ⟨W.heap.size,2,none⟩ (.int .i64 0)).setCell ⟨W.heap.size,3,none⟩ (.string ⟨#[]⟩)).setCell ⟨W.heap.size,4,none⟩ (.slice none 0 0))=Wf at HE ⊢
  obtain ⟨u0,u1,u2,u3,u4⟩:=cells5c HE.out.1
  refine bodyPost_ret (v:=.agg #[.int .i64 0,.int .i64 0,.int .i64 0,.string ⟨#[]⟩,.slice none 0 0]) ?_ rfl ⟨_,_,_,_,_,_,_,qg,rfl,HE.out.2⟩
  simp [results,Tryd.results93,go_sem,u0,u1,u2,u3,u4]
 ·have e1:((k1:Int) == (p.ts.length:Int))=false:=by rw [beq_eq_false_iff_ne];omega
  have e2:decide ((k1:Int)=(p.ts.length:Int))=false:=decide_eq_false (by omega)
  have e3:(k1 == p.ts.length)=false:=by rw [beq_eq_false_iff_ne];omega
  have e4:decide (k1=p.ts.length)=false:=decide_eq_false (by omega)
  have hix:=HTX.out k1 (by omega)
  have HCB:=hide (HCC.out k1)
  have k1l:(k1:Int)<(p.ts.length:Int):=by omega
  generalize p.ts.getD k1 0=c at hix HCB
  obtain ⟨q2,hq2⟩:∃ q2:Pq,q2={ p with at_:=p.at_+2 }:=⟨_,rfl⟩
  have hw2:IntKind.i64.wrap ((p.at_:Int)+2)=(q2.at_:Int):=by rw [IntKind.wrap_i64,hq2];show _=((p.at_+2:Nat):Int);have:=hL9.out;omega
  have HS2:Hid (∀ m,Rd b W1 q2 ((W1.drewN m).setCell ⟨b,1,none⟩ (.int .i64 (q2.at_:Int)))):=hide fun m=>by
   rw [hq2]
   exact ⟨((rd0.out.drawn ⟨m,rfl⟩).pb).setAt (p.at_+2),(rd0.out.drawn ⟨m,rfl⟩).pg.tr (PG.set 1 _)⟩
  have HNX:Hid (Nx p q2):=hide (by rw [hq2];exact Nx.at p (Nat.le_add_right _ _))
  have HGR:Hid (q2.groups=p.groups):=hide (by rw [hq2])
  have HAT:Hid (p.at_+1≤q2.at_∧q2.at_≤p.ts.length):=hide (by rw [hq2];show _≤p.at_+2∧p.at_+2≤_;have:=hL9.out;omega)
  have hPI:Hid (∀ (i:Nat),i<14→∃ x:Int,∀ W:World,(Instr.index 9 (.string ⟨#[46,91,92,40,41,123,125,42,43,63,94,36,124,47]⟩) (.int .i64 (i:Int))).run Tryd.prog W=.ok (.int .u8 x) W):=hide fun i hi=>⟨_,plain_ix ⟨#[46,91,92,40,41,123,125,42,43,63,94,36,124,47]⟩ [46,91,92,40,41,123,125,42,43,63,94,36,124,47] rfl (by decide) i hi⟩
  clear hend hk1 hq2
  go_enter Tryd.func93,Tryd.ntmps93
  (try rw [hW1])
  go_wp2
  go_quiet (fail)
  go_wp2
  go_quiet (fail)
  go_wp2
  go_loopw [6] (fun v6 wr=>∃ i:Nat,i≤14∧v6=.int .i64 (i:Int)∧Hid (Rd b W1 q2 wr)) (fun v6 _=>14-(intOf v6).toNat)
  case atStart=>exact ⟨0,by omega,rfl,hide (HS2.out _)⟩
  case round =>
   obtain ⟨i,hi,rfl,rdr⟩:=hrel
   by_cases hin:i<14
   ·have hti:(i:Int)<14:=by omega
    have hiw:IntKind.i64.wrap ((i:Int)+1)=((i+1:Nat):Int):=by rw [IntKind.wrap_i64];omega
    obtain ⟨x,hx⟩:=hPI.out i hin
    by_cases hxc:x=c
    ·have e1:(x == c)=true:=by simp [hxc]
     have e2:decide (x=c)=true:=decide_eq_true hxc
     subst hxc
     have HN:=hide (char_any wr x HCB.out.1 HCB.out.2)
     go_wp2_with fail
     refine HN.out.mono ?_
     rintro e v9 ⟨rfl,b9⟩
     unfold rxV
     have xr:=HRZ.out _ (rdr.out.pg.tr (PG.below b9))
     obtain ⟨r0',r1',r2',r3',r4'⟩:=cells5c xr
     have z0:=fz5c xr 0
     have z1:=fz5c xr 1
     have z2:=fz5c xr 2
     have z3:=fz5c xr 3
     have z4:=fz5c xr 4
     have HE:Hid ((set5 v9 W.heap.size (.int .i64 1) (.int .i64 x) (.int .i64 0) (.string mt0) (.slice none 0 0)).heap[W.heap.size]?=some (.cells #[.int .i64 1,.int .i64 x,.int .i64 0,.string mt0,.slice none 0 0] 25 (0,0))∧TrP 1 p b W #[.int .i64 1,.int .i64 x,.int .i64 0,.string mt0,.slice none 0 0] q2 (set5 v9 W.heap.size (.int .i64 1) (.int .i64 x) (.int .i64 0) (.string mt0) (.slice none 0 0))):=hide ⟨set5_at xr trivial (.int .i64 1) (.int .i64 x) (.int .i64 0) (.string mt0) (.slice none 0 0),(TrP.leaf (s:=1) (p:=p) (W:=W1) (cs:=rxV 1 x 0 mt0 nilV) (q:=q2) (rdr.out.below b9) HNX.out HGR.out HAT.out.1 HAT.out.2 HOK.out (TreeAt.char _ _ _ HCB.out.1 HCB.out.2)).up HBX.out _ _ _ _ _⟩
     unfold set5 at HE
     clear xr b9 HN
     go_wp2
     generalize (((((v9.setCell ⟨W.heap.size,0,none⟩ (.int .i64 1)).setCell ⟨W.heap.size,1,none⟩ (.int .i64 x)).setCell ⟨W.heap.size,2,none⟩ (.int .i64 0)).setCell ⟨W.heap.size,3,none⟩ (.string mt0)).setCell ⟨W.heap.size,4,none⟩ (.slice none 0 0))=Wf at HE ⊢
     obtain ⟨u0,u1,u2,u3,u4⟩:=cells5c HE.out.1
     refine bodyPost_ret (v:=.agg #[.int .i64 1,.int .i64 x,.int .i64 0,.string mt0,.slice none 0 0]) ?_ rfl ⟨_,_,_,_,_,_,_,q2,rfl,HE.out.2⟩
     simp [results,Tryd.results93,go_sem,u0,u1,u2,u3,u4]
    ·have e1:(x == c)=false:=by simpa using hxc
     have e2:decide (x=c)=false:=decide_eq_false hxc
     clear hxc
     go_wp2
     go_roundw
     case rel=>exact ⟨i+1,by omega,by simp,rdr⟩
     case measure=>simp [intOf];omega
   ·have hti:¬ (i:Int)<14:=by omega
    by_cases hn:c=110
    ·have f1:(c == 110)=true:=by simp [hn]
     have f2:decide (c=110)=true:=decide_eq_true hn
     subst hn
     have HN:=hide (char_any wr 10 (by decide) (by decide))
     go_wp2_with fail
     refine HN.out.mono ?_
     rintro e v9 ⟨rfl,b9⟩
     unfold rxV
     have xr:=HRZ.out _ (rdr.out.pg.tr (PG.below b9))
     obtain ⟨r0',r1',r2',r3',r4'⟩:=cells5c xr
     have z0:=fz5c xr 0
     have z1:=fz5c xr 1
     have z2:=fz5c xr 2
     have z3:=fz5c xr 3
     have z4:=fz5c xr 4
     have HE:Hid ((set5 v9 W.heap.size (.int .i64 1) (.int .i64 10) (.int .i64 0) (.string mt0) (.slice none 0 0)).heap[W.heap.size]?=some (.cells #[.int .i64 1,.int .i64 10,.int .i64 0,.string mt0,.slice none 0 0] 25 (0,0))∧TrP 1 p b W #[.int .i64 1,.int .i64 10,.int .i64 0,.string mt0,.slice none 0 0] q2 (set5 v9 W.heap.size (.int .i64 1) (.int .i64 10) (.int .i64 0) (.string mt0) (.slice none 0 0))):=hide ⟨set5_at xr trivial (.int .i64 1) (.int .i64 10) (.int .i64 0) (.string mt0) (.slice none 0 0),(TrP.leaf (s:=1) (p:=p) (W:=W1) (cs:=rxV 1 10 0 mt0 nilV) (q:=q2) (rdr.out.below b9) HNX.out HGR.out HAT.out.1 HAT.out.2 HOK.out (TreeAt.char _ _ _ (by decide) (by decide))).up HBX.out _ _ _ _ _⟩
     unfold set5 at HE
     clear xr b9 HN
     go_wp2
     generalize (((((v9.setCell ⟨W.heap.size,0,none⟩ (.int .i64 1)).setCell ⟨W.heap.size,1,none⟩ (.int .i64 10)).setCell ⟨W.heap.size,2,none⟩ (.int .i64 0)).setCell ⟨W.heap.size,3,none⟩ (.string mt0)).setCell ⟨W.heap.size,4,none⟩ (.slice none 0 0))=Wf at HE ⊢
     obtain ⟨u0,u1,u2,u3,u4⟩:=cells5c HE.out.1
     refine bodyPost_ret (v:=.agg #[.int .i64 1,.int .i64 10,.int .i64 0,.string mt0,.slice none 0 0]) ?_ rfl ⟨_,_,_,_,_,_,_,q2,rfl,HE.out.2⟩
     simp [results,Tryd.results93,go_sem,u0,u1,u2,u3,u4]
    ·have f1:(c == 110)=false:=by simpa using hn
     have f2:decide (c=110)=false:=decide_eq_false hn
     by_cases hd1:(49:Int)≤c
     ·by_cases hd2:c≤(57:Int)
      ·have HFx:=hide (rdr.out.failx (c:=11) (by decide) (p.at_:Int))
       go_wp2_with fail
       refine HFx.out.mono ?_
       rintro e wf ⟨qf,rfl,rdf',kc,kt,ka,ke,kg,ko⟩
       have rdf:=hide rdf'
       have HCf:=hide kc
       have HNf:Hid (Nx p qf):=hide ⟨kt.trans HNX.out.ts,ke.trans HNX.out.ere,ko.trans HNX.out.op,by rw [ka];exact HNX.out.at_,by rw [kg];exact HNX.out.gr,fun e=>absurd e kc⟩
       have HAf:Hid (p.at_+1≤qf.at_∧qf.at_+2*p.open_≤3*p.ts.length+10∧qf.groups≤qf.at_):=hide (by rw [ka,kg];have h1:=HAT.out;have h2:=HGR.out;have h3:=hL9.out;exact ⟨by omega,by omega,by omega⟩)
       clear HFx rdf' kc kt ka ke kg ko
       have xr:=HRZ.out _ rdf.out.pg
       obtain ⟨r0',r1',r2',r3',r4'⟩:=cells5c xr
       have z0:=fz5c xr 0
       have z1:=fz5c xr 1
       have z2:=fz5c xr 2
       have z3:=fz5c xr 3
       have z4:=fz5c xr 4
       have HE:Hid ((set5 wf W.heap.size (.int .i64 0) (.int .i64 0) (.int .i64 0) (.string ⟨#[]⟩) (.slice none 0 0)).heap[W.heap.size]?=some (.cells #[.int .i64 0,.int .i64 0,.int .i64 0,.string ⟨#[]⟩,.slice none 0 0] 25 (0,0))∧TrP 1 p b W #[.int .i64 0,.int .i64 0,.int .i64 0,.string ⟨#[]⟩,.slice none 0 0] qf (set5 wf W.heap.size (.int .i64 0) (.int .i64 0) (.int .i64 0) (.string ⟨#[]⟩) (.slice none 0 0))):=hide ⟨set5_at xr trivial (.int .i64 0) (.int .i64 0) (.int .i64 0) (.string ⟨#[]⟩) (.slice none 0 0),(TrP.bad (s:=1) (p:=p) (W:=W1) (q:=qf) rdf.out HNf.out HCf.out HAf.out.1 HAf.out.2.1 HAf.out.2.2).up HBX.out _ _ _ _ _⟩
       unfold set5 at HE
       clear xr
       go_wp2
       generalize (((((wf.setCell ⟨W.heap.size,0,none⟩ (.int .i64 0)).setCell ⟨W.heap.size,1,none⟩ (.int .i64 0)).setCell ⟨W.heap.size,2,none⟩ (.int .i64 0)).setCell ⟨W.heap.size,3,none⟩ (.string ⟨#[]⟩)).setCell ⟨W.heap.size,4,none⟩ (.slice none 0 0))=Wf at HE ⊢
       obtain ⟨u0,u1,u2,u3,u4⟩:=cells5c HE.out.1
       refine bodyPost_ret (v:=.agg #[.int .i64 0,.int .i64 0,.int .i64 0,.string ⟨#[]⟩,.slice none 0 0]) ?_ rfl ⟨_,_,_,_,_,_,_,qf,rfl,HE.out.2⟩
       simp [results,Tryd.results93,go_sem,u0,u1,u2,u3,u4]
      ·have f3:decide (c≤(57:Int))=false:=decide_eq_false hd2
       have HFx:=hide (rdr.out.failx (c:=4) (by decide) (p.at_:Int))
       go_wp2_with fail
       refine HFx.out.mono ?_
       rintro e wf ⟨qf,rfl,rdf',kc,kt,ka,ke,kg,ko⟩
       have rdf:=hide rdf'
       have HCf:=hide kc
       have HNf:Hid (Nx p qf):=hide ⟨kt.trans HNX.out.ts,ke.trans HNX.out.ere,ko.trans HNX.out.op,by rw [ka];exact HNX.out.at_,by rw [kg];exact HNX.out.gr,fun e=>absurd e kc⟩
       have HAf:Hid (p.at_+1≤qf.at_∧qf.at_+2*p.open_≤3*p.ts.length+10∧qf.groups≤qf.at_):=hide (by rw [ka,kg];have h1:=HAT.out;have h2:=HGR.out;have h3:=hL9.out;exact ⟨by omega,by omega,by omega⟩)
       clear HFx rdf' kc kt ka ke kg ko
       have xr:=HRZ.out _ rdf.out.pg
       obtain ⟨r0',r1',r2',r3',r4'⟩:=cells5c xr
       have z0:=fz5c xr 0
       have z1:=fz5c xr 1
       have z2:=fz5c xr 2
       have z3:=fz5c xr 3
       have z4:=fz5c xr 4
       have HE:Hid ((set5 wf W.heap.size (.int .i64 0) (.int .i64 0) (.int .i64 0) (.string ⟨#[]⟩) (.slice none 0 0)).heap[W.heap.size]?=some (.cells #[.int .i64 0,.int .i64 0,.int .i64 0,.string ⟨#[]⟩,.slice none 0 0] 25 (0,0))∧TrP 1 p b W #[.int .i64 0,.int .i64 0,.int .i64 0,.string ⟨#[]⟩,.slice none 0 0] qf (set5 wf W.heap.size (.int .i64 0) (.int .i64 0) (.int .i64 0) (.string ⟨#[]⟩) (.slice none 0 0))):=hide ⟨set5_at xr trivial (.int .i64 0) (.int .i64 0) (.int .i64 0) (.string ⟨#[]⟩) (.slice none 0 0),(TrP.bad (s:=1) (p:=p) (W:=W1) (q:=qf) rdf.out HNf.out HCf.out HAf.out.1 HAf.out.2.1 HAf.out.2.2).up HBX.out _ _ _ _ _⟩
       unfold set5 at HE
       clear xr
       go_wp2
       generalize (((((wf.setCell ⟨W.heap.size,0,none⟩ (.int .i64 0)).setCell ⟨W.heap.size,1,none⟩ (.int .i64 0)).setCell ⟨W.heap.size,2,none⟩ (.int .i64 0)).setCell ⟨W.heap.size,3,none⟩ (.string ⟨#[]⟩)).setCell ⟨W.heap.size,4,none⟩ (.slice none 0 0))=Wf at HE ⊢
       obtain ⟨u0,u1,u2,u3,u4⟩:=cells5c HE.out.1
       refine bodyPost_ret (v:=.agg #[.int .i64 0,.int .i64 0,.int .i64 0,.string ⟨#[]⟩,.slice none 0 0]) ?_ rfl ⟨_,_,_,_,_,_,_,qf,rfl,HE.out.2⟩
       simp [results,Tryd.results93,go_sem,u0,u1,u2,u3,u4]
     ·have f3:decide ((49:Int)≤c)=false:=decide_eq_false hd1
      have HFx:=hide (rdr.out.failx (c:=4) (by decide) (p.at_:Int))
      go_wp2_with fail
      refine HFx.out.mono ?_
      rintro e wf ⟨qf,rfl,rdf',kc,kt,ka,ke,kg,ko⟩
      have rdf:=hide rdf'
      have HCf:=hide kc
      have HNf:Hid (Nx p qf):=hide ⟨kt.trans HNX.out.ts,ke.trans HNX.out.ere,ko.trans HNX.out.op,by rw [ka];exact HNX.out.at_,by rw [kg];exact HNX.out.gr,fun e=>absurd e kc⟩
      have HAf:Hid (p.at_+1≤qf.at_∧qf.at_+2*p.open_≤3*p.ts.length+10∧qf.groups≤qf.at_):=hide (by rw [ka,kg];have h1:=HAT.out;have h2:=HGR.out;have h3:=hL9.out;exact ⟨by omega,by omega,by omega⟩)
      clear HFx rdf' kc kt ka ke kg ko
      have xr:=HRZ.out _ rdf.out.pg
      obtain ⟨r0',r1',r2',r3',r4'⟩:=cells5c xr
      have z0:=fz5c xr 0
      have z1:=fz5c xr 1
      have z2:=fz5c xr 2
      have z3:=fz5c xr 3
      have z4:=fz5c xr 4
      have HE:Hid ((set5 wf W.heap.size (.int .i64 0) (.int .i64 0) (.int .i64 0) (.string ⟨#[]⟩) (.slice none 0 0)).heap[W.heap.size]?=some (.cells #[.int .i64 0,.int .i64 0,.int .i64 0,.string ⟨#[]⟩,.slice none 0 0] 25 (0,0))∧TrP 1 p b W #[.int .i64 0,.int .i64 0,.int .i64 0,.string ⟨#[]⟩,.slice none 0 0] qf (set5 wf W.heap.size (.int .i64 0) (.int .i64 0) (.int .i64 0) (.string ⟨#[]⟩) (.slice none 0 0))):=hide ⟨set5_at xr trivial (.int .i64 0) (.int .i64 0) (.int .i64 0) (.string ⟨#[]⟩) (.slice none 0 0),(TrP.bad (s:=1) (p:=p) (W:=W1) (q:=qf) rdf.out HNf.out HCf.out HAf.out.1 HAf.out.2.1 HAf.out.2.2).up HBX.out _ _ _ _ _⟩
      unfold set5 at HE
      clear xr
      go_wp2
      generalize (((((wf.setCell ⟨W.heap.size,0,none⟩ (.int .i64 0)).setCell ⟨W.heap.size,1,none⟩ (.int .i64 0)).setCell ⟨W.heap.size,2,none⟩ (.int .i64 0)).setCell ⟨W.heap.size,3,none⟩ (.string ⟨#[]⟩)).setCell ⟨W.heap.size,4,none⟩ (.slice none 0 0))=Wf at HE ⊢
      obtain ⟨u0,u1,u2,u3,u4⟩:=cells5c HE.out.1
      refine bodyPost_ret (v:=.agg #[.int .i64 0,.int .i64 0,.int .i64 0,.string ⟨#[]⟩,.slice none 0 0]) ?_ rfl ⟨_,_,_,_,_,_,_,qf,rfl,HE.out.2⟩
      simp [results,Tryd.results93,go_sem,u0,u1,u2,u3,u4]
set_option maxRecDepth 10000 in
set_option maxHeartbeats 8000000 in
theorem escape_bre (n:Nat) (hw:WholeOf n) (p:Pq) (b:Nat) (W:World) (h:PB p b W) (hk:Okp p) (hc:p.code=0) (he:p.ere=false) (hl:p.at_<p.ts.length) (hn':p.ts.length-p.at_≤n+1) :
  Calls Tryd.prog 93 #[.pointer (some ⟨b,0,none⟩)] W (TrR 1 p b W):=by
 obtain ⟨W1,hW1,hbox⟩:=box_new W
 obtain ⟨hBx,hRZ⟩:=hbox b h.lt
 have HBX:=hide hBx
 have HRZ:=hide hRZ
 have rd0:Hid (Rd b W1 p W1):=hide (Rd.refl (h.below hBx.bel))
 have HOK:=hide hk
 have HC0:=hide hc
 have hL9:Hid (p.ts.length≤200∧p.at_<p.ts.length∧p.open_≤p.at_∧p.groups≤p.at_):=hide ⟨hk.len,hl,hk.op,hk.gr⟩
 have HER:=hide he
 obtain ⟨y0,y1,y2,y3,y5,y6,yf1,yf5,yf6⟩:=rd0.out.can
 rw [he] at y2
 have hS:=strOfNums_size p.ts
 obtain ⟨k1,hk1⟩:∃ k1,k1=p.at_+1:=⟨_,rfl⟩
 have hw1:IntKind.i64.wrap ((p.at_:Int)+1)=(k1:Int):=by rw [IntKind.wrap_i64];have:=hL9.out;omega
 have HTX:=hide fun (k:Nat) (hlt:k<p.ts.length) (W:World)=>index_text p.ts hk.bytes k hlt W
 have HCC:=hide fun (k:Nat)=>getD_bd hk.bytes k
 generalize strOfNums p.ts=T at *
 clear hbox hBx hRZ h hk he
 by_cases hend:p.at_+1=p.ts.length
 ·have e1:((k1:Int) == (p.ts.length:Int))=true:=by simp;omega
  have e2:decide ((k1:Int)=(p.ts.length:Int))=true:=decide_eq_true (by omega)
  have e3:(k1 == p.ts.length)=true:=by simp;omega
  have e4:decide (k1=p.ts.length)=true:=decide_eq_true (by omega)
  have HFq:Hid (∀ m,Calls Tryd.prog 40 #[.pointer (some ⟨b,0,none⟩),.int .i64 4,.int .i64 (p.at_:Int)] (W1.drewN m) fun e w'=>∃ r:Pq,e=.returned (.tuple #[])∧Rd b W1 r w'∧r.code≠0∧r.ts=p.ts∧r.at_=p.at_∧r.ere=p.ere∧r.groups=p.groups∧r.open_=p.open_):=hide fun m=>(rd0.out.drawn ⟨m,rfl⟩).failx (c:=4) (by decide) (p.at_:Int)
  clear hend hk1
  go_enter Tryd.func93,Tryd.ntmps93
  (try rw [hW1])
  go_wp2
  go_quiet (fail)
  go_wp2_with fail
  refine (HFq.out _).mono ?_
  rintro e wf ⟨qf,rfl,rdf',kc,kt,ka,ke,kg,ko⟩
  obtain ⟨qg,wg,eg,hwg,rqg,rdg'⟩:=rdf'.stepn (by rw [ka];have:=hL9.out;omega) 1 1 rfl (by omega)
  obtain ⟨x0,x1,x2,x3,x5,x6,xf1,xf5,xf6⟩:=rdf'.can
  have rdg:=hide rdg'
  have HCg:Hid (qg.code≠0):=hide (by rw [rqg];exact kc)
  have HNg:Hid (Nx p qg):=hide (by rw [rqg];exact ⟨kt,ke,ko,by show _≤qf.at_+1;omega,by show _≤qf.groups;omega,fun e=>absurd e kc⟩)
  have HAg:Hid (p.at_+1≤qg.at_∧qg.at_+2*p.open_≤3*p.ts.length+10∧qg.groups≤qg.at_):=hide (by rw [rqg];show _≤qf.at_+1∧qf.at_+1+_≤_∧qf.groups≤qf.at_+1;rw [ka,kg];have h3:=hL9.out;exact ⟨by omega,by omega,by omega⟩)
  clear HFq rdf' rdg' rqg kc kt ke kg ko
  rw [ka] at hwg x1
  clear ka hw1
  have xr:=HRZ.out _ rdg.out.pg
  obtain ⟨r0',r1',r2',r3',r4'⟩:=cells5c xr
  have z0:=fz5c xr 0
  have z1:=fz5c xr 1
  have z2:=fz5c xr 2
  have z3:=fz5c xr 3
  have z4:=fz5c xr 4
  have HE:Hid ((set5 wg W.heap.size (.int .i64 0) (.int .i64 0) (.int .i64 0) (.string ⟨#[]⟩) (.slice none 0 0)).heap[W.heap.size]?=some (.cells #[.int .i64 0,.int .i64 0,.int .i64 0,.string ⟨#[]⟩,.slice none 0 0] 25 (0,0))∧TrP 1 p b W #[.int .i64 0,.int .i64 0,.int .i64 0,.string ⟨#[]⟩,.slice none 0 0] qg (set5 wg W.heap.size (.int .i64 0) (.int .i64 0) (.int .i64 0) (.string ⟨#[]⟩) (.slice none 0 0))):=hide ⟨set5_at xr trivial (.int .i64 0) (.int .i64 0) (.int .i64 0) (.string ⟨#[]⟩) (.slice none 0 0),(TrP.bad (s:=1) (p:=p) (W:=W1) (q:=qg) rdg.out HNg.out HCg.out HAg.out.1 HAg.out.2.1 HAg.out.2.2).up HBX.out _ _ _ _ _⟩
  unfold set5 at HE
  clear xr
  go_wp2
  generalize (((((wg.setCell ⟨W.heap.size,0,none⟩ (.int .i64 0)).setCell ⟨W.heap.size,1,none⟩ (.int .i64 0)).setCell ⟨W.heap.size,2,none⟩ (.int .i64 0)).setCell ⟨W.heap.size,3,none⟩ (.string ⟨#[]⟩)).setCell ⟨W.heap.size,4,none⟩ (.slice none 0 0))=Wf at HE ⊢
  obtain ⟨u0,u1,u2,u3,u4⟩:=cells5c HE.out.1
  refine bodyPost_ret (v:=.agg #[.int .i64 0,.int .i64 0,.int .i64 0,.string ⟨#[]⟩,.slice none 0 0]) ?_ rfl ⟨_,_,_,_,_,_,_,qg,rfl,HE.out.2⟩
  simp [results,Tryd.results93,go_sem,u0,u1,u2,u3,u4]
 ·have e1:((k1:Int) == (p.ts.length:Int))=false:=by rw [beq_eq_false_iff_ne];omega
  have e2:decide ((k1:Int)=(p.ts.length:Int))=false:=decide_eq_false (by omega)
  have e3:(k1 == p.ts.length)=false:=by rw [beq_eq_false_iff_ne];omega
  have e4:decide (k1=p.ts.length)=false:=decide_eq_false (by omega)
  have hix:=HTX.out k1 (by omega)
  have HCB:=hide (HCC.out k1)
  have k1l:(k1:Int)<(p.ts.length:Int):=by omega
  generalize p.ts.getD k1 0=c at hix HCB
  by_cases h40:c=40
  ·have g1:(c == 40)=true:=by simp [h40]
   have g2:decide (c=40)=true:=decide_eq_true h40
   have HG:Hid (∀ m,Calls Tryd.prog 95 #[.pointer (some ⟨b,0,none⟩),.int .i64 2] (W1.drewN m) (TrR 1 p b (W1.drewN m))):=hide fun m=>group_bre n hw p b (W1.drewN m) (rd0.out.drawn ⟨m,rfl⟩).pb HOK.out HC0.out HER.out 2 2 rfl (by omega) (by have:=hL9.out;omega) hn'
   have HDr:Hid (∀ m,Rd b W1 p (W1.drewN m)):=hide fun m=>rd0.out.drawn ⟨m,rfl⟩
   clear hend hk1
   go_enter Tryd.func93,Tryd.ntmps93
   (try rw [hW1])
   go_wp2
   go_quiet (fail)
   go_wp2
   go_quiet (fail)
   go_wp2_with fail
   refine (HG.out _).mono ?_
   rintro e wg ⟨kind,n9,m9,ss,o,ln,cp,qg,rfl,tg'⟩
   have tg:=hide (tg'.from_ (HDr.out _))
   clear tg' HG
   have xr:=HRZ.out _ tg.out.rd.pg
   obtain ⟨r0',r1',r2',r3',r4'⟩:=cells5c xr
   have z0:=fz5c xr 0
   have z1:=fz5c xr 1
   have z2:=fz5c xr 2
   have z3:=fz5c xr 3
   have z4:=fz5c xr 4
   have HE:Hid ((set5 wg W.heap.size (.int .i64 kind) (.int .i64 n9) (.int .i64 m9) (.string ss) (.slice o ln cp)).heap[W.heap.size]?=some (.cells #[.int .i64 kind,.int .i64 n9,.int .i64 m9,.string ss,.slice o ln cp] 25 (0,0))∧TrP 1 p b W #[.int .i64 kind,.int .i64 n9,.int .i64 m9,.string ss,.slice o ln cp] qg (set5 wg W.heap.size (.int .i64 kind) (.int .i64 n9) (.int .i64 m9) (.string ss) (.slice o ln cp))):=hide ⟨set5_at xr trivial (.int .i64 kind) (.int .i64 n9) (.int .i64 m9) (.string ss) (.slice o ln cp),tg.out.up HBX.out _ _ _ _ _⟩
   unfold set5 at HE
   clear xr
   go_wp2
   generalize (((((wg.setCell ⟨W.heap.size,0,none⟩ (.int .i64 kind)).setCell ⟨W.heap.size,1,none⟩ (.int .i64 n9)).setCell ⟨W.heap.size,2,none⟩ (.int .i64 m9)).setCell ⟨W.heap.size,3,none⟩ (.string ss)).setCell ⟨W.heap.size,4,none⟩ (.slice o ln cp))=Wf at HE ⊢
   obtain ⟨u0,u1,u2,u3,u4⟩:=cells5c HE.out.1
   refine bodyPost_ret (v:=.agg #[.int .i64 kind,.int .i64 n9,.int .i64 m9,.string ss,.slice o ln cp]) ?_ rfl ⟨_,_,_,_,_,_,_,qg,rfl,HE.out.2⟩
   simp [results,Tryd.results93,go_sem,u0,u1,u2,u3,u4]
  ·have g1:(c == 40)=false:=by simpa using h40
   have g2:decide (c=40)=false:=decide_eq_false h40
   obtain ⟨q2,hq2⟩:∃ q2:Pq,q2={ p with at_:=p.at_+2 }:=⟨_,rfl⟩
   have hw2:IntKind.i64.wrap ((p.at_:Int)+2)=(q2.at_:Int):=by rw [IntKind.wrap_i64,hq2];show _=((p.at_+2:Nat):Int);have:=hL9.out;omega
   have HS2:Hid (∀ m,Rd b W1 q2 ((W1.drewN m).setCell ⟨b,1,none⟩ (.int .i64 (q2.at_:Int)))):=hide fun m=>by
    rw [hq2]
    exact ⟨((rd0.out.drawn ⟨m,rfl⟩).pb).setAt (p.at_+2),(rd0.out.drawn ⟨m,rfl⟩).pg.tr (PG.set 1 _)⟩
   have HNX:Hid (Nx p q2):=hide (by rw [hq2];exact Nx.at p (Nat.le_add_right _ _))
   have HGR:Hid (q2.groups=p.groups):=hide (by rw [hq2])
   have HAT:Hid (p.at_+1≤q2.at_∧q2.at_≤p.ts.length):=hide (by rw [hq2];show _≤p.at_+2∧p.at_+2≤_;have:=hL9.out;omega)
   have hPI:Hid (∀ (i:Nat),i<7→∃ x:Int,∀ W:World,(Instr.index 9 (.string ⟨#[46,91,92,42,94,36,47]⟩) (.int .i64 (i:Int))).run Tryd.prog W=.ok (.int .u8 x) W):=hide fun i hi=>⟨_,plain_ix ⟨#[46,91,92,42,94,36,47]⟩ [46,91,92,42,94,36,47] rfl (by decide) i hi⟩
   clear hend hk1 hq2
   go_enter Tryd.func93,Tryd.ntmps93
   (try rw [hW1])
   go_wp2
   go_quiet (fail)
   go_wp2
   go_quiet (fail)
   go_wp2
   go_loopw [6] (fun v6 wr=>∃ i:Nat,i≤7∧v6=.int .i64 (i:Int)∧Hid (Rd b W1 q2 wr)) (fun v6 _=>7-(intOf v6).toNat)
   case atStart=>exact ⟨0,by omega,rfl,hide (HS2.out _)⟩
   case round =>
    obtain ⟨i,hi,rfl,rdr⟩:=hrel
    by_cases hin:i<7
    ·have hti:(i:Int)<7:=by omega
     have hiw:IntKind.i64.wrap ((i:Int)+1)=((i+1:Nat):Int):=by rw [IntKind.wrap_i64];omega
     obtain ⟨x,hx⟩:=hPI.out i hin
     by_cases hxc:x=c
     ·have e1:(x == c)=true:=by simp [hxc]
      have e2:decide (x=c)=true:=decide_eq_true hxc
      subst hxc
      have HN:=hide (char_any wr x HCB.out.1 HCB.out.2)
      go_wp2_with fail
      refine HN.out.mono ?_
      rintro e v9 ⟨rfl,b9⟩
      unfold rxV
      have xr:=HRZ.out _ (rdr.out.pg.tr (PG.below b9))
      obtain ⟨r0',r1',r2',r3',r4'⟩:=cells5c xr
      have z0:=fz5c xr 0
      have z1:=fz5c xr 1
      have z2:=fz5c xr 2
      have z3:=fz5c xr 3
      have z4:=fz5c xr 4
      have HE:Hid ((set5 v9 W.heap.size (.int .i64 1) (.int .i64 x) (.int .i64 0) (.string mt0) (.slice none 0 0)).heap[W.heap.size]?=some (.cells #[.int .i64 1,.int .i64 x,.int .i64 0,.string mt0,.slice none 0 0] 25 (0,0))∧TrP 1 p b W #[.int .i64 1,.int .i64 x,.int .i64 0,.string mt0,.slice none 0 0] q2 (set5 v9 W.heap.size (.int .i64 1) (.int .i64 x) (.int .i64 0) (.string mt0) (.slice none 0 0))):=hide ⟨set5_at xr trivial (.int .i64 1) (.int .i64 x) (.int .i64 0) (.string mt0) (.slice none 0 0),(TrP.leaf (s:=1) (p:=p) (W:=W1) (cs:=rxV 1 x 0 mt0 nilV) (q:=q2) (rdr.out.below b9) HNX.out HGR.out HAT.out.1 HAT.out.2 HOK.out (TreeAt.char _ _ _ HCB.out.1 HCB.out.2)).up HBX.out _ _ _ _ _⟩
      unfold set5 at HE
      clear xr b9 HN
      go_wp2
      generalize (((((v9.setCell ⟨W.heap.size,0,none⟩ (.int .i64 1)).setCell ⟨W.heap.size,1,none⟩ (.int .i64 x)).setCell ⟨W.heap.size,2,none⟩ (.int .i64 0)).setCell ⟨W.heap.size,3,none⟩ (.string mt0)).setCell ⟨W.heap.size,4,none⟩ (.slice none 0 0))=Wf at HE ⊢
      obtain ⟨u0,u1,u2,u3,u4⟩:=cells5c HE.out.1
      refine bodyPost_ret (v:=.agg #[.int .i64 1,.int .i64 x,.int .i64 0,.string mt0,.slice none 0 0]) ?_ rfl ⟨_,_,_,_,_,_,_,q2,rfl,HE.out.2⟩
      simp [results,Tryd.results93,go_sem,u0,u1,u2,u3,u4]
     ·have e1:(x == c)=false:=by simpa using hxc
      have e2:decide (x=c)=false:=decide_eq_false hxc
      clear hxc
      go_wp2
      go_roundw
      case rel=>exact ⟨i+1,by omega,by simp,rdr⟩
      case measure=>simp [intOf];omega
    ·have hti:¬ (i:Int)<7:=by omega
     by_cases hn:c=110
     ·have f1:(c == 110)=true:=by simp [hn]
      have f2:decide (c=110)=true:=decide_eq_true hn
      subst hn
      have HN:=hide (char_any wr 10 (by decide) (by decide))
      go_wp2_with fail
      refine HN.out.mono ?_
      rintro e v9 ⟨rfl,b9⟩
      unfold rxV
      have xr:=HRZ.out _ (rdr.out.pg.tr (PG.below b9))
      obtain ⟨r0',r1',r2',r3',r4'⟩:=cells5c xr
      have z0:=fz5c xr 0
      have z1:=fz5c xr 1
      have z2:=fz5c xr 2
      have z3:=fz5c xr 3
      have z4:=fz5c xr 4
      have HE:Hid ((set5 v9 W.heap.size (.int .i64 1) (.int .i64 10) (.int .i64 0) (.string mt0) (.slice none 0 0)).heap[W.heap.size]?=some (.cells #[.int .i64 1,.int .i64 10,.int .i64 0,.string mt0,.slice none 0 0] 25 (0,0))∧TrP 1 p b W #[.int .i64 1,.int .i64 10,.int .i64 0,.string mt0,.slice none 0 0] q2 (set5 v9 W.heap.size (.int .i64 1) (.int .i64 10) (.int .i64 0) (.string mt0) (.slice none 0 0))):=hide ⟨set5_at xr trivial (.int .i64 1) (.int .i64 10) (.int .i64 0) (.string mt0) (.slice none 0 0),(TrP.leaf (s:=1) (p:=p) (W:=W1) (cs:=rxV 1 10 0 mt0 nilV) (q:=q2) (rdr.out.below b9) HNX.out HGR.out HAT.out.1 HAT.out.2 HOK.out (TreeAt.char _ _ _ (by decide) (by decide))).up HBX.out _ _ _ _ _⟩
      unfold set5 at HE
      clear xr b9 HN
      go_wp2
      generalize (((((v9.setCell ⟨W.heap.size,0,none⟩ (.int .i64 1)).setCell ⟨W.heap.size,1,none⟩ (.int .i64 10)).setCell ⟨W.heap.size,2,none⟩ (.int .i64 0)).setCell ⟨W.heap.size,3,none⟩ (.string mt0)).setCell ⟨W.heap.size,4,none⟩ (.slice none 0 0))=Wf at HE ⊢
      obtain ⟨u0,u1,u2,u3,u4⟩:=cells5c HE.out.1
      refine bodyPost_ret (v:=.agg #[.int .i64 1,.int .i64 10,.int .i64 0,.string mt0,.slice none 0 0]) ?_ rfl ⟨_,_,_,_,_,_,_,q2,rfl,HE.out.2⟩
      simp [results,Tryd.results93,go_sem,u0,u1,u2,u3,u4]
     ·have f1:(c == 110)=false:=by simpa using hn
      have f2:decide (c=110)=false:=decide_eq_false hn
      by_cases hd1:(49:Int)≤c
      ·by_cases hd2:c≤(57:Int)
       ·have HFx:=hide (rdr.out.failx (c:=11) (by decide) (p.at_:Int))
        go_wp2_with fail
        refine HFx.out.mono ?_
        rintro e wf ⟨qf,rfl,rdf',kc,kt,ka,ke,kg,ko⟩
        have rdf:=hide rdf'
        have HCf:=hide kc
        have HNf:Hid (Nx p qf):=hide ⟨kt.trans HNX.out.ts,ke.trans HNX.out.ere,ko.trans HNX.out.op,by rw [ka];exact HNX.out.at_,by rw [kg];exact HNX.out.gr,fun e=>absurd e kc⟩
        have HAf:Hid (p.at_+1≤qf.at_∧qf.at_+2*p.open_≤3*p.ts.length+10∧qf.groups≤qf.at_):=hide (by rw [ka,kg];have h1:=HAT.out;have h2:=HGR.out;have h3:=hL9.out;exact ⟨by omega,by omega,by omega⟩)
        clear HFx rdf' kc kt ka ke kg ko
        have xr:=HRZ.out _ rdf.out.pg
        obtain ⟨r0',r1',r2',r3',r4'⟩:=cells5c xr
        have z0:=fz5c xr 0
        have z1:=fz5c xr 1
        have z2:=fz5c xr 2
        have z3:=fz5c xr 3
        have z4:=fz5c xr 4
        have HE:Hid ((set5 wf W.heap.size (.int .i64 0) (.int .i64 0) (.int .i64 0) (.string ⟨#[]⟩) (.slice none 0 0)).heap[W.heap.size]?=some (.cells #[.int .i64 0,.int .i64 0,.int .i64 0,.string ⟨#[]⟩,.slice none 0 0] 25 (0,0))∧TrP 1 p b W #[.int .i64 0,.int .i64 0,.int .i64 0,.string ⟨#[]⟩,.slice none 0 0] qf (set5 wf W.heap.size (.int .i64 0) (.int .i64 0) (.int .i64 0) (.string ⟨#[]⟩) (.slice none 0 0))):=hide ⟨set5_at xr trivial (.int .i64 0) (.int .i64 0) (.int .i64 0) (.string ⟨#[]⟩) (.slice none 0 0),(TrP.bad (s:=1) (p:=p) (W:=W1) (q:=qf) rdf.out HNf.out HCf.out HAf.out.1 HAf.out.2.1 HAf.out.2.2).up HBX.out _ _ _ _ _⟩
        unfold set5 at HE
        clear xr
        go_wp2
        generalize (((((wf.setCell ⟨W.heap.size,0,none⟩ (.int .i64 0)).setCell ⟨W.heap.size,1,none⟩ (.int .i64 0)).setCell ⟨W.heap.size,2,none⟩ (.int .i64 0)).setCell ⟨W.heap.size,3,none⟩ (.string ⟨#[]⟩)).setCell ⟨W.heap.size,4,none⟩ (.slice none 0 0))=Wf at HE ⊢
        obtain ⟨u0,u1,u2,u3,u4⟩:=cells5c HE.out.1
        refine bodyPost_ret (v:=.agg #[.int .i64 0,.int .i64 0,.int .i64 0,.string ⟨#[]⟩,.slice none 0 0]) ?_ rfl ⟨_,_,_,_,_,_,_,qf,rfl,HE.out.2⟩
        simp [results,Tryd.results93,go_sem,u0,u1,u2,u3,u4]
       ·have f3:decide (c≤(57:Int))=false:=decide_eq_false hd2
        have HFx:=hide (rdr.out.failx (c:=4) (by decide) (p.at_:Int))
        go_wp2_with fail
        refine HFx.out.mono ?_
        rintro e wf ⟨qf,rfl,rdf',kc,kt,ka,ke,kg,ko⟩
        have rdf:=hide rdf'
        have HCf:=hide kc
        have HNf:Hid (Nx p qf):=hide ⟨kt.trans HNX.out.ts,ke.trans HNX.out.ere,ko.trans HNX.out.op,by rw [ka];exact HNX.out.at_,by rw [kg];exact HNX.out.gr,fun e=>absurd e kc⟩
        have HAf:Hid (p.at_+1≤qf.at_∧qf.at_+2*p.open_≤3*p.ts.length+10∧qf.groups≤qf.at_):=hide (by rw [ka,kg];have h1:=HAT.out;have h2:=HGR.out;have h3:=hL9.out;exact ⟨by omega,by omega,by omega⟩)
        clear HFx rdf' kc kt ka ke kg ko
        have xr:=HRZ.out _ rdf.out.pg
        obtain ⟨r0',r1',r2',r3',r4'⟩:=cells5c xr
        have z0:=fz5c xr 0
        have z1:=fz5c xr 1
        have z2:=fz5c xr 2
        have z3:=fz5c xr 3
        have z4:=fz5c xr 4
        have HE:Hid ((set5 wf W.heap.size (.int .i64 0) (.int .i64 0) (.int .i64 0) (.string ⟨#[]⟩) (.slice none 0 0)).heap[W.heap.size]?=some (.cells #[.int .i64 0,.int .i64 0,.int .i64 0,.string ⟨#[]⟩,.slice none 0 0] 25 (0,0))∧TrP 1 p b W #[.int .i64 0,.int .i64 0,.int .i64 0,.string ⟨#[]⟩,.slice none 0 0] qf (set5 wf W.heap.size (.int .i64 0) (.int .i64 0) (.int .i64 0) (.string ⟨#[]⟩) (.slice none 0 0))):=hide ⟨set5_at xr trivial (.int .i64 0) (.int .i64 0) (.int .i64 0) (.string ⟨#[]⟩) (.slice none 0 0),(TrP.bad (s:=1) (p:=p) (W:=W1) (q:=qf) rdf.out HNf.out HCf.out HAf.out.1 HAf.out.2.1 HAf.out.2.2).up HBX.out _ _ _ _ _⟩
        unfold set5 at HE
        clear xr
        go_wp2
        generalize (((((wf.setCell ⟨W.heap.size,0,none⟩ (.int .i64 0)).setCell ⟨W.heap.size,1,none⟩ (.int .i64 0)).setCell ⟨W.heap.size,2,none⟩ (.int .i64 0)).setCell ⟨W.heap.size,3,none⟩ (.string ⟨#[]⟩)).setCell ⟨W.heap.size,4,none⟩ (.slice none 0 0))=Wf at HE ⊢
        obtain ⟨u0,u1,u2,u3,u4⟩:=cells5c HE.out.1
        refine bodyPost_ret (v:=.agg #[.int .i64 0,.int .i64 0,.int .i64 0,.string ⟨#[]⟩,.slice none 0 0]) ?_ rfl ⟨_,_,_,_,_,_,_,qf,rfl,HE.out.2⟩
        simp [results,Tryd.results93,go_sem,u0,u1,u2,u3,u4]
      ·have f3:decide ((49:Int)≤c)=false:=decide_eq_false hd1
       have HFx:=hide (rdr.out.failx (c:=4) (by decide) (p.at_:Int))
       go_wp2_with fail
       refine HFx.out.mono ?_
       rintro e wf ⟨qf,rfl,rdf',kc,kt,ka,ke,kg,ko⟩
       have rdf:=hide rdf'
       have HCf:=hide kc
       have HNf:Hid (Nx p qf):=hide ⟨kt.trans HNX.out.ts,ke.trans HNX.out.ere,ko.trans HNX.out.op,by rw [ka];exact HNX.out.at_,by rw [kg];exact HNX.out.gr,fun e=>absurd e kc⟩
       have HAf:Hid (p.at_+1≤qf.at_∧qf.at_+2*p.open_≤3*p.ts.length+10∧qf.groups≤qf.at_):=hide (by rw [ka,kg];have h1:=HAT.out;have h2:=HGR.out;have h3:=hL9.out;exact ⟨by omega,by omega,by omega⟩)
       clear HFx rdf' kc kt ka ke kg ko
       have xr:=HRZ.out _ rdf.out.pg
       obtain ⟨r0',r1',r2',r3',r4'⟩:=cells5c xr
       have z0:=fz5c xr 0
       have z1:=fz5c xr 1
       have z2:=fz5c xr 2
       have z3:=fz5c xr 3
       have z4:=fz5c xr 4
       have HE:Hid ((set5 wf W.heap.size (.int .i64 0) (.int .i64 0) (.int .i64 0) (.string ⟨#[]⟩) (.slice none 0 0)).heap[W.heap.size]?=some (.cells #[.int .i64 0,.int .i64 0,.int .i64 0,.string ⟨#[]⟩,.slice none 0 0] 25 (0,0))∧TrP 1 p b W #[.int .i64 0,.int .i64 0,.int .i64 0,.string ⟨#[]⟩,.slice none 0 0] qf (set5 wf W.heap.size (.int .i64 0) (.int .i64 0) (.int .i64 0) (.string ⟨#[]⟩) (.slice none 0 0))):=hide ⟨set5_at xr trivial (.int .i64 0) (.int .i64 0) (.int .i64 0) (.string ⟨#[]⟩) (.slice none 0 0),(TrP.bad (s:=1) (p:=p) (W:=W1) (q:=qf) rdf.out HNf.out HCf.out HAf.out.1 HAf.out.2.1 HAf.out.2.2).up HBX.out _ _ _ _ _⟩
       unfold set5 at HE
       clear xr
       go_wp2
       generalize (((((wf.setCell ⟨W.heap.size,0,none⟩ (.int .i64 0)).setCell ⟨W.heap.size,1,none⟩ (.int .i64 0)).setCell ⟨W.heap.size,2,none⟩ (.int .i64 0)).setCell ⟨W.heap.size,3,none⟩ (.string ⟨#[]⟩)).setCell ⟨W.heap.size,4,none⟩ (.slice none 0 0))=Wf at HE ⊢
       obtain ⟨u0,u1,u2,u3,u4⟩:=cells5c HE.out.1
       refine bodyPost_ret (v:=.agg #[.int .i64 0,.int .i64 0,.int .i64 0,.string ⟨#[]⟩,.slice none 0 0]) ?_ rfl ⟨_,_,_,_,_,_,_,qf,rfl,HE.out.2⟩
       simp [results,Tryd.results93,go_sem,u0,u1,u2,u3,u4]
end Go.Proofs.YtfhimmnoipfiaaaDoor.eng
