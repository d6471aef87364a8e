import Derived.Test.YtfhimmnoipfiaaaDoorQ12
import Derived.Test.YtfhimmnoipfiaaaDoorUPcl
import Derived.Test.YtfhimmnoipfiaaaDoorQ03
import Derived.Test.YtfhimmnoipfiaaaDoorQ02
import Derived.Deep.QuietTactic
import Derived.BigQuiet
namespace Go.Proofs.YtfhimmnoipfiaaaDoor.eng
open Go.ChangeShapes Go.WideShapes Go.ChangeAt Go.RowKit
open bytes places sets tz rex
set_option linter.unusedVariables false
def BoolRow (w:World) (D:Nat):Prop:=∃ cur:Array Value,w.heap[D]?=some (.cells cur 4 (0,0))∧cur.size=256∧∀ i,i<256→∃ x:Bool,cur[i]?=some (.bool x)
section
variable {w w' W:World} {D b:Nat} {p q:Pq}
theorem BoolRow.at_ (h:BoolRow w D) {i:Nat} (hi:i<256):∃ x:Bool,w.cell? ⟨D,i,none⟩=some (.bool x):=by
 obtain ⟨cur,h1,h2,h3⟩:=h
 obtain ⟨x,hx⟩:=h3 i hi
 exact ⟨x,by simp [World.cell?,h1,hx]⟩
theorem BoolRow.fz (h:BoolRow w D) (i:Nat):w.frozen? ⟨D,i,none⟩=false:=by
 obtain ⟨cur,h1,_⟩:=h
 simp [World.frozen?,h1]
theorem BoolRow.lt (h:BoolRow w D):D<w.heap.size:=by
 obtain ⟨cur,h1,_⟩:=h
 exact (Array.getElem?_eq_some_iff.1 h1).1
theorem BoolRow.keep (h:BoolRow w D) (e:w'.heap[D]?=w.heap[D]?):BoolRow w' D:=by
 obtain ⟨cur,h1,h2⟩:=h
 exact ⟨cur,e.trans h1,h2⟩
theorem BoolRow.set (h:BoolRow w D) {i:Nat} (hi:i<256) (x:Bool):BoolRow (w.setCell ⟨D,i,none⟩ (.bool x)) D:=by
 obtain ⟨cur,h1,h2,h3⟩:=h
 have e:=heap_setCell_same w D i cur 4 (.bool x) h1
 refine ⟨_,e,by simpa using h2,fun j hj => ?_⟩
 by_cases hij:i=j
 ·subst hij
  exact ⟨x,by simp [h2,hi]⟩
 ·obtain ⟨y,hy⟩:=h3 j hj
  refine ⟨y,?_⟩
  simp [hij,hy]
structure Ms (b D:Nat) (W:World) (q:Pq) (w:World):Prop where
 rd:Rd b W q w
 row:BoolRow w D
 lo:W.heap.size≤D
 b:b<W.heap.size
theorem Ms.grown (h:Ms b D W p w) (hr:Rd b w q w'):Ms b D W q w' :=
 ⟨h.rd.tr hr,h.row.keep (hr.pg.block D h.row.lt (by have:=h.lo;have:=h.b;simp;omega)),h.lo,h.b⟩
theorem Ms.drawn (h:Ms b D W q w) (hd:Drawn w w'):Ms b D W q w':=h.grown ((Rd.refl h.rd.pb).drawn hd)
theorem Ms.is (h:Ms b D W q w) (hL:q.ts.length≤1000) (ha:q.at_≤2000) (S:ByteArray) (hS:S.size≤10):Calls Tryd.prog 61 #[.pointer (some ⟨b,0,none⟩),.string S] w fun e w'=>e=.returned (.bool (q.is S))∧Ms b D W q w' :=
 ((Rd.refl h.rd.pb).is hL ha S hS).mono fun e w' ⟨h1,h2⟩=>⟨h1,h.grown h2⟩
theorem Ms.failx (h:Ms b D W q w) {c:Int} (hc:c≠0) (x:Int):Calls Tryd.prog 40 #[.pointer (some ⟨b,0,none⟩),.int .i64 c,.int .i64 x] w fun e w'=>∃ r:Pq,e=.returned (.tuple #[])∧Ms b D W r w'∧r.code≠0∧r.ts=q.ts∧r.at_=q.at_∧r.ere=q.ere∧r.groups=q.groups∧r.open_=q.open_ :=
 ((Rd.refl h.rd.pb).failx hc x).mono fun e w' ⟨r,h1,h2,h3⟩=>⟨r,h1,h.grown h2,h3⟩
theorem Ms.setAt (h:Ms b D W q w) (n:Nat):Ms b D W { q with at_:=n } (w.setCell ⟨b,1,none⟩ (.int .i64 (n:Int))):=h.grown ⟨h.rd.pb.setAt n,PG.set 1 _⟩
theorem Ms.setRow (h:Ms b D W q w) {i:Nat} (hi:i<256) (x:Bool):Ms b D W q (w.setCell ⟨D,i,none⟩ (.bool x)) :=
 ⟨h.rd.setNew (by have:=h.lo;have:=h.b;omega) h.lo i _,h.row.set hi x,h.lo,h.b⟩
structure Nqm (p q:Pq):Prop where
 nx:Nx p q
 gr:q.groups=p.groups
 le:q.at_≤p.ts.length
def MeR (p:Pq) (b D:Nat) (W:World) (e:Ending) (w':World):Prop:=e=.returned (.tuple #[])∧∃ q,Ms b D W q w'∧Nx p q∧q.groups=p.groups∧q.at_≤p.ts.length∧(q.code=0→p.at_<q.at_)
end
set_option maxRecDepth 10000 in
set_option maxHeartbeats 8000000 in
theorem member_any (p:Pq) (b D:Nat) (W w:World) (h:Ms b D W p w) (hk:p.ts.length≤200) (hts:∀ t∈p.ts,0≤t∧t≤255) (ha:p.at_≤p.ts.length) :
  Calls Tryd.prog 102 #[.pointer (some ⟨b,0,none⟩),.slice (some ⟨D,0,none⟩) 256 256] w (MeR p b D W):=by
 have HL:Hid (p.ts.length≤200∧p.at_≤p.ts.length):=hide ⟨hk,ha⟩
 have HTX:=hide fun (k:Nat) (hlt:k<p.ts.length) (W:World)=>index_text p.ts hts k hlt W
 have HCC:=hide fun (k:Nat)=>getD_bd hts k
 have hS:=strOfNums_size p.ts
 obtain ⟨x0,x1,x2,x3,x5,x6,xf1,xf5,xf6⟩:=h.rd.can
 obtain ⟨T,hT⟩:∃ T,strOfNums p.ts=T:=⟨_,rfl⟩
 rw [hT] at x0 hS HTX
 have HT:=hide hT
 have ms0:=hide h
 have HNp:Hid (Nqm p p):=hide ⟨Nx.refl p,rfl,ha⟩
 clear h hts hk ha hT
 by_cases hat:p.at_<p.ts.length
 ·have a1:¬ (p.ts.length:Int)≤(p.at_:Int):=by omega
  have a2:decide ((p.ts.length:Int)≤(p.at_:Int))=false:=decide_eq_false a1
  have a3:decide (p.ts.length≤p.at_)=false:=decide_eq_false (by omega)
  have HAt:=hide hat
  have HI1:Hid (∀ m,Calls Tryd.prog 61 #[.pointer (some ⟨b,0,none⟩),.string ⟨#[91,46]⟩] (w.drewN m) fun e w'=>e=.returned (.bool (p.is ⟨#[91,46]⟩))∧Ms b D W p w'):=hide fun m=>(ms0.out.drawn ⟨m,rfl⟩).is (by have:=HL.out;omega) (by have:=HL.out;omega) ⟨#[91,46]⟩ (by decide)
  have HI2:Hid (∀ w',Ms b D W p w'→Calls Tryd.prog 61 #[.pointer (some ⟨b,0,none⟩),.string ⟨#[91,61]⟩] w' fun e w'=>e=.returned (.bool (p.is ⟨#[91,61]⟩))∧Ms b D W p w'):=hide fun w' h=>h.is (by have:=HL.out;omega) (by have:=HL.out;omega) ⟨#[91,61]⟩ (by decide)
  have HI3:Hid (∀ w',Ms b D W p w'→Calls Tryd.prog 61 #[.pointer (some ⟨b,0,none⟩),.string ⟨#[91,58]⟩] w' fun e w'=>e=.returned (.bool (p.is ⟨#[91,58]⟩))∧Ms b D W p w'):=hide fun w' h=>h.is (by have:=HL.out;omega) (by have:=HL.out;omega) ⟨#[91,58]⟩ (by decide)
  clear hat
  go_enter Tryd.func102,Tryd.ntmps102
  go_wp2
  go_quiet (fail)
  go_wp2_with fail
  refine (HI1.out _).mono ?_
  rintro e w1 ⟨rfl,ms1'⟩
  have ms1:=hide ms1'
  clear ms1' HI1 x0 x1 x2 x3 x5 x6 xf1 xf5 xf6
  cases hB1:p.is ⟨#[91,46]⟩ with
  | true =>
   clear hB1 HI2 HI3
   have HFx:=hide (ms1.out.failx (c:=4) (by decide) (p.at_:Int))
   go_wp2_with fail
   refine HFx.out.mono ?_
   rintro e wf ⟨qf,rfl,msf,kc,kt,ka,ke,kg,ko⟩
   have HE:Hid (MeR p b D W (.returned (.tuple #[])) wf):=hide ⟨rfl,qf,msf,⟨kt.trans HNp.out.nx.ts,ke.trans HNp.out.nx.ere,ko.trans HNp.out.nx.op,by rw [ka];exact HNp.out.nx.at_,by rw [kg];exact HNp.out.nx.gr,fun e=>absurd e kc⟩,kg.trans HNp.out.gr,by rw [ka];exact HNp.out.le,fun e=>absurd e kc⟩
   clear HFx kc kt ka ke kg ko msf
   go_wp2
   refine bodyPost_ret (results_none rfl _ _ _) rfl ?_
   exact HE.out
  | false =>
   clear hB1
   go_wp2_with fail
   refine (HI2.out _ ms1.out).mono ?_
   rintro e w2 ⟨rfl,ms2'⟩
   have ms2:=hide ms2'
   clear ms2' HI2 ms1
   cases hB2:p.is ⟨#[91,61]⟩ with
   | true =>
    clear hB2 HI3
    have HFx:=hide (ms2.out.failx (c:=4) (by decide) (p.at_:Int))
    go_wp2_with fail
    refine HFx.out.mono ?_
    rintro e wf ⟨qf,rfl,msf,kc,kt,ka,ke,kg,ko⟩
    have HE:Hid (MeR p b D W (.returned (.tuple #[])) wf):=hide ⟨rfl,qf,msf,⟨kt.trans HNp.out.nx.ts,ke.trans HNp.out.nx.ere,ko.trans HNp.out.nx.op,by rw [ka];exact HNp.out.nx.at_,by rw [kg];exact HNp.out.nx.gr,fun e=>absurd e kc⟩,kg.trans HNp.out.gr,by rw [ka];exact HNp.out.le,fun e=>absurd e kc⟩
    clear HFx kc kt ka ke kg ko msf
    go_wp2
    refine bodyPost_ret (results_none rfl _ _ _) rfl ?_
    exact HE.out
   | false =>
    clear hB2
    go_wp2_with fail
    refine (HI3.out _ ms2.out).mono ?_
    rintro e w3 ⟨rfl,ms3'⟩
    have ms3:=hide ms3'
    obtain ⟨x0,x1,x2,x3,x5,x6,xf1,xf5,xf6⟩:=ms3'.rd.can
    rw [HT.out] at x0
    clear ms3' HI3 ms2
    cases hB3:p.is ⟨#[91,58]⟩ with
    | true =>
     have HB3:=hide (is_true hB3)
     clear hB3
     obtain ⟨k2,hk2⟩:∃ k2,k2=p.at_+2:=⟨_,rfl⟩
     have hw2:IntKind.i64.wrap ((p.at_:Int)+2)=(k2:Int):=by rw [IntKind.wrap_i64];have:=HL.out;omega
     have HK2:Hid (k2≤p.ts.length∧p.at_+2=k2):=hide ⟨by have h:=HB3.out.2;rw [hk2];exact h,hk2.symm⟩
     clear hk2
     go_wp2
     go_loopw [5] (fun v5 wr=>∃ k:Nat,k2≤k∧k≤p.ts.length∧v5=.int .i64 (k:Int)∧Hid (Ms b D W p wr)) (fun v5 _=>p.ts.length-(intOf v5).toNat)
     case atStart=>exact ⟨k2,Nat.le_refl _,HK2.out.1,rfl,ms3⟩
     case round =>
      obtain ⟨k,hk2k,hkl,rfl,msk⟩:=hrel
      obtain ⟨y0,y1,y2,y3,y5,y6,yf1,yf5,yf6⟩:=msk.out.rd.can
      rw [HT.out] at y0
      clear x0 x1 x2 x3 x5 x6 xf1 xf5 xf6
      by_cases hkL:k<p.ts.length
      ·have i1:(k:Int)<(p.ts.length:Int):=by omega
       have hix:=HTX.out k hkL
       generalize p.ts.getD k 0=c at hix
       have HLt:=hide (letter_any wr c)
       have hkw:IntKind.i64.wrap ((k:Int)+1)=((k+1:Nat):Int):=by rw [IntKind.wrap_i64];have:=HL.out;omega
       go_wp2_with fail
       refine HLt.out.mono ?_
       rintro e wr ⟨r,rfl,rfl⟩
       clear HLt
       cases r with
       | true =>
        go_wp2
        go_roundw
        case rel=>exact ⟨k+1,by omega,by omega,by simp,msk⟩
        case measure=>simp [intOf];omega
       | false =>
        have s1:(k2:Int)≤(k:Int):=by omega
        have s2:(k:Int)≤(p.ts.length:Int):=by omega
        have hkw2:IntKind.i64.wrap ((k:Int)+2)=((k+2:Nat):Int):=by rw [IntKind.wrap_i64];have:=HL.out;omega
        obtain ⟨nm,hnm⟩:∃ nm,T.extract k2 k=nm:=⟨_,rfl⟩
        have hnm2:T.extract ((k2:Int)).toNat ((k:Int)).toNat=nm:=by rw [←hnm];rfl
        have HCl:=hide fun (W:World) (c:Int)=>class_any W nm c
        have msD:Hid (∀ m,Ms b D W p (wr.drewN m)):=hide fun m=>msk.out.drawn ⟨m,rfl⟩
        go_wp2
        go_quiet (fail)
        go_wp2_with fail
        refine (HCl.out _ _).mono ?_
        rintro e wl2 ⟨r1,r2,rfl,hwl⟩
        have ms5:Hid (Ms b D W p wl2):=hide (by rw [hwl];exact msD.out _)
        obtain ⟨z0,z1,z2,z3,z5,z6,zf1,zf5,zf6⟩:=ms5.out.rd.can
        rw [HT.out] at z0
        clear hwl y0 y1 y2 y3 y5 y6 yf1 yf5 yf6 hnm hnm2
        have HNp:Hid (Nqm p p):=hide ⟨Nx.refl p,rfl,HL.out.2⟩
        cases r2 with
        | false =>
         have HFx:=hide (ms5.out.failx (c:=4) (by decide) (p.at_:Int))
         go_wp2_with fail
         refine HFx.out.mono ?_
         rintro e wf ⟨qf,rfl,msf,kc,kt,ka,ke,kg,ko⟩
         have HE:Hid (MeR p b D W (.returned (.tuple #[])) wf):=hide ⟨rfl,qf,msf,⟨kt.trans HNp.out.nx.ts,ke.trans HNp.out.nx.ere,ko.trans HNp.out.nx.op,by rw [ka];exact HNp.out.nx.at_,by rw [kg];exact HNp.out.nx.gr,fun e=>absurd e kc⟩,kg.trans HNp.out.gr,by rw [ka];exact HNp.out.le,fun e=>absurd e kc⟩
         clear HFx kc kt ka ke kg ko msf
         go_wp2
         refine bodyPost_ret (results_none rfl _ _ _) rfl ?_
         exact HE.out
        | true =>
         by_cases hov:k+2≤p.ts.length
         ·have o1:¬ (p.ts.length:Int)<((k+2:Nat):Int):=by omega
          have o2:decide ((p.ts.length:Int)<((k+2:Nat):Int))=false:=decide_eq_false o1
          have o1':¬ (p.ts.length:Int)<(k:Int)+2:=by omega
          have o2':decide ((p.ts.length:Int)<(k:Int)+2)=false:=decide_eq_false o1'
          have s3:(k:Int)≤(k:Int)+2:=by omega
          have s4:(k:Int)+2≤(p.ts.length:Int):=by omega
          have s3':(k:Int)≤((k+2:Nat):Int):=by omega
          have s4':((k+2:Nat):Int)≤(p.ts.length:Int):=by omega
          obtain ⟨X,eX⟩:∃ X,T.extract k (k+2)=X:=⟨_,rfl⟩
          have eX2:T.extract k ((k:Int)+2).toNat=X:=by rw [←eX];congr 1
          cases hXb:(X.toList == [58,93]) with
          | false =>
           have HFx:=hide (ms5.out.failx (c:=4) (by decide) (p.at_:Int))
           go_wp2_with fail
           refine HFx.out.mono ?_
           rintro e wf ⟨qf,rfl,msf,kc,kt,ka,ke,kg,ko⟩
           have HE:Hid (MeR p b D W (.returned (.tuple #[])) wf):=hide ⟨rfl,qf,msf,⟨kt.trans HNp.out.nx.ts,ke.trans HNp.out.nx.ere,ko.trans HNp.out.nx.op,by rw [ka];exact HNp.out.nx.at_,by rw [kg];exact HNp.out.nx.gr,fun e=>absurd e kc⟩,kg.trans HNp.out.gr,by rw [ka];exact HNp.out.le,fun e=>absurd e kc⟩
           clear HFx kc kt ka ke kg ko msf
           go_wp2
           refine bodyPost_ret (results_none rfl _ _ _) rfl ?_
           exact HE.out
          | true =>
           have HTo:Hid (k+2≤p.ts.length∧p.at_<k+2):=hide ⟨hov,by have:=HK2.out.2;omega⟩
           go_wp2
           go_loopw [9,10,11] (fun v9 _ _ wr=>∃ c:Nat,c≤256∧v9=.int .i64 (c:Int)∧Hid (Ms b D W p wr)) (fun v9 _ _ _=>256-(intOf v9).toNat)
           case atStart=>exact ⟨0,by omega,rfl,ms5⟩
           case round =>
            obtain ⟨c,hc,rfl,msc⟩:=hrel
            clear z0 z1 z2 z3 z5 z6 zf1 zf5 zf6
            obtain ⟨z0,z1,z2,z3,z5,z6,zf1,zf5,zf6⟩:=msc.out.rd.can
            by_cases hcl:c<256
            ·have c1:(c:Int)<256:=by omega
             have cw:IntKind.u8.wrap (c:Int)=(c:Int):=by rw [IntKind.wrap_u8];omega
             have cw1:IntKind.i64.wrap ((c:Int)+1)=((c+1:Nat):Int):=by rw [IntKind.wrap_i64];omega
             obtain ⟨x,hx⟩:=msc.out.row.at_ hcl
             have hxf:=msc.out.row.fz c
             have HS:Hid (∀ v:Bool,Ms b D W p (wr.setCell ⟨D,c,none⟩ (.bool v))):=hide fun v=>msc.out.setRow hcl v
             have HC5:=hide (HCl.out wr (c:Int))
             go_wp2_with fail
             refine HC5.out.mono ?_
             rintro e wr ⟨t1,t2,rfl,rfl⟩
             cases x with
             | true =>
              go_wp2
              go_roundw
              case rel=>exact ⟨c+1,by omega,by simp,hide (HS.out _)⟩
              case measure=>simp [intOf];omega
             | false =>
              go_wp2
              go_roundw
              case rel=>exact ⟨c+1,by omega,by simp,hide (HS.out _)⟩
              case measure=>simp [intOf];omega
            ·have c1:¬ (c:Int)<256:=by omega
             have HE:Hid (MeR p b D W (.returned (.tuple #[])) (wr.setCell ⟨b,1,none⟩ (.int .i64 ((k+2:Nat):Int)))):=hide ⟨rfl,_,msc.out.setAt (k+2),Nx.at p (by have:=HTo.out;omega),rfl,HTo.out.1,fun _=>HTo.out.2⟩
             go_wp2
             refine bodyPost_ret (results_none rfl _ _ _) rfl ?_
             exact HE.out
         ·have o1:(p.ts.length:Int)<((k+2:Nat):Int):=by omega
          have o2:decide ((p.ts.length:Int)<((k+2:Nat):Int))=true:=decide_eq_true o1
          have o1':(p.ts.length:Int)<(k:Int)+2:=by omega
          have o2':decide ((p.ts.length:Int)<(k:Int)+2)=true:=decide_eq_true o1'
          have HFx:=hide (ms5.out.failx (c:=4) (by decide) (p.at_:Int))
          go_wp2_with fail
          refine HFx.out.mono ?_
          rintro e wf ⟨qf,rfl,msf,kc,kt,ka,ke,kg,ko⟩
          have HE:Hid (MeR p b D W (.returned (.tuple #[])) wf):=hide ⟨rfl,qf,msf,⟨kt.trans HNp.out.nx.ts,ke.trans HNp.out.nx.ere,ko.trans HNp.out.nx.op,by rw [ka];exact HNp.out.nx.at_,by rw [kg];exact HNp.out.nx.gr,fun e=>absurd e kc⟩,kg.trans HNp.out.gr,by rw [ka];exact HNp.out.le,fun e=>absurd e kc⟩
          clear HFx kc kt ka ke kg ko msf
          go_wp2
          refine bodyPost_ret (results_none rfl _ _ _) rfl ?_
          exact HE.out
      ·have i1:decide ((k:Int)<(p.ts.length:Int))=false:=by simp;omega
       have i2:¬ (k:Int)<(p.ts.length:Int):=by omega
       have s1:(k2:Int)≤(k:Int):=by omega
       have s2:(k:Int)≤(p.ts.length:Int):=by omega
       have hkw2:IntKind.i64.wrap ((k:Int)+2)=((k+2:Nat):Int):=by rw [IntKind.wrap_i64];have:=HL.out;omega
       obtain ⟨nm,hnm⟩:∃ nm,T.extract k2 k=nm:=⟨_,rfl⟩
       have hnm2:T.extract ((k2:Int)).toNat ((k:Int)).toNat=nm:=by rw [←hnm];rfl
       have HCl:=hide fun (W:World) (c:Int)=>class_any W nm c
       have msD:Hid (∀ m,Ms b D W p (wr.drewN m)):=hide fun m=>msk.out.drawn ⟨m,rfl⟩
       go_wp2
       go_quiet (fail)
       go_wp2_with fail
       refine (HCl.out _ _).mono ?_
       rintro e wl2 ⟨r1,r2,rfl,hwl⟩
       have ms5:Hid (Ms b D W p wl2):=hide (by rw [hwl];exact msD.out _)
       obtain ⟨z0,z1,z2,z3,z5,z6,zf1,zf5,zf6⟩:=ms5.out.rd.can
       rw [HT.out] at z0
       clear hwl y0 y1 y2 y3 y5 y6 yf1 yf5 yf6 hnm hnm2
       have HNp:Hid (Nqm p p):=hide ⟨Nx.refl p,rfl,HL.out.2⟩
       cases r2 with
       | false =>
        have HFx:=hide (ms5.out.failx (c:=4) (by decide) (p.at_:Int))
        go_wp2_with fail
        refine HFx.out.mono ?_
        rintro e wf ⟨qf,rfl,msf,kc,kt,ka,ke,kg,ko⟩
        have HE:Hid (MeR p b D W (.returned (.tuple #[])) wf):=hide ⟨rfl,qf,msf,⟨kt.trans HNp.out.nx.ts,ke.trans HNp.out.nx.ere,ko.trans HNp.out.nx.op,by rw [ka];exact HNp.out.nx.at_,by rw [kg];exact HNp.out.nx.gr,fun e=>absurd e kc⟩,kg.trans HNp.out.gr,by rw [ka];exact HNp.out.le,fun e=>absurd e kc⟩
        clear HFx kc kt ka ke kg ko msf
        go_wp2
        refine bodyPost_ret (results_none rfl _ _ _) rfl ?_
        exact HE.out
       | true =>
        by_cases hov:k+2≤p.ts.length
        ·exfalso;omega
        ·have o1:(p.ts.length:Int)<((k+2:Nat):Int):=by omega
         have o2:decide ((p.ts.length:Int)<((k+2:Nat):Int))=true:=decide_eq_true o1
         have o1':(p.ts.length:Int)<(k:Int)+2:=by omega
         have o2':decide ((p.ts.length:Int)<(k:Int)+2)=true:=decide_eq_true o1'
         have HFx:=hide (ms5.out.failx (c:=4) (by decide) (p.at_:Int))
         go_wp2_with fail
         refine HFx.out.mono ?_
         rintro e wf ⟨qf,rfl,msf,kc,kt,ka,ke,kg,ko⟩
         have HE:Hid (MeR p b D W (.returned (.tuple #[])) wf):=hide ⟨rfl,qf,msf,⟨kt.trans HNp.out.nx.ts,ke.trans HNp.out.nx.ere,ko.trans HNp.out.nx.op,by rw [ka];exact HNp.out.nx.at_,by rw [kg];exact HNp.out.nx.gr,fun e=>absurd e kc⟩,kg.trans HNp.out.gr,by rw [ka];exact HNp.out.le,fun e=>absurd e kc⟩
         clear HFx kc kt ka ke kg ko msf
         go_wp2
         refine bodyPost_ret (results_none rfl _ _ _) rfl ?_
         exact HE.out
    | false =>
     clear hB3
     have hix:=HTX.out p.at_ HAt.out
     have HLw:=hide (HCC.out p.at_)
     have i0:(p.at_:Int)<(p.ts.length:Int):=by have:=HAt.out;omega
     generalize p.ts.getD p.at_ 0=low at hix HLw
     have cwl:IntKind.i64.wrap low=low:=by rw [IntKind.wrap_i64];have:=HLw.out;omega
     obtain ⟨q1,hq1⟩:∃ q1:Pq,q1={ p with at_:=p.at_+1 }:=⟨_,rfl⟩
     have HQ1:Hid (q1.at_=p.at_+1∧q1.ts=p.ts∧q1.groups=p.groups∧Nx p q1):=hide (by rw [hq1];exact ⟨rfl,rfl,rfl,Nx.at p (Nat.le_succ _)⟩)
     have hwa:IntKind.i64.wrap ((p.at_:Int)+1)=(q1.at_:Int):=by rw [IntKind.wrap_i64,HQ1.out.1];have:=HL.out;omega
     have HS1:Hid (∀ m,Ms b D W q1 ((w3.drewN m).setCell ⟨b,1,none⟩ (.int .i64 (q1.at_:Int)))):=hide fun m=>by
      rw [hq1]
      exact (ms3.out.drawn ⟨m,rfl⟩).setAt (p.at_+1)
     clear hq1
     have HLo:Hid (((low.toNat:Nat):Int)=low):=hide (by have:=HLw.out;omega)
     go_wp2
     go_quiet (fail)
     go_upto_region 22 with fail
     generalize hV:(w3.drewN nq).setCell ⟨b,1,none⟩ (.int .i64 (q1.at_:Int))=V
     have ms1:Hid (Ms b D W q1 V):=hide (by rw [←hV];exact HS1.out _)
     clear hV
     clear x0 x1 x2 x3 x5 x6 xf1 xf5 xf6 HS1 hwa
     obtain ⟨x0,x1,x2,x3,x5,x6,xf1,xf5,xf6⟩:=ms1.out.rd.can
     rw [HQ1.out.2.1,HT.out] at x0
     have HI:=hide fun (m:Nat)=>(is_any q1 b (V.drewN m) (ms1.out.rd.pb.drawn ⟨m,rfl⟩) (by rw [HQ1.out.2.1];have:=HL.out;omega) (by rw [HQ1.out.1];have:=HL.out;omega) ⟨#[45]⟩ (by decide))
     obtain ⟨k2,hk2⟩:∃ k2,k2=q1.at_+1:=⟨_,rfl⟩
     have HK2:=hide hk2
     have hwk:IntKind.i64.wrap ((q1.at_:Int)+1)=(k2:Int):=by rw [IntKind.wrap_i64,hk2,HQ1.out.1];have:=HL.out;omega
     clear hk2
     have ONE1:Hid (∀ m,Ms b D W q1 (V.drewN m)):=hide fun m=>ms1.out.drawn ⟨m,rfl⟩
     cases hB:q1.is ⟨#[45]⟩ with
     | false =>
      rw [hB] at HI
      clear hB
      obtain ⟨qz,hqz⟩:∃ qz:Pq,qz=q1:=⟨_,rfl⟩
      have HNqz:Hid (Nqm p qz):=hide (by rw [hqz];exact ⟨HQ1.out.2.2.2,HQ1.out.2.2.1,by rw [HQ1.out.1];have:=HAt.out;omega⟩)
      have HFar:Hid (p.at_<qz.at_):=hide (by rw [hqz,HQ1.out.1];omega)
      have ONEz:Hid (∀ m,Ms b D W qz (V.drewN m)):=hide (by rw [hqz];exact ONE1.out)
      clear hqz
      go_quiet ((go_at_call 61;exact Calls.quiet_of (HI.out _)))
      go_upto_if 203 with fail
      generalize hZ:V.drewN _=VZ
      have msZ:Hid (Ms b D W qz VZ):=hide (by rw [←hZ];exact ONEz.out _)
      have HHi:=hide HLw.out
      clear hZ
      by_cases hhl:low<low
      ·have d1:decide (low<low)=true:=decide_eq_true hhl
       exfalso;omega
      ·have d1:decide (low<low)=false:=decide_eq_false hhl
       go_wp2
       go_loopw [14] (fun v14 wr=>∃ c:Nat,v14=.int .i64 (c:Int)∧Hid (Ms b D W qz wr∧(c:Int)≤low+1)) (fun v14 _=>300-(intOf v14).toNat)
       case atStart=>exact ⟨low.toNat,by rw [HLo.out],hide ⟨msZ.out,by have:=HLo.out;omega⟩⟩
       case round =>
        obtain ⟨c,rfl,msc⟩:=hrel
        by_cases hcl:(c:Int)≤low
        ·have d2:(c:Int)≤low:=hcl
         have hc9:c<256:=by have:=HHi.out;omega
         have c9:(c:Int)<256:=by omega
         have cw1:IntKind.i64.wrap ((c:Int)+1)=((c+1:Nat):Int):=by rw [IntKind.wrap_i64];omega
         have hxf:=msc.out.1.row.fz c
         obtain ⟨x,hx⟩:=msc.out.1.row.at_ hc9
         have HS:Hid (∀ v:Bool,Ms b D W qz (wr.setCell ⟨D,c,none⟩ (.bool v))∧((c+1:Nat):Int)≤low+1):=hide fun v=>⟨msc.out.1.setRow hc9 v,by omega⟩
         go_wp2
         go_roundw
         case rel=>exact ⟨c+1,by simp,hide (HS.out _)⟩
         case measure=>simp [intOf];omega
        ·have d2:¬ (c:Int)≤low:=hcl
         have HE:Hid (MeR p b D W (.returned (.tuple #[])) wr):=hide ⟨rfl,qz,msc.out.1,HNqz.out.nx,HNqz.out.gr,HNqz.out.le,fun _=>HFar.out⟩
         go_wp2
         go_end0
         exact HE.out
     | true =>
      rw [hB] at HI
      have HB:=hide (is_true hB).2
      clear hB
      by_cases hkl:k2<p.ts.length
      ·have j1:(k2:Int)<(p.ts.length:Int):=by omega
       have hix2:=HTX.out k2 hkl
       have HHw:=hide (HCC.out k2)
       generalize p.ts.getD k2 0=hg at hix2 HHw
       have cwh:IntKind.i64.wrap hg=hg:=by rw [IntKind.wrap_i64];have:=HHw.out;omega
       by_cases h93:hg=93
       ·have e1:(hg == 93)=true:=by simp [h93]
        have e2:decide (hg=93)=true:=decide_eq_true h93
        obtain ⟨qz,hqz⟩:∃ qz:Pq,qz=q1:=⟨_,rfl⟩
        have HNqz:Hid (Nqm p qz):=hide (by rw [hqz];exact ⟨HQ1.out.2.2.2,HQ1.out.2.2.1,by rw [HQ1.out.1];have:=HAt.out;omega⟩)
        have HFar:Hid (p.at_<qz.at_):=hide (by rw [hqz,HQ1.out.1];omega)
        have ONEz:Hid (∀ m,Ms b D W qz (V.drewN m)):=hide (by rw [hqz];exact ONE1.out)
        clear hqz
        go_quiet ((go_at_call 61;exact Calls.quiet_of (HI.out _)))
        go_upto_if 203 with fail
        generalize hZ:V.drewN _=VZ
        have msZ:Hid (Ms b D W qz VZ):=hide (by rw [←hZ];exact ONEz.out _)
        have HHi:=hide HLw.out
        clear hZ
        by_cases hhl:low<low
        ·have d1:decide (low<low)=true:=decide_eq_true hhl
         exfalso;omega
        ·have d1:decide (low<low)=false:=decide_eq_false hhl
         go_wp2
         go_loopw [14] (fun v14 wr=>∃ c:Nat,v14=.int .i64 (c:Int)∧Hid (Ms b D W qz wr∧(c:Int)≤low+1)) (fun v14 _=>300-(intOf v14).toNat)
         case atStart=>exact ⟨low.toNat,by rw [HLo.out],hide ⟨msZ.out,by have:=HLo.out;omega⟩⟩
         case round =>
          obtain ⟨c,rfl,msc⟩:=hrel
          by_cases hcl:(c:Int)≤low
          ·have d2:(c:Int)≤low:=hcl
           have hc9:c<256:=by have:=HHi.out;omega
           have c9:(c:Int)<256:=by omega
           have cw1:IntKind.i64.wrap ((c:Int)+1)=((c+1:Nat):Int):=by rw [IntKind.wrap_i64];omega
           have hxf:=msc.out.1.row.fz c
           obtain ⟨x,hx⟩:=msc.out.1.row.at_ hc9
           have HS:Hid (∀ v:Bool,Ms b D W qz (wr.setCell ⟨D,c,none⟩ (.bool v))∧((c+1:Nat):Int)≤low+1):=hide fun v=>⟨msc.out.1.setRow hc9 v,by omega⟩
           go_wp2
           go_roundw
           case rel=>exact ⟨c+1,by simp,hide (HS.out _)⟩
           case measure=>simp [intOf];omega
          ·have d2:¬ (c:Int)≤low:=hcl
           have HE:Hid (MeR p b D W (.returned (.tuple #[])) wr):=hide ⟨rfl,qz,msc.out.1,HNqz.out.nx,HNqz.out.gr,HNqz.out.le,fun _=>HFar.out⟩
           go_wp2
           go_end0
           exact HE.out
       ·have e1:(hg == 93)=false:=by simpa using h93
        have e2:decide (hg=93)=false:=decide_eq_false h93
        obtain ⟨qz,hqz⟩:∃ qz:Pq,qz={ q1 with at_:=q1.at_+2 }:=⟨_,rfl⟩
        have hwz:IntKind.i64.wrap ((q1.at_:Int)+2)=(qz.at_:Int):=by rw [IntKind.wrap_i64,hqz];show _=((q1.at_+2:Nat):Int);rw [HQ1.out.1];have:=HL.out;omega
        have HSz:Hid (∀ m,Ms b D W qz ((V.drewN m).setCell ⟨b,1,none⟩ (.int .i64 (qz.at_:Int)))):=hide fun m=>by
         rw [hqz]
         exact (ONE1.out m).setAt (q1.at_+2)
        have HNqz:Hid (Nqm p qz):=hide (by rw [hqz];exact ⟨HQ1.out.2.2.2.tr (Nx.at q1 (Nat.le_add_right _ _)),HQ1.out.2.2.1,by show q1.at_+2≤_;have:=HK2.out;omega⟩)
        have HFar:Hid (p.at_<qz.at_):=hide (by rw [hqz];show _<q1.at_+2;rw [HQ1.out.1];omega)
        clear hqz h93
        go_quiet ((go_at_call 61;exact Calls.quiet_of (HI.out _)))
        go_wp2
        go_quiet (fail)
        go_upto_if 203 with fail
        generalize hZ:(V.drewN _).setCell ⟨b,1,none⟩ (.int .i64 (qz.at_:Int))=VZ
        have msZ:Hid (Ms b D W qz VZ):=hide (by rw [←hZ];exact HSz.out _)
        have HHi:=hide HHw.out
        clear hZ
        by_cases hhl:hg<low
        ·have d1:decide (hg<low)=true:=decide_eq_true hhl
         have HFx:=hide (msZ.out.failx (c:=5) (by decide) (p.at_:Int))
         go_wp2_with fail
         refine HFx.out.mono ?_
         rintro e wf ⟨qf,rfl,msf,kc,kt,ka,ke,kg,ko⟩
         have HE:Hid (MeR p b D W (.returned (.tuple #[])) wf):=hide ⟨rfl,qf,msf,⟨kt.trans HNqz.out.nx.ts,ke.trans HNqz.out.nx.ere,ko.trans HNqz.out.nx.op,by rw [ka];exact HNqz.out.nx.at_,by rw [kg];exact HNqz.out.nx.gr,fun e=>absurd e kc⟩,kg.trans HNqz.out.gr,by rw [ka];exact HNqz.out.le,fun e=>absurd e kc⟩
         clear HFx kc kt ka ke kg ko msf
         go_wp2
         refine bodyPost_ret (results_none rfl _ _ _) rfl ?_
         exact HE.out
        ·have d1:decide (hg<low)=false:=decide_eq_false hhl
         go_wp2
         go_loopw [14] (fun v14 wr=>∃ c:Nat,v14=.int .i64 (c:Int)∧Hid (Ms b D W qz wr∧(c:Int)≤hg+1)) (fun v14 _=>300-(intOf v14).toNat)
         case atStart=>exact ⟨low.toNat,by rw [HLo.out],hide ⟨msZ.out,by have:=HLo.out;omega⟩⟩
         case round =>
          obtain ⟨c,rfl,msc⟩:=hrel
          by_cases hcl:(c:Int)≤hg
          ·have d2:(c:Int)≤hg:=hcl
           have hc9:c<256:=by have:=HHi.out;omega
           have c9:(c:Int)<256:=by omega
           have cw1:IntKind.i64.wrap ((c:Int)+1)=((c+1:Nat):Int):=by rw [IntKind.wrap_i64];omega
           have hxf:=msc.out.1.row.fz c
           obtain ⟨x,hx⟩:=msc.out.1.row.at_ hc9
           have HS:Hid (∀ v:Bool,Ms b D W qz (wr.setCell ⟨D,c,none⟩ (.bool v))∧((c+1:Nat):Int)≤hg+1):=hide fun v=>⟨msc.out.1.setRow hc9 v,by omega⟩
           go_wp2
           go_roundw
           case rel=>exact ⟨c+1,by simp,hide (HS.out _)⟩
           case measure=>simp [intOf];omega
          ·have d2:¬ (c:Int)≤hg:=hcl
           have HE:Hid (MeR p b D W (.returned (.tuple #[])) wr):=hide ⟨rfl,qz,msc.out.1,HNqz.out.nx,HNqz.out.gr,HNqz.out.le,fun _=>HFar.out⟩
           go_wp2
           go_end0
           exact HE.out
      ·have j1:decide ((k2:Int)<(p.ts.length:Int))=false:=by simp;omega
       obtain ⟨qz,hqz⟩:∃ qz:Pq,qz=q1:=⟨_,rfl⟩
       have HNqz:Hid (Nqm p qz):=hide (by rw [hqz];exact ⟨HQ1.out.2.2.2,HQ1.out.2.2.1,by rw [HQ1.out.1];have:=HAt.out;omega⟩)
       have HFar:Hid (p.at_<qz.at_):=hide (by rw [hqz,HQ1.out.1];omega)
       have ONEz:Hid (∀ m,Ms b D W qz (V.drewN m)):=hide (by rw [hqz];exact ONE1.out)
       clear hqz
       go_quiet ((go_at_call 61;exact Calls.quiet_of (HI.out _)))
       go_upto_if 203 with fail
       generalize hZ:V.drewN _=VZ
       have msZ:Hid (Ms b D W qz VZ):=hide (by rw [←hZ];exact ONEz.out _)
       have HHi:=hide HLw.out
       clear hZ
       by_cases hhl:low<low
       ·have d1:decide (low<low)=true:=decide_eq_true hhl
        exfalso;omega
       ·have d1:decide (low<low)=false:=decide_eq_false hhl
        go_wp2
        go_loopw [14] (fun v14 wr=>∃ c:Nat,v14=.int .i64 (c:Int)∧Hid (Ms b D W qz wr∧(c:Int)≤low+1)) (fun v14 _=>300-(intOf v14).toNat)
        case atStart=>exact ⟨low.toNat,by rw [HLo.out],hide ⟨msZ.out,by have:=HLo.out;omega⟩⟩
        case round =>
         obtain ⟨c,rfl,msc⟩:=hrel
         by_cases hcl:(c:Int)≤low
         ·have d2:(c:Int)≤low:=hcl
          have hc9:c<256:=by have:=HHi.out;omega
          have c9:(c:Int)<256:=by omega
          have cw1:IntKind.i64.wrap ((c:Int)+1)=((c+1:Nat):Int):=by rw [IntKind.wrap_i64];omega
          have hxf:=msc.out.1.row.fz c
          obtain ⟨x,hx⟩:=msc.out.1.row.at_ hc9
          have HS:Hid (∀ v:Bool,Ms b D W qz (wr.setCell ⟨D,c,none⟩ (.bool v))∧((c+1:Nat):Int)≤low+1):=hide fun v=>⟨msc.out.1.setRow hc9 v,by omega⟩
          go_wp2
          go_roundw
          case rel=>exact ⟨c+1,by simp,hide (HS.out _)⟩
          case measure=>simp [intOf];omega
         ·have d2:¬ (c:Int)≤low:=hcl
          have HE:Hid (MeR p b D W (.returned (.tuple #[])) wr):=hide ⟨rfl,qz,msc.out.1,HNqz.out.nx,HNqz.out.gr,HNqz.out.le,fun _=>HFar.out⟩
          go_wp2
          go_end0
          exact HE.out
 ·have a1:(p.ts.length:Int)≤(p.at_:Int):=by omega
  have a2:decide ((p.ts.length:Int)≤(p.at_:Int))=true:=decide_eq_true a1
  have a3:decide (p.ts.length≤p.at_)=true:=decide_eq_true (by omega)
  have HFm:Hid (∀ m,Calls Tryd.prog 40 #[.pointer (some ⟨b,0,none⟩),.int .i64 4,.int .i64 (p.at_:Int)] (w.drewN m) fun e w'=>∃ r:Pq,e=.returned (.tuple #[])∧Ms b D W r w'∧r.code≠0∧r.ts=p.ts∧r.at_=p.at_∧r.ere=p.ere∧r.groups=p.groups∧r.open_=p.open_):=hide fun m=>(ms0.out.drawn ⟨m,rfl⟩).failx (c:=4) (by decide) (p.at_:Int)
  clear hat
  go_enter Tryd.func102,Tryd.ntmps102
  go_wp2
  go_quiet (fail)
  go_wp2_with fail
  refine (HFm.out _).mono ?_
  rintro e wf ⟨qf,rfl,msf,kc,kt,ka,ke,kg,ko⟩
  have HE:Hid (MeR p b D W (.returned (.tuple #[])) wf):=hide ⟨rfl,qf,msf,⟨kt.trans HNp.out.nx.ts,ke.trans HNp.out.nx.ere,ko.trans HNp.out.nx.op,by rw [ka];exact HNp.out.nx.at_,by rw [kg];exact HNp.out.nx.gr,fun e=>absurd e kc⟩,kg.trans HNp.out.gr,by rw [ka];exact HNp.out.le,fun e=>absurd e kc⟩
  clear HFm kc kt ka ke kg ko msf
  go_wp2
  refine bodyPost_ret (results_none rfl _ _ _) rfl ?_
  exact HE.out
end Go.Proofs.YtfhimmnoipfiaaaDoor.eng
