import Derived.Test.YtfhimmnoipfiaaaDoorQ11
import Derived.Deep.RegionLaw
namespace Go.Proofs.YtfhimmnoipfiaaaDoor.eng
open Go.ChangeShapes Go.WideShapes Go.ChangeAt Go.RowKit
open bytes places sets tz rex
set_option linter.unusedVariables false
def RxDrawn (w:World) (e:Ending) (w':World):Prop:=∃ (cs:Array Value) (T:Tr) (M:Fz),e=.returned (.agg cs)∧Good T∧RxAt M T cs∧In M w'∧Below w.heap.size w w'
def WoDrawn (w:World) (e:Ending) (w':World):Prop:=∃ ts:List Int,e=.returned (.string (strOfNums ts))∧ts.length≤22∧(∀ t∈ts,0≤t∧t≤255)∧Below w.heap.size w w'
theorem tab_below {w W:World} (ht:TabIn w) (hz:0<w.heap.size) (hb:Below w.heap.size w W):TabIn W:=fun j hj=>(World.cell?_of_block (a:=⟨0,j,none⟩) (hb.block 0 hz)).trans (ht j hj)
theorem same_rows (w:World) (g1 g2 c1 c2 n:Nat) (out:List Int) (h1:Spn w g1 out) (h2:Spn w g2 out) (hl:out.length=n) (hn:n≤100) :
  Calls Tryd.prog 11 #[.slice (some ⟨g1,0,none⟩) n c1,.slice (some ⟨g2,0,none⟩) n c2] w fun e w'=>e=.returned (.bool true)∧Below w.heap.size w w':=by
 subst hl
 exact same_any w g1 g2 c1 c2 out h1 h2 hn
set_option maxRecDepth 20000 in
set_option maxHeartbeats 16000000 in
theorem law3_any (w:World) (a1 a2:Option Addr) (n1 k1 n2 k2:Nat) (h1:n1≤1048576) (h2:n2≤1048576) (ht:TabIn w) (hz:0<w.heap.size)
  (hrx:Calls Tryd.prog 5 #[.slice a1 n1 k1] w (RxDrawn w)) (hwo:∀ W,Below w.heap.size w W→Calls Tryd.prog 6 #[.slice a2 n2 k2] W (WoDrawn W)) :
  Calls Tryd.prog 3 #[.slice a1 n1 k1,.slice a2 n2 k2] w fun e w'=>e=.returned (.bool true)∧Below w.heap.size w w':=by
 have l1:¬ (1048576:Int)<(n1:Int):=by omega
 have l2:¬ (1048576:Int)<(n2:Int):=by omega
 have H1:=hide hrx
 have H2:=hide hwo
 have H0:=hide (And.intro ht hz)
 clear hrx hwo ht hz
 go_enter Tryd.func3,Tryd.ntmps3
 go_wp2_with fail
 refine H1.out.mono ?_
 rintro e w1 ⟨cs,T,M,rfl,hT,hR,hIn,hb1⟩
 obtain ⟨kind,n9,m9,ss,o,ln,cp,rfl,hN⟩:=nd_of hR
 obtain ⟨Wb,hWb⟩:∃ Wb,w1.alloc (.cells (rxV kind n9 m9 ss (.slice o ln cp)) 25)=Wb:=⟨_,rfl⟩
 have hBb:Below w1.heap.size w1 Wb:=by rw [←hWb];exact (Below.refl _ _).alloc (Nat.le_refl _) _
 have hbx:Wb.heap[w1.heap.size]?=some (.cells (rxV kind n9 m9 ss (.slice o ln cp)) 25 (0,0)):=by rw [←hWb];exact heap_alloc_new w1 _
 have hzb:Wb.heap.size=w1.heap.size+1:=by rw [←hWb];simp
 have hall:∀ W,Below Wb.heap.size Wb W→Below w.heap.size w W∧In M W∧TabIn W∧0<W.heap.size∧W.heap[w1.heap.size]?=some (.cells (rxV kind n9 m9 ss (.slice o ln cp)) 25 (0,0)):=fun W h=>by
  have hx:=(hb1.trans (hBb.mono hb1.size)).trans (h.mono (by have:=hb1.size;have:=hBb.size;omega))
  exact ⟨hx,(hIn.below hBb).below h,tab_below H0.out.1 H0.out.2 hx,Nat.lt_of_lt_of_le H0.out.2 hx.size,(h.block _ (by omega)).trans hbx⟩
 have HW:=hide (H2.out Wb (hall Wb (Below.refl _ _)).1)
 have HALL:=hide hall
 have HT:=hide (And.intro hT hR)
 unfold rxV at hWb ⊢
 clear H1 H2 hIn hb1 hN hBb hbx hzb hall hT hR
 go_wp2_with fail
 (try rw [hWb])
 clear hWb
 refine HW.out.mono ?_
 rintro e w2 ⟨ts,rfl,hl,hts,hb2⟩
 have hng:=HT.out.1.ng
 have HNum:=hide HT.out.1.num
 have HFi:Hid (∀ W,Below Wb.heap.size Wb W→Calls Tryd.prog 7 #[.agg (rxV kind n9 m9 ss (.slice o ln cp)),.string (strOfNums ts),.int .i64 0] W fun e w'=>Hit ts T (firstB (rex.mt ts T) ts.length 0) W w' e):=hide fun W h=>Find_top ts hl hts T HT.out.1 M W kind n9 m9 ss o ln cp (HALL.out W h).2.1 (HALL.out W h).2.2.1 (HALL.out W h).2.2.2.1 HT.out.2
 have HFs:Hid (∀ W,Below Wb.heap.size Wb W→Calls Tryd.prog 8 #[.agg (rxV kind n9 m9 ss (.slice o ln cp)),.string (strOfNums ts),.int .i64 0] W fun e w'=>SFHit ts T (firstB (rex.mt ts T) ts.length 0) W w' e):=hide fun W h=>Find_spec ts hl hts HT.out.1 HT.out.2 W (HALL.out W h).2.1
 have HGr:Hid (∀ W,Below Wb.heap.size Wb W→Calls Tryd.prog 9 #[.agg (rxV kind n9 m9 ss (.slice o ln cp))] W fun e w'=>e=.returned (.tuple #[.int .i64 (ngT T:Nat),.int .i64 0])∧Below W.heap.size W w'):=hide fun W h=>groups_any HT.out.1 HT.out.2 W (HALL.out W h).2.1
 have HOk:Hid (∀ W,Below Wb.heap.size Wb W→Calls Tryd.prog 10 #[.agg (rxV kind n9 m9 ss (.slice o ln cp))] W fun e w'=>e=.returned (.bool true)∧Below W.heap.size W w'):=hide fun W h=>rxOK_any HT.out.1 HT.out.2 W (HALL.out W h).2.1
 have HMa:Hid (∀ (i j:Nat) (W:World),i≤j→j≤ts.length→Below Wb.heap.size Wb W→Calls Tryd.prog 12 #[.agg (rxV kind n9 m9 ss (.slice o ln cp)),.string (strOfNums ts),.int .i64 (i:Int),.int .i64 (j:Int)] W fun e w'=>e=.returned (.tuple #[.bool (rex.mt ts T i j),.int .i64 0])∧Below W.heap.size W w'):=hide fun i j W hij hj h=>Matches_top ts hl hts T HT.out.1 M W kind n9 m9 ss o ln cp (HALL.out W h).2.1 (HALL.out W h).2.2.1 (HALL.out W h).2.2.2.1 HT.out.2 i j hij hj
 have HB:Hid (∀ W,Below Wb.heap.size Wb W→Below w.heap.size w W∧W.heap[w1.heap.size]?=some (.cells #[.int .i64 kind,.int .i64 n9,.int .i64 m9,.string ss,.slice o ln cp] 25 (0,0))):=hide fun W h=>⟨(HALL.out W h).1,(HALL.out W h).2.2.2.2⟩
 obtain ⟨A,hA⟩:∃ A,A=rex.mt ts T:=⟨_,rfl⟩
 obtain ⟨RES,hRES⟩:∃ RES,RES=firstB A ts.length 0:=⟨_,rfl⟩
 rw [←hA] at HFi HFs HMa
 rw [←hRES] at HFi HFs
 have HR:=hide hRES
 have hS:=strOfNums_size ts
 generalize strOfNums ts=SS at *
 obtain ⟨q0,q1,q2,q3,q4⟩:=cells5 (HB.out w2 hb2).2
 have G2:=hide hb2
 unfold rxV at HFi HFs HGr HOk HMa
 clear HW HALL HT H0 hts hb2 hA hRES
 go_wp2_with fail
 refine (HFi.out w2 G2.out).mono ?_
 rintro e w3 ⟨f1,f2⟩
 have G3:=hide (G2.out.trans (f1.mono G2.out.size))
 have HS3:=hide f1.size
 obtain ⟨r0,r1,r2,r3,r4⟩:=cells5 (HB.out w3 G3.out).2
 clear f1 q0 q1 q2 q3 q4
 cases RES with
 | none =>
  subst f2
  go_wp2_with fail
  refine (HFs.out w3 G3.out).mono ?_
  rintro e w4 ⟨f3,g4,rfl⟩
  have G4:=hide (G3.out.trans (f3.mono G3.out.size))
  obtain ⟨s0,s1,s2,s3,s4⟩:=cells5 (HB.out w4 G4.out).2
  clear f3 r0 r1 r2 r3 r4
  go_wp2_with fail
  refine (HGr.out w4 G4.out).mono ?_
  rintro e w5 ⟨rfl,f5⟩
  have G5:=hide (G4.out.trans (f5.mono G4.out.size))
  obtain ⟨t0,t1,t2,t3,t4⟩:=cells5 (HB.out w5 G5.out).2
  clear f5 s0 s1 s2 s3 s4
  go_wp2_with fail
  refine (HOk.out w5 G5.out).mono ?_
  rintro e w6 ⟨rfl,f6⟩
  have G6:=hide (G5.out.trans (f6.mono G5.out.size))
  have HSm:=hide (same_nil w6 g4)
  clear f6 t0 t1 t2 t3 t4
  go_wp2_with fail
  refine HSm.out.mono ?_
  rintro e w7 ⟨rfl,f7⟩
  have G7:=hide (G6.out.trans (f7.mono G6.out.size))
  clear f7 HSm HFi HFs HGr HOk
  go_wp2
  go_loopw [13,14,15,16] (fun v13 _ _ _ wr=>∃ i:Nat,i≤ts.length+1∧v13=.int .i64 (i:Int)∧Hid (Below Wb.heap.size Wb wr)) (fun v13 _ _ _ _=>ts.length+1-(intOf v13).toNat)
  case atStart=>exact ⟨0,by omega,rfl,G7⟩
  case round =>
   obtain ⟨i,hi,rfl,HX⟩:=hrel
   by_cases hil:i≤ts.length
   ·have hti:(i:Int)≤(ts.length:Int):=by omega
    have hiw:IntKind.i64.wrap ((i:Int)+1)=((i+1:Nat):Int):=by rw [IntKind.wrap_i64];omega
    go_wp2
    go_loopw [14,15,16] (fun v14 _ _ wr=>∃ j:Nat,i≤j∧j≤ts.length+1∧v14=.int .i64 (j:Int)∧Hid (Below Wb.heap.size Wb wr)) (fun v14 _ _ _=>ts.length+1-(intOf v14).toNat)
    case atStart=>exact ⟨i,by omega,by omega,rfl,HX⟩
    case round =>
     obtain ⟨j,hij,hj,rfl,HY⟩:=hrel
     by_cases hjl:j≤ts.length
     ·have htj:(j:Int)≤(ts.length:Int):=by omega
      have hjw:IntKind.i64.wrap ((j:Int)+1)=((j+1:Nat):Int):=by rw [IntKind.wrap_i64];omega
      have hno:A i j=false:=firstB_none HR.out.symm i j (Nat.zero_le _) hij hjl
      have HM:=hide (HMa.out i j _ hij hjl HY.out)
      rw [hno] at HM
      obtain ⟨q0,q1,q2,q3,q4⟩:=cells5 (HB.out _ HY.out).2
      clear hno
      go_wp2_with fail
      refine HM.out.mono ?_
      rintro e w9 ⟨rfl,f9⟩
      have G9:=hide (HY.out.trans (f9.mono HY.out.size))
      clear f9 HM q0 q1 q2 q3 q4
      go_wp2
      go_roundw
      case rel=>exact ⟨j+1,by omega,by omega,by simp,G9⟩
      case measure=>simp [intOf];omega
     ·have htj:¬ (j:Int)≤(ts.length:Int):=by omega
      go_wp2
      go_roundw
      case rel=>exact ⟨i+1,by omega,by simp,HY⟩
      case measure=>simp [intOf];omega
   ·have hti:¬ (i:Int)≤(ts.length:Int):=by omega
    have HE:=hide (HB.out _ HX.out).1
    go_wp2
    go_ret
    exact ⟨rfl,HE.out⟩
 | some y =>
  obtain ⟨i0',j0⟩:=y
  obtain ⟨g3,c3',rfl,f3,f4,f5⟩:=f2
  have hSp:=hide (And.intro f4 f5)
  have hf:=firstB_some HR.out.symm
  obtain ⟨u1,u2,u3,u4,u5,u6⟩:=hf
  have HFB:=hide (And.intro u4 (And.intro u5 u6))
  have hnum:=HNum.out
  clear f3 f4 f5 u4 u5 u6
  go_wp2_with fail
  refine (HFs.out w3 G3.out).mono ?_
  rintro e w4 ⟨f3,g4,c4',rfl,f6,f7,f8⟩
  have G4:=hide (G3.out.trans (f3.mono G3.out.size))
  have HP4:Hid (Spn w4 g3 (sp ts T i0' j0 (outs0 i0' j0 (ngT T)))∧Spn w4 g4 (sp ts T i0' j0 (outs0 i0' j0 (ngT T)))):=hide ⟨hSp.out.1.of_block (f3.block _ hSp.out.1.lt),f7⟩
  obtain ⟨s0,s1,s2,s3,s4⟩:=cells5 (HB.out w4 G4.out).2
  clear f3 f6 f7 f8 r0 r1 r2 r3 r4
  go_wp2_with fail
  refine (HGr.out w4 G4.out).mono ?_
  rintro e w5 ⟨rfl,f5⟩
  have G5:=hide (G4.out.trans (f5.mono G4.out.size))
  have HP5:Hid (Spn w5 g3 (sp ts T i0' j0 (outs0 i0' j0 (ngT T)))∧Spn w5 g4 (sp ts T i0' j0 (outs0 i0' j0 (ngT T)))):=hide ⟨HP4.out.1.of_block (f5.block _ HP4.out.1.lt),HP4.out.2.of_block (f5.block _ HP4.out.2.lt)⟩
  obtain ⟨t0,t1,t2,t3,t4⟩:=cells5 (HB.out w5 G5.out).2
  clear f5 s0 s1 s2 s3 s4 HP4
  go_wp2_with fail
  refine (HOk.out w5 G5.out).mono ?_
  rintro e w6 ⟨rfl,f6⟩
  have G6:=hide (G5.out.trans (f6.mono G5.out.size))
  have HP6:Hid (Spn w6 g3 (sp ts T i0' j0 (outs0 i0' j0 (ngT T)))∧Spn w6 g4 (sp ts T i0' j0 (outs0 i0' j0 (ngT T)))):=hide ⟨HP5.out.1.of_block (f6.block _ HP5.out.1.lt),HP5.out.2.of_block (f6.block _ HP5.out.2.lt)⟩
  have HSm:=hide (same_rows w6 g3 g4 c3' c4' (2*ngT T+2) _ HP6.out.1 HP6.out.2 hSp.out.2 (by omega))
  clear f6 t0 t1 t2 t3 t4 HP5
  go_wp2_with fail
  refine HSm.out.mono ?_
  rintro e w7 ⟨rfl,f7⟩
  have G7:Hid (Below Wb.heap.size Wb w7∧Spn w7 g3 (sp ts T i0' j0 (outs0 i0' j0 (ngT T)))):=hide ⟨G6.out.trans (f7.mono G6.out.size),HP6.out.1.of_block (f7.block _ HP6.out.1.lt)⟩
  have HM01:Hid (∀ W,Spn W g3 (sp ts T i0' j0 (outs0 i0' j0 (ngT T)))→W.cell? ⟨g3,0,none⟩=some (.int .i64 (i0':Int))∧W.cell? ⟨g3,1,none⟩=some (.int .i64 (j0:Int))):=by
   refine hide fun W h => ?_
   obtain ⟨cur,k1,k2⟩:=h
   refine ⟨?_,?_⟩
   ·have:=k2 0 (i0':Int) (by rw [sp_low ts hnum u2 _ (by omega)];rfl)
    simp [World.cell?,k1,this]
   ·have:=k2 1 (j0:Int) (by rw [sp_low ts hnum u2 _ (by omega)];rfl)
    simp [World.cell?,k1,this]
  have hwm:IntKind.i64.wrap (2*((ngT T:Nat):Int))=2*((ngT T:Nat):Int):=by rw [IntKind.wrap_i64];omega
  have hwp:IntKind.i64.wrap (2*((ngT T:Nat):Int)+2)=((2*ngT T+2:Nat):Int):=by rw [IntKind.wrap_i64];omega
  have hlt0:(0:Int)<((2*ngT T+2:Nat):Int):=by omega
  have hlt1:(1:Int)<((2*ngT T+2:Nat):Int):=by omega
  clear f7 HSm HFi HFs HGr HOk HP6 hSp
  go_wp2
  go_loopw [13,14,15,16] (fun v13 _ _ _ wr=>∃ i:Nat,i≤ts.length+1∧v13=.int .i64 (i:Int)∧Hid (Below Wb.heap.size Wb wr∧Spn wr g3 (sp ts T i0' j0 (outs0 i0' j0 (ngT T))))) (fun v13 _ _ _ _=>ts.length+1-(intOf v13).toNat)
  case atStart=>exact ⟨0,by omega,rfl,G7⟩
  case round =>
   obtain ⟨i,hi,rfl,HX⟩:=hrel
   clear G7
   by_cases hil:i≤ts.length
   ·have hti:(i:Int)≤(ts.length:Int):=by omega
    have hiw:IntKind.i64.wrap ((i:Int)+1)=((i+1:Nat):Int):=by rw [IntKind.wrap_i64];omega
    go_wp2
    go_loopw [14,15,16] (fun v14 _ _ wr=>∃ j:Nat,i≤j∧j≤ts.length+1∧v14=.int .i64 (j:Int)∧Hid (Below Wb.heap.size Wb wr∧Spn wr g3 (sp ts T i0' j0 (outs0 i0' j0 (ngT T))))) (fun v14 _ _ _=>ts.length+1-(intOf v14).toNat)
    case atStart=>exact ⟨i,by omega,by omega,rfl,HX⟩
    case round =>
     obtain ⟨j,hij,hj,rfl,HY⟩:=hrel
     clear HX
     by_cases hjl:j≤ts.length
     ·have htj:(j:Int)≤(ts.length:Int):=by omega
      have hjw:IntKind.i64.wrap ((j:Int)+1)=((j+1:Nat):Int):=by rw [IntKind.wrap_i64];omega
      have HM:=hide (HMa.out i j _ hij hjl HY.out.1)
      obtain ⟨q0,q1,q2,q3,q4⟩:=cells5 (HB.out _ HY.out.1).2
      cases hA:A i j with
      | false =>
       rw [hA] at HM
       go_wp2_with fail
       refine HM.out.mono ?_
       rintro e w9 ⟨rfl,f9⟩
       have G9:Hid (Below Wb.heap.size Wb w9∧Spn w9 g3 (sp ts T i0' j0 (outs0 i0' j0 (ngT T)))):=hide ⟨HY.out.1.trans (f9.mono HY.out.1.size),HY.out.2.of_block (f9.block _ HY.out.2.lt)⟩
       clear f9 HM q0 q1 q2 q3 q4 HY
       go_wp2
       go_roundw
       case rel=>exact ⟨j+1,by omega,by omega,by simp,G9⟩
       case measure=>simp [intOf];omega
      | true =>
       rw [hA] at HM
       have b1:¬ (i:Int)<(i0':Int):=by
        intro h
        have:=HFB.out.2.2 i j (Nat.zero_le _) (by omega) hij hjl
        rw [hA] at this;cases this
       go_wp2_with fail
       refine HM.out.mono ?_
       rintro e w9 ⟨rfl,f9⟩
       have G9:Hid (Below Wb.heap.size Wb w9∧Spn w9 g3 (sp ts T i0' j0 (outs0 i0' j0 (ngT T)))):=hide ⟨HY.out.1.trans (f9.mono HY.out.1.size),HY.out.2.of_block (f9.block _ HY.out.2.lt)⟩
       obtain ⟨m0,m1⟩:=HM01.out w9 G9.out.2
       clear f9 HM q0 q1 q2 q3 q4 HY
       by_cases hie:i=i0'
       ·subst hie
        have b2:¬ (j0:Int)<(j:Int):=by
         intro h
         have:=HFB.out.2.1 j (by omega) hjl
         rw [hA] at this;cases this
        go_wp2
        go_roundw
        case rel=>exact ⟨j+1,by omega,by omega,by simp,G9⟩
        case measure=>simp [intOf];omega
       ·have b2:¬ (i:Int)=(i0':Int):=by omega
        have b3:((i:Int) == (i0':Int))=false:=by simp;omega
        go_wp2
        go_roundw
        case rel=>exact ⟨j+1,by omega,by omega,by simp,G9⟩
        case measure=>simp [intOf];omega
     ·have htj:¬ (j:Int)≤(ts.length:Int):=by omega
      go_wp2
      go_roundw
      case rel=>exact ⟨i+1,by omega,by simp,HY⟩
      case measure=>simp [intOf];omega
   ·have hti:¬ (i:Int)≤(ts.length:Int):=by omega
    have HM:=hide (HMa.out i0' j0 wr.drew u2 u3 (HX.out.1.trans ((Below.refl wr.heap.size wr).drew.mono HX.out.1.size)))
    rw [HFB.out.1] at HM
    obtain ⟨q0,q1,q2,q3,q4⟩:=cells5 (HB.out _ HX.out.1).2
    obtain ⟨m0,m1⟩:=HM01.out wr HX.out.2
    have HXX:=hide HX.out.1
    have hA1:0<2*ngT T+2:=by omega
    have hA2:1<2*ngT T+2:=by omega
    have hA3:(0:Int)<2*((ngT T:Nat):Int)+2:=by omega
    have hA4:(1:Int)<2*((ngT T:Nat):Int)+2:=by omega
    clear HX
    go_wp2
    go_region_law (first | (go_simp;go_at_call 12;with_reducible (refine HM.out.mono ?_);rintro e w9 ⟨rfl,f9⟩))
    all_goals
     have HE:=hide (HB.out w9 (HXX.out.trans ((((Below.refl wr.heap.size wr).drew.trans f9)).mono HXX.out.size))).1
     clear f9 HM q0 q1 q2 q3 q4 m0 m1
     go_wp2
     go_ret
     exact ⟨rfl,HE.out⟩
end Go.Proofs.YtfhimmnoipfiaaaDoor.eng
