import Derived.Test.YtfhimmnoipfiaaaDoorQ19
import Derived.Deep.DeepCutAuto
import Derived.Deep.CutRange
import Derived.Test.YtfhimmnoipfiaaaDoorQ20
import Derived.Test.YtfhimmnoipfiaaaDoorQ21
import Derived.Test.YtfhimmnoipfiaaaDoorQ22
import Derived.Deep.RegionLaw
set_option linter.unusedVariables false
open Go.ChangeShapes Go.WideShapes Go.ChangeAt Go.RowKit
namespace Go.Proofs.YtfhimmnoipfiaaaDoor.drw
open bytes pile src letters
set_option maxRecDepth 20000 in
set_option maxHeartbeats 32000000 in
theorem pat_bre_deep (LL CC:Nat) (hLL:LL≤10000) (hCC:CC≤100000) (BM:Nat) (hBM:BM≤90000000) (dp:Nat) (hdp:0<dp) (hdl:dp≤10) (hsub:PatAt (dp-1) LL CC (BM+2000000)) (w0 w:World) (d:Nat) (ao:Option Addr) (cap:Nat) (xs:List Int) (m:Nat) (h:Dw w0 d ao cap xs m w) (hm:m≤BM) :
  Calls Tryd.prog 43 #[.pointer (some ⟨d,0,none⟩),.bool false,.int .i64 (dp:Int)] w fun e w'=>∃ S:ByteArray,S.size≤3*(2*LL+200)∧e=.returned (.string S)∧Dw w0 d ao cap xs (m+(3*(2*CC+20)+10)) w':=by
 have HN:=hide (next_dw h (by omega) 3 (by omega))
 obtain ⟨PL,hPL⟩:∃ PL,PL=2*LL+200:=⟨_,rfl⟩
 obtain ⟨PC,hPC⟩:∃ PC,PC=2*CC+20:=⟨_,rfl⟩
 obtain ⟨P1,hP1⟩:∃ P1,P1=2*LL+70:=⟨_,rfl⟩
 obtain ⟨C1,hC1⟩:∃ C1,C1=2*CC+12:=⟨_,rfl⟩
 have HLP:Hid (PL=2*LL+200∧PC=2*CC+20∧P1=2*LL+70∧C1=2*CC+12∧LL≤10000∧CC≤100000):=hide ⟨hPL,hPC,hP1,hC1,hLL,hCC⟩
 have lPL:PL≤30000:=by omega
 have lP1:P1≤30000:=by omega
 have lLL:=hLL
 have HSub:Hid (∀ (ere:Bool) (w0 w:World) (d:Nat) (ao:Option Addr) (cap:Nat) (xs:List Int) (m:Nat),Dw w0 d ao cap xs m w→m≤BM+2000000→Calls Tryd.prog 43 #[.pointer (some ⟨d,0,none⟩),.bool ere,.int .i64 ((dp-1:Nat):Int)] w fun e w'=>∃ S:ByteArray,S.size≤LL∧e=.returned (.string S)∧Dw w0 d ao cap xs (m+CC) w'):=hide fun ere w0 w d ao cap xs m h hm=>hsub ere w0 w d ao cap xs m h hm
 have dpl:(0:Int)<(dp:Int):=by omega
 have dpw:IntKind.i64.wrap ((dp:Int)-1)=((dp-1:Nat):Int):=by rw [IntKind.wrap_i64];omega
 clear hsub hdp
 clear h hPL hPC hP1 hC1 hLL hCC
 go_enter Tryd.func43,Tryd.ntmps43
 go_wp2_with fail
 refine HN.out.mono ?_
 rintro e w1 ⟨r,rfl,r0,r1,D1⟩
 obtain ⟨i0,rfl⟩:∃ i:Nat,r=(i:Int):=⟨r.toNat,by omega⟩
 have hi0:i0≤2:=by omega
 have HL0:Hid (Lp w0 d ao cap xs 0 (m+3) ⟨#[]⟩ w1):=hide ⟨Nat.le_refl _,D1⟩
 clear HN D1 r0 r1
 go_wp2
 go_loopw [7,8] (fun v7 v8 wr=>∃ (j:Nat) (S:ByteArray) (n c:Nat),v7=.string S∧j≤3∧v8=.int .i64 (j:Int)∧n+j*PL≤3*PL∧c+j*PC≤m+3+3*PC∧Hid (Lp w0 d ao cap xs n c S wr)) (fun _ v8 _=>(intOf v8).toNat)
 case atStart=>exact ⟨i0+1,⟨#[]⟩,0,m+3,rfl,by omega,(by first | rfl | (congr 1;omega)),by (rcases (by omega:i0=0∨i0=1∨i0=2) with rfl | rfl | rfl <;> omega),by (rcases (by omega:i0=0∨i0=1∨i0=2) with rfl | rfl | rfl <;> omega),HL0⟩
 case round =>
  obtain ⟨j,S,n,c,rfl,hj,rfl,hn,hc,HX⟩:=hrel
  clear HL0
  by_cases hj0:0<j
  ·have hji:(0:Int)<(j:Int):=by omega
   have hjw:IntKind.i64.wrap ((j:Int)-1)=((j-1:Nat):Int):=by rw [IntKind.wrap_i64];omega
   have hnn:n+PL≤3*PL∧(n+PL)+(j-1)*PL≤3*PL∧c+PC≤m+3+3*PC∧(c+PC)+(j-1)*PC≤m+3+3*PC:=by
    rcases (by omega:j=1∨j=2∨j=3) with rfl | rfl | rfl <;> simp at hn hc ⊢ <;> omega
   obtain ⟨n1,n2,n3,n4⟩:=hnn
   have HBD:Hid (c+PC≤m+3+3*PC∧m≤BM∧PC≤300000∧BM≤95000000):=hide ⟨n3,hm,by have:=HLP.out;omega,by omega⟩
   have HN2:=hide (next_dw HX.out.dw (by have:=HBD.out;have:=HLP.out;omega) 9 (by omega))
   clear hn hc
   go_wp2_with fail
   refine HN2.out.mono ?_
   rintro e w2 ⟨r2,rfl,r20,r21,D2⟩
   have lp2:Hid (Lp w0 d ao cap xs n (c+3) S w2):=hide ⟨HX.out.len,D2⟩
   clear HN2 D2 HX
   by_cases t0:r2=0
   ·subst t0
    have HP3:=hide (pick_dw [⟨#[97]⟩,⟨#[98]⟩,⟨#[99]⟩] #[.string ⟨#[97]⟩,.string ⟨#[98]⟩,.string ⟨#[99]⟩] rfl 3 rfl (by decide) (by decide) (by decide) lp2.out.dw (by have:=HBD.out;have:=HLP.out;omega))
    have lq2:=lp2.out.len
    go_wp2_with fail
    refine HP3.out.mono ?_
    rintro e w3 ⟨P3,hP3,rfl,D3⟩
    have lp3:Hid (Lp w0 d ao cap xs (n+P1) (c+C1) (S++P3) w3):=hide ⟨by rw [size_add];have:=lp2.out.len;have:=HLP.out;omega,D3.up (by have:=HLP.out;omega)⟩
    clear D3 HP3
    have HN8:=hide (next_dw lp3.out.dw (by have:=HBD.out;have:=HLP.out;omega) 5 (by omega))
    have lq:=lp3.out.len
    go_wp2_with fail
    refine HN8.out.mono ?_
    rintro e w8 ⟨r8,rfl,r80,r81,D8⟩
    have lp8:Hid (Lp w0 d ao cap xs (n+P1) (c+C1+3) (S++P3) w8):=hide ⟨lp3.out.len,D8⟩
    clear HN8 D8
    by_cases s0:r8=0
    ·subst s0
     have HS9:Hid (Lp w0 d ao cap xs (n+PL) (c+PC) (S++P3++⟨#[42]⟩) w8):=hide ⟨by rw [size_add];have:((⟨#[42]⟩:ByteArray)).size=1:=rfl;have:=lp8.out.len;have:=HLP.out;omega,lp8.out.dw.up (by have:=HLP.out;omega)⟩
     have h42:((⟨#[42]⟩:ByteArray)).size=1:=rfl
     go_wp2
     go_roundw
     case rel=>exact ⟨j-1,_,n+PL,c+PC,rfl,by omega,(by first | rfl | (congr 1;omega)),by omega,by omega,HS9⟩
     case measure=>simp [intOf];omega
    ·have q0:(r8 == 0)=false:=by simpa using s0
     have q0':decide (r8=0)=false:=decide_eq_false s0
     by_cases s1:r8=1
     ·subst s1
      have HP9:=hide (pick_dw [⟨#[92,123,50,92,125]⟩,⟨#[92,123,49,44,51,92,125]⟩,⟨#[92,123,48,44,92,125]⟩] #[.string ⟨#[92,123,50,92,125]⟩,.string ⟨#[92,123,49,44,51,92,125]⟩,.string ⟨#[92,123,48,44,92,125]⟩] rfl 3 rfl (by decide) (by decide) (by decide) lp8.out.dw (by have:=HBD.out;have:=HLP.out;omega))
      have lq8:=lp8.out.len
      go_wp2_with fail
      refine HP9.out.mono ?_
      rintro e w9 ⟨P9,hP9,rfl,D9⟩
      have HS9:Hid (Lp w0 d ao cap xs (n+PL) (c+PC) (S++P3++P9) w9):=hide ⟨by rw [size_add];have:=lp8.out.len;have:=HLP.out;omega,D9.up (by have:=HLP.out;omega)⟩
      clear D9 HP9
      go_wp2
      go_roundw
      case rel=>exact ⟨j-1,_,n+PL,c+PC,rfl,by omega,(by first | rfl | (congr 1;omega)),by omega,by omega,HS9⟩
      case measure=>simp [intOf];omega
     ·have q1:(r8 == 1)=false:=by simpa using s1
      have q1':decide (r8=1)=false:=decide_eq_false s1
      have HS9:Hid (Lp w0 d ao cap xs (n+PL) (c+PC) (S++P3) w8):=hide ⟨by have:=lp8.out.len;have:=HLP.out;omega,lp8.out.dw.up (by have:=HLP.out;omega)⟩
      go_wp2
      go_roundw
      case rel=>exact ⟨j-1,_,n+PL,c+PC,rfl,by omega,(by first | rfl | (congr 1;omega)),by omega,by omega,HS9⟩
      case measure=>simp [intOf];omega
   ·have u0f:(r2 == 0)=false:=by simpa using t0
    have u0g:decide (r2=0)=false:=decide_eq_false t0
    by_cases t1:r2=1
    ·subst t1
     have HP3:=hide (pick_dw [⟨#[97]⟩,⟨#[98]⟩,⟨#[99]⟩] #[.string ⟨#[97]⟩,.string ⟨#[98]⟩,.string ⟨#[99]⟩] rfl 3 rfl (by decide) (by decide) (by decide) lp2.out.dw (by have:=HBD.out;have:=HLP.out;omega))
     have lq2:=lp2.out.len
     go_wp2_with fail
     refine HP3.out.mono ?_
     rintro e w3 ⟨P3,hP3,rfl,D3⟩
     have lp3:Hid (Lp w0 d ao cap xs (n+P1) (c+C1) (S++P3) w3):=hide ⟨by rw [size_add];have:=lp2.out.len;have:=HLP.out;omega,D3.up (by have:=HLP.out;omega)⟩
     clear D3 HP3
     have HN8:=hide (next_dw lp3.out.dw (by have:=HBD.out;have:=HLP.out;omega) 5 (by omega))
     have lq:=lp3.out.len
     go_wp2_with fail
     refine HN8.out.mono ?_
     rintro e w8 ⟨r8,rfl,r80,r81,D8⟩
     have lp8:Hid (Lp w0 d ao cap xs (n+P1) (c+C1+3) (S++P3) w8):=hide ⟨lp3.out.len,D8⟩
     clear HN8 D8
     by_cases s0:r8=0
     ·subst s0
      have HS9:Hid (Lp w0 d ao cap xs (n+PL) (c+PC) (S++P3++⟨#[42]⟩) w8):=hide ⟨by rw [size_add];have:((⟨#[42]⟩:ByteArray)).size=1:=rfl;have:=lp8.out.len;have:=HLP.out;omega,lp8.out.dw.up (by have:=HLP.out;omega)⟩
      have h42:((⟨#[42]⟩:ByteArray)).size=1:=rfl
      go_wp2
      go_roundw
      case rel=>exact ⟨j-1,_,n+PL,c+PC,rfl,by omega,(by first | rfl | (congr 1;omega)),by omega,by omega,HS9⟩
      case measure=>simp [intOf];omega
     ·have q0:(r8 == 0)=false:=by simpa using s0
      have q0':decide (r8=0)=false:=decide_eq_false s0
      by_cases s1:r8=1
      ·subst s1
       have HP9:=hide (pick_dw [⟨#[92,123,50,92,125]⟩,⟨#[92,123,49,44,51,92,125]⟩,⟨#[92,123,48,44,92,125]⟩] #[.string ⟨#[92,123,50,92,125]⟩,.string ⟨#[92,123,49,44,51,92,125]⟩,.string ⟨#[92,123,48,44,92,125]⟩] rfl 3 rfl (by decide) (by decide) (by decide) lp8.out.dw (by have:=HBD.out;have:=HLP.out;omega))
       have lq8:=lp8.out.len
       go_wp2_with fail
       refine HP9.out.mono ?_
       rintro e w9 ⟨P9,hP9,rfl,D9⟩
       have HS9:Hid (Lp w0 d ao cap xs (n+PL) (c+PC) (S++P3++P9) w9):=hide ⟨by rw [size_add];have:=lp8.out.len;have:=HLP.out;omega,D9.up (by have:=HLP.out;omega)⟩
       clear D9 HP9
       go_wp2
       go_roundw
       case rel=>exact ⟨j-1,_,n+PL,c+PC,rfl,by omega,(by first | rfl | (congr 1;omega)),by omega,by omega,HS9⟩
       case measure=>simp [intOf];omega
      ·have q1:(r8 == 1)=false:=by simpa using s1
       have q1':decide (r8=1)=false:=decide_eq_false s1
       have HS9:Hid (Lp w0 d ao cap xs (n+PL) (c+PC) (S++P3) w8):=hide ⟨by have:=lp8.out.len;have:=HLP.out;omega,lp8.out.dw.up (by have:=HLP.out;omega)⟩
       go_wp2
       go_roundw
       case rel=>exact ⟨j-1,_,n+PL,c+PC,rfl,by omega,(by first | rfl | (congr 1;omega)),by omega,by omega,HS9⟩
       case measure=>simp [intOf];omega
    ·have u1f:(r2 == 1)=false:=by simpa using t1
     have u1g:decide (r2=1)=false:=decide_eq_false t1
     by_cases t2:r2=2
     ·subst t2
      have HP3:=hide (pick_dw [⟨#[97]⟩,⟨#[98]⟩,⟨#[99]⟩] #[.string ⟨#[97]⟩,.string ⟨#[98]⟩,.string ⟨#[99]⟩] rfl 3 rfl (by decide) (by decide) (by decide) lp2.out.dw (by have:=HBD.out;have:=HLP.out;omega))
      have lq2:=lp2.out.len
      go_wp2_with fail
      refine HP3.out.mono ?_
      rintro e w3 ⟨P3,hP3,rfl,D3⟩
      have lp3:Hid (Lp w0 d ao cap xs (n+P1) (c+C1) (S++P3) w3):=hide ⟨by rw [size_add];have:=lp2.out.len;have:=HLP.out;omega,D3.up (by have:=HLP.out;omega)⟩
      clear D3 HP3
      have HN8:=hide (next_dw lp3.out.dw (by have:=HBD.out;have:=HLP.out;omega) 5 (by omega))
      have lq:=lp3.out.len
      go_wp2_with fail
      refine HN8.out.mono ?_
      rintro e w8 ⟨r8,rfl,r80,r81,D8⟩
      have lp8:Hid (Lp w0 d ao cap xs (n+P1) (c+C1+3) (S++P3) w8):=hide ⟨lp3.out.len,D8⟩
      clear HN8 D8
      by_cases s0:r8=0
      ·subst s0
       have HS9:Hid (Lp w0 d ao cap xs (n+PL) (c+PC) (S++P3++⟨#[42]⟩) w8):=hide ⟨by rw [size_add];have:((⟨#[42]⟩:ByteArray)).size=1:=rfl;have:=lp8.out.len;have:=HLP.out;omega,lp8.out.dw.up (by have:=HLP.out;omega)⟩
       have h42:((⟨#[42]⟩:ByteArray)).size=1:=rfl
       go_wp2
       go_roundw
       case rel=>exact ⟨j-1,_,n+PL,c+PC,rfl,by omega,(by first | rfl | (congr 1;omega)),by omega,by omega,HS9⟩
       case measure=>simp [intOf];omega
      ·have q0:(r8 == 0)=false:=by simpa using s0
       have q0':decide (r8=0)=false:=decide_eq_false s0
       by_cases s1:r8=1
       ·subst s1
        have HP9:=hide (pick_dw [⟨#[92,123,50,92,125]⟩,⟨#[92,123,49,44,51,92,125]⟩,⟨#[92,123,48,44,92,125]⟩] #[.string ⟨#[92,123,50,92,125]⟩,.string ⟨#[92,123,49,44,51,92,125]⟩,.string ⟨#[92,123,48,44,92,125]⟩] rfl 3 rfl (by decide) (by decide) (by decide) lp8.out.dw (by have:=HBD.out;have:=HLP.out;omega))
        have lq8:=lp8.out.len
        go_wp2_with fail
        refine HP9.out.mono ?_
        rintro e w9 ⟨P9,hP9,rfl,D9⟩
        have HS9:Hid (Lp w0 d ao cap xs (n+PL) (c+PC) (S++P3++P9) w9):=hide ⟨by rw [size_add];have:=lp8.out.len;have:=HLP.out;omega,D9.up (by have:=HLP.out;omega)⟩
        clear D9 HP9
        go_wp2
        go_roundw
        case rel=>exact ⟨j-1,_,n+PL,c+PC,rfl,by omega,(by first | rfl | (congr 1;omega)),by omega,by omega,HS9⟩
        case measure=>simp [intOf];omega
       ·have q1:(r8 == 1)=false:=by simpa using s1
        have q1':decide (r8=1)=false:=decide_eq_false s1
        have HS9:Hid (Lp w0 d ao cap xs (n+PL) (c+PC) (S++P3) w8):=hide ⟨by have:=lp8.out.len;have:=HLP.out;omega,lp8.out.dw.up (by have:=HLP.out;omega)⟩
        go_wp2
        go_roundw
        case rel=>exact ⟨j-1,_,n+PL,c+PC,rfl,by omega,(by first | rfl | (congr 1;omega)),by omega,by omega,HS9⟩
        case measure=>simp [intOf];omega
     ·have u2f:(r2 == 2)=false:=by simpa using t2
      have u2g:decide (r2=2)=false:=decide_eq_false t2
      by_cases t3:r2=3
      ·subst t3
       have hb1:((⟨#[46]⟩:ByteArray)).size=1:=rfl
       have lq2:=lp2.out.len
       have lp3:Hid (Lp w0 d ao cap xs (n+P1) (c+C1) (S++⟨#[46]⟩) w2):=hide ⟨by rw [size_add];have:=lp2.out.len;have:=HLP.out;omega,lp2.out.dw.up (by have:=HLP.out;omega)⟩
       have HN8:=hide (next_dw lp3.out.dw (by have:=HBD.out;have:=HLP.out;omega) 5 (by omega))
       have lq:=lp3.out.len
       go_wp2_with fail
       refine HN8.out.mono ?_
       rintro e w8 ⟨r8,rfl,r80,r81,D8⟩
       have lp8:Hid (Lp w0 d ao cap xs (n+P1) (c+C1+3) (S++⟨#[46]⟩) w8):=hide ⟨lp3.out.len,D8⟩
       clear HN8 D8
       by_cases s0:r8=0
       ·subst s0
        have HS9:Hid (Lp w0 d ao cap xs (n+PL) (c+PC) (S++⟨#[46]⟩++⟨#[42]⟩) w8):=hide ⟨by rw [size_add];have:((⟨#[42]⟩:ByteArray)).size=1:=rfl;have:=lp8.out.len;have:=HLP.out;omega,lp8.out.dw.up (by have:=HLP.out;omega)⟩
        have h42:((⟨#[42]⟩:ByteArray)).size=1:=rfl
        go_wp2
        go_roundw
        case rel=>exact ⟨j-1,_,n+PL,c+PC,rfl,by omega,(by first | rfl | (congr 1;omega)),by omega,by omega,HS9⟩
        case measure=>simp [intOf];omega
       ·have q0:(r8 == 0)=false:=by simpa using s0
        have q0':decide (r8=0)=false:=decide_eq_false s0
        by_cases s1:r8=1
        ·subst s1
         have HP9:=hide (pick_dw [⟨#[92,123,50,92,125]⟩,⟨#[92,123,49,44,51,92,125]⟩,⟨#[92,123,48,44,92,125]⟩] #[.string ⟨#[92,123,50,92,125]⟩,.string ⟨#[92,123,49,44,51,92,125]⟩,.string ⟨#[92,123,48,44,92,125]⟩] rfl 3 rfl (by decide) (by decide) (by decide) lp8.out.dw (by have:=HBD.out;have:=HLP.out;omega))
         have lq8:=lp8.out.len
         go_wp2_with fail
         refine HP9.out.mono ?_
         rintro e w9 ⟨P9,hP9,rfl,D9⟩
         have HS9:Hid (Lp w0 d ao cap xs (n+PL) (c+PC) (S++⟨#[46]⟩++P9) w9):=hide ⟨by rw [size_add];have:=lp8.out.len;have:=HLP.out;omega,D9.up (by have:=HLP.out;omega)⟩
         clear D9 HP9
         go_wp2
         go_roundw
         case rel=>exact ⟨j-1,_,n+PL,c+PC,rfl,by omega,(by first | rfl | (congr 1;omega)),by omega,by omega,HS9⟩
         case measure=>simp [intOf];omega
        ·have q1:(r8 == 1)=false:=by simpa using s1
         have q1':decide (r8=1)=false:=decide_eq_false s1
         have HS9:Hid (Lp w0 d ao cap xs (n+PL) (c+PC) (S++⟨#[46]⟩) w8):=hide ⟨by have:=lp8.out.len;have:=HLP.out;omega,lp8.out.dw.up (by have:=HLP.out;omega)⟩
         go_wp2
         go_roundw
         case rel=>exact ⟨j-1,_,n+PL,c+PC,rfl,by omega,(by first | rfl | (congr 1;omega)),by omega,by omega,HS9⟩
         case measure=>simp [intOf];omega
      ·have u3f:(r2 == 3)=false:=by simpa using t3
       have u3g:decide (r2=3)=false:=decide_eq_false t3
       by_cases t4:r2=4
       ·subst t4
        have HP3:=hide (pick_dw [⟨#[91,97,98,93]⟩,⟨#[91,94,97,93]⟩,⟨#[91,97,45,99,93]⟩,⟨#[91,91,58,100,105,103,105,116,58,93,93]⟩,⟨#[91,93,120,93]⟩,⟨#[91,94,93,97,93]⟩,⟨#[91,97,45,93]⟩,⟨#[91,91,58,97,108,112,104,97,58,93,95,93]⟩] #[.string ⟨#[91,97,98,93]⟩,.string ⟨#[91,94,97,93]⟩,.string ⟨#[91,97,45,99,93]⟩,.string ⟨#[91,91,58,100,105,103,105,116,58,93,93]⟩,.string ⟨#[91,93,120,93]⟩,.string ⟨#[91,94,93,97,93]⟩,.string ⟨#[91,97,45,93]⟩,.string ⟨#[91,91,58,97,108,112,104,97,58,93,95,93]⟩] rfl 8 rfl (by decide) (by decide) (by decide) lp2.out.dw (by have:=HBD.out;have:=HLP.out;omega))
        have lq2:=lp2.out.len
        go_wp2_with fail
        refine HP3.out.mono ?_
        rintro e w3 ⟨P3,hP3,rfl,D3⟩
        have lp3:Hid (Lp w0 d ao cap xs (n+P1) (c+C1) (S++P3) w3):=hide ⟨by rw [size_add];have:=lp2.out.len;have:=HLP.out;omega,D3.up (by have:=HLP.out;omega)⟩
        clear D3 HP3
        have HN8:=hide (next_dw lp3.out.dw (by have:=HBD.out;have:=HLP.out;omega) 5 (by omega))
        have lq:=lp3.out.len
        go_wp2_with fail
        refine HN8.out.mono ?_
        rintro e w8 ⟨r8,rfl,r80,r81,D8⟩
        have lp8:Hid (Lp w0 d ao cap xs (n+P1) (c+C1+3) (S++P3) w8):=hide ⟨lp3.out.len,D8⟩
        clear HN8 D8
        by_cases s0:r8=0
        ·subst s0
         have HS9:Hid (Lp w0 d ao cap xs (n+PL) (c+PC) (S++P3++⟨#[42]⟩) w8):=hide ⟨by rw [size_add];have:((⟨#[42]⟩:ByteArray)).size=1:=rfl;have:=lp8.out.len;have:=HLP.out;omega,lp8.out.dw.up (by have:=HLP.out;omega)⟩
         have h42:((⟨#[42]⟩:ByteArray)).size=1:=rfl
         go_wp2
         go_roundw
         case rel=>exact ⟨j-1,_,n+PL,c+PC,rfl,by omega,(by first | rfl | (congr 1;omega)),by omega,by omega,HS9⟩
         case measure=>simp [intOf];omega
        ·have q0:(r8 == 0)=false:=by simpa using s0
         have q0':decide (r8=0)=false:=decide_eq_false s0
         by_cases s1:r8=1
         ·subst s1
          have HP9:=hide (pick_dw [⟨#[92,123,50,92,125]⟩,⟨#[92,123,49,44,51,92,125]⟩,⟨#[92,123,48,44,92,125]⟩] #[.string ⟨#[92,123,50,92,125]⟩,.string ⟨#[92,123,49,44,51,92,125]⟩,.string ⟨#[92,123,48,44,92,125]⟩] rfl 3 rfl (by decide) (by decide) (by decide) lp8.out.dw (by have:=HBD.out;have:=HLP.out;omega))
          have lq8:=lp8.out.len
          go_wp2_with fail
          refine HP9.out.mono ?_
          rintro e w9 ⟨P9,hP9,rfl,D9⟩
          have HS9:Hid (Lp w0 d ao cap xs (n+PL) (c+PC) (S++P3++P9) w9):=hide ⟨by rw [size_add];have:=lp8.out.len;have:=HLP.out;omega,D9.up (by have:=HLP.out;omega)⟩
          clear D9 HP9
          go_wp2
          go_roundw
          case rel=>exact ⟨j-1,_,n+PL,c+PC,rfl,by omega,(by first | rfl | (congr 1;omega)),by omega,by omega,HS9⟩
          case measure=>simp [intOf];omega
         ·have q1:(r8 == 1)=false:=by simpa using s1
          have q1':decide (r8=1)=false:=decide_eq_false s1
          have HS9:Hid (Lp w0 d ao cap xs (n+PL) (c+PC) (S++P3) w8):=hide ⟨by have:=lp8.out.len;have:=HLP.out;omega,lp8.out.dw.up (by have:=HLP.out;omega)⟩
          go_wp2
          go_roundw
          case rel=>exact ⟨j-1,_,n+PL,c+PC,rfl,by omega,(by first | rfl | (congr 1;omega)),by omega,by omega,HS9⟩
          case measure=>simp [intOf];omega
       ·have u4f:(r2 == 4)=false:=by simpa using t4
        have u4g:decide (r2=4)=false:=decide_eq_false t4
        by_cases t5:r2=5
        ·subst t5
         have HQ1:=hide (HSub.out false w0 w2 d ao cap xs _ lp2.out.dw (by have:=HBD.out;have:=HLP.out;omega))
         have b40:((⟨#[92,40]⟩:ByteArray)).size=2:=rfl
         have b41:((⟨#[92,41]⟩:ByteArray)).size=2:=rfl
         have lq2:=lp2.out.len
         go_wp2_with fail
         refine HQ1.out.mono ?_
         rintro e w4 ⟨Q1,hQ1,rfl,D4⟩
         have lp3:Hid (Lp w0 d ao cap xs (n+P1) (c+C1) (S++(⟨#[92,40]⟩++Q1++⟨#[92,41]⟩)) w4):=hide ⟨by simp only [size_add];have h1:((⟨#[92,40]⟩:ByteArray)).size=2:=rfl;have h3:((⟨#[92,41]⟩:ByteArray)).size=2:=rfl;have:=lp2.out.len;have:=HLP.out;omega,D4.up (by have:=HLP.out;omega)⟩
         clear D4 HQ1
         have HN8:=hide (next_dw lp3.out.dw (by have:=HBD.out;have:=HLP.out;omega) 5 (by omega))
         have lq:=lp3.out.len
         go_wp2_with fail
         refine HN8.out.mono ?_
         rintro e w8 ⟨r8,rfl,r80,r81,D8⟩
         have lp8:Hid (Lp w0 d ao cap xs (n+P1) (c+C1+3) (S++(⟨#[92,40]⟩++Q1++⟨#[92,41]⟩)) w8):=hide ⟨lp3.out.len,D8⟩
         clear HN8 D8
         by_cases s0:r8=0
         ·subst s0
          have HS9:Hid (Lp w0 d ao cap xs (n+PL) (c+PC) (S++(⟨#[92,40]⟩++Q1++⟨#[92,41]⟩)++⟨#[42]⟩) w8):=hide ⟨by rw [size_add];have:((⟨#[42]⟩:ByteArray)).size=1:=rfl;have:=lp8.out.len;have:=HLP.out;omega,lp8.out.dw.up (by have:=HLP.out;omega)⟩
          have h42:((⟨#[42]⟩:ByteArray)).size=1:=rfl
          go_wp2
          go_roundw
          case rel=>exact ⟨j-1,_,n+PL,c+PC,rfl,by omega,(by first | rfl | (congr 1;omega)),by omega,by omega,HS9⟩
          case measure=>simp [intOf];omega
         ·have q0:(r8 == 0)=false:=by simpa using s0
          have q0':decide (r8=0)=false:=decide_eq_false s0
          by_cases s1:r8=1
          ·subst s1
           have HP9:=hide (pick_dw [⟨#[92,123,50,92,125]⟩,⟨#[92,123,49,44,51,92,125]⟩,⟨#[92,123,48,44,92,125]⟩] #[.string ⟨#[92,123,50,92,125]⟩,.string ⟨#[92,123,49,44,51,92,125]⟩,.string ⟨#[92,123,48,44,92,125]⟩] rfl 3 rfl (by decide) (by decide) (by decide) lp8.out.dw (by have:=HBD.out;have:=HLP.out;omega))
           have lq8:=lp8.out.len
           go_wp2_with fail
           refine HP9.out.mono ?_
           rintro e w9 ⟨P9,hP9,rfl,D9⟩
           have HS9:Hid (Lp w0 d ao cap xs (n+PL) (c+PC) (S++(⟨#[92,40]⟩++Q1++⟨#[92,41]⟩)++P9) w9):=hide ⟨by rw [size_add];have:=lp8.out.len;have:=HLP.out;omega,D9.up (by have:=HLP.out;omega)⟩
           clear D9 HP9
           go_wp2
           go_roundw
           case rel=>exact ⟨j-1,_,n+PL,c+PC,rfl,by omega,(by first | rfl | (congr 1;omega)),by omega,by omega,HS9⟩
           case measure=>simp [intOf];omega
          ·have q1:(r8 == 1)=false:=by simpa using s1
           have q1':decide (r8=1)=false:=decide_eq_false s1
           have HS9:Hid (Lp w0 d ao cap xs (n+PL) (c+PC) (S++(⟨#[92,40]⟩++Q1++⟨#[92,41]⟩)) w8):=hide ⟨by have:=lp8.out.len;have:=HLP.out;omega,lp8.out.dw.up (by have:=HLP.out;omega)⟩
           go_wp2
           go_roundw
           case rel=>exact ⟨j-1,_,n+PL,c+PC,rfl,by omega,(by first | rfl | (congr 1;omega)),by omega,by omega,HS9⟩
           case measure=>simp [intOf];omega
        ·have u5f:(r2 == 5)=false:=by simpa using t5
         have u5g:decide (r2=5)=false:=decide_eq_false t5
         by_cases t6:r2=6
         ·subst t6
          have HQ1:=hide (HSub.out false w0 w2 d ao cap xs _ lp2.out.dw (by have:=HBD.out;have:=HLP.out;omega))
          have b40:((⟨#[92,40]⟩:ByteArray)).size=2:=rfl
          have b41:((⟨#[92,41]⟩:ByteArray)).size=2:=rfl
          have lq2:=lp2.out.len
          go_wp2_with fail
          refine HQ1.out.mono ?_
          rintro e w4 ⟨Q1,hQ1,rfl,D4⟩
          have lp3:Hid (Lp w0 d ao cap xs (n+P1) (c+C1) (S++(⟨#[92,40]⟩++Q1++⟨#[92,41]⟩)) w4):=hide ⟨by simp only [size_add];have h1:((⟨#[92,40]⟩:ByteArray)).size=2:=rfl;have h3:((⟨#[92,41]⟩:ByteArray)).size=2:=rfl;have:=lp2.out.len;have:=HLP.out;omega,D4.up (by have:=HLP.out;omega)⟩
          clear D4 HQ1
          have HN8:=hide (next_dw lp3.out.dw (by have:=HBD.out;have:=HLP.out;omega) 5 (by omega))
          have lq:=lp3.out.len
          go_wp2_with fail
          refine HN8.out.mono ?_
          rintro e w8 ⟨r8,rfl,r80,r81,D8⟩
          have lp8:Hid (Lp w0 d ao cap xs (n+P1) (c+C1+3) (S++(⟨#[92,40]⟩++Q1++⟨#[92,41]⟩)) w8):=hide ⟨lp3.out.len,D8⟩
          clear HN8 D8
          by_cases s0:r8=0
          ·subst s0
           have HS9:Hid (Lp w0 d ao cap xs (n+PL) (c+PC) (S++(⟨#[92,40]⟩++Q1++⟨#[92,41]⟩)++⟨#[42]⟩) w8):=hide ⟨by rw [size_add];have:((⟨#[42]⟩:ByteArray)).size=1:=rfl;have:=lp8.out.len;have:=HLP.out;omega,lp8.out.dw.up (by have:=HLP.out;omega)⟩
           have h42:((⟨#[42]⟩:ByteArray)).size=1:=rfl
           go_wp2
           go_roundw
           case rel=>exact ⟨j-1,_,n+PL,c+PC,rfl,by omega,(by first | rfl | (congr 1;omega)),by omega,by omega,HS9⟩
           case measure=>simp [intOf];omega
          ·have q0:(r8 == 0)=false:=by simpa using s0
           have q0':decide (r8=0)=false:=decide_eq_false s0
           by_cases s1:r8=1
           ·subst s1
            have HP9:=hide (pick_dw [⟨#[92,123,50,92,125]⟩,⟨#[92,123,49,44,51,92,125]⟩,⟨#[92,123,48,44,92,125]⟩] #[.string ⟨#[92,123,50,92,125]⟩,.string ⟨#[92,123,49,44,51,92,125]⟩,.string ⟨#[92,123,48,44,92,125]⟩] rfl 3 rfl (by decide) (by decide) (by decide) lp8.out.dw (by have:=HBD.out;have:=HLP.out;omega))
            have lq8:=lp8.out.len
            go_wp2_with fail
            refine HP9.out.mono ?_
            rintro e w9 ⟨P9,hP9,rfl,D9⟩
            have HS9:Hid (Lp w0 d ao cap xs (n+PL) (c+PC) (S++(⟨#[92,40]⟩++Q1++⟨#[92,41]⟩)++P9) w9):=hide ⟨by rw [size_add];have:=lp8.out.len;have:=HLP.out;omega,D9.up (by have:=HLP.out;omega)⟩
            clear D9 HP9
            go_wp2
            go_roundw
            case rel=>exact ⟨j-1,_,n+PL,c+PC,rfl,by omega,(by first | rfl | (congr 1;omega)),by omega,by omega,HS9⟩
            case measure=>simp [intOf];omega
           ·have q1:(r8 == 1)=false:=by simpa using s1
            have q1':decide (r8=1)=false:=decide_eq_false s1
            have HS9:Hid (Lp w0 d ao cap xs (n+PL) (c+PC) (S++(⟨#[92,40]⟩++Q1++⟨#[92,41]⟩)) w8):=hide ⟨by have:=lp8.out.len;have:=HLP.out;omega,lp8.out.dw.up (by have:=HLP.out;omega)⟩
            go_wp2
            go_roundw
            case rel=>exact ⟨j-1,_,n+PL,c+PC,rfl,by omega,(by first | rfl | (congr 1;omega)),by omega,by omega,HS9⟩
            case measure=>simp [intOf];omega
         ·have u6f:(r2 == 6)=false:=by simpa using t6
          have u6g:decide (r2=6)=false:=decide_eq_false t6
          have HP3:=hide (pick_dw [⟨#[92,46]⟩,⟨#[92,110]⟩,⟨#[92,42]⟩,⟨#[120]⟩] #[.string ⟨#[92,46]⟩,.string ⟨#[92,110]⟩,.string ⟨#[92,42]⟩,.string ⟨#[120]⟩] rfl 4 rfl (by decide) (by decide) (by decide) lp2.out.dw (by have:=HBD.out;have:=HLP.out;omega))
          have lq2:=lp2.out.len
          go_wp2_with fail
          refine HP3.out.mono ?_
          rintro e w3 ⟨P3,hP3,rfl,D3⟩
          have lp3:Hid (Lp w0 d ao cap xs (n+P1) (c+C1) (S++P3) w3):=hide ⟨by rw [size_add];have:=lp2.out.len;have:=HLP.out;omega,D3.up (by have:=HLP.out;omega)⟩
          clear D3 HP3
          have HN8:=hide (next_dw lp3.out.dw (by have:=HBD.out;have:=HLP.out;omega) 5 (by omega))
          have lq:=lp3.out.len
          go_wp2_with fail
          refine HN8.out.mono ?_
          rintro e w8 ⟨r8,rfl,r80,r81,D8⟩
          have lp8:Hid (Lp w0 d ao cap xs (n+P1) (c+C1+3) (S++P3) w8):=hide ⟨lp3.out.len,D8⟩
          clear HN8 D8
          by_cases s0:r8=0
          ·subst s0
           have HS9:Hid (Lp w0 d ao cap xs (n+PL) (c+PC) (S++P3++⟨#[42]⟩) w8):=hide ⟨by rw [size_add];have:((⟨#[42]⟩:ByteArray)).size=1:=rfl;have:=lp8.out.len;have:=HLP.out;omega,lp8.out.dw.up (by have:=HLP.out;omega)⟩
           have h42:((⟨#[42]⟩:ByteArray)).size=1:=rfl
           go_wp2
           go_roundw
           case rel=>exact ⟨j-1,_,n+PL,c+PC,rfl,by omega,(by first | rfl | (congr 1;omega)),by omega,by omega,HS9⟩
           case measure=>simp [intOf];omega
          ·have q0:(r8 == 0)=false:=by simpa using s0
           have q0':decide (r8=0)=false:=decide_eq_false s0
           by_cases s1:r8=1
           ·subst s1
            have HP9:=hide (pick_dw [⟨#[92,123,50,92,125]⟩,⟨#[92,123,49,44,51,92,125]⟩,⟨#[92,123,48,44,92,125]⟩] #[.string ⟨#[92,123,50,92,125]⟩,.string ⟨#[92,123,49,44,51,92,125]⟩,.string ⟨#[92,123,48,44,92,125]⟩] rfl 3 rfl (by decide) (by decide) (by decide) lp8.out.dw (by have:=HBD.out;have:=HLP.out;omega))
            have lq8:=lp8.out.len
            go_wp2_with fail
            refine HP9.out.mono ?_
            rintro e w9 ⟨P9,hP9,rfl,D9⟩
            have HS9:Hid (Lp w0 d ao cap xs (n+PL) (c+PC) (S++P3++P9) w9):=hide ⟨by rw [size_add];have:=lp8.out.len;have:=HLP.out;omega,D9.up (by have:=HLP.out;omega)⟩
            clear D9 HP9
            go_wp2
            go_roundw
            case rel=>exact ⟨j-1,_,n+PL,c+PC,rfl,by omega,(by first | rfl | (congr 1;omega)),by omega,by omega,HS9⟩
            case measure=>simp [intOf];omega
           ·have q1:(r8 == 1)=false:=by simpa using s1
            have q1':decide (r8=1)=false:=decide_eq_false s1
            have HS9:Hid (Lp w0 d ao cap xs (n+PL) (c+PC) (S++P3) w8):=hide ⟨by have:=lp8.out.len;have:=HLP.out;omega,lp8.out.dw.up (by have:=HLP.out;omega)⟩
            go_wp2
            go_roundw
            case rel=>exact ⟨j-1,_,n+PL,c+PC,rfl,by omega,(by first | rfl | (congr 1;omega)),by omega,by omega,HS9⟩
            case measure=>simp [intOf];omega
  ·obtain rfl:j=0:=by omega
   have hji:¬ (0:Int)<((0:Nat):Int):=by omega
   have HE:Hid (S.size≤3*(2*LL+200)∧Dw w0 d ao cap xs (m+(3*(2*CC+20)+10)) wr):=hide ⟨by have:=HX.out.len;have:=HLP.out;omega,HX.out.dw.up (by have:=HLP.out;omega)⟩
   go_wp2
   go_ret
   exact ⟨S,HE.out.1,rfl,HE.out.2⟩
end Go.Proofs.YtfhimmnoipfiaaaDoor.drw
namespace Go.Proofs.YtfhimmnoipfiaaaDoor.drw
open bytes pile src letters
theorem pat0 (BM:Nat) (hB:BM≤95000000):PatAt 0 600 70 BM:=fun ere w0 w d ao cap xs m h hm=>by
 cases ere with
 | true=>exact pat_ere_flat 0 0 (by decide) (by decide) BM hB w0 w d ao cap xs m h hm
 | false=>exact pat_bre_flat 0 0 (by decide) (by decide) BM hB w0 w d ao cap xs m h hm
theorem pat1 (BM:Nat) (hB:BM≤90000000):PatAt 1 4200 490 BM:=fun ere w0 w d ao cap xs m h hm=>by
 cases ere with
 | true=>exact pat_ere_deep 600 70 (by decide) (by decide) BM hB 1 (by decide) (by decide) (pat0 _ (by omega)) w0 w d ao cap xs m h hm
 | false=>exact pat_bre_deep 600 70 (by decide) (by decide) BM hB 1 (by decide) (by decide) (pat0 _ (by omega)) w0 w d ao cap xs m h hm
theorem pat2 (BM:Nat) (hB:BM≤80000000):PatAt 2 25800 3010 BM:=fun ere w0 w d ao cap xs m h hm=>by
 cases ere with
 | true=>exact pat_ere_deep 4200 490 (by decide) (by decide) BM (by omega) 2 (by decide) (by decide) (pat1 _ (by omega)) w0 w d ao cap xs m h hm
 | false=>exact pat_bre_deep 4200 490 (by decide) (by decide) BM (by omega) 2 (by decide) (by decide) (pat1 _ (by omega)) w0 w d ao cap xs m h hm
theorem size_ext (S:ByteArray) (a b:Nat):(S.extract a b).size≤S.size:=by
 rw [ByteArray.size_extract];omega
set_option maxRecDepth 20000 in
set_option maxHeartbeats 8000000 in
theorem any_dw (ere:Bool) (w0 w:World) (d:Nat) (ao:Option Addr) (cap:Nat) (xs:List Int) (m:Nat) (h:Dw w0 d ao cap xs m w) (hm:m≤10000000) :
  Calls Tryd.prog 27 #[.pointer (some ⟨d,0,none⟩),.bool ere] w fun e w'=>∃ S:ByteArray,S.size≤65536∧e=.returned (.string S)∧Dw w0 d ao cap xs (m+10000) w':=by
 have HP:=hide (pat2 80000000 (by omega) ere w0 w d ao cap xs m h (by omega))
 have HM:=hide hm
 clear h hm
 go_enter Tryd.func27,Tryd.ntmps27
 go_wp2_with fail
 refine HP.out.mono ?_
 rintro e w1 ⟨S,hS,rfl,D1⟩
 have HN:=hide (next_dw D1 (by have:=HM.out;omega) 8 (by omega))
 clear HP D1
 go_wp2_with fail
 refine HN.out.mono ?_
 rintro e w2 ⟨r,rfl,r0,r1,D2⟩
 have HD2:=hide D2
 clear HN D2
 by_cases s0:r=0
 ·subst s0
  have b1:((⟨#[94]⟩:ByteArray)).size=1:=rfl
  have HE:Hid ((⟨#[94]⟩++S:ByteArray).size≤65536∧Dw w0 d ao cap xs (m+10000) w2):=hide ⟨by rw [size_add];omega,HD2.out.up (by omega)⟩
  go_wp2
  go_ret
  exact ⟨_,HE.out.1,rfl,HE.out.2⟩
 ·have u0:(r == 0)=false:=by simpa using s0
  have u0':decide (r=0)=false:=decide_eq_false s0
  by_cases s1:r=1
  ·subst s1
   have b1:((⟨#[36]⟩:ByteArray)).size=1:=rfl
   have HE:Hid ((S++⟨#[36]⟩:ByteArray).size≤65536∧Dw w0 d ao cap xs (m+10000) w2):=hide ⟨by rw [size_add];omega,HD2.out.up (by omega)⟩
   go_wp2
   go_ret
   exact ⟨_,HE.out.1,rfl,HE.out.2⟩
  ·have u1:(r == 1)=false:=by simpa using s1
   have u1':decide (r=1)=false:=decide_eq_false s1
   by_cases s2:r=2
   ·subst s2
    have hw:IntKind.i64.wrap ((S.size:Int)+1)=(S.size:Int)+1:=by rw [IntKind.wrap_i64];omega
    have HN2:=hide (next_dw HD2.out (by have:=HM.out;omega) ((S.size:Int)+1) (by omega))
    go_wp2_with fail
    refine HN2.out.mono ?_
    rintro e w3 ⟨rk,rfl,rk0,rk1,D3⟩
    obtain ⟨k,rfl⟩:∃ k:Nat,rk=(k:Int):=⟨rk.toNat,by omega⟩
    have hk:k≤S.size:=by omega
    have D3':Dw w0 d ao cap xs (m+3010+3+3) w3.drew:=D3.below ⟨rfl,rfl,rfl,Nat.le_refl _,fun _ _=>rfl⟩
    have HPk:Hid (Calls Tryd.prog 30 #[.pointer (some ⟨d,0,none⟩),.slice (some ⟨w3.heap.size,0,none⟩) 22 22] (w3.alloc (.cells #[.string ⟨#[40]⟩,.string ⟨#[41]⟩,.string ⟨#[92,40]⟩,.string ⟨#[92,41]⟩,.string ⟨#[91]⟩,.string ⟨#[93]⟩,.string ⟨#[42]⟩,.string ⟨#[123]⟩,.string ⟨#[92,123]⟩,.string ⟨#[124]⟩,.string ⟨#[92]⟩,.string ⟨#[94]⟩,.string ⟨#[36]⟩,.string ⟨#[43]⟩,.string ⟨#[91,91,58,120,58,93,93]⟩,.string ⟨#[91,98,45,97,93]⟩,.string ⟨#[92,49]⟩,.string ⟨#[123,51,48,125]⟩,.string ⟨#[123,51,44,49,125]⟩,.string ⟨#[91,46]⟩,.string ⟨#[92,123,49]⟩,.string ⟨#[42,42]⟩] 9)).drew fun e w'=>∃ S:ByteArray,S.size≤60∧e=.returned (.string S)∧Dw w0 d ao cap xs (m+3010+3+3+3) w'):=hide (pick_dw [⟨#[40]⟩,⟨#[41]⟩,⟨#[92,40]⟩,⟨#[92,41]⟩,⟨#[91]⟩,⟨#[93]⟩,⟨#[42]⟩,⟨#[123]⟩,⟨#[92,123]⟩,⟨#[124]⟩,⟨#[92]⟩,⟨#[94]⟩,⟨#[36]⟩,⟨#[43]⟩,⟨#[91,91,58,120,58,93,93]⟩,⟨#[91,98,45,97,93]⟩,⟨#[92,49]⟩,⟨#[123,51,48,125]⟩,⟨#[123,51,44,49,125]⟩,⟨#[91,46]⟩,⟨#[92,123,49]⟩,⟨#[42,42]⟩] #[.string ⟨#[40]⟩,.string ⟨#[41]⟩,.string ⟨#[92,40]⟩,.string ⟨#[92,41]⟩,.string ⟨#[91]⟩,.string ⟨#[93]⟩,.string ⟨#[42]⟩,.string ⟨#[123]⟩,.string ⟨#[92,123]⟩,.string ⟨#[124]⟩,.string ⟨#[92]⟩,.string ⟨#[94]⟩,.string ⟨#[36]⟩,.string ⟨#[43]⟩,.string ⟨#[91,91,58,120,58,93,93]⟩,.string ⟨#[91,98,45,97,93]⟩,.string ⟨#[92,49]⟩,.string ⟨#[123,51,48,125]⟩,.string ⟨#[123,51,44,49,125]⟩,.string ⟨#[91,46]⟩,.string ⟨#[92,123,49]⟩,.string ⟨#[42,42]⟩] rfl 22 rfl (by decide) (by decide) (by decide) D3' (by have:=HM.out;omega))
    have k1:(0:Int)≤(k:Int):=by omega
    have k2:(k:Int)≤(S.size:Int):=by omega
    obtain ⟨X1,hX1⟩:∃ X1,S.extract 0 k=X1:=⟨_,rfl⟩
    obtain ⟨X2,hX2⟩:∃ X2,S.extract k S.size=X2:=⟨_,rfl⟩
    have l1:X1.size≤25800:=by rw [←hX1];exact Nat.le_trans (size_ext S 0 k) hS
    have l2:X2.size≤25800:=by rw [←hX2];exact Nat.le_trans (size_ext S k S.size) hS
    clear HN2 D3 D3' HD2 rk0 rk1
    go_wp2
    go_region_law (first | (go_simp;go_at_call 30;with_reducible (refine HPk.out.mono ?_);rintro e w4 ⟨P,hP,rfl,D4⟩;have g1:¬ 9223372036854775807<X1.size+P.size:=(by omega);have g2:¬ 9223372036854775807<(X1++P).size+X2.size:=(by rw [size_add];omega);have g3:¬ 9223372036854775807<X1.size+P.size+X2.size:=(by omega)))
    all_goals
     have HE:Hid ((X1++P++X2:ByteArray).size≤65536∧Dw w0 d ao cap xs (m+10000) w4):=hide ⟨by rw [size_add,size_add];omega,D4.up (by omega)⟩
     clear D4 HPk
     go_wp2
     go_ret
     exact ⟨_,HE.out.1,rfl,HE.out.2⟩
   ·have u2:(r == 2)=false:=by simpa using s2
    have u2':decide (r=2)=false:=decide_eq_false s2
    by_cases s3:r=3
    ·subst s3
     have HCh:=hide (chance_dw HD2.out (by have:=HM.out;omega) 4 (by omega) (by omega))
     go_wp2_with fail
     refine HCh.out.mono ?_
     rintro e w3 ⟨rc,rfl,D3⟩
     have HD3:=hide D3
     clear HCh D3 HD2
     cases rc with
     | true =>
      have HPk:=hide (pick_dw [⟨#[]⟩,⟨#[42,97]⟩,⟨#[94,42,97]⟩,⟨#[92,40,42,97,92,41]⟩,⟨#[92,40,94,97,92,41]⟩,⟨#[92,40,97,36,92,41,98]⟩,⟨#[97,94,98]⟩,⟨#[97,36,98]⟩,⟨#[40,41]⟩,⟨#[97,124,124,98]⟩,⟨#[40,40,40,40,40,40,40,40,40,40,97,41,41,41,41,41,41,41,41,41,41]⟩,⟨#[92,40,92,41]⟩,⟨#[40,97,123,50,48,125,41,123,50,48,125]⟩,⟨#[91,94,10,93]⟩,⟨#[97,123,44,51,125]⟩] #[.string ⟨#[]⟩,.string ⟨#[42,97]⟩,.string ⟨#[94,42,97]⟩,.string ⟨#[92,40,42,97,92,41]⟩,.string ⟨#[92,40,94,97,92,41]⟩,.string ⟨#[92,40,97,36,92,41,98]⟩,.string ⟨#[97,94,98]⟩,.string ⟨#[97,36,98]⟩,.string ⟨#[40,41]⟩,.string ⟨#[97,124,124,98]⟩,.string ⟨#[40,40,40,40,40,40,40,40,40,40,97,41,41,41,41,41,41,41,41,41,41]⟩,.string ⟨#[92,40,92,41]⟩,.string ⟨#[40,97,123,50,48,125,41,123,50,48,125]⟩,.string ⟨#[91,94,10,93]⟩,.string ⟨#[97,123,44,51,125]⟩] rfl 15 rfl (by decide) (by decide) (by decide) HD3.out (by have:=HM.out;omega))
      go_wp2_with fail
      refine HPk.out.mono ?_
      rintro e w4 ⟨P,hP,rfl,D4⟩
      have HE:Hid (P.size≤65536∧Dw w0 d ao cap xs (m+10000) w4):=hide ⟨by omega,D4.up (by omega)⟩
      clear D4 HPk HD3
      go_wp2
      go_ret
      exact ⟨_,HE.out.1,rfl,HE.out.2⟩
     | false =>
      have HE:Hid (S.size≤65536∧Dw w0 d ao cap xs (m+10000) w3):=hide ⟨by omega,HD3.out.up (by omega)⟩
      go_wp2
      go_ret
      exact ⟨_,HE.out.1,rfl,HE.out.2⟩
    ·have u3:(r == 3)=false:=by simpa using s3
     have u3':decide (r=3)=false:=decide_eq_false s3
     have HE:Hid (S.size≤65536∧Dw w0 d ao cap xs (m+10000) w2):=hide ⟨by omega,HD2.out.up (by omega)⟩
     go_wp2
     go_ret
     exact ⟨_,HE.out.1,rfl,HE.out.2⟩
end Go.Proofs.YtfhimmnoipfiaaaDoor.drw
namespace Go.Proofs.YtfhimmnoipfiaaaDoor.eng
open bytes places sets tz rex
open pile src letters drw
def RxD (w:World) (d:Nat) (e:Ending) (w':World):Prop:=∃ (kind n9 m9:Int) (ss:ByteArray) (o:Option Addr) (ln cp:Nat) (T:Tr) (M:Fz),e=.returned (.agg #[.int .i64 kind,.int .i64 n9,.int .i64 m9,.string ss,.slice o ln cp])∧Good T∧RxAt M T #[.int .i64 kind,.int .i64 n9,.int .i64 m9,.string ss,.slice o ln cp]∧In M w'∧(∀ x ob,M x=some ob→w.heap.size≤x)∧Below d w w'
theorem belowd_setNew {w v:World} {R d:Nat} (h:Below d w v) (hR:d≤R) (i:Nat) (u:Value):Below d w (v.setCell ⟨R,i,none⟩ u) :=
 ⟨h.os,h.tape,h.output,by simpa using h.size,fun k hk=>(heap_setCell_other v ⟨R,i,none⟩ k u (by show k≠R;omega)).trans (h.block k hk)⟩
theorem set5_belowd {w v:World} {R d:Nat} (h:Below d w v) (hR:d≤R) (v0 v1 v2 v3 v4:Value):Below d w (set5 v R v0 v1 v2 v3 v4) :=
 belowd_setNew (belowd_setNew (belowd_setNew (belowd_setNew (belowd_setNew h hR 0 v0) hR 1 v1) hR 2 v2) hR 3 v3) hR 4 v4
theorem good_a:Good (.char 97) where
 ok:=by rw [OkT];exact ⟨by decide,by decide⟩
 num:=by simp [NumT]
 sz:=by simp [szT]
 wt:=by simp [wtT]
 ng:=by simp [ngT]
set_option maxRecDepth 20000 in
set_option maxHeartbeats 8000000 in
theorem rx_any (w:World) (d:Nat) (ao:Option Addr) (cap:Nat) (xs:List Int) (sd:Int) (h:SS w d ao cap xs 0 sd) (hd:d<w.heap.size) :
  Calls Tryd.prog 16 #[.pointer (some ⟨d,0,none⟩)] w (RxD w d):=by
 have hBx:Below w.heap.size w (w.alloc (.cells #[.int .i64 0,.int .i64 0,.int .i64 0,.string ⟨#[]⟩,.slice none 0 0] 25)):=(Below.refl _ _).alloc (Nat.le_refl _) _
 obtain ⟨W1,hW1⟩:∃ W1,w.alloc (.cells #[.int .i64 0,.int .i64 0,.int .i64 0,.string ⟨#[]⟩,.slice none 0 0] 25)=W1:=⟨_,rfl⟩
 rw [hW1] at hBx
 have hz1:W1.heap.size=w.heap.size+1:=by rw [←hW1];simp
 have x1:W1.heap[w.heap.size]?=some (.cells #[.int .i64 0,.int .i64 0,.int .i64 0,.string ⟨#[]⟩,.slice none 0 0] 25 (0,0)):=by rw [←hW1];exact heap_alloc_new w _
 have D0:Dw W1 d ao cap xs 0 W1:=Dw.refl (h.below hBx) (Nat.le_refl _)
 have HRW:Hid (∀ W,Kept d W1 W→W.heap[w.heap.size]?=some (.cells #[.int .i64 0,.int .i64 0,.int .i64 0,.string ⟨#[]⟩,.slice none 0 0] 25 (0,0))):=hide fun W hk=>(hk.block _ (by omega) (by simp;omega)).trans x1
 have HBW:Hid (∀ W,Kept d W1 W→Below d w W):=hide fun W hk=>⟨hk.os.trans hBx.os,hk.tape.trans hBx.tape,hk.output.trans hBx.output,Nat.le_trans hBx.size hk.size,fun k hkd=>(hk.block k (by omega) (by simp;omega)).trans (hBx.block k (by omega))⟩
 have HZ:Hid (W1.heap.size=w.heap.size+1∧d<w.heap.size):=hide ⟨hz1,hd⟩
 have HCh:=hide (chance_dw D0 (by omega) 2 (by omega) (by omega))
 clear hBx hz1 x1 D0 h hd
 go_enter Tryd.func16,Tryd.ntmps16
 (try rw [hW1])
 go_wp2_with fail
 refine HCh.out.mono ?_
 rintro e w2 ⟨ere,rfl,D2⟩
 have HD2:=hide D2
 clear HCh D2 hW1
 go_wp2
 go_loopw [4,5,6,7] (fun v4 _ _ _ wr=>∃ i:Nat,i≤8∧v4=.int .i64 (i:Int)∧Hid (Dw W1 d ao cap xs (3+i*10000) wr)) (fun v4 _ _ _ _=>8-(intOf v4).toNat)
 case atStart=>exact ⟨0,by omega,rfl,hide (HD2.out.up (by omega))⟩
 case round =>
  obtain ⟨i,hi,rfl,HX⟩:=hrel
  clear HD2
  by_cases hi8:i<8
  ·have hii:(i:Int)<8:=by omega
   have hiw:IntKind.i64.wrap ((i:Int)+1)=((i+1:Nat):Int):=by rw [IntKind.wrap_i64];omega
   have HA:=hide (any_dw ere W1 wr d ao cap xs _ HX.out (by omega))
   go_wp2_with fail
   refine HA.out.mono ?_
   rintro e w3 ⟨S,hS,rfl,D3⟩
   have HD3:=hide D3
   have HC:=hide (compile_any w3 S ere hS)
   clear HA D3 HX hS
   go_wp2_with fail
   refine HC.out.mono ?_
   rintro e w4 ⟨kind,n9,m9,ss,o,ln,cp,c,x,rfl,hb4,hT⟩
   have HD4:=hide (HD3.out.below hb4)
   have HT:=hide hT
   have HB4:=hide hb4
   have HL4:Hid (w.heap.size<w3.heap.size∧w3.heap.size≤w4.heap.size):=hide ⟨by have:=HD3.out.bel.size;have:=HZ.out;omega,hb4.size⟩
   clear HC hb4 hT
   by_cases hc:c=0
   ·subst hc
    obtain ⟨w5,hw5⟩:∃ w5,w4.alloc (.cells #[.int .i64 kind,.int .i64 n9,.int .i64 m9,.string ss,.slice o ln cp] 25)=w5:=⟨_,rfl⟩
    have hb5:Below w4.heap.size w4 w5:=by rw [←hw5];exact (Below.refl _ _).alloc (Nat.le_refl _) _
    have x5:w5.heap[w4.heap.size]?=some (.cells #[.int .i64 kind,.int .i64 n9,.int .i64 m9,.string ss,.slice o ln cp] 25 (0,0)):=by rw [←hw5];exact heap_alloc_new w4 _
    obtain ⟨t0,t1,t2,t3,t4⟩:=cells5c x5
    obtain ⟨T,M,g1,g2,g3,g4⟩:=HT.out rfl
    have HPost:Hid (RxD w d (.returned (.agg #[.int .i64 kind,.int .i64 n9,.int .i64 m9,.string ss,.slice o ln cp])) (set5 w5 w.heap.size (.int .i64 kind) (.int .i64 n9) (.int .i64 m9) (.string ss) (.slice o ln cp))):=hide ⟨_,_,_,_,_,_,_,T,M,rfl,g1,g2,fun y ob hy=>(set5_other w5 w.heap.size y _ _ _ _ _ (by have:=g4 y ob hy;have:=HL4.out;omega)).trans ((hb5.block y (Array.getElem?_eq_some_iff.1 (g3 y ob hy)).1).trans (g3 y ob hy)),fun y ob hy=>by have:=g4 y ob hy;have:=HL4.out;omega,set5_belowd (HBW.out w5 ((HD4.out.below hb5).bel)) (Nat.le_of_lt HZ.out.2) _ _ _ _ _⟩
    have HX5:=hide (HRW.out w5 (HD4.out.below hb5).bel)
    clear hb5 x5 g1 g2 g3 g4 HT
    have xr:=HX5.out
    obtain ⟨r0',r1',r2',r3',r4'⟩:=cells5c xr
    have z0:=fz5c xr 0
    have z1:=fz5c xr 1
    have z2:=fz5c xr 2
    have z3:=fz5c xr 3
    have z4:=fz5c xr 4
    have HE:Hid ((set5 w5 w.heap.size (.int .i64 kind) (.int .i64 n9) (.int .i64 m9) (.string ss) (.slice o ln cp)).heap[w.heap.size]?=some (.cells #[.int .i64 kind,.int .i64 n9,.int .i64 m9,.string ss,.slice o ln cp] 25 (0,0))∧RxD w d (.returned (.agg #[.int .i64 kind,.int .i64 n9,.int .i64 m9,.string ss,.slice o ln cp])) (set5 w5 w.heap.size (.int .i64 kind) (.int .i64 n9) (.int .i64 m9) (.string ss) (.slice o ln cp))):=hide ⟨set5_at xr trivial (.int .i64 kind) (.int .i64 n9) (.int .i64 m9) (.string ss) (.slice o ln cp),HPost.out⟩
    unfold set5 at HE
    clear xr
    go_wp2
    generalize (((((w5.setCell ⟨w.heap.size,0,none⟩ (.int .i64 kind)).setCell ⟨w.heap.size,1,none⟩ (.int .i64 n9)).setCell ⟨w.heap.size,2,none⟩ (.int .i64 m9)).setCell ⟨w.heap.size,3,none⟩ (.string ss)).setCell ⟨w.heap.size,4,none⟩ (.slice o ln cp))=Wf at HE ⊢
    obtain ⟨u0,u1,u2,u3,u4⟩:=cells5c HE.out.1
    refine bodyPost_ret (v:=.agg #[.int .i64 kind,.int .i64 n9,.int .i64 m9,.string ss,.slice o ln cp]) ?_ rfl HE.out.2
    simp [results,Tryd.results16,go_sem,u0,u1,u2,u3,u4]
   ·have e1:(c == 0)=false:=by simpa using hc
    have e2:decide (c=0)=false:=decide_eq_false hc
    have HE:Hid (∀ o:Obj,Dw W1 d ao cap xs (3+(i+1)*10000) (w4.alloc o)):=hide fun o=>(HD4.out.below ((Below.refl _ _).alloc (Nat.le_refl _) o)).up (by omega)
    clear hc HT HD3 HD4 HB4
    go_wp2
    go_roundw
    case rel=>exact ⟨i+1,by omega,by simp,hide (HE.out _)⟩
    case measure=>simp [intOf];omega
  ·have hii:¬ (i:Int)<8:=by omega
   have HN:=hide (char_any wr 97 (by decide) (by decide))
   have HXX:=hide (HX.out.up (n':=100000) (by omega))
   clear HX
   go_wp2_with fail
   refine HN.out.mono ?_
   rintro e w9 ⟨rfl,b9⟩
   have HD9:=hide (HXX.out.below b9)
   unfold rxV
   clear HN b9
   have xr:=HRW.out _ HD9.out.bel
   obtain ⟨r0',r1',r2',r3',r4'⟩:=cells5c xr
   have z0:=fz5c xr 0
   have z1:=fz5c xr 1
   have z2:=fz5c xr 2
   have z3:=fz5c xr 3
   have z4:=fz5c xr 4
   have HE:Hid ((set5 w9 w.heap.size (.int .i64 1) (.int .i64 97) (.int .i64 0) (.string mt0) (.slice none 0 0)).heap[w.heap.size]?=some (.cells #[.int .i64 1,.int .i64 97,.int .i64 0,.string mt0,.slice none 0 0] 25 (0,0))∧RxD w d (.returned (.agg #[.int .i64 1,.int .i64 97,.int .i64 0,.string mt0,.slice none 0 0])) (set5 w9 w.heap.size (.int .i64 1) (.int .i64 97) (.int .i64 0) (.string mt0) (.slice none 0 0))):=hide ⟨set5_at xr trivial (.int .i64 1) (.int .i64 97) (.int .i64 0) (.string mt0) (.slice none 0 0),⟨_,_,_,_,_,_,_,.char 97,fun _=>none,rfl,good_a,by rw [RxAt];rfl,fun y ob hy=>(by cases hy),fun y ob hy=>(by cases hy),set5_belowd (HBW.out w9 HD9.out.bel) (Nat.le_of_lt HZ.out.2) _ _ _ _ _⟩⟩
   unfold set5 at HE
   clear xr
   go_wp2
   generalize (((((w9.setCell ⟨w.heap.size,0,none⟩ (.int .i64 1)).setCell ⟨w.heap.size,1,none⟩ (.int .i64 97)).setCell ⟨w.heap.size,2,none⟩ (.int .i64 0)).setCell ⟨w.heap.size,3,none⟩ (.string mt0)).setCell ⟨w.heap.size,4,none⟩ (.slice none 0 0))=Wf at HE ⊢
   obtain ⟨u0,u1,u2,u3,u4⟩:=cells5c HE.out.1
   refine bodyPost_ret (v:=.agg #[.int .i64 1,.int .i64 97,.int .i64 0,.string mt0,.slice none 0 0]) ?_ rfl HE.out.2
   simp [results,Tryd.results16,go_sem,u0,u1,u2,u3,u4]
end Go.Proofs.YtfhimmnoipfiaaaDoor.eng
