import Derived.Test.YtfhimmnoipfiaaaDoorUPtn
import Derived.Deep.DeepCutAuto
import Derived.Deep.CutRange
namespace Go.Proofs.YtfhimmnoipfiaaaDoor.drw
open Go.ChangeShapes Go.WideShapes Go.ChangeAt Go.RowKit
open bytes pile src letters
set_option linter.unusedVariables false
set_option maxRecDepth 20000 in
set_option maxHeartbeats 32000000 in
theorem pat_bre_deep (LL CC:Nat) (hLL:LL≤10000) (hCC:CC≤100000) (BM:Nat) (hBM:BM≤90000000) (dp:Nat) (hdp:0<dp) (hdl:dp≤10) (hsub:PatAt (dp-1) LL CC (BM+2000000)) (w0 w:World) (d:Nat) (ao:Option Addr) (cap:Nat) (xs:List Int) (m:Nat) (h:Dw w0 d ao cap xs m w) (hm:m≤BM) :
  Calls Tryd.prog 43 #[.pointer (some ⟨d,0,none⟩),.bool false,.int .i64 (dp:Int)] w fun e w'=>∃ S:ByteArray,S.size≤3*(2*LL+200)∧e=.returned (.string S)∧Dw w0 d ao cap xs (m+(3*(2*CC+20)+10)) w':=by
 have HN:=hide (next_dw h (by omega) 3 (by omega))
 obtain ⟨PL,hPL⟩:∃ PL,PL=2*LL+200:=⟨_,rfl⟩
 obtain ⟨PC,hPC⟩:∃ PC,PC=2*CC+20:=⟨_,rfl⟩
 obtain ⟨P1,hP1⟩:∃ P1,P1=2*LL+70:=⟨_,rfl⟩
 obtain ⟨C1,hC1⟩:∃ C1,C1=2*CC+12:=⟨_,rfl⟩
 have HLP:Hid (PL=2*LL+200∧PC=2*CC+20∧P1=2*LL+70∧C1=2*CC+12∧LL≤10000∧CC≤100000):=hide ⟨hPL,hPC,hP1,hC1,hLL,hCC⟩
 have lPL:PL≤30000:=by omega
 have lP1:P1≤30000:=by omega
 have lLL:=hLL
 have HSub:Hid (∀ (ere:Bool) (w0 w:World) (d:Nat) (ao:Option Addr) (cap:Nat) (xs:List Int) (m:Nat),Dw w0 d ao cap xs m w→m≤BM+2000000→Calls Tryd.prog 43 #[.pointer (some ⟨d,0,none⟩),.bool ere,.int .i64 ((dp-1:Nat):Int)] w fun e w'=>∃ S:ByteArray,S.size≤LL∧e=.returned (.string S)∧Dw w0 d ao cap xs (m+CC) w'):=hide fun ere w0 w d ao cap xs m h hm=>hsub ere w0 w d ao cap xs m h hm
 have dpl:(0:Int)<(dp:Int):=by omega
 have dpw:IntKind.i64.wrap ((dp:Int)-1)=((dp-1:Nat):Int):=by rw [IntKind.wrap_i64];omega
 clear hsub hdp
 clear h hPL hPC hP1 hC1 hLL hCC
 go_enter Tryd.func43,Tryd.ntmps43
 go_wp2_with fail
 refine HN.out.mono ?_
 rintro e w1 ⟨r,rfl,r0,r1,D1⟩
 obtain ⟨i0,rfl⟩:∃ i:Nat,r=(i:Int):=⟨r.toNat,by omega⟩
 have hi0:i0≤2:=by omega
 have HL0:Hid (Lp w0 d ao cap xs 0 (m+3) ⟨#[]⟩ w1):=hide ⟨Nat.le_refl _,D1⟩
 clear HN D1 r0 r1
 go_wp2
 go_loopw [7,8] (fun v7 v8 wr=>∃ (j:Nat) (S:ByteArray) (n c:Nat),v7=.string S∧j≤3∧v8=.int .i64 (j:Int)∧n+j*PL≤3*PL∧c+j*PC≤m+3+3*PC∧Hid (Lp w0 d ao cap xs n c S wr)) (fun _ v8 _=>(intOf v8).toNat)
 case atStart=>exact ⟨i0+1,⟨#[]⟩,0,m+3,rfl,by omega,(by first | rfl | (congr 1;omega)),by (rcases (by omega:i0=0∨i0=1∨i0=2) with rfl | rfl | rfl <;> omega),by (rcases (by omega:i0=0∨i0=1∨i0=2) with rfl | rfl | rfl <;> omega),HL0⟩
 case round =>
  obtain ⟨j,S,n,c,rfl,hj,rfl,hn,hc,HX⟩:=hrel
  clear HL0
  by_cases hj0:0<j
  ·have hji:(0:Int)<(j:Int):=by omega
   have hjw:IntKind.i64.wrap ((j:Int)-1)=((j-1:Nat):Int):=by rw [IntKind.wrap_i64];omega
   have hnn:n+PL≤3*PL∧(n+PL)+(j-1)*PL≤3*PL∧c+PC≤m+3+3*PC∧(c+PC)+(j-1)*PC≤m+3+3*PC:=by
    rcases (by omega:j=1∨j=2∨j=3) with rfl | rfl | rfl <;> simp at hn hc ⊢ <;> omega
   obtain ⟨n1,n2,n3,n4⟩:=hnn
   have HBD:Hid (c+PC≤m+3+3*PC∧m≤BM∧PC≤300000∧BM≤95000000):=hide ⟨n3,hm,by have:=HLP.out;omega,by omega⟩
   have HN2:=hide (next_dw HX.out.dw (by have:=HBD.out;have:=HLP.out;omega) 9 (by omega))
   clear hn hc
   go_wp2_with fail
   refine HN2.out.mono ?_
   rintro e w2 ⟨r2,rfl,r20,r21,D2⟩
   have lp2:Hid (Lp w0 d ao cap xs n (c+3) S w2):=hide ⟨HX.out.len,D2⟩
   clear HN2 D2 HX
   by_cases t0:r2=0
   ·subst t0
    have HP3:=hide (pick_dw [⟨#[97]⟩,⟨#[98]⟩,⟨#[99]⟩] #[.string ⟨#[97]⟩,.string ⟨#[98]⟩,.string ⟨#[99]⟩] rfl 3 rfl (by decide) (by decide) (by decide) lp2.out.dw (by have:=HBD.out;have:=HLP.out;omega))
    have lq2:=lp2.out.len
    go_wp2_with fail
    refine HP3.out.mono ?_
    rintro e w3 ⟨P3,hP3,rfl,D3⟩
    have lp3:Hid (Lp w0 d ao cap xs (n+P1) (c+C1) (S++P3) w3):=hide ⟨by rw [size_add];have:=lp2.out.len;have:=HLP.out;omega,D3.up (by have:=HLP.out;omega)⟩
    clear D3 HP3
    have HN8:=hide (next_dw lp3.out.dw (by have:=HBD.out;have:=HLP.out;omega) 5 (by omega))
    have lq:=lp3.out.len
    go_wp2_with fail
    refine HN8.out.mono ?_
    rintro e w8 ⟨r8,rfl,r80,r81,D8⟩
    have lp8:Hid (Lp w0 d ao cap xs (n+P1) (c+C1+3) (S++P3) w8):=hide ⟨lp3.out.len,D8⟩
    clear HN8 D8
    by_cases s0:r8=0
    ·subst s0
     have HS9:Hid (Lp w0 d ao cap xs (n+PL) (c+PC) (S++P3++⟨#[42]⟩) w8):=hide ⟨by rw [size_add];have:((⟨#[42]⟩:ByteArray)).size=1:=rfl;have:=lp8.out.len;have:=HLP.out;omega,lp8.out.dw.up (by have:=HLP.out;omega)⟩
     have h42:((⟨#[42]⟩:ByteArray)).size=1:=rfl
     go_wp2
     go_roundw
     case rel=>exact ⟨j-1,_,n+PL,c+PC,rfl,by omega,(by first | rfl | (congr 1;omega)),by omega,by omega,HS9⟩
     case measure=>simp [intOf];omega
    ·have q0:(r8 == 0)=false:=by simpa using s0
     have q0':decide (r8=0)=false:=decide_eq_false s0
     by_cases s1:r8=1
     ·subst s1
      have HP9:=hide (pick_dw [⟨#[92,123,50,92,125]⟩,⟨#[92,123,49,44,51,92,125]⟩,⟨#[92,123,48,44,92,125]⟩] #[.string ⟨#[92,123,50,92,125]⟩,.string ⟨#[92,123,49,44,51,92,125]⟩,.string ⟨#[92,123,48,44,92,125]⟩] rfl 3 rfl (by decide) (by decide) (by decide) lp8.out.dw (by have:=HBD.out;have:=HLP.out;omega))
      have lq8:=lp8.out.len
      go_wp2_with fail
      refine HP9.out.mono ?_
      rintro e w9 ⟨P9,hP9,rfl,D9⟩
      have HS9:Hid (Lp w0 d ao cap xs (n+PL) (c+PC) (S++P3++P9) w9):=hide ⟨by rw [size_add];have:=lp8.out.len;have:=HLP.out;omega,D9.up (by have:=HLP.out;omega)⟩
      clear D9 HP9
      go_wp2
      go_roundw
      case rel=>exact ⟨j-1,_,n+PL,c+PC,rfl,by omega,(by first | rfl | (congr 1;omega)),by omega,by omega,HS9⟩
      case measure=>simp [intOf];omega
     ·have q1:(r8 == 1)=false:=by simpa using s1
      have q1':decide (r8=1)=false:=decide_eq_false s1
      have HS9:Hid (Lp w0 d ao cap xs (n+PL) (c+PC) (S++P3) w8):=hide ⟨by have:=lp8.out.len;have:=HLP.out;omega,lp8.out.dw.up (by have:=HLP.out;omega)⟩
      go_wp2
      go_roundw
      case rel=>exact ⟨j-1,_,n+PL,c+PC,rfl,by omega,(by first | rfl | (congr 1;omega)),by omega,by omega,HS9⟩
      case measure=>simp [intOf];omega
   ·have u0f:(r2 == 0)=false:=by simpa using t0
    have u0g:decide (r2=0)=false:=decide_eq_false t0
    by_cases t1:r2=1
    ·subst t1
     have HP3:=hide (pick_dw [⟨#[97]⟩,⟨#[98]⟩,⟨#[99]⟩] #[.string ⟨#[97]⟩,.string ⟨#[98]⟩,.string ⟨#[99]⟩] rfl 3 rfl (by decide) (by decide) (by decide) lp2.out.dw (by have:=HBD.out;have:=HLP.out;omega))
     have lq2:=lp2.out.len
     go_wp2_with fail
     refine HP3.out.mono ?_
     rintro e w3 ⟨P3,hP3,rfl,D3⟩
     have lp3:Hid (Lp w0 d ao cap xs (n+P1) (c+C1) (S++P3) w3):=hide ⟨by rw [size_add];have:=lp2.out.len;have:=HLP.out;omega,D3.up (by have:=HLP.out;omega)⟩
     clear D3 HP3
     have HN8:=hide (next_dw lp3.out.dw (by have:=HBD.out;have:=HLP.out;omega) 5 (by omega))
     have lq:=lp3.out.len
     go_wp2_with fail
     refine HN8.out.mono ?_
     rintro e w8 ⟨r8,rfl,r80,r81,D8⟩
     have lp8:Hid (Lp w0 d ao cap xs (n+P1) (c+C1+3) (S++P3) w8):=hide ⟨lp3.out.len,D8⟩
     clear HN8 D8
     by_cases s0:r8=0
     ·subst s0
      have HS9:Hid (Lp w0 d ao cap xs (n+PL) (c+PC) (S++P3++⟨#[42]⟩) w8):=hide ⟨by rw [size_add];have:((⟨#[42]⟩:ByteArray)).size=1:=rfl;have:=lp8.out.len;have:=HLP.out;omega,lp8.out.dw.up (by have:=HLP.out;omega)⟩
      have h42:((⟨#[42]⟩:ByteArray)).size=1:=rfl
      go_wp2
      go_roundw
      case rel=>exact ⟨j-1,_,n+PL,c+PC,rfl,by omega,(by first | rfl | (congr 1;omega)),by omega,by omega,HS9⟩
      case measure=>simp [intOf];omega
     ·have q0:(r8 == 0)=false:=by simpa using s0
      have q0':decide (r8=0)=false:=decide_eq_false s0
      by_cases s1:r8=1
      ·subst s1
       have HP9:=hide (pick_dw [⟨#[92,123,50,92,125]⟩,⟨#[92,123,49,44,51,92,125]⟩,⟨#[92,123,48,44,92,125]⟩] #[.string ⟨#[92,123,50,92,125]⟩,.string ⟨#[92,123,49,44,51,92,125]⟩,.string ⟨#[92,123,48,44,92,125]⟩] rfl 3 rfl (by decide) (by decide) (by decide) lp8.out.dw (by have:=HBD.out;have:=HLP.out;omega))
       have lq8:=lp8.out.len
       go_wp2_with fail
       refine HP9.out.mono ?_
       rintro e w9 ⟨P9,hP9,rfl,D9⟩
       have HS9:Hid (Lp w0 d ao cap xs (n+PL) (c+PC) (S++P3++P9) w9):=hide ⟨by rw [size_add];have:=lp8.out.len;have:=HLP.out;omega,D9.up (by have:=HLP.out;omega)⟩
       clear D9 HP9
       go_wp2
       go_roundw
       case rel=>exact ⟨j-1,_,n+PL,c+PC,rfl,by omega,(by first | rfl | (congr 1;omega)),by omega,by omega,HS9⟩
       case measure=>simp [intOf];omega
      ·have q1:(r8 == 1)=false:=by simpa using s1
       have q1':decide (r8=1)=false:=decide_eq_false s1
       have HS9:Hid (Lp w0 d ao cap xs (n+PL) (c+PC) (S++P3) w8):=hide ⟨by have:=lp8.out.len;have:=HLP.out;omega,lp8.out.dw.up (by have:=HLP.out;omega)⟩
       go_wp2
       go_roundw
       case rel=>exact ⟨j-1,_,n+PL,c+PC,rfl,by omega,(by first | rfl | (congr 1;omega)),by omega,by omega,HS9⟩
       case measure=>simp [intOf];omega
    ·have u1f:(r2 == 1)=false:=by simpa using t1
     have u1g:decide (r2=1)=false:=decide_eq_false t1
     by_cases t2:r2=2
     ·subst t2
      have HP3:=hide (pick_dw [⟨#[97]⟩,⟨#[98]⟩,⟨#[99]⟩] #[.string ⟨#[97]⟩,.string ⟨#[98]⟩,.string ⟨#[99]⟩] rfl 3 rfl (by decide) (by decide) (by decide) lp2.out.dw (by have:=HBD.out;have:=HLP.out;omega))
      have lq2:=lp2.out.len
      go_wp2_with fail
      refine HP3.out.mono ?_
      rintro e w3 ⟨P3,hP3,rfl,D3⟩
      have lp3:Hid (Lp w0 d ao cap xs (n+P1) (c+C1) (S++P3) w3):=hide ⟨by rw [size_add];have:=lp2.out.len;have:=HLP.out;omega,D3.up (by have:=HLP.out;omega)⟩
      clear D3 HP3
      have HN8:=hide (next_dw lp3.out.dw (by have:=HBD.out;have:=HLP.out;omega) 5 (by omega))
      have lq:=lp3.out.len
      go_wp2_with fail
      refine HN8.out.mono ?_
      rintro e w8 ⟨r8,rfl,r80,r81,D8⟩
      have lp8:Hid (Lp w0 d ao cap xs (n+P1) (c+C1+3) (S++P3) w8):=hide ⟨lp3.out.len,D8⟩
      clear HN8 D8
      by_cases s0:r8=0
      ·subst s0
       have HS9:Hid (Lp w0 d ao cap xs (n+PL) (c+PC) (S++P3++⟨#[42]⟩) w8):=hide ⟨by rw [size_add];have:((⟨#[42]⟩:ByteArray)).size=1:=rfl;have:=lp8.out.len;have:=HLP.out;omega,lp8.out.dw.up (by have:=HLP.out;omega)⟩
       have h42:((⟨#[42]⟩:ByteArray)).size=1:=rfl
       go_wp2
       go_roundw
       case rel=>exact ⟨j-1,_,n+PL,c+PC,rfl,by omega,(by first | rfl | (congr 1;omega)),by omega,by omega,HS9⟩
       case measure=>simp [intOf];omega
      ·have q0:(r8 == 0)=false:=by simpa using s0
       have q0':decide (r8=0)=false:=decide_eq_false s0
       by_cases s1:r8=1
       ·subst s1
        have HP9:=hide (pick_dw [⟨#[92,123,50,92,125]⟩,⟨#[92,123,49,44,51,92,125]⟩,⟨#[92,123,48,44,92,125]⟩] #[.string ⟨#[92,123,50,92,125]⟩,.string ⟨#[92,123,49,44,51,92,125]⟩,.string ⟨#[92,123,48,44,92,125]⟩] rfl 3 rfl (by decide) (by decide) (by decide) lp8.out.dw (by have:=HBD.out;have:=HLP.out;omega))
        have lq8:=lp8.out.len
        go_wp2_with fail
        refine HP9.out.mono ?_
        rintro e w9 ⟨P9,hP9,rfl,D9⟩
        have HS9:Hid (Lp w0 d ao cap xs (n+PL) (c+PC) (S++P3++P9) w9):=hide ⟨by rw [size_add];have:=lp8.out.len;have:=HLP.out;omega,D9.up (by have:=HLP.out;omega)⟩
        clear D9 HP9
        go_wp2
        go_roundw
        case rel=>exact ⟨j-1,_,n+PL,c+PC,rfl,by omega,(by first | rfl | (congr 1;omega)),by omega,by omega,HS9⟩
        case measure=>simp [intOf];omega
       ·have q1:(r8 == 1)=false:=by simpa using s1
        have q1':decide (r8=1)=false:=decide_eq_false s1
        have HS9:Hid (Lp w0 d ao cap xs (n+PL) (c+PC) (S++P3) w8):=hide ⟨by have:=lp8.out.len;have:=HLP.out;omega,lp8.out.dw.up (by have:=HLP.out;omega)⟩
        go_wp2
        go_roundw
        case rel=>exact ⟨j-1,_,n+PL,c+PC,rfl,by omega,(by first | rfl | (congr 1;omega)),by omega,by omega,HS9⟩
        case measure=>simp [intOf];omega
     ·have u2f:(r2 == 2)=false:=by simpa using t2
      have u2g:decide (r2=2)=false:=decide_eq_false t2
      by_cases t3:r2=3
      ·subst t3
       have hb1:((⟨#[46]⟩:ByteArray)).size=1:=rfl
       have lq2:=lp2.out.len
       have lp3:Hid (Lp w0 d ao cap xs (n+P1) (c+C1) (S++⟨#[46]⟩) w2):=hide ⟨by rw [size_add];have:=lp2.out.len;have:=HLP.out;omega,lp2.out.dw.up (by have:=HLP.out;omega)⟩
       have HN8:=hide (next_dw lp3.out.dw (by have:=HBD.out;have:=HLP.out;omega) 5 (by omega))
       have lq:=lp3.out.len
       go_wp2_with fail
       refine HN8.out.mono ?_
       rintro e w8 ⟨r8,rfl,r80,r81,D8⟩
       have lp8:Hid (Lp w0 d ao cap xs (n+P1) (c+C1+3) (S++⟨#[46]⟩) w8):=hide ⟨lp3.out.len,D8⟩
       clear HN8 D8
       by_cases s0:r8=0
       ·subst s0
        have HS9:Hid (Lp w0 d ao cap xs (n+PL) (c+PC) (S++⟨#[46]⟩++⟨#[42]⟩) w8):=hide ⟨by rw [size_add];have:((⟨#[42]⟩:ByteArray)).size=1:=rfl;have:=lp8.out.len;have:=HLP.out;omega,lp8.out.dw.up (by have:=HLP.out;omega)⟩
        have h42:((⟨#[42]⟩:ByteArray)).size=1:=rfl
        go_wp2
        go_roundw
        case rel=>exact ⟨j-1,_,n+PL,c+PC,rfl,by omega,(by first | rfl | (congr 1;omega)),by omega,by omega,HS9⟩
        case measure=>simp [intOf];omega
       ·have q0:(r8 == 0)=false:=by simpa using s0
        have q0':decide (r8=0)=false:=decide_eq_false s0
        by_cases s1:r8=1
        ·subst s1
         have HP9:=hide (pick_dw [⟨#[92,123,50,92,125]⟩,⟨#[92,123,49,44,51,92,125]⟩,⟨#[92,123,48,44,92,125]⟩] #[.string ⟨#[92,123,50,92,125]⟩,.string ⟨#[92,123,49,44,51,92,125]⟩,.string ⟨#[92,123,48,44,92,125]⟩] rfl 3 rfl (by decide) (by decide) (by decide) lp8.out.dw (by have:=HBD.out;have:=HLP.out;omega))
         have lq8:=lp8.out.len
         go_wp2_with fail
         refine HP9.out.mono ?_
         rintro e w9 ⟨P9,hP9,rfl,D9⟩
         have HS9:Hid (Lp w0 d ao cap xs (n+PL) (c+PC) (S++⟨#[46]⟩++P9) w9):=hide ⟨by rw [size_add];have:=lp8.out.len;have:=HLP.out;omega,D9.up (by have:=HLP.out;omega)⟩
         clear D9 HP9
         go_wp2
         go_roundw
         case rel=>exact ⟨j-1,_,n+PL,c+PC,rfl,by omega,(by first | rfl | (congr 1;omega)),by omega,by omega,HS9⟩
         case measure=>simp [intOf];omega
        ·have q1:(r8 == 1)=false:=by simpa using s1
         have q1':decide (r8=1)=false:=decide_eq_false s1
         have HS9:Hid (Lp w0 d ao cap xs (n+PL) (c+PC) (S++⟨#[46]⟩) w8):=hide ⟨by have:=lp8.out.len;have:=HLP.out;omega,lp8.out.dw.up (by have:=HLP.out;omega)⟩
         go_wp2
         go_roundw
         case rel=>exact ⟨j-1,_,n+PL,c+PC,rfl,by omega,(by first | rfl | (congr 1;omega)),by omega,by omega,HS9⟩
         case measure=>simp [intOf];omega
      ·have u3f:(r2 == 3)=false:=by simpa using t3
       have u3g:decide (r2=3)=false:=decide_eq_false t3
       by_cases t4:r2=4
       ·subst t4
        have HP3:=hide (pick_dw [⟨#[91,97,98,93]⟩,⟨#[91,94,97,93]⟩,⟨#[91,97,45,99,93]⟩,⟨#[91,91,58,100,105,103,105,116,58,93,93]⟩,⟨#[91,93,120,93]⟩,⟨#[91,94,93,97,93]⟩,⟨#[91,97,45,93]⟩,⟨#[91,91,58,97,108,112,104,97,58,93,95,93]⟩] #[.string ⟨#[91,97,98,93]⟩,.string ⟨#[91,94,97,93]⟩,.string ⟨#[91,97,45,99,93]⟩,.string ⟨#[91,91,58,100,105,103,105,116,58,93,93]⟩,.string ⟨#[91,93,120,93]⟩,.string ⟨#[91,94,93,97,93]⟩,.string ⟨#[91,97,45,93]⟩,.string ⟨#[91,91,58,97,108,112,104,97,58,93,95,93]⟩] rfl 8 rfl (by decide) (by decide) (by decide) lp2.out.dw (by have:=HBD.out;have:=HLP.out;omega))
        have lq2:=lp2.out.len
        go_wp2_with fail
        refine HP3.out.mono ?_
        rintro e w3 ⟨P3,hP3,rfl,D3⟩
        have lp3:Hid (Lp w0 d ao cap xs (n+P1) (c+C1) (S++P3) w3):=hide ⟨by rw [size_add];have:=lp2.out.len;have:=HLP.out;omega,D3.up (by have:=HLP.out;omega)⟩
        clear D3 HP3
        have HN8:=hide (next_dw lp3.out.dw (by have:=HBD.out;have:=HLP.out;omega) 5 (by omega))
        have lq:=lp3.out.len
        go_wp2_with fail
        refine HN8.out.mono ?_
        rintro e w8 ⟨r8,rfl,r80,r81,D8⟩
        have lp8:Hid (Lp w0 d ao cap xs (n+P1) (c+C1+3) (S++P3) w8):=hide ⟨lp3.out.len,D8⟩
        clear HN8 D8
        by_cases s0:r8=0
        ·subst s0
         have HS9:Hid (Lp w0 d ao cap xs (n+PL) (c+PC) (S++P3++⟨#[42]⟩) w8):=hide ⟨by rw [size_add];have:((⟨#[42]⟩:ByteArray)).size=1:=rfl;have:=lp8.out.len;have:=HLP.out;omega,lp8.out.dw.up (by have:=HLP.out;omega)⟩
         have h42:((⟨#[42]⟩:ByteArray)).size=1:=rfl
         go_wp2
         go_roundw
         case rel=>exact ⟨j-1,_,n+PL,c+PC,rfl,by omega,(by first | rfl | (congr 1;omega)),by omega,by omega,HS9⟩
         case measure=>simp [intOf];omega
        ·have q0:(r8 == 0)=false:=by simpa using s0
         have q0':decide (r8=0)=false:=decide_eq_false s0
         by_cases s1:r8=1
         ·subst s1
          have HP9:=hide (pick_dw [⟨#[92,123,50,92,125]⟩,⟨#[92,123,49,44,51,92,125]⟩,⟨#[92,123,48,44,92,125]⟩] #[.string ⟨#[92,123,50,92,125]⟩,.string ⟨#[92,123,49,44,51,92,125]⟩,.string ⟨#[92,123,48,44,92,125]⟩] rfl 3 rfl (by decide) (by decide) (by decide) lp8.out.dw (by have:=HBD.out;have:=HLP.out;omega))
          have lq8:=lp8.out.len
          go_wp2_with fail
          refine HP9.out.mono ?_
          rintro e w9 ⟨P9,hP9,rfl,D9⟩
          have HS9:Hid (Lp w0 d ao cap xs (n+PL) (c+PC) (S++P3++P9) w9):=hide ⟨by rw [size_add];have:=lp8.out.len;have:=HLP.out;omega,D9.up (by have:=HLP.out;omega)⟩
          clear D9 HP9
          go_wp2
          go_roundw
          case rel=>exact ⟨j-1,_,n+PL,c+PC,rfl,by omega,(by first | rfl | (congr 1;omega)),by omega,by omega,HS9⟩
          case measure=>simp [intOf];omega
         ·have q1:(r8 == 1)=false:=by simpa using s1
          have q1':decide (r8=1)=false:=decide_eq_false s1
          have HS9:Hid (Lp w0 d ao cap xs (n+PL) (c+PC) (S++P3) w8):=hide ⟨by have:=lp8.out.len;have:=HLP.out;omega,lp8.out.dw.up (by have:=HLP.out;omega)⟩
          go_wp2
          go_roundw
          case rel=>exact ⟨j-1,_,n+PL,c+PC,rfl,by omega,(by first | rfl | (congr 1;omega)),by omega,by omega,HS9⟩
          case measure=>simp [intOf];omega
       ·have u4f:(r2 == 4)=false:=by simpa using t4
        have u4g:decide (r2=4)=false:=decide_eq_false t4
        by_cases t5:r2=5
        ·subst t5
         have HQ1:=hide (HSub.out false w0 w2 d ao cap xs _ lp2.out.dw (by have:=HBD.out;have:=HLP.out;omega))
         have b40:((⟨#[92,40]⟩:ByteArray)).size=2:=rfl
         have b41:((⟨#[92,41]⟩:ByteArray)).size=2:=rfl
         have lq2:=lp2.out.len
         go_wp2_with fail
         refine HQ1.out.mono ?_
         rintro e w4 ⟨Q1,hQ1,rfl,D4⟩
         have lp3:Hid (Lp w0 d ao cap xs (n+P1) (c+C1) (S++(⟨#[92,40]⟩++Q1++⟨#[92,41]⟩)) w4):=hide ⟨by simp only [size_add];have h1:((⟨#[92,40]⟩:ByteArray)).size=2:=rfl;have h3:((⟨#[92,41]⟩:ByteArray)).size=2:=rfl;have:=lp2.out.len;have:=HLP.out;omega,D4.up (by have:=HLP.out;omega)⟩
         clear D4 HQ1
         have HN8:=hide (next_dw lp3.out.dw (by have:=HBD.out;have:=HLP.out;omega) 5 (by omega))
         have lq:=lp3.out.len
         go_wp2_with fail
         refine HN8.out.mono ?_
         rintro e w8 ⟨r8,rfl,r80,r81,D8⟩
         have lp8:Hid (Lp w0 d ao cap xs (n+P1) (c+C1+3) (S++(⟨#[92,40]⟩++Q1++⟨#[92,41]⟩)) w8):=hide ⟨lp3.out.len,D8⟩
         clear HN8 D8
         by_cases s0:r8=0
         ·subst s0
          have HS9:Hid (Lp w0 d ao cap xs (n+PL) (c+PC) (S++(⟨#[92,40]⟩++Q1++⟨#[92,41]⟩)++⟨#[42]⟩) w8):=hide ⟨by rw [size_add];have:((⟨#[42]⟩:ByteArray)).size=1:=rfl;have:=lp8.out.len;have:=HLP.out;omega,lp8.out.dw.up (by have:=HLP.out;omega)⟩
          have h42:((⟨#[42]⟩:ByteArray)).size=1:=rfl
          go_wp2
          go_roundw
          case rel=>exact ⟨j-1,_,n+PL,c+PC,rfl,by omega,(by first | rfl | (congr 1;omega)),by omega,by omega,HS9⟩
          case measure=>simp [intOf];omega
         ·have q0:(r8 == 0)=false:=by simpa using s0
          have q0':decide (r8=0)=false:=decide_eq_false s0
          by_cases s1:r8=1
          ·subst s1
           have HP9:=hide (pick_dw [⟨#[92,123,50,92,125]⟩,⟨#[92,123,49,44,51,92,125]⟩,⟨#[92,123,48,44,92,125]⟩] #[.string ⟨#[92,123,50,92,125]⟩,.string ⟨#[92,123,49,44,51,92,125]⟩,.string ⟨#[92,123,48,44,92,125]⟩] rfl 3 rfl (by decide) (by decide) (by decide) lp8.out.dw (by have:=HBD.out;have:=HLP.out;omega))
           have lq8:=lp8.out.len
           go_wp2_with fail
           refine HP9.out.mono ?_
           rintro e w9 ⟨P9,hP9,rfl,D9⟩
           have HS9:Hid (Lp w0 d ao cap xs (n+PL) (c+PC) (S++(⟨#[92,40]⟩++Q1++⟨#[92,41]⟩)++P9) w9):=hide ⟨by rw [size_add];have:=lp8.out.len;have:=HLP.out;omega,D9.up (by have:=HLP.out;omega)⟩
           clear D9 HP9
           go_wp2
           go_roundw
           case rel=>exact ⟨j-1,_,n+PL,c+PC,rfl,by omega,(by first | rfl | (congr 1;omega)),by omega,by omega,HS9⟩
           case measure=>simp [intOf];omega
          ·have q1:(r8 == 1)=false:=by simpa using s1
           have q1':decide (r8=1)=false:=decide_eq_false s1
           have HS9:Hid (Lp w0 d ao cap xs (n+PL) (c+PC) (S++(⟨#[92,40]⟩++Q1++⟨#[92,41]⟩)) w8):=hide ⟨by have:=lp8.out.len;have:=HLP.out;omega,lp8.out.dw.up (by have:=HLP.out;omega)⟩
           go_wp2
           go_roundw
           case rel=>exact ⟨j-1,_,n+PL,c+PC,rfl,by omega,(by first | rfl | (congr 1;omega)),by omega,by omega,HS9⟩
           case measure=>simp [intOf];omega
        ·have u5f:(r2 == 5)=false:=by simpa using t5
         have u5g:decide (r2=5)=false:=decide_eq_false t5
         by_cases t6:r2=6
         ·subst t6
          have HQ1:=hide (HSub.out false w0 w2 d ao cap xs _ lp2.out.dw (by have:=HBD.out;have:=HLP.out;omega))
          have b40:((⟨#[92,40]⟩:ByteArray)).size=2:=rfl
          have b41:((⟨#[92,41]⟩:ByteArray)).size=2:=rfl
          have lq2:=lp2.out.len
          go_wp2_with fail
          refine HQ1.out.mono ?_
          rintro e w4 ⟨Q1,hQ1,rfl,D4⟩
          have lp3:Hid (Lp w0 d ao cap xs (n+P1) (c+C1) (S++(⟨#[92,40]⟩++Q1++⟨#[92,41]⟩)) w4):=hide ⟨by simp only [size_add];have h1:((⟨#[92,40]⟩:ByteArray)).size=2:=rfl;have h3:((⟨#[92,41]⟩:ByteArray)).size=2:=rfl;have:=lp2.out.len;have:=HLP.out;omega,D4.up (by have:=HLP.out;omega)⟩
          clear D4 HQ1
          have HN8:=hide (next_dw lp3.out.dw (by have:=HBD.out;have:=HLP.out;omega) 5 (by omega))
          have lq:=lp3.out.len
          go_wp2_with fail
          refine HN8.out.mono ?_
          rintro e w8 ⟨r8,rfl,r80,r81,D8⟩
          have lp8:Hid (Lp w0 d ao cap xs (n+P1) (c+C1+3) (S++(⟨#[92,40]⟩++Q1++⟨#[92,41]⟩)) w8):=hide ⟨lp3.out.len,D8⟩
          clear HN8 D8
          by_cases s0:r8=0
          ·subst s0
           have HS9:Hid (Lp w0 d ao cap xs (n+PL) (c+PC) (S++(⟨#[92,40]⟩++Q1++⟨#[92,41]⟩)++⟨#[42]⟩) w8):=hide ⟨by rw [size_add];have:((⟨#[42]⟩:ByteArray)).size=1:=rfl;have:=lp8.out.len;have:=HLP.out;omega,lp8.out.dw.up (by have:=HLP.out;omega)⟩
           have h42:((⟨#[42]⟩:ByteArray)).size=1:=rfl
           go_wp2
           go_roundw
           case rel=>exact ⟨j-1,_,n+PL,c+PC,rfl,by omega,(by first | rfl | (congr 1;omega)),by omega,by omega,HS9⟩
           case measure=>simp [intOf];omega
          ·have q0:(r8 == 0)=false:=by simpa using s0
           have q0':decide (r8=0)=false:=decide_eq_false s0
           by_cases s1:r8=1
           ·subst s1
            have HP9:=hide (pick_dw [⟨#[92,123,50,92,125]⟩,⟨#[92,123,49,44,51,92,125]⟩,⟨#[92,123,48,44,92,125]⟩] #[.string ⟨#[92,123,50,92,125]⟩,.string ⟨#[92,123,49,44,51,92,125]⟩,.string ⟨#[92,123,48,44,92,125]⟩] rfl 3 rfl (by decide) (by decide) (by decide) lp8.out.dw (by have:=HBD.out;have:=HLP.out;omega))
            have lq8:=lp8.out.len
            go_wp2_with fail
            refine HP9.out.mono ?_
            rintro e w9 ⟨P9,hP9,rfl,D9⟩
            have HS9:Hid (Lp w0 d ao cap xs (n+PL) (c+PC) (S++(⟨#[92,40]⟩++Q1++⟨#[92,41]⟩)++P9) w9):=hide ⟨by rw [size_add];have:=lp8.out.len;have:=HLP.out;omega,D9.up (by have:=HLP.out;omega)⟩
            clear D9 HP9
            go_wp2
            go_roundw
            case rel=>exact ⟨j-1,_,n+PL,c+PC,rfl,by omega,(by first | rfl | (congr 1;omega)),by omega,by omega,HS9⟩
            case measure=>simp [intOf];omega
           ·have q1:(r8 == 1)=false:=by simpa using s1
            have q1':decide (r8=1)=false:=decide_eq_false s1
            have HS9:Hid (Lp w0 d ao cap xs (n+PL) (c+PC) (S++(⟨#[92,40]⟩++Q1++⟨#[92,41]⟩)) w8):=hide ⟨by have:=lp8.out.len;have:=HLP.out;omega,lp8.out.dw.up (by have:=HLP.out;omega)⟩
            go_wp2
            go_roundw
            case rel=>exact ⟨j-1,_,n+PL,c+PC,rfl,by omega,(by first | rfl | (congr 1;omega)),by omega,by omega,HS9⟩
            case measure=>simp [intOf];omega
         ·have u6f:(r2 == 6)=false:=by simpa using t6
          have u6g:decide (r2=6)=false:=decide_eq_false t6
          have HP3:=hide (pick_dw [⟨#[92,46]⟩,⟨#[92,110]⟩,⟨#[92,42]⟩,⟨#[120]⟩] #[.string ⟨#[92,46]⟩,.string ⟨#[92,110]⟩,.string ⟨#[92,42]⟩,.string ⟨#[120]⟩] rfl 4 rfl (by decide) (by decide) (by decide) lp2.out.dw (by have:=HBD.out;have:=HLP.out;omega))
          have lq2:=lp2.out.len
          go_wp2_with fail
          refine HP3.out.mono ?_
          rintro e w3 ⟨P3,hP3,rfl,D3⟩
          have lp3:Hid (Lp w0 d ao cap xs (n+P1) (c+C1) (S++P3) w3):=hide ⟨by rw [size_add];have:=lp2.out.len;have:=HLP.out;omega,D3.up (by have:=HLP.out;omega)⟩
          clear D3 HP3
          have HN8:=hide (next_dw lp3.out.dw (by have:=HBD.out;have:=HLP.out;omega) 5 (by omega))
          have lq:=lp3.out.len
          go_wp2_with fail
          refine HN8.out.mono ?_
          rintro e w8 ⟨r8,rfl,r80,r81,D8⟩
          have lp8:Hid (Lp w0 d ao cap xs (n+P1) (c+C1+3) (S++P3) w8):=hide ⟨lp3.out.len,D8⟩
          clear HN8 D8
          by_cases s0:r8=0
          ·subst s0
           have HS9:Hid (Lp w0 d ao cap xs (n+PL) (c+PC) (S++P3++⟨#[42]⟩) w8):=hide ⟨by rw [size_add];have:((⟨#[42]⟩:ByteArray)).size=1:=rfl;have:=lp8.out.len;have:=HLP.out;omega,lp8.out.dw.up (by have:=HLP.out;omega)⟩
           have h42:((⟨#[42]⟩:ByteArray)).size=1:=rfl
           go_wp2
           go_roundw
           case rel=>exact ⟨j-1,_,n+PL,c+PC,rfl,by omega,(by first | rfl | (congr 1;omega)),by omega,by omega,HS9⟩
           case measure=>simp [intOf];omega
          ·have q0:(r8 == 0)=false:=by simpa using s0
           have q0':decide (r8=0)=false:=decide_eq_false s0
           by_cases s1:r8=1
           ·subst s1
            have HP9:=hide (pick_dw [⟨#[92,123,50,92,125]⟩,⟨#[92,123,49,44,51,92,125]⟩,⟨#[92,123,48,44,92,125]⟩] #[.string ⟨#[92,123,50,92,125]⟩,.string ⟨#[92,123,49,44,51,92,125]⟩,.string ⟨#[92,123,48,44,92,125]⟩] rfl 3 rfl (by decide) (by decide) (by decide) lp8.out.dw (by have:=HBD.out;have:=HLP.out;omega))
            have lq8:=lp8.out.len
            go_wp2_with fail
            refine HP9.out.mono ?_
            rintro e w9 ⟨P9,hP9,rfl,D9⟩
            have HS9:Hid (Lp w0 d ao cap xs (n+PL) (c+PC) (S++P3++P9) w9):=hide ⟨by rw [size_add];have:=lp8.out.len;have:=HLP.out;omega,D9.up (by have:=HLP.out;omega)⟩
            clear D9 HP9
            go_wp2
            go_roundw
            case rel=>exact ⟨j-1,_,n+PL,c+PC,rfl,by omega,(by first | rfl | (congr 1;omega)),by omega,by omega,HS9⟩
            case measure=>simp [intOf];omega
           ·have q1:(r8 == 1)=false:=by simpa using s1
            have q1':decide (r8=1)=false:=decide_eq_false s1
            have HS9:Hid (Lp w0 d ao cap xs (n+PL) (c+PC) (S++P3) w8):=hide ⟨by have:=lp8.out.len;have:=HLP.out;omega,lp8.out.dw.up (by have:=HLP.out;omega)⟩
            go_wp2
            go_roundw
            case rel=>exact ⟨j-1,_,n+PL,c+PC,rfl,by omega,(by first | rfl | (congr 1;omega)),by omega,by omega,HS9⟩
            case measure=>simp [intOf];omega
  ·obtain rfl:j=0:=by omega
   have hji:¬ (0:Int)<((0:Nat):Int):=by omega
   have HE:Hid (S.size≤3*(2*LL+200)∧Dw w0 d ao cap xs (m+(3*(2*CC+20)+10)) wr):=hide ⟨by have:=HX.out.len;have:=HLP.out;omega,HX.out.dw.up (by have:=HLP.out;omega)⟩
   go_wp2
   go_ret
   exact ⟨S,HE.out.1,rfl,HE.out.2⟩
end Go.Proofs.YtfhimmnoipfiaaaDoor.drw
