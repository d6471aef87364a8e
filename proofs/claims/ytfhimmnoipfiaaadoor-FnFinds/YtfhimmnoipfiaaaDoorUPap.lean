import Derived.Test.YtfhimmnoipfiaaaDoorUPna
import Derived.Test.YtfhimmnoipfiaaaDoorUPnb
import Derived.Test.YtfhimmnoipfiaaaDoorUPnc
import Derived.Test.YtfhimmnoipfiaaaDoorUPnd
import Derived.Deep.RegionLaw
namespace Go.Proofs.YtfhimmnoipfiaaaDoor.drw
open Go.ChangeShapes Go.WideShapes Go.ChangeAt Go.RowKit
open bytes pile src letters
set_option linter.unusedVariables false
theorem pat0 (BM:Nat) (hB:BM≤95000000):PatAt 0 600 70 BM:=fun ere w0 w d ao cap xs m h hm=>by
 cases ere with
 | true=>exact pat_ere_flat 0 0 (by decide) (by decide) BM hB w0 w d ao cap xs m h hm
 | false=>exact pat_bre_flat 0 0 (by decide) (by decide) BM hB w0 w d ao cap xs m h hm
theorem pat1 (BM:Nat) (hB:BM≤90000000):PatAt 1 4200 490 BM:=fun ere w0 w d ao cap xs m h hm=>by
 cases ere with
 | true=>exact pat_ere_deep 600 70 (by decide) (by decide) BM hB 1 (by decide) (by decide) (pat0 _ (by omega)) w0 w d ao cap xs m h hm
 | false=>exact pat_bre_deep 600 70 (by decide) (by decide) BM hB 1 (by decide) (by decide) (pat0 _ (by omega)) w0 w d ao cap xs m h hm
theorem pat2 (BM:Nat) (hB:BM≤80000000):PatAt 2 25800 3010 BM:=fun ere w0 w d ao cap xs m h hm=>by
 cases ere with
 | true=>exact pat_ere_deep 4200 490 (by decide) (by decide) BM (by omega) 2 (by decide) (by decide) (pat1 _ (by omega)) w0 w d ao cap xs m h hm
 | false=>exact pat_bre_deep 4200 490 (by decide) (by decide) BM (by omega) 2 (by decide) (by decide) (pat1 _ (by omega)) w0 w d ao cap xs m h hm
theorem size_ext (S:ByteArray) (a b:Nat):(S.extract a b).size≤S.size:=by
 rw [ByteArray.size_extract];omega
set_option maxRecDepth 20000 in
set_option maxHeartbeats 8000000 in
theorem any_dw (ere:Bool) (w0 w:World) (d:Nat) (ao:Option Addr) (cap:Nat) (xs:List Int) (m:Nat) (h:Dw w0 d ao cap xs m w) (hm:m≤10000000) :
  Calls Tryd.prog 27 #[.pointer (some ⟨d,0,none⟩),.bool ere] w fun e w'=>∃ S:ByteArray,S.size≤65536∧e=.returned (.string S)∧Dw w0 d ao cap xs (m+10000) w':=by
 have HP:=hide (pat2 80000000 (by omega) ere w0 w d ao cap xs m h (by omega))
 have HM:=hide hm
 clear h hm
 go_enter Tryd.func27,Tryd.ntmps27
 go_wp2_with fail
 refine HP.out.mono ?_
 rintro e w1 ⟨S,hS,rfl,D1⟩
 have HN:=hide (next_dw D1 (by have:=HM.out;omega) 8 (by omega))
 clear HP D1
 go_wp2_with fail
 refine HN.out.mono ?_
 rintro e w2 ⟨r,rfl,r0,r1,D2⟩
 have HD2:=hide D2
 clear HN D2
 by_cases s0:r=0
 ·subst s0
  have b1:((⟨#[94]⟩:ByteArray)).size=1:=rfl
  have HE:Hid ((⟨#[94]⟩++S:ByteArray).size≤65536∧Dw w0 d ao cap xs (m+10000) w2):=hide ⟨by rw [size_add];omega,HD2.out.up (by omega)⟩
  go_wp2
  go_ret
  exact ⟨_,HE.out.1,rfl,HE.out.2⟩
 ·have u0:(r == 0)=false:=by simpa using s0
  have u0':decide (r=0)=false:=decide_eq_false s0
  by_cases s1:r=1
  ·subst s1
   have b1:((⟨#[36]⟩:ByteArray)).size=1:=rfl
   have HE:Hid ((S++⟨#[36]⟩:ByteArray).size≤65536∧Dw w0 d ao cap xs (m+10000) w2):=hide ⟨by rw [size_add];omega,HD2.out.up (by omega)⟩
   go_wp2
   go_ret
   exact ⟨_,HE.out.1,rfl,HE.out.2⟩
  ·have u1:(r == 1)=false:=by simpa using s1
   have u1':decide (r=1)=false:=decide_eq_false s1
   by_cases s2:r=2
   ·subst s2
    have hw:IntKind.i64.wrap ((S.size:Int)+1)=(S.size:Int)+1:=by rw [IntKind.wrap_i64];omega
    have HN2:=hide (next_dw HD2.out (by have:=HM.out;omega) ((S.size:Int)+1) (by omega))
    go_wp2_with fail
    refine HN2.out.mono ?_
    rintro e w3 ⟨rk,rfl,rk0,rk1,D3⟩
    obtain ⟨k,rfl⟩:∃ k:Nat,rk=(k:Int):=⟨rk.toNat,by omega⟩
    have hk:k≤S.size:=by omega
    have D3':Dw w0 d ao cap xs (m+3010+3+3) w3.drew:=D3.below ⟨rfl,rfl,rfl,Nat.le_refl _,fun _ _=>rfl⟩
    have HPk:Hid (Calls Tryd.prog 30 #[.pointer (some ⟨d,0,none⟩),.slice (some ⟨w3.heap.size,0,none⟩) 22 22] (w3.alloc (.cells #[.string ⟨#[40]⟩,.string ⟨#[41]⟩,.string ⟨#[92,40]⟩,.string ⟨#[92,41]⟩,.string ⟨#[91]⟩,.string ⟨#[93]⟩,.string ⟨#[42]⟩,.string ⟨#[123]⟩,.string ⟨#[92,123]⟩,.string ⟨#[124]⟩,.string ⟨#[92]⟩,.string ⟨#[94]⟩,.string ⟨#[36]⟩,.string ⟨#[43]⟩,.string ⟨#[91,91,58,120,58,93,93]⟩,.string ⟨#[91,98,45,97,93]⟩,.string ⟨#[92,49]⟩,.string ⟨#[123,51,48,125]⟩,.string ⟨#[123,51,44,49,125]⟩,.string ⟨#[91,46]⟩,.string ⟨#[92,123,49]⟩,.string ⟨#[42,42]⟩] 9)).drew fun e w'=>∃ S:ByteArray,S.size≤60∧e=.returned (.string S)∧Dw w0 d ao cap xs (m+3010+3+3+3) w'):=hide (pick_dw [⟨#[40]⟩,⟨#[41]⟩,⟨#[92,40]⟩,⟨#[92,41]⟩,⟨#[91]⟩,⟨#[93]⟩,⟨#[42]⟩,⟨#[123]⟩,⟨#[92,123]⟩,⟨#[124]⟩,⟨#[92]⟩,⟨#[94]⟩,⟨#[36]⟩,⟨#[43]⟩,⟨#[91,91,58,120,58,93,93]⟩,⟨#[91,98,45,97,93]⟩,⟨#[92,49]⟩,⟨#[123,51,48,125]⟩,⟨#[123,51,44,49,125]⟩,⟨#[91,46]⟩,⟨#[92,123,49]⟩,⟨#[42,42]⟩] #[.string ⟨#[40]⟩,.string ⟨#[41]⟩,.string ⟨#[92,40]⟩,.string ⟨#[92,41]⟩,.string ⟨#[91]⟩,.string ⟨#[93]⟩,.string ⟨#[42]⟩,.string ⟨#[123]⟩,.string ⟨#[92,123]⟩,.string ⟨#[124]⟩,.string ⟨#[92]⟩,.string ⟨#[94]⟩,.string ⟨#[36]⟩,.string ⟨#[43]⟩,.string ⟨#[91,91,58,120,58,93,93]⟩,.string ⟨#[91,98,45,97,93]⟩,.string ⟨#[92,49]⟩,.string ⟨#[123,51,48,125]⟩,.string ⟨#[123,51,44,49,125]⟩,.string ⟨#[91,46]⟩,.string ⟨#[92,123,49]⟩,.string ⟨#[42,42]⟩] rfl 22 rfl (by decide) (by decide) (by decide) D3' (by have:=HM.out;omega))
    have k1:(0:Int)≤(k:Int):=by omega
    have k2:(k:Int)≤(S.size:Int):=by omega
    obtain ⟨X1,hX1⟩:∃ X1,S.extract 0 k=X1:=⟨_,rfl⟩
    obtain ⟨X2,hX2⟩:∃ X2,S.extract k S.size=X2:=⟨_,rfl⟩
    have l1:X1.size≤25800:=by rw [←hX1];exact Nat.le_trans (size_ext S 0 k) hS
    have l2:X2.size≤25800:=by rw [←hX2];exact Nat.le_trans (size_ext S k S.size) hS
    clear HN2 D3 D3' HD2 rk0 rk1
    go_wp2
    go_region_law (first | (go_simp;go_at_call 30;with_reducible (refine HPk.out.mono ?_);rintro e w4 ⟨P,hP,rfl,D4⟩;have g1:¬ 9223372036854775807<X1.size+P.size:=(by omega);have g2:¬ 9223372036854775807<(X1++P).size+X2.size:=(by rw [size_add];omega);have g3:¬ 9223372036854775807<X1.size+P.size+X2.size:=(by omega)))
    all_goals
     have HE:Hid ((X1++P++X2:ByteArray).size≤65536∧Dw w0 d ao cap xs (m+10000) w4):=hide ⟨by rw [size_add,size_add];omega,D4.up (by omega)⟩
     clear D4 HPk
     go_wp2
     go_ret
     exact ⟨_,HE.out.1,rfl,HE.out.2⟩
   ·have u2:(r == 2)=false:=by simpa using s2
    have u2':decide (r=2)=false:=decide_eq_false s2
    by_cases s3:r=3
    ·subst s3
     have HCh:=hide (chance_dw HD2.out (by have:=HM.out;omega) 4 (by omega) (by omega))
     go_wp2_with fail
     refine HCh.out.mono ?_
     rintro e w3 ⟨rc,rfl,D3⟩
     have HD3:=hide D3
     clear HCh D3 HD2
     cases rc with
     | true =>
      have HPk:=hide (pick_dw [⟨#[]⟩,⟨#[42,97]⟩,⟨#[94,42,97]⟩,⟨#[92,40,42,97,92,41]⟩,⟨#[92,40,94,97,92,41]⟩,⟨#[92,40,97,36,92,41,98]⟩,⟨#[97,94,98]⟩,⟨#[97,36,98]⟩,⟨#[40,41]⟩,⟨#[97,124,124,98]⟩,⟨#[40,40,40,40,40,40,40,40,40,40,97,41,41,41,41,41,41,41,41,41,41]⟩,⟨#[92,40,92,41]⟩,⟨#[40,97,123,50,48,125,41,123,50,48,125]⟩,⟨#[91,94,10,93]⟩,⟨#[97,123,44,51,125]⟩] #[.string ⟨#[]⟩,.string ⟨#[42,97]⟩,.string ⟨#[94,42,97]⟩,.string ⟨#[92,40,42,97,92,41]⟩,.string ⟨#[92,40,94,97,92,41]⟩,.string ⟨#[92,40,97,36,92,41,98]⟩,.string ⟨#[97,94,98]⟩,.string ⟨#[97,36,98]⟩,.string ⟨#[40,41]⟩,.string ⟨#[97,124,124,98]⟩,.string ⟨#[40,40,40,40,40,40,40,40,40,40,97,41,41,41,41,41,41,41,41,41,41]⟩,.string ⟨#[92,40,92,41]⟩,.string ⟨#[40,97,123,50,48,125,41,123,50,48,125]⟩,.string ⟨#[91,94,10,93]⟩,.string ⟨#[97,123,44,51,125]⟩] rfl 15 rfl (by decide) (by decide) (by decide) HD3.out (by have:=HM.out;omega))
      go_wp2_with fail
      refine HPk.out.mono ?_
      rintro e w4 ⟨P,hP,rfl,D4⟩
      have HE:Hid (P.size≤65536∧Dw w0 d ao cap xs (m+10000) w4):=hide ⟨by omega,D4.up (by omega)⟩
      clear D4 HPk HD3
      go_wp2
      go_ret
      exact ⟨_,HE.out.1,rfl,HE.out.2⟩
     | false =>
      have HE:Hid (S.size≤65536∧Dw w0 d ao cap xs (m+10000) w3):=hide ⟨by omega,HD3.out.up (by omega)⟩
      go_wp2
      go_ret
      exact ⟨_,HE.out.1,rfl,HE.out.2⟩
    ·have u3:(r == 3)=false:=by simpa using s3
     have u3':decide (r=3)=false:=decide_eq_false s3
     have HE:Hid (S.size≤65536∧Dw w0 d ao cap xs (m+10000) w2):=hide ⟨by omega,HD2.out.up (by omega)⟩
     go_wp2
     go_ret
     exact ⟨_,HE.out.1,rfl,HE.out.2⟩
end Go.Proofs.YtfhimmnoipfiaaaDoor.drw
