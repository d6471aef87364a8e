import Derived.Test.YtfhimmnoipfiaaaDoorQ04
import Derived.Test.YtfhimmnoipfiaaaDoorQ01
set_option linter.unusedVariables false
open Go.ChangeShapes Go.WideShapes Go.ChangeAt Go.RowKit
namespace Go.Proofs.YtfhimmnoipfiaaaDoor.eng
open bytes places sets tz rex
theorem plx_and {L:Nat} (hL:L≤22) {p:Nat} (hp:p≤L) (a:B2):pl L a p &&& (18446744073709551615-2 ^ p)=plx L a p:=by
 have h1:pl L a p<2 ^ 64:=Nat.lt_of_lt_of_le (pl_lt L a p) (Nat.pow_le_pow_right (n:=2) (by decide) (by omega))
 refine Nat.eq_of_testBit_eq fun j => ?_
 rw [not_pow (pl L a p) p h1 (by omega) j,bit_pl]
 simp only [plx,bit_mk,Bool.and_assoc]
set_option maxRecDepth 20000 in
set_option maxHeartbeats 8000000 in
theorem ask_more (L:Nat) (M:Fz) (K:Ks) (kb sb:Nat) (f1 f2:Nat) (c1 c2:Array Value) (vp:Value) (a:B2) (c p:Nat) (hL:L≤22) (hp:p≤L) (ha:Mono a) (ho1:OkF f1) (ho2:OkF f2)
  (m1:M kb=some (.cells #[.func (.func f1) #[] c1,vp] 49 (0,0))) (m2:M sb=some (.cells #[.func (.func f2) #[] c2] 46 (0,0)))
  (h1:At L M K f1 c1 p (pl L a p)) (h2:∀ q,p<q→q≤L→At L M K f2 c2 q (pl L (upTo a c) q)) :
  At L M K 98 #[.pointer (some ⟨kb,0,none⟩),.pointer (some ⟨sb,0,none⟩)] p (pl L (upTo a (c+1)) p):=by
 intro M' K' R O w hM hK hI
 have hcf1:=callF ho1
 have hcf2:=callF ho2
 rw [pl_once ha c hp,←plx_and hL hp a]
 have hp64:2 ^ p<18446744073709551616:=Nat.pow_lt_pow_right (n:=64) (by decide) (by omega)
 have hA64:pl L a p<18446744073709551616:=Nat.lt_of_lt_of_le (pl_lt L a p) (Nat.pow_le_pow_right (n:=2) (by decide) (show L+1≤64 by omega))
 have hX:pl L a p &&& (18446744073709551615-2 ^ p)<2 ^ (L+1):=by rw [plx_and hL hp a];exact plx_lt L a p
 have hU:un (pl L (upTo a c)) (L+1) (pl L a p &&& (18446744073709551615-2 ^ p))<18446744073709551616:=Nat.lt_of_lt_of_le (un_lt (fun q=>pl_lt L _ q) (L+1) _) (Nat.pow_le_pow_right (n:=2) (by decide) (show L+1≤64 by omega))
 have hbits:∀ q,q≤L→(pl L a p &&& (18446744073709551615-2 ^ p)).testBit q=true→p<q:=by
  intro q hq hb
  rw [plx_and hL hp a] at hb
  simp only [plx,bit_mk,Bool.and_eq_true,decide_eq_true_eq] at hb
  have:=ha _ _ hb.2.1
  omega
 have hS0:=hide (AL.start hI)
 have HC:Hid (∀ W,AL L M' K' R O w W→W.cell? ⟨kb,0,none⟩=some (.func (.func f1) #[] c1)∧W.cell? ⟨sb,0,none⟩=some (.func (.func f2) #[] c2)):=fun W h=>⟨h.sl.fz.at (hM _ _ m1) rfl,h.sl.fz.at (hM _ _ m2) rfl⟩
 have HO:Hid (∀ W,AL L M' K' R O w W→Calls Tryd.prog 63 #[.int .i64 (p:Int)] W fun e w'=>e=.returned (psV (2 ^ p))∧AL L M' K' R O w w'):=fun W h=>(only_any W p (by omega)).mono (by rintro e w' ⟨h1,h2⟩;exact ⟨h1,h.below h2⟩)
 have HA:=hide (fun W h=>AL.ask (R0:=R) (O0:=O) (w0:=w) (W:=W) h h1 hM hK)
 have HW:Hid (∀ W,AL L M' K' R O w W→Calls Tryd.prog 99 #[psV (pl L a p),psV (2 ^ p)] W fun e w'=>e=.returned (psV (pl L a p &&& (18446744073709551615-2 ^ p)))∧AL L M' K' R O w w'):=fun W h=>(without_any W _ _ hA64 hp64).mono (by rintro e w' ⟨h1,h2⟩;exact ⟨h1,h.below h2⟩)
 have HT:=hide (fun W h=>AL.thr (R0:=R) (O0:=O) (w0:=w) (W:=W) h ho2 hL hX (fun q=>pl_lt L _ q) (fun q hq hb=>h2 q (hbits q hq hb) hq) hM hK)
 have HJ:Hid (∀ W,AL L M' K' R O w W→Calls Tryd.prog 70 #[psV (2 ^ p),psV (un (pl L (upTo a c)) (L+1) (pl L a p &&& (18446744073709551615-2 ^ p)))] W fun e w'=>e=.returned (psV (2 ^ p ||| un (pl L (upTo a c)) (L+1) (pl L a p &&& (18446744073709551615-2 ^ p))))∧AL L M' K' R O w w'):=fun W h=>(with_any W _ _ hp64 hU).mono (by rintro e w' ⟨h1,h2⟩;exact ⟨h1,h.below h2⟩)
 generalize un (pl L (upTo a c)) (L+1) (pl L a p &&& (18446744073709551615-2 ^ p))=T at HT HJ ⊢
 generalize pl L a p &&& (18446744073709551615-2 ^ p)=B at HW HT HJ
 generalize pl L a p=A at HA HW
 generalize 2 ^ p ||| T=Y at HJ ⊢
 generalize 2 ^ p=P at HO HW HJ
 have HE:=hide (fun W h=>AL.done (L:=L) (M:=M') (K:=K') (R0:=R) (O0:=O) (w0:=w) (W:=W) h Y)
 have HD:Hid (∀ W,AL L M' K' R O w W→AL L M' K' R O w W.drew):=fun W h=>h.drew
 clear h1 h2 ha hX hU hbits ho1 ho2 hM hK hI m1 m2 hp64 hA64
 obtain ⟨W1,hW1⟩:∃ W1,w.alloc (.cells #[.int .u64 0,.int .u64 0] 62)=W1:=⟨_,rfl⟩
 rw [hW1] at hS0
 have r0:=hS0.out.res.c0
 have r1:=hS0.out.res.c1
 have s0:=hS0.out.res.fz 0
 have s1:=hS0.out.res.fz 1
 obtain ⟨d0,d1⟩:=HC.out _ hS0.out
 have hS0:=hS0.out
 unfold psV at HO HA HW HT HJ ⊢
 go_enter Tryd.func98,Tryd.ntmps98
 go_wp2
 (try rw [hW1])
 go_region_law (first
  | (go_simp;go_at_call 70;with_reducible (refine (HJ.out _ ?_).mono ?_);(first | exact hS5 | exact HD.out _ hS5);rintro v w6 ⟨rfl,hS6⟩;have r60:=hS6.res.c0;have r61:=hS6.res.c1;have s60:=hS6.res.fz 0;have s61:=hS6.res.fz 1)
  | (go_simp;go_at_call 67;with_reducible (refine (HT.out _ ?_).mono ?_);(first | exact hS4 | exact HD.out _ hS4);rintro v w5 ⟨rfl,hS5⟩;obtain ⟨e50,e51⟩:=HC.out _ hS5;have r50:=hS5.res.c0;have r51:=hS5.res.c1;have s50:=hS5.res.fz 0;have s51:=hS5.res.fz 1)
  | (go_simp;go_at_call 99;with_reducible (refine (HW.out _ ?_).mono ?_);(first | exact hS3 | exact HD.out _ hS3);rintro v w4 ⟨rfl,hS4⟩;obtain ⟨e40,e41⟩:=HC.out _ hS4;have r40:=hS4.res.c0;have r41:=hS4.res.c1;have s40:=hS4.res.fz 0;have s41:=hS4.res.fz 1)
  | (go_simp;go_at_call 63;(have _h:=hS2);with_reducible (refine (HO.out _ ?_).mono ?_);(first | exact hS2 | exact HD.out _ hS2);rintro v w3 ⟨rfl,hS3⟩;obtain ⟨e30,e31⟩:=HC.out _ hS3;have r30:=hS3.res.c0;have r31:=hS3.res.c1;have s30:=hS3.res.fz 0;have s31:=hS3.res.fz 1)
  | (go_simp;go_at_call 63;with_reducible (refine (HO.out _ ?_).mono ?_);(first | exact hS0 | exact HD.out _ hS0);rintro v w1 ⟨rfl,hS1⟩;obtain ⟨e10,e11⟩:=HC.out _ hS1;have r10:=hS1.res.c0;have r11:=hS1.res.c1;have s10:=hS1.res.fz 0;have s11:=hS1.res.fz 1)
  | (go_simp;with_reducible (refine (HA.out _ ?_).mono ?_);(first | exact hS1 | exact HD.out _ hS1);rintro v w2 ⟨rfl,hS2⟩;obtain ⟨e20,e21⟩:=HC.out _ hS2;have r20:=hS2.res.c0;have r21:=hS2.res.c1;have s20:=hS2.res.fz 0;have s21:=hS2.res.fz 1))
 all_goals
  have hE:=hide (HE.out w6 hS6)
  clear hS6 hS5 hS4 hS3 hS2 hS1 hS0 HA HT HC HD HE HO HW HJ
  go_wp2
  exact bodyPost_ret (results_cell_row rfl _ _ w.heap.size 62 _ (0,0) _ rfl hE.out.1 Tryd.underlying62 rfl (size62.trans (by simp))) rfl ⟨rfl,hE.out.2⟩
end Go.Proofs.YtfhimmnoipfiaaaDoor.eng
