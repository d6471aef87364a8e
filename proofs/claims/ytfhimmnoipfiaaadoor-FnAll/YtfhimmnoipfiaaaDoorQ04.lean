import Derived.Test.YtfhimmnoipfiaaaDoorQ01
set_option linter.unusedVariables false
open Go.ChangeShapes Go.WideShapes Go.ChangeAt Go.RowKit
namespace Go.Proofs.YtfhimmnoipfiaaaDoor.eng
open bytes places sets tz rex
structure AL (L:Nat) (M:Fz) (K:Ks) (R0:Rs) (O0:Lb) (w0:World) (W:World):Prop where
 sl:Sl L M K R0 O0 w0 1 W
 res:C2 W w0.heap.size 0
section
variable {L:Nat} {M:Fz} {K:Ks} {R0:Rs} {O0:Lb} {w0 W W':World}
theorem AL.start (h:Inv L M K R0 O0 w0):AL L M K R0 O0 w0 (w0.alloc (.cells #[.int .u64 0,.int .u64 0] 62)):=⟨Sl.start h ((Below.refl _ _).alloc (Nat.le_refl _) _) (by simp),heap_alloc_new w0 _⟩
theorem AL.drew (h:AL L M K R0 O0 w0 W):AL L M K R0 O0 w0 W.drew:=⟨h.sl.drew,h.res⟩
theorem AL.dn (h:AL L M K R0 O0 w0 W) (m:Nat):AL L M K R0 O0 w0 (W.drewN m):=⟨h.sl.dn m,h.res⟩
theorem AL.below (h:AL L M K R0 O0 w0 W) (hb:Below W.heap.size W W'):AL L M K R0 O0 w0 W':=by
 have:=h.sl.size
 exact ⟨h.sl.below hb,(hb.block _ (by omega)).trans h.res⟩
theorem AL.ask (h:AL L M K R0 O0 w0 W) {M0:Fz} {K0:Ks} {f:Nat} {cs:Array Value} {p X:Nat} (ha:At L M0 K0 f cs p X) (hM:FLe M0 M) (hK:KLe K0 K) :
  Calls Tryd.prog f (#[.int .i64 (p:Int)]++cs) W fun e w'=>e=.returned (psV X)∧AL L M K R0 O0 w0 w':=by
 refine (h.sl.ask ha hM hK).mono ?_
 rintro e w' ⟨h1,h2,h3,h4⟩
 exact ⟨h1,h2,(h3 _ (by omega) (by omega)).trans h.res⟩
theorem AL.thr (h:AL L M K R0 O0 w0 W) {M0:Fz} {K0:Ks} {f:Nat} {cs:Array Value} {A:Nat→Nat} {X:Nat} (hF:OkF f) (hL:L≤22) (hX:X<2 ^ (L+1)) (hA:∀ p,A p<2 ^ (L+1)) (ha:∀ p,p≤L→X.testBit p=true→At L M0 K0 f cs p (A p)) (hM:FLe M0 M) (hK:KLe K0 K) :
  Calls Tryd.prog 67 #[psV X,.func (.func f) #[] cs] W fun e w'=>e=.returned (psV (un A (L+1) X))∧AL L M K R0 O0 w0 w':=by
 obtain ⟨R,O,g1,g2,g3⟩:=h.sl.ex
 refine (through_any L M0 K0 f cs hF A X hL hX hA ha M K R O W hM hK g1.inv).mono ?_
 rintro e w' ⟨he,R',O',hs⟩
 exact ⟨he,⟨R',O',g1.trans hs,by have:=hs.size;omega,fun b h1 h2=>(hs.lab b (by omega)).trans (g3 b h1 h2)⟩,(hs.same _ (by omega) (.inl (g3 _ (Nat.le_refl _) (by omega)))).trans h.res⟩
theorem AL.done (h:AL L M K R0 O0 w0 W) (X:Nat):C2 ((W.setCell ⟨w0.heap.size,0,none⟩ (.int .u64 (X:Nat))).setCell ⟨w0.heap.size,1,none⟩ (.int .u64 0)) w0.heap.size X∧∃ R O,St L M K R0 O0 w0 R O ((W.setCell ⟨w0.heap.size,0,none⟩ (.int .u64 (X:Nat))).setCell ⟨w0.heap.size,1,none⟩ (.int .u64 0)) :=
 ⟨two_end h.res X,((h.sl.set (by simp) (by simp) _).set (by simp) (by simp) _).st⟩
end
set_option maxRecDepth 20000 in
set_option maxHeartbeats 8000000 in
theorem ask_cat (L:Nat) (M:Fz) (K:Ks) (kb rb rr xb n k:Nat) (cs:Array Value) (f1 f2:Nat) (c1 c2:Array Value) (vp:Value) (A:Nat→Nat) (p X:Nat)
  (hL:L≤22) (hX:X<2 ^ (L+1)) (hA:∀ p,A p<2 ^ (L+1)) (ho1:OkF f1) (ho2:OkF f2) (hk:k+1<n) (hn:n≤1000)
  (m1:M kb=some (.cells #[.func (.func f1) #[] c1,vp] 49 (0,0))) (m2:M rb=some (.cells #[.slice (some ⟨rr,0,none⟩) n n] 104 (0,0))) (m3:M xb=some (.cells #[.int .i64 (k:Int)] 3 (0,0)))
  (m4:M rr=some (.cells cs 46 (0,0))) (hc:cs[k+1]?=some (.func (.func f2) #[] c2))
  (h1:At L M K f1 c1 p X) (h2:∀ q,q≤L→X.testBit q=true→At L M K f2 c2 q (A q)) :
  At L M K 66 #[.pointer (some ⟨kb,0,none⟩),.pointer (some ⟨rb,0,none⟩),.pointer (some ⟨xb,0,none⟩)] p (un A (L+1) X):=by
 intro M' K' R O w hM hK hI
 have hcf1:=callF ho1
 have hcf2:=callF ho2
 have hS0:=hide (AL.start hI)
 have HC:Hid (∀ W,AL L M' K' R O w W→W.cell? ⟨kb,0,none⟩=some (.func (.func f1) #[] c1)∧W.cell? ⟨rb,0,none⟩=some (.slice (some ⟨rr,0,none⟩) n n)∧W.cell? ⟨xb,0,none⟩=some (.int .i64 (k:Int))∧W.cell? ⟨rr,k+1,none⟩=some (.func (.func f2) #[] c2)):=fun W h=>⟨h.sl.fz.at (hM _ _ m1) rfl,h.sl.fz.at (hM _ _ m2) rfl,h.sl.fz.at (hM _ _ m3) rfl,h.sl.fz.at (hM _ _ m4) hc⟩
 have HA:=hide (fun W h=>AL.ask (R0:=R) (O0:=O) (w0:=w) (W:=W) h h1 hM hK)
 have HT:=hide (fun W h=>AL.thr (R0:=R) (O0:=O) (w0:=w) (W:=W) h ho2 hL hX hA h2 hM hK)
 have HE:=hide (fun W h=>AL.done (L:=L) (M:=M') (K:=K') (R0:=R) (O0:=O) (w0:=w) (W:=W) h (un A (L+1) X))
 have HD:Hid (∀ W,AL L M' K' R O w W→AL L M' K' R O w W.drew):=fun W h=>h.drew
 obtain ⟨J,hJ⟩:∃ J,J=k+1:=⟨_,rfl⟩
 have hkI:(J:Int)<(n:Int):=by omega
 have hkw:IntKind.i64.wrap ((k:Int)+1)=(J:Int):=by rw [IntKind.wrap_i64];omega
 rw [←hJ] at HC
 generalize un A (L+1) X=Y at *
 clear h1 h2 hA hX hL ho1 ho2 hM hK hI m1 m2 m3 m4 hc hn hk hJ
 obtain ⟨W1,hW1⟩:∃ W1,w.alloc (.cells #[.int .u64 0,.int .u64 0] 62)=W1:=⟨_,rfl⟩
 rw [hW1] at hS0
 have r0:=hS0.out.res.c0
 have r1:=hS0.out.res.c1
 have s0:=hS0.out.res.fz 0
 have s1:=hS0.out.res.fz 1
 obtain ⟨d0,d1,d2,d3⟩:=HC.out _ hS0.out
 have hS0:=hS0.out
 unfold psV at HA HT ⊢
 go_enter Tryd.func66,Tryd.ntmps66
 go_wp2
 (try rw [hW1])
 go_region_law (first | (go_simp;go_at_call 67;with_reducible (refine (HT.out _ ?_).mono ?_);(first | exact hS1 | exact HD.out _ hS1 | assumption);rintro v w3 ⟨rfl,hS3⟩;have r30:=hS3.res.c0;have r31:=hS3.res.c1;have s30:=hS3.res.fz 0;have s31:=hS3.res.fz 1) | (go_simp;with_reducible (refine (HA.out _ ?_).mono ?_);(first | exact hS0 | exact HD.out _ hS0 | assumption);rintro v w2 ⟨rfl,hS1⟩;obtain ⟨f0,f1,f2,f3⟩:=HC.out _ hS1;have r20:=hS1.res.c0;have r21:=hS1.res.c1;have s20:=hS1.res.fz 0;have s21:=hS1.res.fz 1))
 all_goals
  have hE:=hide (HE.out w3 hS3)
  clear hS3 hS1 hS0 HA HT HC HD HE
  go_wp2
  exact bodyPost_ret (results_cell_row rfl _ _ w.heap.size 62 _ (0,0) _ rfl hE.out.1 Tryd.underlying62 rfl (size62.trans (by simp))) rfl ⟨rfl,hE.out.2⟩
end Go.Proofs.YtfhimmnoipfiaaaDoor.eng
