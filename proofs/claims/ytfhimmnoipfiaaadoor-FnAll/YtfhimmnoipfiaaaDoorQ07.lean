import Derived.Test.YtfhimmnoipfiaaaDoorQ01
import Derived.Test.YtfhimmnoipfiaaaDoorQ03
import Derived.WalkMore
import Derived.Laws.EntriesVeiled
import Derived.Deep.CutRange
import Derived.Deep.CutBlock
import Derived.Deep.DeepCutAuto
import Derived.Test.YtfhimmnoipfiaaaDoorQ05
import Derived.Test.YtfhimmnoipfiaaaDoorQ06
import Derived.Deep.AppendLies
import Derived.Laws.OwnMore
import Derived.OwnWalk
set_option linter.unusedVariables false
namespace Go.Proofs.YtfhimmnoipfiaaaDoor.eng
open Go.ChangeShapes Go.WideShapes Go.ChangeAt Go.RowKit
open bytes places sets tz rex
set_option maxRecDepth 20000 in
set_option maxHeartbeats 4000000 in
theorem end_any (L:Nat) (M:Fz) (K:Ks) (b:Nat) (f:Nat) (cs:Array Value) (ho:OkF f) (hM:M b=some (.cells #[.func (.func f) #[] cs] 46 (0,0))) (p X:Nat) (h:At L M K f cs p X):At L M K 100 #[.pointer (some ⟨b,0,none⟩)] p X:=by
 intro M' K' R O w h1 h2 hI
 have hcf:=callF ho
 have hb:=hI.fz b _ (h1 b _ hM)
 have hlt:b<w.heap.size:=(Array.getElem?_eq_some_iff.1 hb).1
 have c0:(w.alloc (.cells #[.int .u64 0,.int .u64 0] 62)).cell? ⟨b,0,none⟩=some (.func (.func f) #[] cs):=by
  have:(w.alloc (.cells #[.int .u64 0,.int .u64 0] 62)).heap[b]?=some (.cells #[.func (.func f) #[] cs] 46 (0,0)):=(Below.heap_alloc _ _ _ hlt).trans hb
  simp [World.cell?,this]
 have HS:=hide (St.alloc (St.refl hI) (.cells #[.int .u64 0,.int .u64 0] 62))
 have HC:=hide (h M' K' R O (w.alloc (.cells #[.int .u64 0,.int .u64 0] 62)) h1 h2 HS.out.inv)
 have x0:C2 (w.alloc (.cells #[.int .u64 0,.int .u64 0] 62)) w.heap.size 0:=heap_alloc_new w _
 have HN:=hide (And.intro x0 (hI.fresh (Nat.le_refl _)))
 clear h hb hlt h1 h2 hI hM ho x0
 unfold psV at HC ⊢
 go_enter Tryd.func100,Tryd.ntmps100
 go_wp2_with fail
 refine HC.out.mono ?_
 rintro e w1 ⟨rfl,R1,O1,hs⟩
 have x1:C2 w1 w.heap.size 0:=(hs.frm.own (by simp) HN.out.2).trans HN.out.1
 have r0:=x1.c0
 have r1:=x1.c1
 have s0:=x1.fz 0
 have s1:=x1.fz 1
 have ho1:O1 w.heap.size=none:=(hs.lab _ (by simp)).trans HN.out.2
 have HE:=hide (And.intro (two_end x1 X) (((HS.out.trans hs).set (a:=⟨w.heap.size,0,none⟩) (Nat.le_refl _) ho1 (.int .u64 (X:Nat))).set (a:=⟨w.heap.size,1,none⟩) (Nat.le_refl _) ho1 (.int .u64 0)))
 clear HC HN HS hs x1 ho1 c0
 go_wp2
 exact bodyPost_ret (results_cell_row rfl _ _ w.heap.size 62 _ (0,0) _ rfl HE.out.1 Tryd.underlying62 rfl (size62.trans (by simp))) rfl ⟨rfl,_,_,HE.out.2⟩
end Go.Proofs.YtfhimmnoipfiaaaDoor.eng
namespace Go.Proofs.YtfhimmnoipfiaaaDoor.eng
open Go.ChangeShapes Go.WideShapes Go.ChangeAt Go.RowKit
open bytes places sets tz rex
def cnt (b:Bool) (L t:Nat):Nat:=if b then L else t
theorem more_step (b:Bool) (L:Nat) (a:B2) (s:Sp) {t f to_:Nat} {out T:List Int} (hf:f<to_) (hL:to_≤L) (h1:upTo a (cnt b L t) f to_=true) (h2:upToS a s (cnt b L t) f to_ out=T) :
  ∃ y,f<y∧y≤to_∧a f y=true∧upTo a (cnt b L (t-1)) y to_=true∧upToS a s (cnt b L (t-1)) y to_ (s f y out)=T∧∀ x,y<x→x≤to_→(a f x && upTo a (cnt b L (t-1)) x to_)=false:=by
 obtain ⟨c,hc⟩:∃ c,cnt b L t=c+1:=by
  cases e:cnt b L t with
  | zero =>
   rw [e] at h1
   simp only [upTo,emptyB,decide_eq_true_eq] at h1
   omega
  | succ c=>exact ⟨c,rfl⟩
 rw [hc] at h1 h2
 have hcc:∀ x,f<x→x≤to_→upTo a c x to_=upTo a (cnt b L (t-1)) x to_:=by
  intro x hx1 hx2
  cases b with
  | true =>
   simp only [cnt,if_true] at hc ⊢
   exact upTo_same a (by omega) (by omega)
  | false =>
   have e:c=cnt false L (t-1):=by simp [cnt] at hc ⊢;omega
   rw [e]
 have hcs:∀ x o,f<x→x≤to_→upToS a s c x to_ o=upToS a s (cnt b L (t-1)) x to_ o:=by
  intro x o hx1 hx2
  cases b with
  | true =>
   simp only [cnt,if_true] at hc ⊢
   exact upToS_same a s o (by omega) (by omega)
  | false =>
   have e:c=cnt false L (t-1):=by simp [cnt] at hc ⊢;omega
   rw [e]
 rw [upTo] at h1
 simp only [Bool.or_eq_true,decide_eq_true_eq] at h1
 have h1:exIn (f+1) to_ (fun x=>a f x && upTo a c x to_)=true:=by
  rcases h1 with h1 | h1
  ·omega
  ·exact h1
 obtain ⟨y,hy⟩:=far_exIn h1
 have h3:=far_some hy
 simp only [Bool.and_eq_true] at h3
 simp only [upToS,if_pos hf,hy] at h2
 refine ⟨y,by omega,h3.2.1,h3.2.2.1.1,by rw [←hcc y (by omega) h3.2.1];exact h3.2.2.1.2,by rw [←hcs y _ (by omega) h3.2.1];exact h2,fun x hx1 hx2 => ?_⟩
 rw [←hcc x (by omega) hx2]
 exact h3.2.2.2 x hx1 hx2
structure RM (L:Nat) (M:Fz) (K:Ks) (R0:Rs) (O0:Lb) (w0:World) (g B E:Nat) (out:List Int) (W:World):Prop where
 sx:Sx L M K R0 O0 w0 g (fun b=>b=B) W
 ends:C2 W B E
 spn:Spn W g out
section
variable {L:Nat} {M:Fz} {K:Ks} {R0:Rs} {O0:Lb} {w0 W W':World} {g B E:Nat} {out:List Int}
theorem RM.below (h:RM L M K R0 O0 w0 g B E out W) (hb:Below W.heap.size W W'):RM L M K R0 O0 w0 g B E out W' :=
 ⟨h.sx.below h.spn.lt hb,(hb.block _ (h.sx.lt rfl).2.1).trans h.ends,h.spn.same (hb.block _ h.spn.lt)⟩
theorem RM.ask (h:RM L M K R0 O0 w0 g B E out W) {M0:Fz} {K0:Ks} {f:Nat} {cs:Array Value} {p X:Nat} (ha:At L M0 K0 f cs p X) (hM:FLe M0 M) (hK:KLe K0 K) :
  Calls Tryd.prog f (#[.int .i64 (p:Int)]++cs) W fun e w'=>e=.returned (psV X)∧RM L M K R0 O0 w0 g B E out w':=by
 refine (h.sx.ask h.spn.lt ha hM hK).mono ?_
 rintro e w' ⟨h1,h2,h3,h4⟩
 exact ⟨h1,h2,(h3 _ (.inl rfl)).trans h.ends,h.spn.same (h3 _ (.inr rfl))⟩
theorem RM.start (h:Sx L M K R0 O0 w0 g (fun _=>False) W) (hs:Spn W g out) {M0:Fz} {K0:Ks} {f:Nat} {cs:Array Value} {p X:Nat} (ha:At L M0 K0 f cs p X) (hM:FLe M0 M) (hK:KLe K0 K) :
  Calls Tryd.prog f (#[.int .i64 (p:Int)]++cs) W fun e w'=>e=.returned (psV X)∧RM L M K R0 O0 w0 g w'.heap.size X out (w'.alloc (.cells #[.int .u64 (X:Nat),.int .u64 0] 62)):=by
 refine (h.ask hs.lt ha hM hK).mono ?_
 rintro e w' ⟨k1,k2,k3,k4⟩
 have hlt:=hs.lt
 have hb2:=(Below.refl w'.heap.size w').alloc (Nat.le_refl _) (.cells #[.int .u64 (X:Nat),.int .u64 0] 62)
 exact ⟨k1,k2.join (by omega) hb2 (fun b hb=>.inr (by simp;omega)),heap_alloc_new w' _,hs.same ((hb2.block _ (by omega)).trans (k3 _ (.inr rfl)))⟩
theorem RM.part (h:RM L M K R0 O0 w0 g B E out W) {M0:Fz} {K0:Ks} {f:Nat} {cs:Array Value} {a:B2} {s:Sp} {N:Nat} (ha:Pt L M0 K0 f cs a s N) (hM:FLe M0 M) (hK:KLe K0 K) {i j n c:Nat} (hij:i≤j) (hj:j≤L) (hm:a i j=true) (hn:out.length=n) (hN:N≤n) (hc:n≤c) (hn1:n≤100) :
  Calls Tryd.prog f (#[.int .i64 (i:Int),.int .i64 (j:Int),.slice (some ⟨g,0,none⟩) n c]++cs) W fun e w'=>e=.returned (.tuple #[])∧Spn w' g (s i j out)∧(s i j out).length=n∧Sx L M K R0 O0 w0 g (fun _=>False) w':=by
 refine (h.sx.part ha hM hK hij hj hm h.spn hn hN hc hn1).mono ?_
 rintro e w' ⟨h1,h2,h3,h4,_⟩
 exact ⟨h1,h2,h3,h4.fresh0⟩
end
theorem OkF89:OkF 89:=⟨_,Tryd.func89,by kernel_rfl,by kernel_rfl⟩
set_option maxRecDepth 20000 in
set_option maxHeartbeats 8000000 in
theorem more_pt (L:Nat) (M:Fz) (K:Ks) (N bb kb rb rr n c3:Nat) (un:Bool) (k:Kd) (rs:Array Value) (hn1:n≤1000) (hL:L≤22)
  (m0:M bb=some (.cells #[.int .i64 (n:Int)] 3 (0,0))) (m2:M kb=some (.cells #[k.ve,k.vp] 49 (0,0)))
  (m3:M rb=some (.cells #[.slice (some ⟨rr,0,none⟩) (n+1) c3] 104 (0,0))) (m4:M rr=some (.cells rs 46 (0,0)))
  (hr:∀ i,i≤n→∃ f cf,rs[i]?=some (.func (.func f) #[] cf)∧OkF f∧∀ q,q≤L→At L M K f cf q (pl L (upTo k.a (cnt un L i)) q)) (hk:KdOK L M K N k) :
  Pt L M K 89 #[.pointer (some ⟨bb,0,none⟩),.pointer (some ⟨kb,0,none⟩),.pointer (some ⟨rb,0,none⟩)] (upTo k.a (cnt un L n)) (upToS k.a k.s (cnt un L n)) N:=by
 intro M' K' R O w hM hK hI from_ to_ g l c2 out hij hj hm hg hs hl hN hc2 h100
 have m1w:w.cell? ⟨bb,0,none⟩=some (.int .i64 (n:Int)):=hI.fz.at (hM _ _ m0) rfl
 obtain ⟨T,hT⟩:∃ T,T=upToS k.a k.s (cnt un L n) from_ to_ out:=⟨_,rfl⟩
 have HS:Hid (Sx L M' K' R O w g (fun _=>False) w∧Spn w g out∧out.length=l∧upTo k.a (cnt un L n) from_ to_=true∧upToS k.a k.s (cnt un L n) from_ to_ out=T):=⟨Sx.start hI hg hs.lt (Below.refl _ _) (fun b h=>h.elim),hs,hl,hm,hT.symm⟩
 obtain ⟨fe,cf,he,hof,hAt⟩:=hk.e
 obtain ⟨fp,cfp,hep,hop,hPt⟩:=hk.p
 have hcf:=callF hof
 have hcp:=callF hop
 have HR:Hid (∀ W,In M' W→W.cell? ⟨kb,0,none⟩=some (.func (.func fe) #[] cf)∧W.cell? ⟨kb,1,none⟩=some (.func (.func fp) #[] cfp)):=fun W hF=>⟨by rw [←he];exact hF.at (hM _ _ m2) rfl,by rw [←hep];exact hF.at (hM _ _ m2) rfl⟩
 have HQ:Hid (∀ i W,In M' W→W.cell? ⟨rb,0,none⟩=some (.slice (some ⟨rr,0,none⟩) (n+1) c3)∧∀ v,rs[i]?=some v→W.cell? ⟨rr,i,none⟩=some v):=fun i W hF=>⟨hF.at (hM _ _ m3) rfl,fun v hv=>hF.at (hM _ _ m4) hv⟩
 have HK:=hide (And.intro hAt (And.intro hM (And.intro hK (And.intro hr (And.intro hPt (And.intro hj (And.intro hN (And.intro hc2 h100))))))))
 rw [←hT]
 clear hT hs hl hm hI hk hM hK hr hN hc2 h100 m0 m2 m3 m4 hg he hep hAt hPt
 go_enter Tryd.func89,Tryd.ntmps89
 go_wp2
 go_step3
 go_wp2
 go_step3
 go_wp2
 go_loopw [0,9,10,11] (fun v0 v9 v10 v11 wr=>∃ (t f:Nat) (out2:List Int),t≤n∧f≤to_∧v9=.int .i64 t∧v0=.int .i64 f∧Hid (Sx L M' K' R O w g (fun _=>False) wr∧Spn wr g out2∧out2.length=l∧upTo k.a (cnt un L t) f to_=true∧upToS k.a k.s (cnt un L t) f to_ out2=T)) (fun v0 _ _ _ _=>to_-(intOf v0).toNat)
 case atStart=>exact ⟨n,from_,out,by omega,hij,rfl,rfl,HS⟩
 case round =>
  obtain ⟨t,f,out2,ht,hf,rfl,rfl,HX⟩:=hrel
  clear HS m1w
  by_cases hin:f=to_
  ·have HE:Hid (Spn wr g T∧T.length=l∧Sx L M' K' R O w g (fun _=>False) wr):=by
    have h1:=HX.out.2.2.2.2
    have e:upToS k.a k.s (cnt un L t) f to_ out2=out2:=by
     cases cnt un L t with
     | zero=>rfl
     | succ c =>
      show (if f<to_ then _ else out2)=out2
      rw [if_neg (by omega)]
    rw [e] at h1
    rw [←h1]
    exact ⟨HX.out.2.1,HX.out.2.2.1,HX.out.1⟩
   subst hin
   have hnl:¬ (f:Int)<(f:Int):=by omega
   clear HX HR HQ HK hcf hcp
   go_wp2
   (try rw [Exit.noGoto_normal])
   go_end0
   exact ⟨rfl,HE.out⟩
  ·have hft:f<to_:=by omega
   have hfi:(f:Int)<(to_:Int):=by omega
   obtain ⟨q0,q1⟩:=HR.out wr HX.out.1.fz
   obtain ⟨h1,h2,h3,h4,h5⟩:=HX.out
   obtain ⟨y,hy1,hy2,hy3,hy4,hy6,hy5⟩:=more_step un L k.a k.s hft HK.out.2.2.2.2.2.1 h4 h5
   obtain ⟨t2,ht2⟩:∃ t2,t2=t-1:=⟨_,rfl⟩
   rw [←ht2] at hy4 hy5 hy6
   have hmx:(if (t:Int)-1<0 then (0:Int) else (t:Int)-1)=(t2:Int):=by split <;> omega
   have hmx2:(if 0≤(t:Int)-1 then (t:Int)-1 else (0:Int))=(t2:Int):=by split <;> omega
   have hmx3:max ((t:Int)-1) 0=(t2:Int):=by omega
   have hwt:IntKind.i64.wrap ((t:Int)-1)=(t:Int)-1:=by rw [IntKind.wrap_i64];omega
   have ht3:t2≤n:=by omega
   have HY:=hide (And.intro hy3 (And.intro hy4 (And.intro hy5 (And.intro hy6 h3))))
   have HL:=hide (RM.start h1 h2 (HK.out.1 f (by have:=HK.out.2.2.2.2.2.1;omega)) HK.out.2.1 HK.out.2.2.1)
   obtain ⟨E,hE⟩:∃ E,E=pl L k.a f:=⟨_,rfl⟩
   rw [←hE] at HL
   have HEE:=hide hE
   clear hE h1 h2 h3 h4 h5 hy3 hy4 hy5 hy6 HX ht2
   go_wp2_with fail
   refine HL.out.mono ?_
   rintro e w1 ⟨rfl,hRL⟩
   have HPL:=hide hRL
   clear hRL HL q0 q1 hmx hmx2 hmx3 hwt
   unfold psV
   go_wp2
   generalize w1.alloc (.cells #[.int .u64 (E:Nat),.int .u64 0] 62)=W2 at HPL ⊢
   generalize w1.heap.size=B2 at HPL ⊢
   go_loopw [0,11] (fun v0 v11 wx=>∃ e:Nat,v0=.int .i64 f∧v11=.int .i64 e∧y≤e∧e≤to_∧Hid (RM L M' K' R O w g B2 E out2 wx)) (fun _ v _=>(intOf v).toNat)
   case atStart=>exact ⟨_,rfl,rfl,by omega,by omega,HPL⟩
   case round =>
    obtain ⟨en,rfl,rfl,he1,he2,HP2⟩:=hrel
    clear HPL
    have hge:(f:Int)<(en:Int):=by omega
    have h2:=HP2.out
    have c0:=h2.ends.c0
    have c1:=h2.ends.c1
    obtain ⟨b,hb⟩:∃ b,b=(k.a f en && upTo k.a (cnt un L t2) en to_):=⟨_,rfl⟩
    go_upto_region 7 with fail
    go_cut [41] from 29 to 40 (fun v wx=>v=.bool b∧Hid (RM L M' K' R O w g B2 E out2 wx))
    case first =>
     have hTo:to_≤22:=by have:=HK.out.2.2.2.2.2.1;omega
     have hEn:en≤22:=by omega
     obtain ⟨MM,hM9⟩:∃ MM,MM=n+1:=⟨_,rfl⟩
     have hKM:(t2:Int)<(MM:Int):=by omega
     obtain ⟨f2,cf2,hv2,hof2,hAt2⟩:=HK.out.2.2.2.1 t2 ht3
     have hcf2:=callF hof2
     have HF:Hid (∀ wx,RM L M' K' R O w g B2 E out2 wx→wx.cell? ⟨rb,0,none⟩=some (.slice (some ⟨rr,0,none⟩) MM c3)∧wx.cell? ⟨rr,t2,none⟩=some (.func (.func f2) #[] cf2)):=by
      refine hide (fun wx h => ?_)
      have h9:=HQ.out t2 wx h.sx.fz
      rw [hM9]
      exact ⟨h9.1,h9.2 _ hv2⟩
     obtain ⟨X,hX⟩:∃ X,X=pl L (upTo k.a (cnt un L t2)) en:=⟨_,rfl⟩
     have hXlt:X<18446744073709551616:=by rw [hX];exact pl_64 hL _ _
     have hElt:E<18446744073709551616:=by rw [HEE.out];exact pl_64 hL _ _
     have hEb:E.testBit en=k.a f en:=by rw [HEE.out,bit_pl];simp;intro _;have:=HK.out.2.2.2.2.2.1;omega
     have hXb:X.testBit to_=upTo k.a (cnt un L t2) en to_:=by rw [hX,bit_pl];simp;intro _;exact HK.out.2.2.2.2.2.1
     have HHt:Hid (∀ wx,RM L M' K' R O w g B2 E out2 wx→Calls Tryd.prog 23 #[.agg #[.int .u64 (X:Nat),.int .u64 0],.int .i64 (to_:Nat)] wx fun r w'=>r=.returned (.bool (X.testBit to_))∧RM L M' K' R O w g B2 E out2 w'):=hide (fun wx h=>(has_any wx X to_ hTo hXlt).mono (by rintro r w' ⟨h1,h2⟩;exact ⟨h1,h.below h2⟩))
     have HA:Hid (∀ wx,RM L M' K' R O w g B2 E out2 wx→Calls Tryd.prog f2 (#[.int .i64 (en:Nat)]++cf2) wx fun e w'=>e=.returned (.agg #[.int .u64 (X:Nat),.int .u64 0])∧RM L M' K' R O w g B2 E out2 w'):=hide (fun wx h=>by
      have h9:=h.ask (hAt2 en (by have:=HK.out.2.2.2.2.2.1;omega)) HK.out.2.1 HK.out.2.2.1
      rw [←hX] at h9
      exact h9)
     rw [hXb] at HHt
     have HHe:Hid (∀ wx,RM L M' K' R O w g B2 E out2 wx→Calls Tryd.prog 23 #[.agg #[.int .u64 (E:Nat),.int .u64 0],.int .i64 (en:Nat)] wx fun r w'=>r=.returned (.bool (k.a f en))∧RM L M' K' R O w g B2 E out2 w'):=hide (fun wx h=>(has_any wx E en hEn hElt).mono (by rintro r w' ⟨h1,h2⟩;rw [hEb] at h1;exact ⟨h1,h.below h2⟩))
     clear hX hEb hXb hM9 hv2 hof2 hAt2 HY HQ HR HEE HK
     generalize k.a f en=b1 at hb HHe
     generalize upTo k.a (cnt un L t2) en to_=b2 at hb HHt
     cases b1 with
     | false =>
      clear HA HHt
      go_wp2_with (go_at_call 23;with_reducible (refine (HHe.out _ ?_).mono ?_);exact h2;rintro e w3 ⟨rfl,h3⟩;have H3:=hide h3)
      go_meet
      exact ⟨by rw [hb];rfl,H3⟩
     | true =>
      rw [Bool.true_and] at hb
      go_wp2_with (first | (go_at_call 23;with_reducible (refine (HHt.out _ ?_).mono ?_);exact h4;rintro e w5 ⟨rfl,h5⟩;have H5:=hide h5) | (go_at_call 23;with_reducible (refine (HHe.out _ ?_).mono ?_);exact h2;rintro e w3 ⟨rfl,h3⟩;obtain ⟨r1,r2⟩:=HF.out _ h3) | (with_reducible (refine (HA.out _ ?_).mono ?_);exact h3;rintro e w4 ⟨rfl,h4⟩))
      go_meet
      exact ⟨by rw [hb],H5⟩
    case rest =>
     obtain ⟨rfl,HC⟩:=hcut
     clear HP2 h2 c0 c1
     by_cases hey:en=y
     ·subst hey
      have hb2:b=true:=by rw [hb,HY.out.1,HY.out.2.1];rfl
      subst hb2
      clear hb
      obtain ⟨_,k1⟩:=HR.out wc HC.out.sx.fz
      have HZ:=hide (HC.out.part HK.out.2.2.2.2.1 HK.out.2.1 HK.out.2.2.1 (by omega) (by have:=HK.out.2.2.2.2.2.1;omega) HY.out.1 HY.out.2.2.2.2 HK.out.2.2.2.2.2.2.1 HK.out.2.2.2.2.2.2.2.1 HK.out.2.2.2.2.2.2.2.2)
      go_wp2_with fail
      refine HZ.out.mono ?_
      rintro e w6 ⟨rfl,z1,z2,z3⟩
      have HN:Hid (Sx L M' K' R O w g (fun _=>False) w6∧Spn w6 g (k.s f en out2)∧(k.s f en out2).length=l∧upTo k.a (cnt un L t2) en to_=true∧upToS k.a k.s (cnt un L t2) en to_ (k.s f en out2)=T):=⟨z3,z1,z2,HY.out.2.1,HY.out.2.2.2.1⟩
      clear z1 z2 z3 HZ HC k1
      go_wp2
      exact ⟨⟨t2,en,_,ht3,by omega,rfl,rfl,HN⟩,by simp [intOf];omega⟩
     ·have hb2:b=false:=by rw [hb];exact HY.out.2.2.1 en (by omega) (by omega)
      subst hb2
      go_wp2
      go_roundw
      case rel=>exact ⟨en-1,rfl,by go_num,by omega,by omega,HC⟩
      case measure=>simp [intOf];omega
end Go.Proofs.YtfhimmnoipfiaaaDoor.eng
namespace Go.Proofs.YtfhimmnoipfiaaaDoor.eng
open Go.ChangeShapes Go.WideShapes Go.ChangeAt Go.RowKit
open bytes places sets tz rex
attribute [local go_sem] Oper.semAt_some
set_option maxHeartbeats 1000000 in
theorem once_call (w:World) (tb kb f:Nat) (S:ByteArray) (cs:Array Value) (h:w.cell? ⟨tb,0,none⟩=some (.string S)) :
  Calls Tryd.prog 97 #[.func (.func f) #[] cs,.pointer (some ⟨tb,0,none⟩),.pointer (some ⟨kb,0,none⟩)] w fun e w'=>e=.returned (knV (w.heap.size+1))∧w'=knW (w.alloc (.cells #[.func (.func f) #[] cs] 46)) S (.func 98) #[.pointer (some ⟨kb,0,none⟩),.pointer (some ⟨w.heap.size,0,none⟩)]:=by
 have hmf:=mf
 have hl:=cell_lt h
 have h2:(w.alloc (.cells #[.func (.func f) #[] cs] 46)).cell? ⟨tb,0,none⟩=some (.string S):=(World.cell?_of_block (a:=⟨tb,0,none⟩) (Below.heap_alloc _ _ _ hl)).trans h
 have HC:=hide (known_call (w.alloc (.cells #[.func (.func f) #[] cs] 46)) S (.func 98) #[.pointer (some ⟨kb,0,none⟩),.pointer (some ⟨w.heap.size,0,none⟩)])
 rw [World.size_alloc] at HC
 go_enter Tryd.func97,Tryd.ntmps97
 go_wp2_with (go_at_call 65;refine HC.out.mono ?_;rintro e w' ⟨rfl,rfl⟩)
 go_ret
 exact ⟨rfl,rfl⟩
section
variable {L:Nat} {M:Fz} {K:Ks} {R0 R:Rs} {O0 O:Lb} {w0 W W':World}
theorem St.grown (h:St L M K R0 O0 w0 R O W) {g:Nat} (hg:W.grownBy W' (some g)) (ho:O g=none) (hl:w0.heap.size≤g):St L M K R0 O0 w0 R O W' :=
 St.of (h.inv.keep hg.size fun b hb=>hg.block b (h.inv.lt b hb) (fun e=>by simp only [Option.some.injEq] at e;subst e;exact hb ho))
  ⟨hg.os.trans h.os,hg.tape.trans h.tape,hg.output.trans h.output,Nat.le_trans h.size hg.size,fun b hb hO=>(hg.block b (by have:=h.size;omega) (fun e=>by simp only [Option.some.injEq] at e;omega)).trans (h.same b hb hO),h.lab,h.rows⟩
def LeftAt (L:Nat) (M:Fz) (K:Ks) (a:B2) (un:Bool) (vs:List Value) (t:Nat):Prop:=∀ i,i≤t→∃ f cf,vs[i]?=some (.func (.func f) #[] cf)∧OkF f∧∀ q,q≤L→At L M K f cf q (pl L (upTo a (cnt un L i)) q)
theorem St.once (h:St L M K R0 O0 w0 R O W) (hf:Few K R) (hL:L≤22) {S:ByteArray} (hS:S.size=L) {kb f1:Nat} {c1:Array Value} {vp:Value} {a:B2} (ha:Mono a) (ho1:OkF f1) (m1:M kb=some (.cells #[.func (.func f1) #[] c1,vp] 49 (0,0))) (h1:∀ p,p≤L→At L M K f1 c1 p (pl L a p)) (f2:Nat) (c2:Array Value) (ho2:OkF f2) (c:Nat) :
  ∃ M' K' O',FLe M M'∧KLe K K'∧St L M' K' R0 O0 w0 R O' (knW (W.alloc (.cells #[.func (.func f2) #[] c2] 46)) S (.func 98) #[.pointer (some ⟨kb,0,none⟩),.pointer (some ⟨W.heap.size,0,none⟩)])∧Few K' R∧(∀ b,b<W.heap.size→O' b=O b)∧O' (W.heap.size+5)=none ∧
   ∀ M2 K2 p,FLe M' M2→KLe K' K2→p≤L→(∀ q,p<q→q≤L→At L M2 K2 f2 c2 q (pl L (upTo a c) q))→pl L (upTo a (c+1)) p=pl L (upTo a (if c=L then L else c+1)) p→At L M2 K2 86 #[.pointer (some ⟨W.heap.size+1+2,0,none⟩),.pointer (some ⟨W.heap.size+1,0,none⟩),.pointer (some ⟨W.heap.size+1+3,0,none⟩),.pointer (some ⟨W.heap.size+1+1,0,none⟩)] p (pl L (upTo a (if c=L then L else c+1)) p):=by
 have h0:=h.alloc (.cells #[.func (.func f2) #[] c2] 46)
 have o0:O W.heap.size=none:=h.fresh (Nat.le_refl _)
 obtain ⟨M1,e1,e2,e3⟩:=h0.fz' (b:=W.heap.size) h.size (heap_alloc_new W _) o0
 obtain ⟨M',K',O',k,g1,g2,g3,g4,g5,g6,g7,g8⟩:=e3.known hf S 98 #[.pointer (some ⟨kb,0,none⟩),.pointer (some ⟨W.heap.size,0,none⟩)] (pl L (upTo a (if c=L then L else c+1)))
 rw [World.size_alloc] at g5 g6 g7 g8
 have l:=e1.trans g1
 refine ⟨M',K',O',l,g2,g3,g4,fun b hb=>(g8 b (by omega)).trans (up_ne _ _ (by omega)),g3.inv.fresh (by rw [(knW_facts _ _ _ _).2.1,World.size_alloc];omega),fun M2 K2 p hM2 hK2 hp hq he => ?_⟩
 refine knV_at hL hp hS (hM2 _ _ g5) (hM2 _ _ g6) (hK2 _ _ g7) ⟨_,Tryd.func98,by kernel_rfl,by kernel_rfl⟩ rfl ?_
 rw [←he]
 exact ask_more L M2 K2 kb W.heap.size f1 f2 c1 c2 vp a c p hL hp ha ho1 ho2 ((l.trans hM2) _ _ m1) ((g1.trans hM2) _ _ e2) ((h1 p hp).up (l.trans hM2) (g2.trans hK2)) hq
end
theorem OkF100:OkF 100:=⟨_,Tryd.func100,by kernel_rfl,by kernel_rfl⟩
theorem size46:(Tryd.prog.info? 46).map (fun i=>(i.zero,i.size,i.bytes))=some (some .nilFunc,1,8):=by kernel_rfl
def LeftMade (L:Nat) (M:Fz) (K:Ks) (R:Rs) (O:Lb) (w:World) (a:B2) (un:Bool) (n:Nat) (e:Ending) (w':World):Prop :=
 ∃ rr cap,e=.returned (.slice (some ⟨rr,0,none⟩) (n+1) cap)∧Made L M K R O w w' fun M' K'=>∃ cs:Array Value,M' rr=some (.cells cs 46 (0,0))∧LeftAt L M' K' a un cs.toList n
structure LR (L:Nat) (M:Fz) (K:Ks) (R0:Rs) (O0:Lb) (w0:World) (a:B2) (tb kb:Nat) (S:ByteArray) (kv:Array Value) (t g cap:Nat) (W:World):Prop where
 ex:∃ M' K' R O vs,FLe M M'∧KLe K K'∧St L M' K' R0 O0 w0 R O W∧Few K' R∧W.ownsRow w0.heap.size 46 1 (.slice (some ⟨g,0,none⟩) (t+1) cap) (t+1) vs∧O g=none∧LeftAt L M' K' a false vs t∧M' tb=some (.cells #[.string S] 9 (0,0))∧M' kb=some (.cells kv 49 (0,0))
section
variable {L:Nat} {M:Fz} {K:Ks} {R0:Rs} {O0:Lb} {w0 W:World} {a:B2} {tb kb t g cap f1:Nat} {S:ByteArray} {c1:Array Value} {vp:Value}
theorem LR.facts (h:LR L M K R0 O0 w0 a tb kb S #[.func (.func f1) #[] c1,vp] t g cap W):W.cell? ⟨tb,0,none⟩=some (.string S)∧g<W.heap.size∧w0.heap.size≤g∧∃ f cf,OkF f∧W.cell? ⟨g,t,none⟩=some (.func (.func f) #[] cf):=by
 obtain ⟨M',K',R,O,vs,h1,h2,h3,h4,h5,h6,h7,h8,h9⟩:=h.ex
 obtain ⟨f,cf,hv,ho,_⟩:=h7 t (Nat.le_refl _)
 have hlt:=h5.lt g rfl
 exact ⟨h3.inv.fz.at h8 rfl,hlt.2,hlt.1,f,cf,ho,by rw [h5.cellAt t (by omega)];exact hv⟩
theorem LR.step (h:LR L M K R0 O0 w0 a tb kb S #[.func (.func f1) #[] c1,vp] t g cap W) (hL:L≤22) (hS:S.size=L) (ha:Mono a) (ho1:OkF f1) (h1:∀ p,p≤L→At L M K f1 c1 p (pl L a p)) {f:Nat} {cf:Array Value} (hcf:W.cell? ⟨g,t,none⟩=some (.func (.func f) #[] cf)) (ht:t≠L∨True) :
  ∃ W2,W2=(knW (W.alloc (.cells #[.func (.func f) #[] cf] 46)) S (.func 98) #[.pointer (some ⟨kb,0,none⟩),.pointer (some ⟨W.heap.size,0,none⟩)]).alloc (.cells #[knV (W.heap.size+1)] 46)∧W2.heap.size=W.heap.size+6∧W2.heap[W.heap.size+5]?=some (.cells #[knV (W.heap.size+1)] 46 (0,0))∧(∃ xs,W2.ownsRow w0.heap.size 46 1 (.slice (some ⟨g,0,none⟩) (t+1) cap) (t+1) xs ∧
   ∀ g' cap' W3,W3.ownsRow w0.heap.size 46 1 (.slice (some ⟨g',0,none⟩) (t+1+1) cap') (t+1+1) (xs++[knV (W.heap.size+1)])→W2.grownBy W3 (some g)→(some g=some g'∨g'=W2.heap.size)→LR L M K R0 O0 w0 a tb kb S #[.func (.func f1) #[] c1,vp] (t+1) g' cap' W3):=by
 obtain ⟨M',K',R,O,vs,e1,e2,e3,e4,e5,e6,e7,e8,e9⟩:=h.ex
 obtain ⟨f',cf',hv,ho,hA⟩:=e7 t (Nat.le_refl _)
 have hff:f'=f∧cf'=cf:=by
  rw [e5.cellAt t (by omega),hv] at hcf
  simp only [Option.some.injEq,Value.func.injEq,Fn.func.injEq,true_and] at hcf
  exact hcf
 obtain ⟨rfl,rfl⟩:=hff
 have hglt:=(e5.lt g rfl).2
 obtain ⟨M2,K2,O2,g1,g2,g3,g4,g5,g6,g7⟩:=e3.once e4 hL hS ha ho1 e9 (fun p hp=>(h1 p hp).up e1 e2) f' cf' ho t
 obtain ⟨q1,q2,_⟩:=knW_facts (W.alloc (.cells #[.func (.func f') #[] cf'] 46)) S (.func 98) #[.pointer (some ⟨kb,0,none⟩),.pointer (some ⟨W.heap.size,0,none⟩)]
 rw [World.size_alloc] at q1 q2
 have hb2:(knW (W.alloc (.cells #[.func (.func f') #[] cf'] 46)) S (.func 98) #[.pointer (some ⟨kb,0,none⟩),.pointer (some ⟨W.heap.size,0,none⟩)]).heap[g]?=W.heap[g]? := (q1 g (by omega)).trans (Below.heap_alloc _ _ _ hglt)
 generalize knW (W.alloc (.cells #[.func (.func f') #[] cf'] 46)) S (.func 98) #[.pointer (some ⟨kb,0,none⟩),.pointer (some ⟨W.heap.size,0,none⟩)]=Wk at *
 have q2':Wk.heap.size=W.heap.size+5:=by omega
 have hnew:=heap_alloc_new Wk (.cells #[knV (W.heap.size+1)] 46)
 rw [q2'] at hnew
 have g3':=g3.alloc (.cells #[knV (W.heap.size+1)] 46)
 refine ⟨_,rfl,by simp [q2'],hnew,vs,?_,fun g' cap' W3 r1 r2 r3 => ?_⟩
 ·refine ⟨e5.1,?_⟩
  rcases e5.2 with ⟨h0,_⟩|⟨g0,cap0,cur,z1,z2,z3,z4⟩
  ·cases h0
  ·refine .inr ⟨g0,cap0,cur,z1,z2,?_,z4⟩
   have:g0=g:=by simp at z1;exact z1.1.symm
   subst this
   exact (Below.heap_alloc _ _ _ (by omega)).trans (hb2.trans z3)
 ·have hOg:O2 g=none:=(g5 g hglt).trans e6
  have hS3:=g3'.grown r2 hOg (e5.lt g rfl).1
  have hlen:vs.length=t+1:=by rw [e5.1];omega
  refine ⟨M2,K2,R,O2,vs++[knV (W.heap.size+1)],e1.trans g1,e2.trans g2,hS3,g4,r1,?_,fun i hi => ?_,g1 _ _ e8,g1 _ _ e9⟩
  ·rcases r3 with r3 | r3
   ·simp only [Option.some.injEq] at r3
    rw [←r3];exact hOg
   ·rw [r3]
    exact g3'.fresh (Nat.le_refl _)
  ·by_cases hit:i≤t
   ·obtain ⟨f,cf,x1,x2,x3⟩:=e7 i hit
    exact ⟨f,cf,by rw [List.getElem?_append_left (by omega)];exact x1,x2,fun q hq=>(x3 q hq).up g1 g2⟩
   ·have hie:i=t+1:=by omega
    subst hie
    refine ⟨86,#[.pointer (some ⟨W.heap.size+1+2,0,none⟩),.pointer (some ⟨W.heap.size+1,0,none⟩),.pointer (some ⟨W.heap.size+1+3,0,none⟩),.pointer (some ⟨W.heap.size+1+1,0,none⟩)],by rw [List.getElem?_append_right (by omega),hlen,Nat.sub_self];rfl,OkF86,fun q hq => ?_⟩
    have hx:=g7 M2 K2 q (FLe.refl _) (KLe.refl _) hq (fun q' _ hq'=>(hA q' hq').up g1 g2)
    have hy:pl L (upTo a (t+1)) q=pl L (upTo a (if t=L then L else t+1)) q:=by
     by_cases c:t=L
     ·rw [if_pos c];exact pl_upTo (by omega) (by omega)
     ·rw [if_neg c]
    have hz:=hx hy
    rw [←hy] at hz
    exact hz
end
end Go.Proofs.YtfhimmnoipfiaaaDoor.eng
namespace Go.Proofs.YtfhimmnoipfiaaaDoor.eng
open Go.ChangeShapes Go.WideShapes Go.ChangeAt Go.RowKit
open bytes places sets tz rex
attribute [local go_sem] Oper.semAt_some
set_option maxRecDepth 20000 in
set_option maxHeartbeats 8000000 in
theorem left_mk (L N:Nat) (M:Fz) (K:Ks) (R:Rs) (O:Lb) (w:World) (S:ByteArray) (k:Kd) (n m:Nat) (k9:Int) (ss:ByteArray) (kv:Value) (hI:Inv L M K R O w) (hf:Few K R) (hL:L≤22) (hS:S.size=L) (hk:KdOK L M K N k) (hnm:n≤m) (hm:m≤300) :
  Calls Tryd.prog 88 #[.agg #[.int .i64 k9,.int .i64 (n:Int),.int .i64 (m:Int),.string ss,kv],.agg #[k.ve,k.vp],.string S] w (LeftMade L M K R O w k.a false (m-n)):=by
 have hmf:=mf
 obtain ⟨fe,cf,he,hof,hAt⟩:=hk.e
 obtain ⟨fp,cfp,hep,hop,hPt⟩:=hk.p
 obtain ⟨i0,hi0,hz0,hs0,hb0⟩:=info_parts size46
 rw [he,hep]
 obtain ⟨d,hd⟩:∃ d,d=m-n:=⟨_,rfl⟩
 rw [←hd]
 have hdI:IntKind.i64.wrap ((m:Int)-(n:Int))=(d:Int):=by rw [IntKind.wrap_i64];omega
 have hd300:d≤300:=by omega
 have hne:¬ (m:Int) = -1:=by omega
 have hne2:((m:Int) == -1)=false:=by simp <;> omega
 obtain ⟨W0,hW0⟩:∃ W0,(((w.alloc (.cells #[.int .i64 k9,.int .i64 (n:Int),.int .i64 (m:Int),.string ss,kv] 25)).alloc (.cells #[.func (.func fe) #[] cf,.func (.func fp) #[] cfp] 49)).alloc (.cells #[.string S] 9)).alloc (.cells #[.func (.func 63) #[] #[]] 46)=W0:=⟨_,rfl⟩
 have hz:W0.heap.size=w.heap.size+4:=by rw [←hW0];simp
 have b0:W0.heap[w.heap.size]?=some (.cells #[.int .i64 k9,.int .i64 (n:Int),.int .i64 (m:Int),.string ss,kv] 25 (0,0)):=by
  rw [←hW0,Below.heap_alloc _ _ _ (by simp;omega),Below.heap_alloc _ _ _ (by simp;omega),Below.heap_alloc _ _ _ (by simp)]
  exact heap_alloc_new w _
 have p1:W0.cell? ⟨w.heap.size,1,none⟩=some (.int .i64 (n:Int)):=by simp [World.cell?,b0]
 have p2:W0.cell? ⟨w.heap.size,2,none⟩=some (.int .i64 (m:Int)):=by simp [World.cell?,b0]
 have HL:Hid (LR L M K R O w k.a (w.heap.size+2) (w.heap.size+1) S #[.func (.func fe) #[] cf,.func (.func fp) #[] cfp] 0 (w.heap.size+3) 1 W0):=by
  have hB:Below w.heap.size w W0:=by
   rw [←hW0]
   exact ((((Below.refl _ _).alloc (Nat.le_refl _) _).alloc (by simp) _).alloc (by simp;omega) _).alloc (by simp;omega) _
  have a1:∀ (V:World) (o:Obj) (m:Nat),V.heap.size=m→(V.alloc o).heap[m]?=some o:=fun V o m h=>by subst h;exact heap_alloc_new V o
  have b2:W0.heap[w.heap.size+1]?=some (.cells #[.func (.func fe) #[] cf,.func (.func fp) #[] cfp] 49 (0,0)):=by
   rw [←hW0,Below.heap_alloc _ _ _ (by simp),Below.heap_alloc _ _ _ (by simp)]
   exact a1 _ _ _ (by simp)
  have b3:W0.heap[w.heap.size+2]?=some (.cells #[.string S] 9 (0,0)):=by
   rw [←hW0,Below.heap_alloc _ _ _ (by simp)]
   exact a1 _ _ _ (by simp)
  have b4:W0.heap[w.heap.size+3]?=some (.cells #[.func (.func 63) #[] #[]] 46 (0,0)):=by
   rw [←hW0]
   exact a1 _ _ _ (by simp)
  have h0:=(St.refl hI).below hB
  obtain ⟨M2,e1,e2,e3⟩:=h0.fz' (b:=w.heap.size+1) (by omega) b2 (hI.fresh (by omega))
  obtain ⟨M3,i1,i2,i3⟩:=e3.fz' (b:=w.heap.size+2) (by omega) b3 (by rw [up_ne _ _ (by omega)];exact hI.fresh (by omega))
  refine hide ⟨M3,K,R,_,[.func (.func 63) #[] #[]],e1.trans i1,KLe.refl _,i3,hf,⟨rfl,.inr ⟨w.heap.size+3,1,_,rfl,by omega,b4,by omega,by unfold maxLen;omega,rfl,rfl⟩⟩,by rw [up_ne _ _ (by omega),up_ne _ _ (by omega)];exact hI.fresh (by omega),fun i hi => ?_,i2,i1 _ _ e2⟩
  obtain rfl:i=0:=by omega
  refine ⟨63,#[],rfl,OkF63,fun q hq => ?_⟩
  show At L M3 K 63 #[] q (pl L emptyB q)
  rw [pl_empty hq]
  exact (only_qu M3 q (by omega)).at
 have HK:=hide (And.intro hL (And.intro hS (And.intro hk.mono (And.intro hof (And.intro hAt (And.intro hi0 (And.intro hz0 (And.intro hs0 hb0))))))))
 clear hI hf hk hAt hPt he hep hop hi0 hz0 hs0 hb0 hL hS hof hd b0 hz hnm hm
 go_enter Tryd.func88,Tryd.ntmps88
 go_wp2
 (try rw [hW0])
 clear hW0 p1 p2
 go_loopw [9,10,26] (fun v9 v10 v26 wr=>∃ t g cap:Nat,t≤d∧v26=.int .i64 t∧v9=.slice (some ⟨g,0,none⟩) (t+1) cap∧Hid (LR L M K R O w k.a (w.heap.size+2) (w.heap.size+1) S #[.func (.func fe) #[] cf,.func (.func fp) #[] cfp] t g cap wr)) (fun _ _ v26 _=>d-(intOf v26).toNat)
 case atStart=>exact ⟨0,w.heap.size+3,1,by omega,rfl,rfl,HL⟩
 case round =>
  obtain ⟨t,g,cap,ht,rfl,rfl,HX⟩:=hrel
  clear HL
  by_cases htd:t<d
  ·have hti:(t:Int)<(d:Int):=by omega
   have htw:IntKind.i64.wrap ((t:Int)+1)=((t+1:Nat):Int):=by rw [IntKind.wrap_i64];omega
   obtain ⟨c1,hg1,hg2,f,cf2,ho2,c2⟩:=HX.out.facts
   have ht2:(t:Int)<((t+1:Nat):Int):=by omega
   have ht3:(t:Int)<(t:Int)+1:=by omega
   obtain ⟨W2,hW2,hz2,hb2,xs,hown,hnext⟩:=HX.out.step HK.out.1 HK.out.2.1 HK.out.2.2.1 HK.out.2.2.2.1 HK.out.2.2.2.2.1 c2 (.inr trivial)
   have HC:=hide (once_call wr (w.heap.size+2) (w.heap.size+1) f S cf2 c1)
   obtain ⟨Wk,hWk⟩:∃ Wk,knW (wr.alloc (.cells #[.func (.func f) #[] cf2] 46)) S (.func 98) #[.pointer (some ⟨w.heap.size+1,0,none⟩),.pointer (some ⟨wr.heap.size,0,none⟩)]=Wk:=⟨_,rfl⟩
   rw [hWk] at HC hW2
   subst hW2
   have HN:=hide hnext
   have HO:=hide hown
   have hzk:Wk.heap.size=wr.heap.size+5:=by have:=hz2;simp at this;omega
   have hws:w.heap.size≤Wk.heap.size:=by omega
   have HZ:=hide hzk
   clear hnext hown hz2 hb2 hWk hzk HX
   unfold knV at HC HN HO
   go_wp2_with (first
    | (go_at_call 97;refine HC.out.mono ?_;rintro e w' ⟨rfl,h9⟩;subst h9)
    | (at_builtin;refine wpList_append_lies _ rfl _ _ 104 rfl w.heap.size 46 i0 .nilFunc 1 8 Tryd.underlying104 HK.out.2.2.2.2.2.1 HK.out.2.2.2.2.2.2.1 HK.out.2.2.2.2.2.2.2.1 HK.out.2.2.2.2.2.2.2.2 rfl (by decide) _ (t+1) xs rfl HO.out ⟨_,0,none⟩ 1 1 [_] rfl rfl (World.news_of_block (heap_alloc_new _ _)) (by simp [Value.oneCell']) (by decide) (by unfold maxLen;omega) (by omega) (by simp;omega) _ (World.size_alloc ..) ?_;intro g2 cap2 w2 h1 h2 h3 h4))
   have HR:=hide (HN.out g2 cap2 w2 h1 h2 (by rcases h3 with h3 | h3;exact .inl h3;exact .inr (by simp;omega)))
   clear h1 h2 h3 HN HO HC
   go_roundw
   case rel=>exact ⟨t+1,g2,cap2,by omega,by simp,rfl,HR⟩
   case measure=>simp [intOf];omega
  ·obtain rfl:t=d:=by omega
   have hlt:¬ (t:Int)<(t:Int):=by omega
   have HE:Hid (Made L M K R O w wr fun M' K'=>∃ cs:Array Value,M' g=some (.cells cs 46 (0,0))∧LeftAt L M' K' k.a false cs.toList t):=by
    obtain ⟨M',K',R2,O2,vs,e1,e2,e3,e4,e5,e6,e7,e8,e9⟩:=HX.out.ex
    rcases e5.2 with ⟨h0,_⟩|⟨g0,cap0,cur,z1,z2,z3,z4,z5,z6,z7⟩
    ·cases h0
    ·have hgg:g0=g:=by simp at z1;exact z1.1.symm
     subst hgg
     obtain ⟨M2,i1,i2,i3⟩:=e3.fz' (b:=g0) z2 z3 e6
     refine ⟨M2,K',R2,_,e1.trans i1,e2,i3,e4,cur,i2,fun i hi => ?_⟩
     obtain ⟨f,cf2,x1,x2,x3⟩:=e7 i hi
     refine ⟨f,cf2,?_,x2,fun q hq=>(x3 q hq).up i1 (KLe.refl _)⟩
     rw [←z7,List.getElem?_take_of_lt (by omega)] at x1
     exact x1
   clear HX HK
   go_wp2
   go_ret
   exact ⟨g,cap,rfl,HE.out⟩
end Go.Proofs.YtfhimmnoipfiaaaDoor.eng
namespace Go.Proofs.YtfhimmnoipfiaaaDoor.eng
open Go.ChangeShapes Go.WideShapes Go.ChangeAt Go.RowKit
open bytes places sets tz rex
theorem orLS_at (f j:Nat) (out:List Int):∀ (ks:List Kd) (i:Nat) (k:Kd),ks[i]?=some k→k.a f j=true→(∀ (i':Nat),i'<i→∀ (y:Kd),ks[i']?=some y→y.a f j=false)→orLS (prs ks) f j out=k.s f j out
 | [],i,k,h,_,_=>by simp at h
 | x::ks,0,k,h,h1,_=>by
  simp only [List.getElem?_cons_zero,Option.some.injEq] at h
  subst h
  show orLS ((x.a,x.s)::prs ks) f j out=_
  simp only [orLS,h1,if_true]
 | x::ks,i+1,k,h,h1,h2=>by
  have hx:=h2 0 (by omega) x rfl
  have ih:=orLS_at f j out ks i k (by simpa using h) h1 (fun i' hi' y hy=>h2 (i'+1) (by omega) y (by simpa using hy))
  show orLS ((x.a,x.s)::prs ks) f j out=_
  simp only [orLS,hx]
  exact ih
theorem orL_none (f j:Nat):∀ (ks:List Kd),(∀ (i:Nat) (y:Kd),ks[i]?=some y→y.a f j=false)→orL (ends ks) f j=false
 | [],_=>rfl
 | x::ks,h=>by
  have hx:=h 0 x rfl
  have ih:=orL_none f j ks (fun i y hy=>h (i+1) y (by simpa using hy))
  show (x.a f j || orL (ends ks) f j)=false
  rw [hx,ih];rfl
structure RA (L:Nat) (M:Fz) (K:Ks) (R0:Rs) (O0:Lb) (w0:World) (g G:Nat) (vs:Array Value) (out:List Int) (W:World):Prop where
 sx:Sx L M K R0 O0 w0 g (fun b=>b=G) W
 kid:W.heap[G]?=some (.cells vs 49 (0,0))
 spn:Spn W g out
section
variable {L:Nat} {M:Fz} {K:Ks} {R0:Rs} {O0:Lb} {w0 W W':World} {g G:Nat} {vs:Array Value} {out:List Int}
theorem RA.below (h:RA L M K R0 O0 w0 g G vs out W) (hb:Below W.heap.size W W'):RA L M K R0 O0 w0 g G vs out W' :=
 ⟨h.sx.below h.spn.lt hb,(hb.block _ (h.sx.lt rfl).2.1).trans h.kid,h.spn.same (hb.block _ h.spn.lt)⟩
theorem RA.start (h:Sx L M K R0 O0 w0 g (fun _=>False) W) (hs:Spn W g out) (vs:Array Value) {M0:Fz} {K0:Ks} {f:Nat} {cs:Array Value} {p X:Nat} (ha:At L M0 K0 f cs p X) (hM:FLe M0 M) (hK:KLe K0 K) :
  Calls Tryd.prog f (#[.int .i64 (p:Int)]++cs) (W.alloc (.cells vs 49)) fun e w'=>e=.returned (psV X)∧RA L M K R0 O0 w0 g W.heap.size vs out w':=by
 have hlt:=hs.lt
 have hb:=(Below.refl W.heap.size W).alloc (Nat.le_refl _) (.cells vs 49)
 have h1:Sx L M K R0 O0 w0 g (fun b=>b=W.heap.size) (W.alloc (.cells vs 49)):=h.join hlt hb (fun b hb=>.inr (by simp;omega))
 refine (h1.ask (by simp;omega) ha hM hK).mono ?_
 rintro e w' ⟨k1,k2,k3,k4⟩
 exact ⟨k1,k2,(k3 _ (.inl rfl)).trans (heap_alloc_new W _),hs.same ((k3 _ (.inr rfl)).trans (hb.block _ hlt))⟩
end
set_option maxRecDepth 20000 in
set_option maxHeartbeats 8000000 in
theorem alt_pt (L:Nat) (M:Fz) (K:Ks) (N kb kr n c:Nat) (ks:List Kd) (cs:Array Value) (hn:ks.length=n) (hn1:n≤1000) (hL:L≤22)
  (m1:M kb=some (.cells #[.slice (some ⟨kr,0,none⟩) n c] 88 (0,0))) (m2:M kr=some (.cells cs 49 (0,0))) (hc:∀ (i:Nat) (v:Value),(rowOf ks)[i]?=some v→cs[i]?=some v) (hk:∀ k∈ks,KdOK L M K N k) :
  Pt L M K 71 #[.pointer (some ⟨kb,0,none⟩)] (orL (ends ks)) (orLS (prs ks)) N:=by
 intro M' K' R O w hM hK hI from_ to_ g l c2 out hij hj hm hg hs hl hN hc2 h100
 have m1w:w.cell? ⟨kb,0,none⟩=some (.slice (some ⟨kr,0,none⟩) n c):=hI.fz.at (hM _ _ m1) rfl
 have HS:Hid (Sx L M' K' R O w g (fun _=>False) w∧Spn w g out):=⟨Sx.start hI hg hs.lt (Below.refl _ _) (fun b h=>h.elim),hs⟩
 have HR:Hid (∀ i k,ks[i]?=some k→∀ W,In M' W→W.cell? ⟨kr,i*2,none⟩=some k.ve∧W.cell? ⟨kr,i*2+1,none⟩=some k.vp):=fun i k hi W hF=>⟨hF.at (hM _ _ m2) (hc _ _ (rowOf_get ks i k hi).1),hF.at (hM _ _ m2) (hc _ _ (rowOf_get ks i k hi).2)⟩
 obtain ⟨T,hT⟩:∃ T,T=orLS (prs ks) from_ to_ out:=⟨_,rfl⟩
 rw [←hT]
 have HTT:=hide hT
 clear hT
 have HK:=hide (And.intro hk (And.intro hM (And.intro hK (And.intro hn (And.intro hj (And.intro hN (And.intro hc2 (And.intro h100 (And.intro hm hl)))))))))
 clear hs hl hm hI hk hM hK hn hN hc2 h100 m1 m2 hc hg
 go_enter Tryd.func71,Tryd.ntmps71
 go_wp2
 go_loopw [8,11] (fun v8 v11 wr=>∃ i:Nat,i≤n∧v11=.int .i64 i∧Hid (Sx L M' K' R O w g (fun _=>False) wr∧Spn wr g out∧∀ i',i'<i→∀ y,ks[i']?=some y→y.a from_ to_=false)) (fun _ v11 _=>n-(intOf v11).toNat)
 case atStart=>exact ⟨0,by omega,rfl,HS.out.1,HS.out.2,fun i' h=>by omega⟩
 case round =>
  obtain ⟨i,hi,rfl,HX⟩:=hrel
  clear HS m1w
  by_cases hin:i=n
  ·exfalso
   have:=orL_none from_ to_ ks (fun i' y hy=>HX.out.2.2 i' (by have:=(List.getElem?_eq_some_iff.1 hy).1;have:=HK.out.2.2.2.1;omega) y hy)
   rw [HK.out.2.2.2.2.2.2.2.2.1] at this
   cases this
  ·have hin':i<n:=by omega
   have hiI:(i:Int)<(n:Int):=by omega
   have hiw:IntKind.i64.wrap ((i:Int)+1)=((i+1:Nat):Int):=by rw [IntKind.wrap_i64];omega
   obtain ⟨k,hk⟩:∃ k,ks[i]?=some k:=⟨_,List.getElem?_eq_getElem (by have:=HK.out.2.2.2.1;omega)⟩
   obtain ⟨fe,cf,he,hof,hAt⟩:=(HK.out.1 k (List.mem_of_getElem? hk)).e
   obtain ⟨fp,cfp,hep,hop,hPt⟩:=(HK.out.1 k (List.mem_of_getElem? hk)).p
   have hcf:=callF hof
   have hcp:=callF hop
   obtain ⟨q0,q1⟩:=HR.out i k hk wr HX.out.1.fz
   rw [he] at q0
   rw [hep] at q1
   have HL:=hide (RA.start HX.out.1 HX.out.2.1 #[.func (.func fe) #[] cf,.func (.func fp) #[] cfp] (hAt from_ (by have:=HK.out.2.2.2.2.1;omega)) HK.out.2.1 HK.out.2.2.1)
   obtain ⟨E,hE⟩:∃ E,E=pl L k.a from_:=⟨_,rfl⟩
   rw [←hE] at HL
   have hTo:to_≤22:=by have:=HK.out.2.2.2.2.1;omega
   have hElt:E<18446744073709551616:=by rw [hE];exact pl_64 hL _ _
   have hEb:E.testBit to_=k.a from_ to_:=by rw [hE,bit_pl];simp;intro _;exact HK.out.2.2.2.2.1
   have HKI:=hide hk
   have HPt:=hide hPt
   have HH:Hid (∀ W,RA L M' K' R O w g wr.heap.size #[.func (.func fe) #[] cf,.func (.func fp) #[] cfp] out W→Calls Tryd.prog 23 #[.agg #[.int .u64 (E:Nat),.int .u64 0],.int .i64 (to_:Nat)] W fun r w'=>r=.returned (.bool (k.a from_ to_))∧RA L M' K' R O w g wr.heap.size #[.func (.func fe) #[] cf,.func (.func fp) #[] cfp] out w'):=hide (fun wx h=>(has_any wx E to_ hTo hElt).mono (by rintro r w' ⟨h1,h2⟩;rw [hEb] at h1;exact ⟨h1,h.below h2⟩))
   clear hE hEb hElt hTo he hep hAt hPt hk
   unfold psV at HL
   cases hb:k.a from_ to_ with
   | false =>
    have HN:Hid (∀ i',i'<i+1→∀ y,ks[i']?=some y→y.a from_ to_=false):=by
     intro i' h y hy
     by_cases e:i'=i
     ·subst e
      rw [HKI.out] at hy
      simp only [Option.some.injEq] at hy
      subst hy
      exact hb
     ·exact HX.out.2.2 i' (by omega) y hy
    rw [hb] at HH
    clear hb HX
    go_wp2_with (first | (go_at_call 23;with_reducible (refine (HH.out _ ?_).mono ?_);exact h3;rintro e w3 ⟨rfl,h4⟩;have H4:=hide h4) | (with_reducible (refine HL.out.mono ?_);rintro e w2 ⟨rfl,h3⟩))
    go_roundw
    case rel=>exact ⟨i+1,by omega,by simp,H4.out.sx.fresh0,H4.out.spn,HN.out⟩
    case measure=>simp [intOf];omega
   | true =>
    rw [hb] at HH
    have HT:=hide (HTT.out.trans (orLS_at from_ to_ out ks i k HKI.out hb HX.out.2.2))
    have HB:=hide hb
    clear hb HX
    go_wp2_with (first | (go_at_call 23;with_reducible (refine (HH.out _ ?_).mono ?_);exact h3;rintro e w3 ⟨rfl,h4⟩;have H4:=hide h4;have k1:w3.cell? ⟨wr.heap.size,1,none⟩=some (.func (.func fp) #[] cfp):=(by have h9:=H4.out.kid;simp [World.cell?,h9])) | (with_reducible (refine HL.out.mono ?_);rintro e w2 ⟨rfl,h3⟩))
    have HZ:=hide (H4.out.sx.part HPt.out HK.out.2.1 HK.out.2.2.1 hij HK.out.2.2.2.2.1 HB.out H4.out.spn HK.out.2.2.2.2.2.2.2.2.2 HK.out.2.2.2.2.2.1 HK.out.2.2.2.2.2.2.1 HK.out.2.2.2.2.2.2.2.1)
    refine HZ.out.mono ?_
    rintro e w6 ⟨rfl,z1,z2,z3,_⟩
    have HE:Hid (Spn w6 g T∧T.length=l∧Sx L M' K' R O w g (fun _=>False) w6):=by rw [HT.out];exact ⟨z1,z2,z3.fresh0⟩
    clear z1 z2 z3 HZ H4 h4 k1
    go_wp2
    refine bodyPost_ret (results_none rfl _ _ _) rfl ?_
    exact ⟨rfl,HE.out.1,HE.out.2.1,HE.out.2.2⟩
end Go.Proofs.YtfhimmnoipfiaaaDoor.eng
namespace Go.Proofs.YtfhimmnoipfiaaaDoor.eng
open Go.ChangeShapes Go.WideShapes Go.ChangeAt Go.RowKit
open bytes places sets tz rex
attribute [local go_sem] Oper.semAt_some
theorem mono_orK {L:Nat} {M:Fz} {K:Ks} {N:Nat} {ks:List Kd} (hk:∀ k∈ks,KdOK L M K N k):Mono (orL (ends ks)):=mono_orL _ fun a ha=>by
 simp only [ends,List.mem_map] at ha
 obtain ⟨k,h1,rfl⟩:=ha
 exact (hk k h1).mono
theorem OkF69:OkF 69:=⟨_,Tryd.func69,by kernel_rfl,by kernel_rfl⟩
set_option maxRecDepth 20000 in
set_option maxHeartbeats 4000000 in
theorem alt_mk (L:Nat) (M:Fz) (K:Ks) (R:Rs) (O:Lb) (w:World) (N:Nat) (S:ByteArray) (kr n c:Nat) (ks:List Kd) (cs:Array Value) (hI:Inv L M K R O w) (hf:Few K R) (hL:L≤22) (hS:S.size=L) (hn:ks.length=n) (hn1:n≤1000)
  (m2:M kr=some (.cells cs 49 (0,0))) (hc:∀ (i:Nat) (v:Value),(rowOf ks)[i]?=some v→cs[i]?=some v) (hk:∀ k∈ks,KdOK L M K N k) :
  Calls Tryd.prog 48 #[.slice (some ⟨kr,0,none⟩) n c,.string S] w (WayMade L M K R O w N (orL (ends ks)) (orLS (prs ks))):=by
 have hmf:=mf
 obtain ⟨W2,hW2⟩:∃ W,(w.alloc (.cells #[.slice (some ⟨kr,0,none⟩) n c] 88)).alloc (.cells #[.nilFunc,.nilFunc] 49)=W:=⟨_,rfl⟩
 have hz2:W2.heap.size=w.heap.size+2:=by rw [←hW2];simp
 have b1:W2.heap[w.heap.size]?=some (.cells #[.slice (some ⟨kr,0,none⟩) n c] 88 (0,0)):=by
  rw [←hW2,Below.heap_alloc _ _ _ (by simp)]
  exact heap_alloc_new w _
 have b2:W2.heap[w.heap.size+1]?=some (.cells #[.nilFunc,.nilFunc] 49 (0,0)):=by
  rw [←hW2]
  have h:=heap_alloc_new (w.alloc (.cells #[.slice (some ⟨kr,0,none⟩) n c] 88)) (.cells #[.nilFunc,.nilFunc] 49)
  rw [World.size_alloc] at h
  exact h
 have hB:Below w.heap.size w W2:=by
  rw [←hW2]
  exact ((Below.refl _ _).alloc (Nat.le_refl _) _).alloc (by simp) _
 have h0:=(St.refl hI).below hB
 have o0:O w.heap.size=none:=hI.fresh (Nat.le_refl _)
 have o1:O (w.heap.size+1)=none:=hI.fresh (by omega)
 have h1:=h0.freeze (Nat.le_refl _) b1 o0
 have l1:FLe M (up M w.heap.size (some (.cells #[.slice (some ⟨kr,0,none⟩) n c] 88 (0,0)))):=FLe.up (M_none hI o0) _
 have mk1:=up_same M w.heap.size (some (.cells #[.slice (some ⟨kr,0,none⟩) n c] 88 (0,0)))
 obtain ⟨M',K',O',k,g1,g2,g3,g4,g5,g6,g7,g8⟩:=h1.known hf S 69 #[.pointer (some ⟨w.heap.size,0,none⟩)] (pl L (orL (ends ks)))
 have f1:=(knW_facts W2 S (.func 69) #[.pointer (some ⟨w.heap.size,0,none⟩)]).1
 have HC:=hide (known_call W2 S (.func 69) #[.pointer (some ⟨w.heap.size,0,none⟩)])
 rw [hz2] at HC g5 g6 g7
 obtain ⟨W3,hW3⟩:∃ W3,knW W2 S (.func 69) #[.pointer (some ⟨w.heap.size,0,none⟩)]=W3:=⟨_,rfl⟩
 rw [hW3] at HC g3 f1
 have b3:W3.heap[w.heap.size+1]?=some (.cells #[.nilFunc,.nilFunc] 49 (0,0)):=(f1 _ (by omega)).trans b2
 have o3:O' (w.heap.size+1)=none:=(g8 _ (by omega)).trans (by rw [up_ne _ _ (by omega)];exact o1)
 have r0:W3.cell? ⟨w.heap.size+1,0,none⟩=some .nilFunc:=by simp [World.cell?,b3]
 have r1:W3.cell? ⟨w.heap.size+1,1,none⟩=some .nilFunc:=by simp [World.cell?,b3]
 have s0:W3.frozen? ⟨w.heap.size+1,0,none⟩=false:=by simp [World.frozen?,b3]
 have s1:W3.frozen? ⟨w.heap.size+1,1,none⟩=false:=by simp [World.frozen?,b3]
 have e3:=way_set b3 (knV (w.heap.size+2)) (.func (.func 71) #[] #[.pointer (some ⟨w.heap.size,0,none⟩)])
 have g9:=(g3.set (a:=⟨w.heap.size+1,0,none⟩) (by simp) o3 (knV (w.heap.size+2))).set (a:=⟨w.heap.size+1,1,none⟩) (by simp) o3 (.func (.func 71) #[] #[.pointer (some ⟨w.heap.size,0,none⟩)])
 have l2:=l1.trans g1
 have HM:Hid (Made L M K R O w ((W3.setCell ⟨w.heap.size+1,0,none⟩ (knV (w.heap.size+2))).setCell ⟨w.heap.size+1,1,none⟩ (.func (.func 71) #[] #[.pointer (some ⟨w.heap.size,0,none⟩)])) fun M' K'=>KdOK L M' K' N ⟨knV (w.heap.size+2),.func (.func 71) #[] #[.pointer (some ⟨w.heap.size,0,none⟩)],orL (ends ks),orLS (prs ks)⟩):=by
  refine ⟨M',K',R,O',l2,g2,g9,g4,⟨⟨86,_,rfl,OkF86,fun p hp => ?_⟩,⟨71,_,rfl,OkF71,?_⟩,mono_orK hk⟩⟩
  ·refine knV_at hL hp hS g5 g6 g7 OkF69 rfl ?_
   exact alt_any L M' K' N w.heap.size kr n c ks cs p hn hn1 hL hp (g1 _ _ mk1) (l2 _ _ m2) hc (fun k h=>(hk k h).up l2 g2)
  ·exact alt_pt L M' K' N w.heap.size kr n c ks cs hn hn1 hL (g1 _ _ mk1) (l2 _ _ m2) hc (fun k h=>(hk k h).up l2 g2)
 have HE:=hide e3
 clear hI hf hk h0 h1 b1 b2 b3 hB g1 g2 g3 g4 g5 g6 g7 g8 g9 f1 e3 l1 l2 hc m2 mk1 hW3 o0 o1 o3
 unfold knV at HC HM HE
 have hz2':w.heap.size+1+1=w.heap.size+2:=rfl
 go_enter Tryd.func48,Tryd.ntmps48
 go_wp2_with fail
 (try rw [hW2])
 refine HC.out.mono ?_
 rintro e w' ⟨rfl,h9⟩
 subst h9
 clear HC
 go_wp2
 exact bodyPost_ret (results_cell_row rfl _ _ (w.heap.size+1) 49 _ (0,0) _ rfl HE.out Tryd.underlying49 rfl (size49.trans (by simp))) rfl ⟨⟨_,_,orL (ends ks),orLS (prs ks)⟩,rfl,rfl,rfl,HM.out⟩
end Go.Proofs.YtfhimmnoipfiaaaDoor.eng
namespace Go.Proofs.YtfhimmnoipfiaaaDoor.eng
open Go.ChangeShapes Go.WideShapes Go.ChangeAt Go.RowKit
open bytes places sets tz rex
attribute [local go_sem] Oper.semAt_some
theorem St.then {L:Nat} {M M':Fz} {K K':Ks} {R0 R R1:Rs} {O0 O O1:Lb} {w0 W w1:World} (h:St L M K R0 O0 w0 R O W) (g:St L M' K' R O W R1 O1 w1):St L M' K' R0 O0 w0 R1 O1 w1:=St.of g.inv (h.frm.trans g.frm)
set_option maxRecDepth 20000 in
set_option maxHeartbeats 8000000 in
theorem more_mk (L N:Nat) (M:Fz) (K:Ks) (R:Rs) (O:Lb) (w:World) (S:ByteArray) (k:Kd) (un:Bool) (n:Nat) (x0 x1 x2:Int) (ss:ByteArray) (kv:Value) (hI:Inv L M K R O w) (hf:Few K R) (hL:L≤22) (hn:n≤900) (hk:KdOK L M K N k)
  (H88:∀ M' O' W,FLe M M'→Inv L M' K R O' W→Calls Tryd.prog 88 #[.agg #[.int .i64 x0,.int .i64 x1,.int .i64 x2,.string ss,kv],.agg #[k.ve,k.vp],.string S] W (LeftMade L M' K R O' W k.a un n)) :
  Calls Tryd.prog 72 #[.agg #[.int .i64 x0,.int .i64 x1,.int .i64 x2,.string ss,kv],.agg #[k.ve,k.vp],.string S] w (WayMade L M K R O w N (upTo k.a (cnt un L n)) (upToS k.a k.s (cnt un L n))):=by
 have hmf:=mf
 obtain ⟨fe,cf,he,hof,hAt⟩:=hk.e
 obtain ⟨fp,cfp,hep,hop,hPt⟩:=hk.p
 obtain ⟨W0,hW0⟩:∃ W0,((w.alloc (.cells #[.int .i64 x0,.int .i64 x1,.int .i64 x2,.string ss,kv] 25)).alloc (.cells #[k.ve,k.vp] 49)).alloc (.cells #[.nilFunc,.nilFunc] 49)=W0:=⟨_,rfl⟩
 have hz:W0.heap.size=w.heap.size+3:=by rw [←hW0];simp
 have hB:Below w.heap.size w W0:=by
  rw [←hW0]
  exact (((Below.refl _ _).alloc (Nat.le_refl _) _).alloc (by simp) _).alloc (by simp;omega) _
 have a1:∀ (V:World) (o:Obj) (m:Nat),V.heap.size=m→(V.alloc o).heap[m]?=some o:=fun V o m h=>by subst h;exact heap_alloc_new V o
 have b1:W0.heap[w.heap.size]?=some (.cells #[.int .i64 x0,.int .i64 x1,.int .i64 x2,.string ss,kv] 25 (0,0)):=by
  rw [←hW0,Below.heap_alloc _ _ _ (by simp;omega),Below.heap_alloc _ _ _ (by simp)]
  exact a1 _ _ _ (by simp)
 have b2:W0.heap[w.heap.size+1]?=some (.cells #[k.ve,k.vp] 49 (0,0)):=by
  rw [←hW0,Below.heap_alloc _ _ _ (by simp)]
  exact a1 _ _ _ (by simp)
 have b3:W0.heap[w.heap.size+2]?=some (.cells #[.nilFunc,.nilFunc] 49 (0,0)):=by
  rw [←hW0]
  exact a1 _ _ _ (by simp)
 have h0:=(St.refl hI).below hB
 obtain ⟨M2,e1,e2,e3⟩:=h0.fz' (b:=w.heap.size+1) (by omega) b2 (hI.fresh (by omega))
 have HC:=hide (H88 M2 _ W0 e1 e3.inv)
 have HG:Hid (∀ w3 rr cap M' K' R' O' (cs:Array Value),FLe M2 M'→KLe K K'→St L M' K' R (up O (w.heap.size+1) (some (0,0))) W0 R' O' w3→Few K' R'→M' rr=some (.cells cs 46 (0,0))→LeftAt L M' K' k.a un cs.toList n →
   ∃ f cf9,cs[n]?=some (.func (.func f) #[] cf9)∧w3.cell? ⟨rr,n,none⟩=some (.func (.func f) #[] cf9)∧W0.heap.size≤w3.heap.size∧rr<w3.heap.size∧w3.heap[w.heap.size+2]?=some (.cells #[.nilFunc,.nilFunc] 49 (0,0)) ∧
    Made L M K R O w ((((w3.alloc (.cells #[.slice (some ⟨rr,0,none⟩) (n+1) cap] 104)).alloc (.cells #[.int .i64 (n:Int)] 3)).setCell ⟨w.heap.size+2,0,none⟩ (.func (.func f) #[] cf9)).setCell ⟨w.heap.size+2,1,none⟩ (.func (.func 89) #[] #[.pointer (some ⟨w3.heap.size+1,0,none⟩),.pointer (some ⟨w.heap.size+1,0,none⟩),.pointer (some ⟨w3.heap.size,0,none⟩)])) fun M' K'=>KdOK L M' K' N ⟨.func (.func f) #[] cf9,.func (.func 89) #[] #[.pointer (some ⟨w3.heap.size+1,0,none⟩),.pointer (some ⟨w.heap.size+1,0,none⟩),.pointer (some ⟨w3.heap.size,0,none⟩)],upTo k.a (cnt un L n),upToS k.a k.s (cnt un L n)⟩):=by
  refine hide fun w3 rr cap M' K' R' O' cs g1 g2 g3 g4 g5 g6 => ?_
  obtain ⟨f,cf9,x1,x2,x3⟩:=g6 n (Nat.le_refl _)
  have hsz:=g3.size
  have hrl:=(Array.getElem?_eq_some_iff.1 (g3.inv.fz _ _ g5)).1
  have o2:up O (w.heap.size+1) (some (0,0)) (w.heap.size+2)=none:=by rw [up_ne _ _ (by omega)];exact hI.fresh (by omega)
  have hb3:w3.heap[w.heap.size+2]?=some (.cells #[.nilFunc,.nilFunc] 49 (0,0)):=(g3.same _ (by omega) (.inl o2)).trans b3
  have o3:O' (w.heap.size+2)=none:=(g3.lab _ (by omega)).trans o2
  have x1':cs[n]?=some (.func (.func f) #[] cf9):=by simpa using x1
  refine ⟨f,cf9,x1',g3.inv.fz.at g5 x1',hsz,hrl,hb3,?_⟩
  have t1:=(e3.then g3).alloc (.cells #[.slice (some ⟨rr,0,none⟩) (n+1) cap] 104)
  have t2:=t1.alloc (.cells #[.int .i64 (n:Int)] 3)
  have m1:((w3.alloc (.cells #[.slice (some ⟨rr,0,none⟩) (n+1) cap] 104)).alloc (.cells #[.int .i64 (n:Int)] 3)).heap[w3.heap.size]?=some (.cells #[.slice (some ⟨rr,0,none⟩) (n+1) cap] 104 (0,0)):=by
   rw [Below.heap_alloc _ _ _ (by simp)]
   exact heap_alloc_new w3 _
  have m2:((w3.alloc (.cells #[.slice (some ⟨rr,0,none⟩) (n+1) cap] 104)).alloc (.cells #[.int .i64 (n:Int)] 3)).heap[w3.heap.size+1]?=some (.cells #[.int .i64 (n:Int)] 3 (0,0)):=a1 _ _ _ (by simp)
  obtain ⟨M5,i1,i2,i3⟩:=t2.fz' (b:=w3.heap.size) (by omega) m1 ((e3.then g3).fresh (Nat.le_refl _))
  obtain ⟨M6,j1,j2,j3⟩:=i3.fz' (b:=w3.heap.size+1) (by omega) m2 (by rw [up_ne _ _ (by omega)];exact (e3.then g3).fresh (by omega))
  have o6:up (up O' w3.heap.size (some (0,0))) (w3.heap.size+1) (some (0,0)) (w.heap.size+2)=none:=by rw [up_ne _ _ (by omega),up_ne _ _ (by omega)];exact o3
  have l6:FLe M2 M6:=(g1.trans i1).trans j1
  refine ⟨M6,K',R',_,e1.trans l6,g2,(j3.set (a:=⟨w.heap.size+2,0,none⟩) (by simp) o6 _).set (a:=⟨w.heap.size+2,1,none⟩) (by simp) o6 _,g4,⟨⟨f,cf9,rfl,x2,fun q hq=>(x3 q hq).up (i1.trans j1) (KLe.refl _)⟩,⟨89,_,rfl,OkF89,?_⟩,mono_upTo _ _⟩⟩
  exact more_pt L M6 K' N (w3.heap.size+1) (w.heap.size+1) w3.heap.size rr n cap un k cs (by omega) hL j2 (l6 _ _ e2) (j1 _ _ i2) ((i1.trans j1) _ _ g5) (fun i hi=>by
   obtain ⟨f,cf,y1,y2,y3⟩:=g6 i hi
   exact ⟨f,cf,by simpa using y1,y2,fun q hq=>(y3 q hq).up (i1.trans j1) (KLe.refl _)⟩) (hk.up (e1.trans l6) g2)
 rw [he] at hW0 HC b2 ⊢
 rw [hep] at hW0 HC b2 ⊢
 have p10:W0.cell? ⟨w.heap.size,0,none⟩=some (.int .i64 x0):=by simp [World.cell?,b1]
 have p11:W0.cell? ⟨w.heap.size,1,none⟩=some (.int .i64 x1):=by simp [World.cell?,b1]
 have p12:W0.cell? ⟨w.heap.size,2,none⟩=some (.int .i64 x2):=by simp [World.cell?,b1]
 have p13:W0.cell? ⟨w.heap.size,3,none⟩=some (.string ss):=by simp [World.cell?,b1]
 have p14:W0.cell? ⟨w.heap.size,4,none⟩=some kv:=by simp [World.cell?,b1]
 have p20:W0.cell? ⟨w.heap.size+1,0,none⟩=some (.func (.func fe) #[] cf):=by simp [World.cell?,b2]
 have p21:W0.cell? ⟨w.heap.size+1,1,none⟩=some (.func (.func fp) #[] cfp):=by simp [World.cell?,b2]
 have hnI:(n:Int)<((n+1:Nat):Int):=by omega
 have hnI2:(n:Int)<(n:Int)+1:=by omega
 have hwn:IntKind.i64.wrap ((n:Int)+1-1)=(n:Int):=by rw [IntKind.wrap_i64];omega
 have hwn2:IntKind.i64.wrap (((n+1:Nat):Int)-1)=(n:Int):=by rw [IntKind.wrap_i64];omega
 have HZ:=hide (And.intro hz hn)
 clear hI hf hk hAt hPt he hep hop hL hof h0 e1 e2 e3 b1 b2 b3 hB a1 H88 hz
 go_enter Tryd.func72,Tryd.ntmps72
 go_wp2_with fail
 (try rw [hW0])
 refine HC.out.mono ?_
 rintro e w3 ⟨rr,cap,rfl,M',K',R',O',g1,g2,g3,g4,cs,g5,g6⟩
 obtain ⟨f,cf9,x1,x2,x3,x4,x5,hM⟩:=HG.out w3 rr cap M' K' R' O' cs g1 g2 g3 g4 g5 g6
 have HM:=hide hM
 have hlt3:w.heap.size+2<w3.heap.size:=by have:=HZ.out.1;omega
 have HE:Hid (((((w3.alloc (.cells #[.slice (some ⟨rr,0,none⟩) (n+1) cap] 104)).alloc (.cells #[.int .i64 (n:Int)] 3)).setCell ⟨w.heap.size+2,0,none⟩ (.func (.func f) #[] cf9)).setCell ⟨w.heap.size+2,1,none⟩ (.func (.func 89) #[] #[.pointer (some ⟨w3.heap.size+1,0,none⟩),.pointer (some ⟨w.heap.size+1,0,none⟩),.pointer (some ⟨w3.heap.size,0,none⟩)])).heap[w.heap.size+2]?=some (.cells #[.func (.func f) #[] cf9,.func (.func 89) #[] #[.pointer (some ⟨w3.heap.size+1,0,none⟩),.pointer (some ⟨w.heap.size+1,0,none⟩),.pointer (some ⟨w3.heap.size,0,none⟩)]] 49 (0,0))) :=
  way_set ((Below.heap_alloc _ _ _ (by simp;omega)).trans ((Below.heap_alloc _ _ _ hlt3).trans x5)) _ _
 have hb9:∀ o o',((w3.alloc o).alloc o').heap[w.heap.size+2]?=some (.cells #[.nilFunc,.nilFunc] 49 (0,0)):=fun o o'=>(Below.heap_alloc _ _ _ (by simp;omega)).trans ((Below.heap_alloc _ _ _ hlt3).trans x5)
 have y0:∀ o o',((w3.alloc o).alloc o').cell? ⟨w.heap.size+2,0,none⟩=some .nilFunc:=fun o o'=>by simp [World.cell?,hb9 o o']
 have y1:∀ o o',((w3.alloc o).alloc o').cell? ⟨w.heap.size+2,1,none⟩=some .nilFunc:=fun o o'=>by simp [World.cell?,hb9 o o']
 have y2:∀ o o',((w3.alloc o).alloc o').frozen? ⟨w.heap.size+2,0,none⟩=false:=fun o o'=>by simp [World.frozen?,hb9 o o']
 have y3:∀ o o',((w3.alloc o).alloc o').frozen? ⟨w.heap.size+2,1,none⟩=false:=fun o o'=>by simp [World.frozen?,hb9 o o']
 have z1:∀ o o',((w3.alloc o).alloc o').cell? ⟨rr,n,none⟩=some (.func (.func f) #[] cf9):=fun o o'=>(World.cell?_of_block (a:=⟨rr,n,none⟩) ((Below.heap_alloc _ _ _ (by simp;omega)).trans (Below.heap_alloc _ _ _ x4))).trans x2
 have z2:∀ o,(w3.alloc o).cell? ⟨rr,n,none⟩=some (.func (.func f) #[] cf9):=fun o=>(World.cell?_of_block (a:=⟨rr,n,none⟩) (Below.heap_alloc _ _ _ x4)).trans x2
 clear hb9 hM x1 x3 x5 g1 g2 g3 g4 g5 g6 HG HC p10 p11 p12 p13 p14 p20 p21 hW0
 go_wp2
 exact bodyPost_ret (results_cell_row rfl _ _ (w.heap.size+2) 49 _ (0,0) _ rfl HE.out Tryd.underlying49 rfl (size49.trans (by simp))) rfl ⟨⟨_,_,upTo k.a (cnt un L n),upToS k.a k.s (cnt un L n)⟩,rfl,rfl,rfl,HM.out⟩
end Go.Proofs.YtfhimmnoipfiaaaDoor.eng
namespace Go.Proofs.YtfhimmnoipfiaaaDoor.cmk
open Go.ChangeShapes Go.WideShapes Go.ChangeAt Go.RowKit Go.Shelf
open bytes places sets tz rex bck eng
structure Lays (F:Fs) (rB:Nat) (S:ByteArray) (lo n m:Nat) (vals:Array Value) (c x:Nat→Nat) (W:World):Prop where
 row:∀ j,n-m≤j→j≤n→vals[j]?=some (restV F n c j)
 lay:∀ k,n-m≤k→k+1<n→LayAt F rB S c x W lo k
 apart:∀ i j,n-m≤i→i<j→j+1<n→c j+4≤c i
 top:∀ k,n-m≤k→k+1<n→c k+4≤W.heap.size
structure CI (w:World) (lo kB tB rs rR rB kR n cap:Nat) (S:ByteArray) (F:Fs) (pre:List { k:Nat // k<n }) (W:World):Prop where
 below:Below w.heap.size w W
 kids:C1 W kB (.slice (some ⟨kR,0,none⟩) n cap) 88
 text:C1 W tB (.string S) 9
 res:W.heap[rs]?=some (.cells #[.nilFunc,.nilFunc] 49 (0,0))
 rest:C1 W rB (.slice (some ⟨rR,0,none⟩) (n+1) (n+1)) 104
 size:lo≤W.heap.size
 row:∃ vals:Array Value,vals.size=n+1∧W.heap[rR]?=some (.cells vals 46 (0,0))∧(pre.map (·.1)=dn n pre.length→∃ c x,Lays F rB S lo n pre.length vals c x W)
theorem CI.keep {w:World} {lo kB tB rs rR rB kR n cap:Nat} {S:ByteArray} {F:Fs} {pre:List { k:Nat // k<n }} {A B:World} (h:CI w lo kB tB rs rR rB kR n cap S F pre A) (hk:Keep1 A B) (hz:A.heap.size≤B.heap.size) (hb:Below w.heap.size w B):CI w lo kB tB rs rR rB kR n cap S F pre B:=by
 obtain ⟨vals,v1,v2,v3⟩:=h.row
 refine ⟨hb,hk _ _ _ _ h.kids,hk _ _ _ _ h.text,hk _ _ _ _ h.res,hk _ _ _ _ h.rest,Nat.le_trans h.size hz,vals,v1,hk _ _ _ _ v2,fun e => ?_⟩
 obtain ⟨c,x,l⟩:=v3 e
 exact ⟨c,x,l.row,fun k h1 h2=>(l.lay k h1 h2).keep hk,l.apart,fun k h1 h2=>Nat.le_trans (l.top k h1 h2) hz⟩
theorem keep_of {A B:World} (h:∀ b,b<A.heap.size→B.heap[b]?=A.heap[b]?):Keep1 A B:=fun b cs t f hb=>(h b (Array.getElem?_eq_some_iff.1 hb).1).trans hb
theorem keep_grown {A B:World} {row:Option Nat} (hg:A.grownBy B row) (hr:∀ r,row=some r→∃ o:Obj,A.heap[r]?=some o∧o.isCells=false):Keep1 A B:=by
 intro b cs t f hb
 refine (hg.block b (Array.getElem?_eq_some_iff.1 hb).1 ?_).trans hb
 intro e
 obtain ⟨o,ho,hc⟩:=hr b e.symm
 rw [hb] at ho
 cases ho
 cases hc
theorem CI.own {w:World} {lo kB tB rs rR rB kR n cap:Nat} {S:ByteArray} {F:Fs} (B:Nat) (hB:w.heap.size≤B):OwnFrom B (fun (pre:List { k:Nat // k<n }) W=>CI w lo kB tB rs rR rB kR n cap S F pre W) :=
 fun s A A' row hs hg hr=>hs.keep (keep_grown hg (fun r e=>(hr r e).2)) hg.size (hs.below.grown hg hs.below.size (fun k e=>Nat.le_trans hB (hr k e).1))
theorem vals_set {vals:Array Value} {n x:Nat} {v:Value} (h:vals.size=n+1) (hx:x<n) (j:Nat):(vals.setIfInBounds x v)[j]?=if j=x then some v else vals[j]? := by
 rw [Array.getElem?_setIfInBounds]
 by_cases e:x=j
 ·subst e
  simp
  omega
 ·rw [if_neg e,if_neg (fun h=>e h.symm)]
theorem dn_next {n:Nat} {pre:List { k:Nat // k<n }} {x:{ k:Nat // k<n }} (h:(pre++[x]).map (·.1)=dn n (pre++[x]).length):pre.map (·.1)=dn n pre.length∧x.1=n-1-pre.length:=by
 rw [List.length_append,List.length_singleton,dn_succ,List.map_append] at h
 have h2:=List.append_inj h (by simp [dn_length])
 refine ⟨h2.1,?_⟩
 have:=h2.2
 simpa using this
variable {w:World} {lo kB tB rs rR rB kR n cap:Nat} {S:ByteArray} {F:Fs} {pre:List { k:Nat // k<n }} {W:World}
theorem CI.last (h:CI w lo kB tB rs rR rB kR n cap S F pre W) (hord:w.heap.size≤kB∧kB<tB∧tB<rs∧rs<rR∧rR<rB∧rB<lo) (hpl:pre.length<n) (x:{ k:Nat // k<n }) (hx:x.1+1=n) :
  CI w lo kB tB rs rR rB kR n cap S F (pre++[x]) (W.setCell ⟨rR,x.1,none⟩ (.func (.func (F.fe x.1)) #[] (F.ce x.1))):=by
 obtain ⟨vals,v1,v2,v3⟩:=h.row
 have hs:∀ b,b≠rR→(W.setCell ⟨rR,x.1,none⟩ (.func (.func (F.fe x.1)) #[] (F.ce x.1))).heap[b]?=W.heap[b]? := fun b hb=>Below.heap_setCell W _ _ b hb
 refine ⟨h.below.setCell (p:=⟨rR,x.1,none⟩) (by simp;omega) _,(hs _ (by omega)).trans h.kids,(hs _ (by omega)).trans h.text,(hs _ (by omega)).trans h.res,(hs _ (by omega)).trans h.rest,by simp;exact h.size,_,?_,heap_setCell_same W rR x.1 vals 46 _ v2,fun e => ?_⟩
 ·simp [v1]
 ·obtain ⟨e1,e2⟩:=dn_next e
  have hm:pre.length=0:=by omega
  obtain ⟨c,y,l⟩:=v3 e1
  refine ⟨c,y,fun j h1 h2 => ?_,fun k h1 h2 => ?_,fun i j h1 h2 h3 => ?_,fun k h1 h2 => ?_⟩
  ·rw [vals_set v1 x.2]
   by_cases ej:j=x.1
   ·rw [if_pos ej]
    subst ej
    unfold restV
    rw [if_neg (by omega),if_pos (by omega)]
   ·rw [if_neg ej]
    refine l.row j ?_ h2
    simp at h1
    omega
  ·simp at h1
   omega
  ·simp at h1
   omega
  ·simp at h1
   omega
theorem CI.more (h:CI w lo kB tB rs rR rB kR n cap S F pre W) (hord:w.heap.size≤kB∧kB<tB∧tB<rs∧rs<rR∧rR<rB∧rB<lo) (hpl:pre.length<n) (x:{ k:Nat // k<n }) (hx:x.1+1<n) (Bx:Nat) (hBx:lo≤Bx)
  (b0:W.heap[Bx]?=some (.cells #[.int .i64 (x.1:Int)] 3 (0,0))) (b1:W.heap[Bx+1]?=some (.cells #[.func (.func (F.fe x.1)) #[] (F.ce x.1),.func (.func (F.fp x.1)) #[] (F.cp x.1)] 49 (0,0))) :
  CI w lo kB tB rs rR rB kR n cap S F (pre++[x]) ((knW (W.setCell ⟨rR,x.1,none⟩ (.func (.func (F.fe x.1)) #[] (F.ce x.1))) S (.func 66) #[.pointer (some ⟨Bx+1,0,none⟩),.pointer (some ⟨rB,0,none⟩),.pointer (some ⟨Bx,0,none⟩)]).setCell ⟨rR,x.1,none⟩ (knV W.heap.size)):=by
 obtain ⟨vals,v1,v2,v3⟩:=h.row
 obtain ⟨W1,hW1⟩:∃ W1,W1=W.setCell ⟨rR,x.1,none⟩ (.func (.func (F.fe x.1)) #[] (F.ce x.1)):=⟨_,rfl⟩
 have hs1:∀ b,b≠rR→W1.heap[b]?=W.heap[b]? := fun b hb=>by rw [hW1];exact Below.heap_setCell W _ _ b hb
 have hz1:W1.heap.size=W.heap.size:=by rw [hW1];simp
 have r1:W1.heap[rR]?=some (.cells (vals.setIfInBounds x.1 (.func (.func (F.fe x.1)) #[] (F.ce x.1))) 46 (0,0)):=by rw [hW1];exact heap_setCell_same W rR x.1 vals 46 _ v2
 have hB1:Below w.heap.size w W1:=by rw [hW1];exact h.below.setCell (p:=⟨rR,x.1,none⟩) (by simp;omega) _
 rw [←hW1]
 obtain ⟨f1,f2,f3,f4,f5,f6⟩:=knW_facts W1 S (.func 66) #[.pointer (some ⟨Bx+1,0,none⟩),.pointer (some ⟨rB,0,none⟩),.pointer (some ⟨Bx,0,none⟩)]
 have hB2:Below w.heap.size w (knW W1 S (.func 66) #[.pointer (some ⟨Bx+1,0,none⟩),.pointer (some ⟨rB,0,none⟩),.pointer (some ⟨Bx,0,none⟩)]):=hB1.trans ((knW_below _ _ _ _).mono hB1.size)
 generalize knW W1 S (.func 66) #[.pointer (some ⟨Bx+1,0,none⟩),.pointer (some ⟨rB,0,none⟩),.pointer (some ⟨Bx,0,none⟩)]=W2 at *
 rw [hz1] at f1 f2 f3 f4 f5 f6
 have hlo:=h.size
 have hz2:=f2
 have hs2:∀ b,b<W.heap.size→b≠rR→W2.heap[b]?=W.heap[b]? := fun b hb hne=>(f1 b hb).trans (hs1 b hne)
 have r2:W2.heap[rR]?=some (.cells (vals.setIfInBounds x.1 (.func (.func (F.fe x.1)) #[] (F.ce x.1))) 46 (0,0)):=(f1 rR (by omega)).trans r1
 obtain ⟨V,hV⟩:∃ V:Value,V=knV W.heap.size:=⟨_,rfl⟩
 rw [←hV]
 have hs:∀ b,b≠rR→(W2.setCell ⟨rR,x.1,none⟩ V).heap[b]?=W2.heap[b]? := fun b hb=>Below.heap_setCell W2 _ _ b hb
 have hbx:=(Array.getElem?_eq_some_iff.1 b1).1
 refine ⟨hB2.setCell (p:=⟨rR,x.1,none⟩) (by simp;omega) _,(hs _ (by omega)).trans ((hs2 _ (by omega) (by omega)).trans h.kids),(hs _ (by omega)).trans ((hs2 _ (by omega) (by omega)).trans h.text),(hs _ (by omega)).trans ((hs2 _ (by omega) (by omega)).trans h.res),(hs _ (by omega)).trans ((hs2 _ (by omega) (by omega)).trans h.rest),by simp;omega,_,?_,heap_setCell_same W2 rR x.1 _ 46 _ r2,fun e => ?_⟩
 ·simp [v1]
 ·obtain ⟨e1,e2⟩:=dn_next e
  obtain ⟨c,y,l⟩:=v3 e1
  have hpl2:(pre++[x]).length=pre.length+1:=by simp
  have hv2:(vals.setIfInBounds x.1 (.func (.func (F.fe x.1)) #[] (F.ce x.1))).size=n+1:=by simp [v1]
  have k9:∀ b,lo≤b→b<W.heap.size→(W2.setCell ⟨rR,x.1,none⟩ V).heap[b]?=W.heap[b]? := fun b hb1 hb2=>(hs b (by omega)).trans (hs2 b hb2 (by omega))
  have keepL:∀ k,n-pre.length≤k→k+1<n→LayAt F rB S c y (W2.setCell ⟨rR,x.1,none⟩ V) lo k:=by
   intro k h1 h2
   have q:=l.lay k h1 h2
   have q1:=q.lo.1
   have q2:=q.lo.2
   have t1:=(Array.getElem?_eq_some_iff.1 q.a1).1
   have t2:=(Array.getElem?_eq_some_iff.1 q.a5).1
   exact ⟨(k9 _ (by omega) (by omega)).trans q.a0,(k9 _ (by omega) (by omega)).trans q.a1,(k9 _ (by omega) (by omega)).trans q.a2,(k9 _ (by omega) (by omega)).trans q.a3,(k9 _ (by omega) (by omega)).trans q.a4,(k9 _ (by omega) (by omega)).trans q.a5,q.lo⟩
  refine ⟨fun k=>if k=x.1 then W.heap.size else c k,fun k=>if k=x.1 then Bx else y k,fun j h1 h2 => ?_,fun k h1 h2 => ?_,fun i j h1 h2 h3 => ?_,fun k h1 h2 => ?_⟩
  ·rw [vals_set hv2 x.2]
   rw [hpl2] at h1
   by_cases ej:j=x.1
   ·rw [if_pos ej]
    subst ej
    unfold restV
    rw [if_neg (by omega),if_neg (by omega),hV]
    simp only [if_true]
   ·rw [if_neg ej,vals_set v1 x.2,if_neg ej,l.row j (by omega) h2]
    unfold restV
    simp only [if_neg ej]
  ·rw [hpl2] at h1
   by_cases ek:k=x.1
   ·subst ek
    refine ⟨?_,?_,?_,?_,?_,?_,?_⟩ <;> simp only [if_true]
    ·exact (k9 _ (by omega) (by omega)).trans b0
    ·exact (k9 _ (by omega) (by omega)).trans b1
    ·exact (hs _ (by omega)).trans f3
    ·exact (hs _ (by omega)).trans f4
    ·exact (hs _ (by omega)).trans f5
    ·exact (hs _ (by omega)).trans f6
    ·omega
   ·have q:=keepL k (by omega) h2
    refine ⟨?_,?_,?_,?_,?_,?_,?_⟩ <;> simp only [if_neg ek]
    ·exact q.a0
    ·exact q.a1
    ·exact q.a2
    ·exact q.a3
    ·exact q.a4
    ·exact q.a5
    ·exact q.lo
  ·rw [hpl2] at h1
   show (if j=x.1 then W.heap.size else c j)+4≤(if i=x.1 then W.heap.size else c i)
   rw [if_neg (by omega:¬ j=x.1)]
   by_cases ei:i=x.1
   ·rw [if_pos ei]
    exact l.top j (by omega) h3
   ·rw [if_neg ei]
    exact l.apart i j (by omega) h2 h3
  ·rw [hpl2] at h1
   show (if k=x.1 then W.heap.size else c k)+4≤_
   simp only [World.size_setCell]
   by_cases ek:k=x.1
   ·rw [if_pos ek]
    omega
   ·rw [if_neg ek]
    have:=l.top k (by omega) h2
    omega
theorem cell_one {W:World} {b:Nat} {u:Array Value} {t:TypeId} {f:Nat×Nat} (h:W.heap[b]?=some (Obj.cells u t f)) (i:Nat):W.cell? ⟨b,i,none⟩=u[i]? := by simp only [World.cell?,h];rfl
theorem cat_start (w:World) (S:ByteArray) (kR cap n:Nat) (F:Fs) (A:Array Value) (hAz:A.size=n+1) (W0:World)
  (hW0:W0=((((((w.alloc (.cells #[.slice (some ⟨kR,0,none⟩) n cap] 88)).alloc (.cells #[.string S] 9)).alloc (.cells #[.nilFunc,.nilFunc] 49)).alloc (.cells (A.setIfInBounds n (.func (.func 63) #[] #[])) 46)).alloc (.cells #[.slice (some ⟨w.heap.size+1+1+1,0,none⟩) (n+1) (n+1)] 104)).alloc (.cells #[.slice (some ⟨kR,0,none⟩) n cap] 88))) :
  CI w (w.heap.size+6) w.heap.size (w.heap.size+1) (w.heap.size+1+1) (w.heap.size+1+1+1) (w.heap.size+1+1+1+1) kR n cap S F [] W0∧W0.heap.size=w.heap.size+6∧C1 W0 (w.heap.size+1+1+1+1+1) (.slice (some ⟨kR,0,none⟩) n cap) 88:=by
 have hz:W0.heap.size=w.heap.size+6:=by rw [hW0];simp
 have a1:∀ (V:World) (o:Obj) (m:Nat),V.heap.size=m→(V.alloc o).heap[m]?=some o:=fun V o m h=>by subst h;exact heap_alloc_new V o
 refine ⟨⟨?_,?_,?_,?_,?_,by omega,A.setIfInBounds n (.func (.func 63) #[] #[]),by simp [hAz],?_,fun _=>⟨fun _=>0,fun _=>0,fun j h1 h2 => ?_,fun k h1 h2 => ?_,fun i j h1 h2 h3 => ?_,fun k h1 h2 => ?_⟩⟩,hz,?_⟩
 ·rw [hW0]
  exact ((((((Below.refl w.heap.size w).alloc (Nat.le_refl _) _).alloc (by simp) _).alloc (by simp;omega) _).alloc (by simp;omega) _).alloc (by simp;omega) _).alloc (by simp;omega) _
 ·rw [hW0]
  unfold C1
  rw [Below.heap_alloc _ _ _ (by simp;omega),Below.heap_alloc _ _ _ (by simp;omega),Below.heap_alloc _ _ _ (by simp;omega),Below.heap_alloc _ _ _ (by simp;omega),Below.heap_alloc _ _ _ (by simp)]
  exact a1 _ _ _ rfl
 ·rw [hW0]
  unfold C1
  rw [Below.heap_alloc _ _ _ (by simp),Below.heap_alloc _ _ _ (by simp),Below.heap_alloc _ _ _ (by simp),Below.heap_alloc _ _ _ (by simp)]
  exact a1 _ _ _ (by simp)
 ·rw [hW0]
  rw [Below.heap_alloc _ _ _ (by simp),Below.heap_alloc _ _ _ (by simp),Below.heap_alloc _ _ _ (by simp)]
  exact a1 _ _ _ (by simp)
 ·rw [hW0]
  unfold C1
  rw [Below.heap_alloc _ _ _ (by simp)]
  exact a1 _ _ _ (by simp)
 ·rw [hW0]
  rw [Below.heap_alloc _ _ _ (by simp),Below.heap_alloc _ _ _ (by simp)]
  exact a1 _ _ _ (by simp)
 ·simp at h1
  obtain rfl:j=n:=by omega
  rw [Array.getElem?_setIfInBounds]
  simp only [if_true]
  rw [if_pos (by omega)]
  unfold restV
  rw [if_pos rfl]
 ·simp at h1
  omega
 ·simp at h1
  omega
 ·simp at h1
  omega
 ·rw [hW0]
  exact a1 _ _ _ (by simp)
theorem CI.way {L N:Nat} {M:Fz} {K:Ks} {R:Rs} {O:Lb} {W':World} (hI:Inv L M K R O w) (hf:Few K R) (hL:L≤22) (hS:S.size=L) (ks:List Kd) (hn:ks.length=n) (hn1:n≤900) (hk:∀ k∈ks,KdOK L M K N k) (cs:Array Value) (m2:M kR=some (.cells cs 49 (0,0))) (hc:∀ (i:Nat) (v:Value),(rowOf ks)[i]?=some v→cs[i]?=some v)
  (h:CI w lo kB tB rs rR rB kR n cap S (fsOf ks) pre W) (hord:w.heap.size≤kB∧kB<tB∧tB<rs∧rs<rR∧rR<rB∧rB<lo)
  (vals:Array Value) (v2:W.heap[rR]?=some (.cells vals 46 (0,0))) (c x:Nat→Nat) (l:Lays (fsOf ks) rB S lo n n vals c x W)
  (hK:∀ (b:Nat) (cs:Array Value) (t:TypeId) (f:Nat×Nat),b≠rs→W.heap[b]?=some (Obj.cells cs t f)→W'.heap[b]?=some (Obj.cells cs t f)) (hb:Below w.heap.size w W') :
  Made L M K R O w W' fun M' K'=>KdOK L M' K' N ⟨restV (fsOf ks) n c 0,.func (.func 68) #[] #[.pointer (some ⟨kB,0,none⟩),.pointer (some ⟨rB,0,none⟩)],seqL (ends ks),seqLS (prs ks)⟩:=by
 have h0:=(St.refl hI).below hb
 have lay:∀ k,k+1<n→LayAt (fsOf ks) rB S c x W' lo k:=by
  intro k hk
  have q:=l.lay k (by omega) hk
  have q1:=q.lo.1
  have q2:=q.lo.2
  exact ⟨hK _ _ _ _ (by omega) q.a0,hK _ _ _ _ (by omega) q.a1,hK _ _ _ _ (by omega) q.a2,hK _ _ _ _ (by omega) q.a3,hK _ _ _ _ (by omega) q.a4,hK _ _ _ _ (by omega) q.a5,q.lo⟩
 obtain ⟨M1,K1,O1,g1,g2,g3,g4,g5,g6,g7⟩:=lay_all h0 hf n (fsOf ks) rB S c x (fun j=>pl L (seqL (ends (ks.drop j)))) lo (by omega) (fun b hb=>hI.fresh (by omega)) lay (fun i j h1 h2=>l.apart i j (by omega) h1 h2) (n-1) (Nat.le_refl _)
 obtain ⟨M2,e1,e2,e3⟩:=g3.fz' (b:=kB) (by omega) (hK _ _ _ _ (by omega) h.kids) (by rw [g5 _ (by omega)];exact hI.fresh (by omega))
 obtain ⟨M3,i1,i2,i3⟩:=e3.fz' (b:=rB) (by omega) (hK _ _ _ _ (by omega) h.rest) (by rw [up_ne _ _ (by omega),g5 _ (by omega)];exact hI.fresh (by omega))
 obtain ⟨M4,j1,j2,j3⟩:=i3.fz' (b:=rR) (by omega) (hK _ _ _ _ (by omega) v2) (by rw [up_ne _ _ (by omega),up_ne _ _ (by omega),g5 _ (by omega)];exact hI.fresh (by omega))
 have l4:FLe M M4:=((g1.trans e1).trans i1).trans j1
 have hk4:∀ k∈ks,KdOK L M4 K1 N k:=fun k h=>(hk k h).up l4 g2
 have hr:=rests_at hL ks n hn hn1 S hS rB rR vals c x hk4 (j1 _ _ i2) j2 (fun j hj=>l.row j (by omega) hj) (fun k hk=>(g6 k (by omega)).up ((e1.trans i1).trans j1) (KLe.refl _))
 refine ⟨M4,K1,R,_,l4,g2,j3,g4,⟨?_,⟨68,_,rfl,OkF68,?_⟩,mono_seqL _⟩⟩
 ·obtain ⟨f,cf,hv,ho,ha⟩:=hr n 0 (by omega)
  rw [l.row 0 (by omega) (by omega)] at hv
  simp only [Option.some.injEq] at hv
  exact ⟨f,cf,hv,ho,ha⟩
 ·exact cat_pt L M4 K1 N kB kR rB rR n cap ks cs vals hn (by omega) hL ((i1.trans j1) _ _ e2) (l4 _ _ m2) hc (j1 _ _ i2) j2 (fun i hi=>hr (n-i) i (by omega)) hk4
end Go.Proofs.YtfhimmnoipfiaaaDoor.cmk
namespace Go.Proofs.YtfhimmnoipfiaaaDoor.cmk
open Go.ChangeShapes Go.WideShapes Go.ChangeAt Go.RowKit Go.Shelf
open bytes places sets tz rex bck eng
attribute [local go_sem] Oper.semAt_some
theorem info46:(Tryd.prog.info? 46).map (fun i=>(i.zero,i.size,i.bytes))=some (some .nilFunc,1,8):=by kernel_rfl
theorem make104 (M:Nat) (hM:M≤1000) (W:World):(Instr.makeSlice 104 (.int .i64 (M:Int)) (.int .i64 (M:Int))).run Tryd.prog W=.ok (.slice (some ⟨W.heap.size,0,none⟩) M M) (W.alloc (.cells (madeCells #[.nilFunc] (M*1)) 46)):=by
 obtain ⟨i0,hi,hz0,hz1,hz2⟩:=info_parts info46
 have h:=run_make (P:=Tryd.prog) W 104 46 i0 _ Tryd.underlying104 hi hz0 .i64 .i64 M M (by omega) (Int.le_refl _) (by rw [hz2];omega) (by omega)
 rw [hz1,Int.toNat_natCast] at h
 exact h
set_option maxRecDepth 100000 in
set_option maxHeartbeats 8000000 in
theorem catWay_any (L N:Nat) (M:Fz) (K:Ks) (R:Rs) (O:Lb) (w:World) (S:ByteArray) (kR n cap:Nat) (ks:List Kd) (cs:Array Value) (hI:Inv L M K R O w) (hf:Few K R) (hL:L≤22) (hS:S.size=L) (hn:ks.length=n) (hn8:n≤900)
  (hk:∀ k∈ks,KdOK L M K N k) (m2:M kR=some (.cells cs 49 (0,0))) (hcr:∀ (i:Nat) (v:Value),(rowOf ks)[i]?=some v→cs[i]?=some v) :
  CallsIn Fence.wide 5 Tryd.prog 47 #[.slice (some ⟨kR,0,none⟩) n cap,.string S] w (WayMade L M K R O w N (seqL (ends ks)) (seqLS (prs ks))):=by
 have hmf:=mf
 have k121:∀ W:World,(Instr.makeSlice 104 (.int .i64 ((n:Int)+1)) (.int .i64 ((n:Int)+1))).run Tryd.prog W=.ok (.slice (some ⟨W.heap.size,0,none⟩) (n+1) (n+1)) (W.alloc (.cells (madeCells #[.nilFunc] ((n+1)*1)) 46)):=fun W=>make104 (n+1) (by omega) W
 have hwn:IntKind.i64.wrap ((n:Int)+1)=(n:Int)+1:=by rw [IntKind.wrap_i64];omega
 obtain ⟨F,hF⟩:∃ F,F=fsOf ks:=⟨_,rfl⟩
 have hkR:kR<w.heap.size:=(Array.getElem?_eq_some_iff.1 (hI.fz _ _ m2)).1
 have hc:∀ k,k<n→w.cell? ⟨kR,k*2,none⟩=some (.func (.func (F.fe k)) #[] (F.ce k))∧w.cell? ⟨kR,k*2+1,none⟩=some (.func (.func (F.fp k)) #[] (F.cp k)):=by
  intro j hj
  obtain ⟨k,hkj⟩:∃ k,ks[j]?=some k:=⟨_,List.getElem?_eq_getElem (by omega)⟩
  obtain ⟨e1,e2⟩:=fsOf_kid hkj (hk k (List.mem_of_getElem? hkj))
  obtain ⟨r1,r2⟩:=rowOf_get ks j k hkj
  rw [hF,←e1,←e2]
  exact ⟨hI.fz.at m2 (hcr _ _ r1),hI.fz.at m2 (hcr _ _ r2)⟩
 have HN:=hide (And.intro hI (And.intro hf (And.intro hL (And.intro hS (And.intro hn (And.intro hk (And.intro m2 hcr)))))))
 have HFF:=hide hF
 clear hI hf hL hS hn hk m2 hcr hF
 obtain ⟨A,hA⟩:∃ A,A=madeCells #[.nilFunc] ((n+1)*1):=⟨_,rfl⟩
 rw [←hA] at k121
 have hAn:A[n]?=some .nilFunc:=by
  rw [hA]
  simp [madeCells,Nat.mod_one]
 have hAz:A.size=n+1:=by rw [hA];simp [madeCells]
 have q1:(((((w.alloc (.cells #[.slice (some ⟨kR,0,none⟩) n cap] 88)).alloc (.cells #[.string S] 9)).alloc (.cells #[.nilFunc,.nilFunc] 49)).alloc (.cells A 46)).alloc (.cells #[.slice (some ⟨w.heap.size+1+1+1,0,none⟩) (n+1) (n+1)] 104)).heap[w.heap.size+1+1+1]?=some (.cells A 46 (0,0)):=by
  rw [Below.heap_alloc _ _ _ (by simp)]
  have h:=heap_alloc_new (((w.alloc (.cells #[.slice (some ⟨kR,0,none⟩) n cap] 88)).alloc (.cells #[.string S] 9)).alloc (.cells #[.nilFunc,.nilFunc] 49)) (.cells A 46)
  rw [show (((w.alloc (.cells #[.slice (some ⟨kR,0,none⟩) n cap] 88)).alloc (.cells #[.string S] 9)).alloc (.cells #[.nilFunc,.nilFunc] 49)).heap.size=w.heap.size+1+1+1 by simp] at h
  exact h
 have q2:(((((w.alloc (.cells #[.slice (some ⟨kR,0,none⟩) n cap] 88)).alloc (.cells #[.string S] 9)).alloc (.cells #[.nilFunc,.nilFunc] 49)).alloc (.cells A 46)).alloc (.cells #[.slice (some ⟨w.heap.size+1+1+1,0,none⟩) (n+1) (n+1)] 104)).cell? ⟨w.heap.size+1+1+1,n,none⟩=some .nilFunc:=by simp only [World.cell?,q1];exact hAn
 have q3:(((((w.alloc (.cells #[.slice (some ⟨kR,0,none⟩) n cap] 88)).alloc (.cells #[.string S] 9)).alloc (.cells #[.nilFunc,.nilFunc] 49)).alloc (.cells A 46)).alloc (.cells #[.slice (some ⟨w.heap.size+1+1+1,0,none⟩) (n+1) (n+1)] 104)).frozen? ⟨w.heap.size+1+1+1,n,none⟩=false:=by simp only [World.frozen?,q1];simp
 have HQ:=hide q1
 have HA:=hide (And.intro hAn hAz)
 clear hA q1 hAn hAz
 refine callsIn_of_wp_marks Tryd.func47 rfl trivial ?_ rfl
 simp only [Tryd.ntmps47,List.size_toArray,List.length_cons,List.length_nil,Nat.reduceAdd,Nat.reduceSub,Array.replicate_succ,Array.replicate_zero,List.push_toArray,List.append_toArray,List.nil_append,List.cons_append]
 gi_wp2_with (refine ⟨trivial,?_⟩;gi_at_call 64;refine (back57 Fence.wide _ trivial rfl _ _ _ _).mono ?_;rintro e w' ⟨rfl,rfl⟩)
 obtain ⟨W0,hW0⟩:∃ W0,W0=((((((w.alloc (.cells #[.slice (some ⟨kR,0,none⟩) n cap] 88)).alloc (.cells #[.string S] 9)).alloc (.cells #[.nilFunc,.nilFunc] 49)).alloc (.cells (A.setIfInBounds n (.func (.func 63) #[] #[])) 46)).alloc (.cells #[.slice (some ⟨w.heap.size+1+1+1,0,none⟩) (n+1) (n+1)] 104)).alloc (.cells #[.slice (some ⟨kR,0,none⟩) n cap] 88)):=⟨_,rfl⟩
 obtain ⟨hCI,hz0,hBs⟩:=cat_start w S kR cap n F A HA.out.2 W0 hW0
 rw [←hW0]
 have hord:w.heap.size≤w.heap.size∧w.heap.size<w.heap.size+1∧w.heap.size+1<w.heap.size+1+1∧w.heap.size+1+1<w.heap.size+1+1+1∧w.heap.size+1+1+1<w.heap.size+1+1+1+1∧w.heap.size+1+1+1+1<w.heap.size+6:=by omega
 have hBlo:w.heap.size+1+1+1+1+1<w.heap.size+6∧w.heap.size+1+1+1+1<w.heap.size+1+1+1+1+1:=by omega
 clear hW0 q2 q3 HQ HA k121 hwn
 generalize w.heap.size+1+1+1+1+1=Bs at *
 generalize w.heap.size+1+1+1+1=rB at *
 generalize w.heap.size+1+1+1=rR at *
 generalize w.heap.size+1+1=rs at *
 generalize w.heap.size+1=tB at *
 generalize w.heap.size+6=lo at *
 refine wpIn_rangeFunc_ownH (α:={ k:Nat // k<n }) rfl (by decide) (gf:=85) (lb:=#[.pointer (some ⟨Bs,0,none⟩)]) rfl trivial (enters_of Tryd.func85 (by kernel_rfl) rfl)
  (back_stops Fence.wide (5-1) trivial rfl (by decide) Bs kR n cap F (by omega) W0 hBs.c (by omega) (by omega) (fun k hk=>⟨(hCI.below.cell (p:=⟨kR,k*2,none⟩) hkR).trans (hc k hk).1,(hCI.below.cell (p:=⟨kR,k*2+1,none⟩) hkR).trans (hc k hk).2⟩))
  Kp.trans (fun W l o o' hl h a b=>⟨(belowK_b (w:=W0) (Nat.le_refl _) W l o o' hl h a b).block Bs (by omega),(belowK_b (w:=W0) (Nat.le_refl _) W l o o' hl h a b).block kR (by omega)⟩) (Below.refl _ _) (fun _=>rfl)
  (fun pre W=>CI w lo w.heap.size tB rs rR rB kR n cap S F pre W)
  (fun _ _ _=>False)
  (CI.own _ (by omega))
  (fun _ _ _ _ _ hs _ _=>hs)
  hCI
  (fun x a' W=>∃ Bx,lo≤Bx∧W.heap[Bx]?=some (.cells #[.int .i64 (x.1:Int)] 3 (0,0))∧W.heap[Bx+1]?=some (.cells #[.func (.func (F.fe x.1)) #[] (F.ce x.1),.func (.func (F.fp x.1)) #[] (F.cp x.1)] 49 (0,0))∧a'={ tmps:=#[.slice (some ⟨kR,0,none⟩) n cap,.string S,.pointer (some ⟨w.heap.size,0,none⟩),.pointer (some ⟨tB,0,none⟩),.pointer (some ⟨rs,0,none⟩),.pointer (some ⟨rB,0,none⟩),.pointer (some ⟨Bx,0,none⟩),.pointer (some ⟨Bx+1,0,none⟩),.slice (some ⟨kR,0,none⟩) n cap,.int .i64 (n:Int),.int .i64 ((n:Int)+1),.slice (some ⟨rR,0,none⟩) (n+1) (n+1),.slice (some ⟨rR,0,none⟩) (n+1) (n+1),.slice (some ⟨kR,0,none⟩) n cap,.int .i64 (n:Int),.pointer (some ⟨rR,n,none⟩),.slice (some ⟨kR,0,none⟩) n cap,.func (.func 85) #[] #[.pointer (some ⟨Bs,0,none⟩)],.int .i64 (x.1:Int),.agg #[.func (.func (F.fe x.1)) #[] (F.ce x.1),.func (.func (F.fp x.1)) #[] (F.cp x.1)],undef,undef,undef,undef,undef,undef,undef,undef,undef,undef,undef,undef,undef,undef,undef,undef,undef,undef,undef,undef,undef],defers:=[] })
  (fun x a' _ X Y row hs hg hr=>by obtain ⟨Bx,h1,h2,h3,h4⟩:=hs;exact ⟨Bx,h1,keep_grown hg (fun r e=>(hr r e).2) _ _ _ _ h2,keep_grown hg (fun r e=>(hr r e).2) _ _ _ _ h3,h4⟩)
  ?assign ?body ?done ?stop
 case assign =>
  rintro l pre x W K hi hK
  dsimp only [kidV]
  gi_wp2
  have hsz:=hi.size
  have hB:=((Below.refl W.heap.size W).alloc (Nat.le_refl _) (.cells #[.int .i64 (x.1:Int)] 3)).alloc (by simp) (.cells #[.func (.func (F.fe x.1)) #[] (F.ce x.1),.func (.func (F.fp x.1)) #[] (F.cp x.1)] 49)
  refine hK _ _ (((KeepsOthers.alloc _ _).trans (KeepsOthers.alloc _ _)).from _) ⟨hB.block _ (by omega),hB.block _ (by omega)⟩ (hi.keep (keep_of hB.block) hB.size (hi.below.trans (hB.mono (by omega)))) ⟨W.heap.size,hsz,?_,?_,rfl⟩
  ·rw [Below.heap_alloc _ _ _ (by simp)]
   exact heap_alloc_new W _
  ·have h:=heap_alloc_new (W.alloc (.cells #[.int .i64 (x.1:Int)] 3)) (.cells #[.func (.func (F.fe x.1)) #[] (F.ce x.1),.func (.func (F.fp x.1)) #[] (F.cp x.1)] 49)
   rw [show (W.alloc (.cells #[.int .i64 (x.1:Int)] 3)).heap.size=W.heap.size+1 by simp] at h
   exact h
 case body =>
  rintro l pre x a' W hl ⟨r,hr⟩ hI ⟨Bx,hBx,b0,b1,rfl⟩ hlt
  have hsz:=hI.size
  obtain ⟨vals,v1,v2,_⟩:=hI.row
  obtain ⟨k,hkx⟩:∃ k:Nat,k=x.1:=⟨_,rfl⟩
  have hkn:k<n:=by rw [hkx];exact x.2
  have c1:=hI.rest.c
  have c2:W.cell? ⟨Bx,0,none⟩=some (.int .i64 (k:Int)):=by rw [cell_one b0,hkx];rfl
  have c3:W.cell? ⟨Bx+1,0,none⟩=some (.func (.func (F.fe k)) #[] (F.ce k)):=by rw [cell_one b1,hkx];rfl
  obtain ⟨old,c4⟩:∃ old,W.cell? ⟨rR,k,none⟩=some old:=by
   rw [cell_one v2]
   exact ⟨_,Array.getElem?_eq_getElem (by omega)⟩
  have c5:W.frozen? ⟨rR,k,none⟩=false:=by simp only [World.frozen?,v2];simp
  have c6:=hI.kids.c
  have c7:=hI.text.c
  have hkn2:(k:Int)<((n:Int)+1):=by omega
  have hkn3:(k:Int)<((n+1:Nat):Int):=by omega
  have n1:¬ rR=Bx:=by omega
  have n2:¬ rR=Bx+1:=by omega
  have n3:¬ rR=w.heap.size:=by omega
  have n4:¬ rR=rB:=by omega
  have n5:¬ rR=tB:=by omega
  have HX:=hide hkx
  rw [←hkx]
  by_cases hlast:k+1=n
  ·have hnl:¬ (k:Int)+1<(n:Int):=by omega
   have HE:=hide (hI.last hord hlt x (by rw [←hkx];exact hlast))
   rw [←hkx] at HE
   clear hkx b0 b1 v2 hI
   gi_wp2
   exact ⟨(KeepsOthers.setCell _ _ _).from _,⟨Below.heap_setCell _ _ _ _ (by simp;omega),Below.heap_setCell _ _ _ _ (by simp;omega)⟩,HE.out⟩
  ·have hyl:(k:Int)+1<(n:Int):=by omega
   have HE:=hide (hI.more hord hlt x (by rw [←hkx];omega) Bx hBx b0 b1)
   rw [←hkx] at HE
   clear hkx b0 b1 v2 hI
   have h1':1≤5-1-1:=by decide
   obtain ⟨W1,hW1⟩:∃ W1,W1=W.setCell ⟨rR,k,none⟩ (.func (.func (F.fe k)) #[] (F.ce k)):=⟨_,rfl⟩
   have hz1:W1.heap.size=W.heap.size:=by rw [hW1];simp
   rw [←hW1] at HE
   obtain ⟨f1,f2,_⟩:=knW_facts W1 S (.func 66) #[.pointer (some ⟨Bx+1,0,none⟩),.pointer (some ⟨rB,0,none⟩),.pointer (some ⟨Bx,0,none⟩)]
   have HKn:Hid (Calls Tryd.prog 65 #[.string S,.func (.func 66) #[] #[.pointer (some ⟨Bx+1,0,none⟩),.pointer (some ⟨rB,0,none⟩),.pointer (some ⟨Bx,0,none⟩)]] W1.drew fun e w'=>e=.returned (knV W.heap.size)∧w'=(knW W1 S (.func 66) #[.pointer (some ⟨Bx+1,0,none⟩),.pointer (some ⟨rB,0,none⟩),.pointer (some ⟨Bx,0,none⟩)]).drew):=by
    have h:=known_call W1.drew S (.func 66) #[.pointer (some ⟨Bx+1,0,none⟩),.pointer (some ⟨rB,0,none⟩),.pointer (some ⟨Bx,0,none⟩)]
    rw [show W1.drew.heap.size=W.heap.size from hz1] at h
    refine hide (h.mono ?_)
    rintro e w' ⟨h1,h2⟩
    exact ⟨h1,h2⟩
   have hKO:KeepsOthers W1 (knW W1 S (.func 66) #[.pointer (some ⟨Bx+1,0,none⟩),.pointer (some ⟨rB,0,none⟩),.pointer (some ⟨Bx,0,none⟩)]):=by
    unfold knW
    exact (((KeepsOthers.alloc _ _).trans (KeepsOthers.alloc _ _)).trans (KeepsOthers.alloc _ _)).trans (KeepsOthers.alloc _ _)
   obtain ⟨W2,hW2⟩:∃ W2,W2=knW W1 S (.func 66) #[.pointer (some ⟨Bx+1,0,none⟩),.pointer (some ⟨rB,0,none⟩),.pointer (some ⟨Bx,0,none⟩)]:=⟨_,rfl⟩
   rw [←hW2] at HE HKn f1 f2 hKO
   have d1:W1.cell? ⟨rB,0,none⟩=some (.slice (some ⟨rR,0,none⟩) (n+1) (n+1)):=by rw [hW1,World.cell?_setCell_other _ _ _ _ (by intro e;simp at e <;> omega)];exact c1
   have d2:W1.cell? ⟨Bx,0,none⟩=some (.int .i64 (k:Int)):=by rw [hW1,World.cell?_setCell_other _ _ _ _ (by intro e;simp at e <;> omega)];exact c2
   have d7:W1.cell? ⟨tB,0,none⟩=some (.string S):=by rw [hW1,World.cell?_setCell_other _ _ _ _ (by intro e;simp at e <;> omega),c7]
   have d6:W1.cell? ⟨w.heap.size,0,none⟩=some (.slice (some ⟨kR,0,none⟩) n cap):=by rw [hW1,World.cell?_setCell_other _ _ _ _ (by intro e;simp at e <;> omega)];exact c6
   have d4:W1.cell? ⟨rR,k,none⟩=some (.func (.func (F.fe k)) #[] (F.ce k)):=by rw [hW1];exact World.cell?_setCell_same' _ _ _ (by rw [c4];rfl)
   have d5:W1.frozen? ⟨rR,k,none⟩=false:=by rw [hW1,World.frozen?_setCell];exact c5
   have l1:=cell_lt c1
   have l2:=cell_lt c2
   have l4:=cell_lt c4
   have g1:W2.cell? ⟨rB,0,none⟩=some (.slice (some ⟨rR,0,none⟩) (n+1) (n+1)):=(World.cell?_of_block (f1 rB (by rw [hz1];exact l1))).trans d1
   have g2:W2.cell? ⟨Bx,0,none⟩=some (.int .i64 (k:Int)):=(World.cell?_of_block (f1 Bx (by rw [hz1];exact l2))).trans d2
   have g4:W2.cell? ⟨rR,k,none⟩=some (.func (.func (F.fe k)) #[] (F.ce k)):=(World.cell?_of_block (f1 rR (by rw [hz1];exact l4))).trans d4
   have g5:W2.frozen? ⟨rR,k,none⟩=false:=(World.frozen?_of_block (f1 rR (by rw [hz1];exact l4))).trans d5
   have HK9:Hid (KeepsOthers W W1∧KeepsOthers W1 W2∧Kp Bs kR W W1∧Kp Bs kR W1 W2):=by
    refine hide ⟨by rw [hW1];exact KeepsOthers.setCell _ _ _,hKO,?_,f1 _ (by omega),f1 _ (by omega)⟩
    rw [hW1]
    exact ⟨Below.heap_setCell _ _ _ _ (by simp;omega),Below.heap_setCell _ _ _ _ (by simp;omega)⟩
   unfold knV at HKn HE
   gi_wp2
   rw [←hW1]
   clear hW1 hW2 c1 c2 c3 c4 c5 c6 c7 f1 hKO
   have hfol:Tryd.prog.follows Departure.mixedOrders=true:=by kernel_rfl
   gi_region_with_o (refine ⟨trivial,?_⟩;gi_at_call 65;refine (CallsIn.inRound l (callsIn_wide.2 HKn.out)).mono ?_;rintro e w' ⟨rfl,rfl⟩)
   all_goals gi_wp2
   all_goals exact ⟨((HK9.out.1.trans HK9.out.2.1).trans ((KeepsOthers.setCell _ _ _).trans (KeepsOthers.drew _))).from _,Kp.trans HK9.out.2.2.1 (Kp.trans HK9.out.2.2.2 ⟨Below.heap_setCell _ _ _ _ (by simp;omega),Below.heap_setCell _ _ _ _ (by simp;omega)⟩),CI.keep HE.out (fun _ _ _ _ h=>h) (Nat.le_refl _) HE.out.below.drew⟩
 case done =>
  rintro D zs W hD hzs hI hK
  have hzl:zs.length=n:=by have:=congrArg List.length hzs;simpa [dn_length] using this
  obtain ⟨vals,v1,v2,v3⟩:=hI.row
  obtain ⟨c,y,ly⟩:=v3 (by rw [hzl];exact hzs)
  rw [hzl] at ly
  obtain ⟨fn,caps,hv⟩:∃ fn caps,restV F n c 0=.func fn #[] caps:=by
   unfold restV knV
   split
   ·exact ⟨_,_,rfl⟩
   ·split
    ·exact ⟨_,_,rfl⟩
    ·exact ⟨_,_,rfl⟩
  have c1:=hI.rest.c
  have c4:W.cell? ⟨rR,0,none⟩=some (.func fn #[] caps):=by rw [cell_one v2,ly.row 0 (by omega) (by omega),hv]
  have r0:W.cell? ⟨rs,0,none⟩=some .nilFunc:=by rw [cell_one hI.res];rfl
  have r1:W.cell? ⟨rs,1,none⟩=some .nilFunc:=by rw [cell_one hI.res];rfl
  have r2:W.frozen? ⟨rs,0,none⟩=false:=by simp only [World.frozen?,hI.res];simp
  have r3:W.frozen? ⟨rs,1,none⟩=false:=by simp only [World.frozen?,hI.res];simp
  have hlen:(0:Int)<((n+1:Nat):Int):=by omega
  have hlen2:(0:Int)<(n:Int)+1:=by omega
  have HI9:=hide (And.intro hI (And.intro v2 ly))
  clear hI v3 v2 ly hzs v1
  gi_wp2
  obtain ⟨hI,v2,ly⟩:=HI9.out
  have hD2:rs<D:=by omega
  have s0:=World.cell?_setCell_same' W ⟨rs,0,none⟩ (.func fn #[] caps) (by rw [r0];rfl)
  have s1:(W.setCell ⟨rs,0,none⟩ (.func fn #[] caps)).cell? ⟨rs,1,none⟩=some .nilFunc:=by rw [World.cell?_setCell_other _ _ _ _ (by intro e;simp at e)];exact r1
  have t1:=World.cell?_setCell_same' (W.setCell ⟨rs,0,none⟩ (.func fn #[] caps)) ⟨rs,1,none⟩ (.func (.func 68) #[] #[.pointer (some ⟨w.heap.size,0,none⟩),.pointer (some ⟨rB,0,none⟩)]) (by rw [s1];rfl)
  have t0:((W.setCell ⟨rs,0,none⟩ (.func fn #[] caps)).setCell ⟨rs,1,none⟩ (.func (.func 68) #[] #[.pointer (some ⟨w.heap.size,0,none⟩),.pointer (some ⟨rB,0,none⟩)])).cell? ⟨rs,0,none⟩=some (.func fn #[] caps):=by rw [World.cell?_setCell_other _ _ _ _ (by intro e;simp at e)];exact s0
  have hKO:=(KeepsOthers.setCell W ⟨rs,0,none⟩ (.func fn #[] caps)).trans (KeepsOthers.setCell _ ⟨rs,1,none⟩ (.func (.func 68) #[] #[.pointer (some ⟨w.heap.size,0,none⟩),.pointer (some ⟨rB,0,none⟩)]))
  have hK3:=hKO.same D _ hK rfl
  have hB3:=(hI.below.setCell (p:=⟨rs,0,none⟩) (by simp;omega) (.func fn #[] caps)).setCell (p:=⟨rs,1,none⟩) (by simp;omega) (.func (.func 68) #[] #[.pointer (some ⟨w.heap.size,0,none⟩),.pointer (some ⟨rB,0,none⟩)])
  have hs3:∀ b,b≠rs→((W.setCell ⟨rs,0,none⟩ (.func fn #[] caps)).setCell ⟨rs,1,none⟩ (.func (.func 68) #[] #[.pointer (some ⟨w.heap.size,0,none⟩),.pointer (some ⟨rB,0,none⟩)])).heap[b]?=W.heap[b]? := fun b hb=>(Below.heap_setCell _ _ _ b hb).trans (Below.heap_setCell _ _ _ b hb)
  generalize (W.setCell ⟨rs,0,none⟩ (.func fn #[] caps)).setCell ⟨rs,1,none⟩ (.func (.func 68) #[] #[.pointer (some ⟨w.heap.size,0,none⟩),.pointer (some ⟨rB,0,none⟩)])=W3 at *
  have hkp:Keep1 W3 (W3.putObj D (.deferred none)):=keep_grown (grownBy_putObj' W3 D (.deferred none)) (fun r e=>by cases e;exact ⟨_,hK3,rfl⟩)
  have u0:=cell_kept t0 (grownBy_putObj' W3 D (.deferred none)) (fun r e=>by cases e;exact ⟨_,hK3,rfl⟩)
  have u1:=cell_kept t1 (grownBy_putObj' W3 D (.deferred none)) (fun r e=>by cases e;exact ⟨_,hK3,rfl⟩)
  have hB4:=hB3.trans (belowK_b (w:=W0) (n₀:=w.heap.size) (by omega) W3 D _ (.deferred none) (by omega) hK3 rfl rfl)
  have hF9:=HFF.out
  subst hF9
  have hW:=hI.way HN.out.1 HN.out.2.1 HN.out.2.2.1 HN.out.2.2.2.1 ks HN.out.2.2.2.2.1 hn8 HN.out.2.2.2.2.2.1 cs HN.out.2.2.2.2.2.2.1 HN.out.2.2.2.2.2.2.2 hord vals v2 c y ly (fun b cs t f hb h=>hkp b cs t f ((hs3 b hb).trans h)) hB4
  rw [hv] at hW
  refine ⟨by simp,.inl ⟨_,_,rfl,run_takeDeferred hK3,?_⟩⟩
  refine ⟨.agg #[.func fn #[] caps,.func (.func 68) #[] #[.pointer (some ⟨w.heap.size,0,none⟩),.pointer (some ⟨rB,0,none⟩)]],?_,⟨_,_,seqL (ends ks),seqLS (prs ks)⟩,rfl,rfl,rfl,hW⟩
  simp [results,Tryd.results47,go_sem,u0,u1]
 case stop =>
  rintro D c pre W _ _ h _
  exact h.elim
theorem cat_mk (L N:Nat) (M:Fz) (K:Ks) (R:Rs) (O:Lb) (w:World) (S:ByteArray) (kR n cap:Nat) (ks:List Kd) (cs:Array Value) (hI:Inv L M K R O w) (hf:Few K R) (hL:L≤22) (hS:S.size=L) (hn:ks.length=n) (hn8:n≤900)
  (hk:∀ k∈ks,KdOK L M K N k) (m2:M kR=some (.cells cs 49 (0,0))) (hcr:∀ (i:Nat) (v:Value),(rowOf ks)[i]?=some v→cs[i]?=some v) :
  Calls Tryd.prog 47 #[.slice (some ⟨kR,0,none⟩) n cap,.string S] w (WayMade L M K R O w N (seqL (ends ks)) (seqLS (prs ks))):=callsIn_wide.1 (catWay_any L N M K R O w S kR n cap ks cs hI hf hL hS hn hn8 hk m2 hcr)
end Go.Proofs.YtfhimmnoipfiaaaDoor.cmk
namespace Go.Proofs.YtfhimmnoipfiaaaDoor.eng
open Go.ChangeShapes Go.WideShapes Go.ChangeAt Go.RowKit
open bytes places sets tz rex
attribute [local go_sem] Oper.semAt_some
theorem info49:(Tryd.prog.info? 49).map (fun i=>(i.zero,i.size,i.bytes))=some (some (.agg #[.nilFunc,.nilFunc]),2,16):=by kernel_rfl
theorem KdOK.congr {L:Nat} {M:Fz} {K:Ks} {N:Nat} {k:Kd} (h:KdOK L M K N k) {a:B2} {s:Sp} (ha:k.a=a) (hs:∀ i j out,i≤j→a i j=true→k.s i j out=s i j out):KdOK L M K N ⟨k.ve,k.vp,a,s⟩:=by
 subst ha
 obtain ⟨f,cs,e,o,hp⟩:=h.p
 refine ⟨h.e,⟨f,cs,e,o,?_⟩,h.mono⟩
 intro M' K' R O w hM hK hI i j g n c out hij hj hm hg hsp hn hN hc h100
 have:=hp M' K' R O w hM hK hI i j g n c out hij hj hm hg hsp hn hN hc h100
 rw [hs i j out hij hm] at this
 exact this
theorem WayMade.congr {L:Nat} {M:Fz} {K:Ks} {R:Rs} {O:Lb} {w w':World} {N:Nat} {a a':B2} {s s':Sp} {e:Ending} (h:WayMade L M K R O w N a s e w') (ha:a=a') (hs:∀ i j out,i≤j→a' i j=true→s i j out=s' i j out):WayMade L M K R O w N a' s' e w':=by
 obtain ⟨k,h1,h2,h3,h4⟩:=h
 refine ⟨⟨k.ve,k.vp,a',s'⟩,h1,rfl,rfl,h4.mono fun M' K' _ _ hk=>hk.congr (h2.trans ha) fun i j out hij hm => ?_⟩
 rw [h3]
 exact hs i j out hij hm
theorem rowOf_app (a b:List Kd):rowOf (a++b)=rowOf a++rowOf b:=by simp [rowOf]
theorem prs_rep (n:Nat) (k k2:Kd):prs (List.replicate n k++[k2])=List.replicate n (k.a,k.s)++[(k2.a,k2.s)]:=by simp [prs]
theorem ends_rep (n:Nat) (k k2:Kd):ends (List.replicate n k++[k2])=List.replicate n k.a++[k2.a]:=by simp [ends]
section
variable {L:Nat} {M:Fz} {K:Ks} {R0 R:Rs} {O0 O:Lb} {w0 W W':World}
theorem St.grownO (h:St L M K R0 O0 w0 R O W) {r:Option Nat} (hg:W.grownBy W' r) (ho:∀ g,r=some g→O g=none∧w0.heap.size≤g):St L M K R0 O0 w0 R O W' :=
 St.of (h.inv.keep hg.size fun b hb=>hg.block b (h.inv.lt b hb) (fun e=>hb (ho b e.symm).1))
  ⟨hg.os.trans h.os,hg.tape.trans h.tape,hg.output.trans h.output,Nat.le_trans h.size hg.size,fun b hb hO=>(hg.block b (by have:=h.size;omega) (fun e=>by have:=(ho b e.symm).2;omega)).trans (h.same b hb hO),h.lab,h.rows⟩
end
structure RR (L:Nat) (M:Fz) (K:Ks) (R:Rs) (O:Lb) (w W0:World) (k:Kd) (t:Nat) (v:Value) (W:World):Prop where
 st:St L M K R O w R O W
 own:W.ownsRow (w.heap.size+3) 49 2 v t (rowOf (List.replicate t k))
 low:∀ b,b<w.heap.size+3→W.heap[b]?=W0.heap[b]?
 size:w.heap.size+3≤W.heap.size
section
variable {L:Nat} {M:Fz} {K:Ks} {R:Rs} {O:Lb} {w W0 W:World} {k:Kd} {t:Nat} {v:Value}
theorem RR.fresh (h:RR L M K R O w W0 k t v W) (hI:Inv L M K R O w):∀ g,v.ownBlock=some g→O g=none∧w.heap.size+3≤g∧g<W.heap.size:=fun g hg=>by
 have:=h.own.lt g hg
 exact ⟨hI.fresh (by omega),this.1,this.2⟩
theorem RR.step (h:RR L M K R O w W0 k t v W) (hI:Inv L M K R O w) {g cap:Nat} {W3:World} (h1:W3.ownsRow (w.heap.size+3) 49 2 (.slice (some ⟨g,0,none⟩) (t+1) cap) (t+1) (rowOf (List.replicate t k)++[k.ve,k.vp])) (h2:(W.alloc (.cells #[k.ve,k.vp] 49)).grownBy W3 v.ownBlock) :
  RR L M K R O w W0 k (t+1) (.slice (some ⟨g,0,none⟩) (t+1) cap) W3:=by
 have hf:=h.fresh hI
 have hs:=h.size
 refine ⟨(h.st.alloc _).grownO h2 (fun g hg=>⟨(hf g hg).1,by have:=(hf g hg).2.1;omega⟩),?_,fun b hb => ?_,by have:=h2.size;simp at this;omega⟩
 ·have e:rowOf (List.replicate (t+1) k)=rowOf (List.replicate t k)++[k.ve,k.vp]:=by
   rw [List.replicate_succ',rowOf_app];rfl
  rw [e]
  exact h1
 ·refine (h2.block b (by simp;omega) (fun e => ?_)).trans ((Below.heap_alloc _ _ _ (by omega)).trans (h.low b hb))
  have:=(hf b e.symm).2.1
  omega
theorem RR.fin {N n:Nat} (h:RR L M K R O w W0 k n v W) (hI:Inv L M K R O w) (hk:KdOK L M K N k) {k2:Kd} {w3:World} {M':Fz} {K':Ks} {R':Rs} {O':Lb} (g1:FLe M M') (g2:KLe K K') (g3:St L M' K' R O W R' O' w3) (g4:Few K' R') (hk2:KdOK L M' K' N k2) :
  w3.ownsRow (w.heap.size+3) 49 2 v n (rowOf (List.replicate n k))∧(∀ b,b<w.heap.size+3→w.heap.size≤b→w3.heap[b]?=W0.heap[b]?)∧w.heap.size+3≤w3.heap.size ∧
   ∀ g cap W5,W5.ownsRow (w.heap.size+3) 49 2 (.slice (some ⟨g,0,none⟩) (n+1) cap) (n+1) (rowOf (List.replicate n k)++[k2.ve,k2.vp])→(w3.alloc (.cells #[k2.ve,k2.vp] 49)).grownBy W5 v.ownBlock→(v.ownBlock=some g∨g=w3.heap.size+1) →
    ∃ M2 O2 cur,FLe M' M2∧St L M2 K' R O w R' O2 W5∧M2 g=some (.cells cur 49 (0,0))∧(∀ (i:Nat) (x:Value),(rowOf (List.replicate n k++[k2]))[i]?=some x→cur[i]?=some x)∧(∀ q∈List.replicate n k++[k2],KdOK L M2 K' N q)∧(∀ b,b<w.heap.size+3→w.heap.size≤b→W5.heap[b]?=W0.heap[b]? ∧ O2 b=none):=by
 have hf:=h.fresh hI
 have hs:=h.size
 have hz3:=g3.size
 have low3:∀ b,b<w.heap.size+3→w.heap.size≤b→w3.heap[b]?=W0.heap[b]? := fun b h1 h2=>(g3.same b (by omega) (.inl (hI.fresh h2))).trans (h.low b h1)
 have own3:w3.ownsRow (w.heap.size+3) 49 2 v n (rowOf (List.replicate n k)):=by
  refine ⟨h.own.1,?_⟩
  rcases h.own.2 with h0 | ⟨g0,cap0,cur,z1,z2,z3,z4⟩
  ·exact .inl h0
  ·have hg0:=hf g0 (by rw [z1];rfl)
   exact .inr ⟨g0,cap0,cur,z1,z2,(g3.same g0 hg0.2.2 (.inl hg0.1)).trans z3,z4⟩
 refine ⟨own3,low3,by omega,fun g cap W5 r1 r2 r3 => ?_⟩
 have hf3:∀ g,v.ownBlock=some g→O' g=none∧w.heap.size+3≤g∧g<W.heap.size:=fun g hg=>⟨(g3.lab g (hf g hg).2.2).trans (hf g hg).1,(hf g hg).2⟩
 have hS5:=((h.st.then g3).alloc (.cells #[k2.ve,k2.vp] 49)).grownO r2 (fun g hg=>⟨(hf3 g hg).1,by have:=(hf3 g hg).2.1;omega⟩)
 rcases r1.2 with ⟨h0,_⟩|⟨g0,cap0,cur,z1,z2,z3,z4,z5,z6,z7⟩
 ·cases h0
 ·have hgg:g0=g:=by simp at z1;exact z1.1.symm
  subst hgg
  have og:O' g0=none:=by
   rcases r3 with r3 | r3
   ·exact (hf3 g0 r3).1
   ·exact g3.fresh (by omega)
  obtain ⟨M2,i1,i2,i3⟩:=hS5.fz' (b:=g0) (by omega) z3 og
  refine ⟨M2,_,cur,i1,i3,i2,fun i x hx => ?_,fun q hq => ?_,fun b hb1 hb2=>⟨?_,?_⟩⟩
  ·rw [rowOf_app] at hx
   have hx':(rowOf (List.replicate n k)++[k2.ve,k2.vp])[i]?=some x:=hx
   rw [←z7] at hx'
   have hl:=(List.getElem?_eq_some_iff.1 hx').1
   rw [List.length_take] at hl
   rw [List.getElem?_take_of_lt (by omega)] at hx'
   simpa using hx'
  ·rw [List.mem_append] at hq
   rcases hq with hq | hq
   ·rw [List.eq_of_mem_replicate hq]
    exact hk.up (g1.trans i1) g2
   ·simp only [List.mem_singleton] at hq
    rw [hq]
    exact hk2.up i1 (KLe.refl _)
  ·refine (r2.block b (by simp;omega) (fun e => ?_)).trans ((Below.heap_alloc _ _ _ (by omega)).trans (low3 b hb1 hb2))
   have:=(hf3 b e.symm).2.1
   omega
  ·rw [up_ne _ _ (by omega)]
   exact (g3.lab b (by omega)).trans (hI.fresh hb2)
end
end Go.Proofs.YtfhimmnoipfiaaaDoor.eng
namespace Go.Proofs.YtfhimmnoipfiaaaDoor.eng
open Go.ChangeShapes Go.WideShapes Go.ChangeAt Go.RowKit
open bytes places sets tz rex
attribute [local go_sem] Oper.semAt_some
def RchMade (L:Nat) (M:Fz) (K:Ks) (R:Rs) (O:Lb) (w:World) (a:B2) (e:Ending) (w':World):Prop :=
 ∃ f cs,e=.returned (.func (.func f) #[] cs)∧OkF f∧Made L M K R O w w' fun M' K'=>∀ p,p≤L→At L M' K' f cs p (pl L a p)
set_option maxHeartbeats 1000000 in
theorem empty_call (w:World) (q:Int):Calls Tryd.prog 73 #[.int .i64 q] w fun e w'=>e=.returned (.func (.func 90) #[] #[.pointer (some ⟨w.heap.size,0,none⟩)])∧w'=w.alloc (.cells #[.int .i64 q] 3):=by
 have hmf:=mf
 go_enter Tryd.func73,Tryd.ntmps73
 go_wp2
 go_ret
 exact ⟨rfl,rfl⟩
set_option maxHeartbeats 1000000 in
theorem byte_call (w:World) (S:ByteArray) (f:Nat) (cs:Array Value):Calls Tryd.prog 74 #[.string S,.func (.func f) #[] cs] w fun e w'=>e=.returned (.func (.func 91) #[] #[.pointer (some ⟨w.heap.size,0,none⟩),.pointer (some ⟨w.heap.size+1,0,none⟩)])∧w'=(w.alloc (.cells #[.string S] 9)).alloc (.cells #[.func (.func f) #[] cs] 113):=by
 have hmf:=mf
 go_enter Tryd.func74,Tryd.ntmps74
 go_wp2
 go_ret
 exact ⟨rfl,rfl⟩
def leafCells:Tr→Value→Option (Array Value)
 | .char b,v=>some #[.int .i64 1,.int .i64 b,.int .i64 0,.string ⟨#[]⟩,v]
 | .any,v=>some #[.int .i64 2,.int .i64 0,.int .i64 0,.string ⟨#[]⟩,v]
 | .set s,v=>some #[.int .i64 3,.int .i64 0,.int .i64 0,.string (strOfNums s),v]
 | .beg,v=>some #[.int .i64 4,.int .i64 0,.int .i64 0,.string ⟨#[]⟩,v]
 | .fin,v=>some #[.int .i64 5,.int .i64 0,.int .i64 0,.string ⟨#[]⟩,v]
 | _,_=>none
section
variable {L:Nat} {M:Fz} {K:Ks} {R:Rs} {O:Lb} {w:World}
theorem fz3 (hI:Inv L M K R O w) (hf:Few K R) (o1 o2 o3:Obj) {G:Fz→Ks→Prop}
  (h:∀ M',FLe M M'→M' w.heap.size=some o1→M' (w.heap.size+1)=some o2→M' (w.heap.size+2)=some o3→G M' K):Made L M K R O w (((w.alloc o1).alloc o2).alloc o3) G:=by
 have hB:Below w.heap.size w (((w.alloc o1).alloc o2).alloc o3):=(((Below.refl _ _).alloc (Nat.le_refl _) _).alloc (by simp) _).alloc (by simp;omega) _
 have b1:(((w.alloc o1).alloc o2).alloc o3).heap[w.heap.size]?=some o1:=by
  rw [Below.heap_alloc _ _ _ (by simp;omega),Below.heap_alloc _ _ _ (by simp)]
  exact heap_alloc_new w _
 have b2:(((w.alloc o1).alloc o2).alloc o3).heap[w.heap.size+1]?=some o2:=by
  rw [Below.heap_alloc _ _ _ (by simp)]
  have h:=heap_alloc_new (w.alloc o1) o2
  rw [World.size_alloc] at h
  exact h
 have b3:(((w.alloc o1).alloc o2).alloc o3).heap[w.heap.size+2]?=some o3:=by
  have h:=heap_alloc_new ((w.alloc o1).alloc o2) o3
  rw [World.size_alloc,World.size_alloc] at h
  exact h
 generalize ((w.alloc o1).alloc o2).alloc o3=W at *
 have h0:=(St.refl hI).below hB
 have q0:O w.heap.size=none:=hI.fresh (Nat.le_refl _)
 have q1:O (w.heap.size+1)=none:=hI.fresh (by omega)
 have q2:O (w.heap.size+2)=none:=hI.fresh (by omega)
 have h1:=h0.freeze (Nat.le_refl _) b1 q0
 have h2:=h1.freeze (b:=w.heap.size+1) (by omega) b2 (by rw [up_ne _ _ (by omega)];exact q1)
 have h3:=h2.freeze (b:=w.heap.size+2) (by omega) b3 (by rw [up_ne _ _ (by omega),up_ne _ _ (by omega)];exact q2)
 have l:=((FLe.up (M_none hI q0) o1).trans (FLe.up (b:=w.heap.size+1) (by rw [up_ne _ _ (by omega)];exact M_none hI q1) o2)).trans (FLe.up (b:=w.heap.size+2) (by rw [up_ne _ _ (by omega),up_ne _ _ (by omega)];exact M_none hI q2) o3)
 exact ⟨_,K,R,_,l,KLe.refl _,h3,hf,h _ l (by rw [up_ne _ _ (by omega),up_ne _ _ (by omega),up_same]) (by rw [up_ne _ _ (by omega),up_same]) (up_same _ _ _)⟩
theorem fz2 (hI:Inv L M K R O w) (hf:Few K R) (o1 o2:Obj) {G:Fz→Ks→Prop}
  (h:∀ M',FLe M M'→M' w.heap.size=some o1→M' (w.heap.size+1)=some o2→G M' K):Made L M K R O w ((w.alloc o1).alloc o2) G:=by
 have hB:Below w.heap.size w ((w.alloc o1).alloc o2):=((Below.refl _ _).alloc (Nat.le_refl _) _).alloc (by simp) _
 have b1:((w.alloc o1).alloc o2).heap[w.heap.size]?=some o1:=by
  rw [Below.heap_alloc _ _ _ (by simp)]
  exact heap_alloc_new w _
 have b2:((w.alloc o1).alloc o2).heap[w.heap.size+1]?=some o2:=by
  have h:=heap_alloc_new (w.alloc o1) o2
  rw [World.size_alloc] at h
  exact h
 generalize (w.alloc o1).alloc o2=W at *
 have h0:=(St.refl hI).below hB
 have q0:O w.heap.size=none:=hI.fresh (Nat.le_refl _)
 have q1:O (w.heap.size+1)=none:=hI.fresh (by omega)
 have h1:=h0.freeze (Nat.le_refl _) b1 q0
 have h2:=h1.freeze (b:=w.heap.size+1) (by omega) b2 (by rw [up_ne _ _ (by omega)];exact q1)
 have l:=(FLe.up (M_none hI q0) o1).trans (FLe.up (b:=w.heap.size+1) (by rw [up_ne _ _ (by omega)];exact M_none hI q1) o2)
 exact ⟨_,K,R,_,l,KLe.refl _,h2,hf,h _ l (by rw [up_ne _ _ (by omega),up_same]) (up_same _ _ _)⟩
end
set_option maxRecDepth 20000 in
set_option maxHeartbeats 8000000 in
theorem leaf_mk (M:Fz) (K:Ks) (R:Rs) (O:Lb) (w:World) (ts:List Int) (hts:∀ t∈ts,0≤t∧t≤255) (hl:ts.length≤22) (t:Tr) (v:Value) (cs:Array Value) (hI:Inv ts.length M K R O w) (hf:Few K R) (hcs:leafCells t v=some cs) (hset:∀ s,t=.set s→∀ x∈s,0≤x∧x≤255) :
  Calls Tryd.prog 50 #[.agg cs,.string (strOfNums ts)] w (RchMade ts.length M K R O w (rex.mt ts t)):=by
 have hmf:=mf
 have hS:(strOfNums ts).size=ts.length:=strOfNums_size _
 cases t with
 | char b =>
  simp only [leafCells,Option.some.injEq] at hcs
  subst hcs
  have HC:=hide (byte_call (w.alloc (.cells #[.int .i64 1,.int .i64 b,.int .i64 0,.string ⟨#[]⟩,v] 25)) (strOfNums ts) 75 #[.pointer (some ⟨w.heap.size,0,none⟩)])
  have HM:Hid (Made ts.length M K R O w _ _):=fz3 hI hf (.cells #[.int .i64 1,.int .i64 b,.int .i64 0,.string ⟨#[]⟩,v] 25) (.cells #[.string (strOfNums ts)] 9) (.cells #[.func (.func 75) #[] #[.pointer (some ⟨w.heap.size,0,none⟩)]] 113) (G:=fun M' K'=>∀ p,p≤ts.length→At ts.length M' K' 91 #[.pointer (some ⟨w.heap.size+1,0,none⟩),.pointer (some ⟨w.heap.size+1+1,0,none⟩)] p (pl ts.length (rex.mt ts (.char b)) p))
   (fun M' hM m1 m2 m3 p hp=>by
    rw [pl_char]
    exact (byte_qu M' _ _ ts 75 _ _ p hl hp hts m2 m3 OkF75 (take_char M' _ b _ m1 rfl)).at)
  rw [World.size_alloc] at HC
  generalize strOfNums ts=S at HC HM hS ⊢
  clear hI hf hset
  go_enter Tryd.func50,Tryd.ntmps50
  go_wp2_with (go_at_call 74;refine HC.out.mono ?_;rintro e w' ⟨rfl,rfl⟩)
  go_ret
  exact ⟨91,_,rfl,OkF91,HM.out⟩
 | any =>
  simp only [leafCells,Option.some.injEq] at hcs
  subst hcs
  have HC:=hide (byte_call (w.alloc (.cells #[.int .i64 2,.int .i64 0,.int .i64 0,.string ⟨#[]⟩,v] 25)) (strOfNums ts) 78 #[])
  have HM:Hid (Made ts.length M K R O w _ _):=fz3 hI hf (.cells #[.int .i64 2,.int .i64 0,.int .i64 0,.string ⟨#[]⟩,v] 25) (.cells #[.string (strOfNums ts)] 9) (.cells #[.func (.func 78) #[] #[]] 113) (G:=fun M' K'=>∀ p,p≤ts.length→At ts.length M' K' 91 #[.pointer (some ⟨w.heap.size+1,0,none⟩),.pointer (some ⟨w.heap.size+1+1,0,none⟩)] p (pl ts.length (rex.mt ts .any) p))
   (fun M' hM m1 m2 m3 p hp=>by
    rw [pl_any]
    exact (byte_qu M' _ _ ts 78 _ _ p hl hp hts m2 m3 OkF78 (take_any M')).at)
  rw [World.size_alloc] at HC
  generalize strOfNums ts=S at HC HM hS ⊢
  clear hI hf hset
  go_enter Tryd.func50,Tryd.ntmps50
  go_wp2_with (go_at_call 74;refine HC.out.mono ?_;rintro e w' ⟨rfl,rfl⟩)
  go_ret
  exact ⟨91,_,rfl,OkF91,HM.out⟩
 | set s =>
  simp only [leafCells,Option.some.injEq] at hcs
  subst hcs
  have HC:=hide (byte_call (w.alloc (.cells #[.int .i64 3,.int .i64 0,.int .i64 0,.string (strOfNums s),v] 25)) (strOfNums ts) 76 #[.pointer (some ⟨w.heap.size,0,none⟩)])
  have HM:Hid (Made ts.length M K R O w _ _):=fz3 hI hf (.cells #[.int .i64 3,.int .i64 0,.int .i64 0,.string (strOfNums s),v] 25) (.cells #[.string (strOfNums ts)] 9) (.cells #[.func (.func 76) #[] #[.pointer (some ⟨w.heap.size,0,none⟩)]] 113) (G:=fun M' K'=>∀ p,p≤ts.length→At ts.length M' K' 91 #[.pointer (some ⟨w.heap.size+1,0,none⟩),.pointer (some ⟨w.heap.size+1+1,0,none⟩)] p (pl ts.length (rex.mt ts (.set s)) p))
   (fun M' hM m1 m2 m3 p hp=>by
    rw [pl_set]
    exact (byte_qu M' _ _ ts 76 _ _ p hl hp hts m2 m3 OkF76 (take_set M' _ s (hset s rfl) _ m1 rfl)).at)
  rw [World.size_alloc] at HC
  generalize strOfNums ts=S at HC HM hS ⊢
  generalize strOfNums s=S2 at HC HM ⊢
  clear hI hf hset
  go_enter Tryd.func50,Tryd.ntmps50
  go_wp2_with (go_at_call 74;refine HC.out.mono ?_;rintro e w' ⟨rfl,rfl⟩)
  go_ret
  exact ⟨91,_,rfl,OkF91,HM.out⟩
 | beg =>
  simp only [leafCells,Option.some.injEq] at hcs
  subst hcs
  have HC:=hide (empty_call (w.alloc (.cells #[.int .i64 4,.int .i64 0,.int .i64 0,.string ⟨#[]⟩,v] 25)) 0)
  have HM:Hid (Made ts.length M K R O w _ _):=fz2 hI hf (.cells #[.int .i64 4,.int .i64 0,.int .i64 0,.string ⟨#[]⟩,v] 25) (.cells #[.int .i64 0] 3) (G:=fun M' K'=>∀ p,p≤ts.length→At ts.length M' K' 90 #[.pointer (some ⟨w.heap.size+1,0,none⟩)] p (pl ts.length (rex.mt ts .beg) p))
   (fun M' hM m1 m2 p hp=>by
    rw [pl_beg]
    exact (empty_qu M' _ 0 p (by omega) m2).at)
  rw [World.size_alloc] at HC
  generalize strOfNums ts=S at hS ⊢
  clear hI hf hset
  go_enter Tryd.func50,Tryd.ntmps50
  go_wp2_with (go_at_call 73;refine HC.out.mono ?_;rintro e w' ⟨rfl,rfl⟩)
  go_ret
  exact ⟨90,_,rfl,OkF90,HM.out⟩
 | fin =>
  simp only [leafCells,Option.some.injEq] at hcs
  subst hcs
  have HC:=hide (empty_call (w.alloc (.cells #[.int .i64 5,.int .i64 0,.int .i64 0,.string ⟨#[]⟩,v] 25)) (ts.length:Int))
  have HM:Hid (Made ts.length M K R O w _ _):=fz2 hI hf (.cells #[.int .i64 5,.int .i64 0,.int .i64 0,.string ⟨#[]⟩,v] 25) (.cells #[.int .i64 (ts.length:Int)] 3) (G:=fun M' K'=>∀ p,p≤ts.length→At ts.length M' K' 90 #[.pointer (some ⟨w.heap.size+1,0,none⟩)] p (pl ts.length (rex.mt ts .fin) p))
   (fun M' hM m1 m2 p hp=>by
    rw [pl_fin]
    exact (empty_qu M' _ ts.length p (by omega) m2).at)
  rw [World.size_alloc] at HC
  generalize strOfNums ts=S at hS ⊢
  clear hI hf hset
  go_enter Tryd.func50,Tryd.ntmps50
  go_wp2_with (go_at_call 73;refine HC.out.mono ?_;rintro e w' ⟨rfl,rfl⟩)
  go_ret
  exact ⟨90,_,rfl,OkF90,HM.out⟩
 | group n k=>cases hcs
 | cat ks=>cases hcs
 | alt ks=>cases hcs
 | rep n m k=>cases hcs
end Go.Proofs.YtfhimmnoipfiaaaDoor.eng
