import Derived.Test.YtfhimmnoipfiaaaDoorQ08
import Derived.Deep.RegionLaw
import Derived.Deep.AppendLies
import Derived.Test.YtfhimmnoipfiaaaDoorQ01
set_option linter.unusedVariables false
open Go.ChangeShapes Go.WideShapes Go.ChangeAt Go.RowKit
namespace Go.Proofs.YtfhimmnoipfiaaaDoor.eng
open bytes places sets tz rex
theorem set_len {s:List Int} (hs:∀ x∈s,0≤x∧x≤255) (hp:s.Pairwise (· < ·)):s.length≤256:=by
 have key:∀ (l:List Int) (a:Int),(a::l).Pairwise (· < ·)→(∀ x∈(a::l),x≤255)→(l.length:Int)+a≤255:=by
  intro l
  induction l with
  | nil=>intro a _ h;have:=h a (by simp);simp;omega
  | cons b l ih =>
   intro a h1 h2
   have h3:=ih b (List.pairwise_cons.1 h1).2 (fun x hx=>h2 x (List.mem_cons_of_mem _ hx))
   have h4:=(List.pairwise_cons.1 h1).1 b (by simp)
   simp
   omega
 cases s with
 | nil=>simp
 | cons a l =>
  have h1:=key l a hp (fun x hx=>(hs x hx).2)
  have h2:=(hs a (by simp)).1
  simp
  omega
theorem right_kinds {M:Fz} {T:Tr} {N g ln cp:Nat} {kind n9 m9:Int} {ss:ByteArray} {o:Option Addr} (hT:OkT N T) (hn:NumT g T) (h:RxAt M T (rxV kind n9 m9 ss (.slice o ln cp))) :
  (kind=1∧0≤n9∧n9≤255∧m9=0∧ss=mt0∧ln=0∧gdT T=0)∨(kind=2∧n9=0∧m9=0∧ss=mt0∧ln=0∧gdT T=0)∨(kind=4∧n9=0∧m9=0∧ss=mt0∧ln=0∧gdT T=0)∨(kind=5∧n9=0∧m9=0∧ss=mt0∧ln=0∧gdT T=0) ∨
  (kind=6∧n9=((g+1:Nat):Int)∧m9=0∧ss=mt0∧ln=1∧gdT T=1)∨(kind=7∧n9=0∧m9=0∧ss=mt0∧gdT T=0)∨(kind=8∧n9=0∧m9=0∧ss=mt0∧2≤ln∧gdT T=0)∨(∃ (a:Nat),kind=9∧n9=(a:Int)∧a≤20∧(m9 = -1∨∃ b:Nat,m9=(b:Int)∧a≤b∧b≤20)∧ss=mt0∧ln=1∧gdT T=0) ∨
  (∃ s:List Int,kind=3∧n9=0∧m9=0∧ss=strOfNums s∧s≠[]∧(∀ x∈s,0≤x∧x≤255)∧s.Pairwise (· < ·)∧ln=0∧gdT T=0):=by
 cases T with
 | char b =>
  rw [RxAt] at h;rw [OkT] at hT
  simp only [rxV,Array.mk.injEq,List.cons.injEq,Value.int.injEq,Value.string.injEq,Value.slice.injEq,true_and,and_true] at h
  left;exact ⟨h.1,by omega,by omega,h.2.2.1,h.2.2.2.1,h.2.2.2.2.2.1,rfl⟩
 | any =>
  rw [RxAt] at h
  simp only [rxV,Array.mk.injEq,List.cons.injEq,Value.int.injEq,Value.string.injEq,Value.slice.injEq,true_and,and_true] at h
  right;left;exact ⟨h.1,h.2.1,h.2.2.1,h.2.2.2.1,h.2.2.2.2.2.1,rfl⟩
 | set s =>
  rw [RxAt] at h;rw [OkT] at hT
  simp only [rxV,Array.mk.injEq,List.cons.injEq,Value.int.injEq,Value.string.injEq,Value.slice.injEq,true_and,and_true] at h
  iterate 8 right
  exact ⟨s,h.1,h.2.1,h.2.2.1,h.2.2.2.1,hT.1,hT.2.1,hT.2.2,h.2.2.2.2.2.1,rfl⟩
 | beg =>
  rw [RxAt] at h
  simp only [rxV,Array.mk.injEq,List.cons.injEq,Value.int.injEq,Value.string.injEq,Value.slice.injEq,true_and,and_true] at h
  right;right;left;exact ⟨h.1,h.2.1,h.2.2.1,h.2.2.2.1,h.2.2.2.2.2.1,rfl⟩
 | fin =>
  rw [RxAt] at h
  simp only [rxV,Array.mk.injEq,List.cons.injEq,Value.int.injEq,Value.string.injEq,Value.slice.injEq,true_and,and_true] at h
  right;right;right;left;exact ⟨h.1,h.2.1,h.2.2.1,h.2.2.2.1,h.2.2.2.2.2.1,rfl⟩
 | group n k =>
  rw [RxAt] at h;rw [NumT] at hn
  obtain ⟨gg,cap,cur,h,_⟩:=h
  simp only [rxV,Array.mk.injEq,List.cons.injEq,Value.int.injEq,Value.string.injEq,Value.slice.injEq,true_and,and_true] at h
  iterate 4 right
  left;exact ⟨h.1,by rw [h.2.1,hn.1],h.2.2.1,h.2.2.2.1,h.2.2.2.2.2.1,rfl⟩
 | cat ks =>
  rw [RxAt] at h
  iterate 5 right
  left
  rcases h with ⟨_,h⟩|⟨gg,cap,cur,h,_⟩ <;> simp only [rxV,Array.mk.injEq,List.cons.injEq,Value.int.injEq,Value.string.injEq,Value.slice.injEq,true_and,and_true] at h <;> exact ⟨h.1,h.2.1,h.2.2.1,h.2.2.2.1,rfl⟩
 | alt ks =>
  rw [RxAt] at h;rw [OkT] at hT
  obtain ⟨gg,cap,cur,h,_⟩:=h
  simp only [rxV,Array.mk.injEq,List.cons.injEq,Value.int.injEq,Value.string.injEq,Value.slice.injEq,true_and,and_true] at h
  iterate 6 right
  left;exact ⟨h.1,h.2.1,h.2.2.1,h.2.2.2.1,by have:=h.2.2.2.2.2.1;omega,rfl⟩
 | rep n m k =>
  rw [RxAt] at h;rw [OkT] at hT
  obtain ⟨gg,cap,cur,h,_⟩:=h
  simp only [rxV,Array.mk.injEq,List.cons.injEq,Value.int.injEq,Value.string.injEq,Value.slice.injEq,true_and,and_true] at h
  iterate 7 right
  left
  refine ⟨n,h.1,h.2.1,hT.1,?_,h.2.2.2.1,h.2.2.2.2.2.1,rfl⟩
  rw [h.2.2.1]
  cases m with
  | none=>exact .inl rfl
  | some b=>exact .inr ⟨b,rfl,hT.2.1 b rfl⟩
def RightOf (T:Tr):Prop:=∀ (M:Fz) (w:World) (cs:Array Value) (N g:Nat),OkT N T→NumT g T→In M w→RxAt M T cs→szT T≤1000000→g+ngT T≤9→Calls Tryd.prog 54 #[.agg cs,.int .i64 ((g+1:Nat):Int)] w fun e w'=>e=.returned (.int .i64 ((g+ngT T+1:Nat):Int))∧Below w.heap.size w w'
set_option maxRecDepth 20000 in
set_option maxHeartbeats 16000000 in
theorem right_walk (T:Tr) (hkids:∀ (j:Nat) (k:Tr),(kidsOf T)[j]?=some k→RightOf k):RightOf T:=by
 intro M w cs N g hok hnum hIn hR hsz hng
 obtain ⟨kind,n9,m9,ss,o,ln,cp,rfl,hN⟩:=nd_of hR
 have hB:=(Below.refl w.heap.size w).alloc (Nat.le_refl _) (.cells (rxV kind n9 m9 ss (.slice o ln cp)) 25)
 have hln:=hN.len
 have hsk:=sz_kids T
 have hkl:=kids_len T
 have hgk:=ng_kids T
 have hkd:=right_kinds hok hnum hR
 obtain ⟨d,hd1,hd2,hd3,hd4⟩:=kids_num hnum
 have hgd:d=gdT T:=by omega
 obtain ⟨S,hS⟩:∃ S:Nat→Nat,S=fun i=>g+d+ngK ((kidsOf T).take i)+1:=⟨_,rfl⟩
 have hS0:S 0=g+d+1:=by rw [hS];simp [ngK]
 have HK:Hid (∀ i W,i<ln→Below w.heap.size w W→∃ (gg:Nat) (c0 c1 c2:Int) (c3:ByteArray) (o4:Option Addr) (n4 c4:Nat),o=some ⟨gg,0,none⟩∧gg<W.heap.size∧W.cell? ⟨gg,i*5,none⟩=some (.int .i64 c0)∧W.cell? ⟨gg,i*5+1,none⟩=some (.int .i64 c1)∧W.cell? ⟨gg,i*5+2,none⟩=some (.int .i64 c2)∧W.cell? ⟨gg,i*5+3,none⟩=some (.string c3)∧W.cell? ⟨gg,i*5+4,none⟩=some (.slice o4 n4 c4)∧0<S i∧(∀ W',Below W.heap.size W W'→Calls Tryd.prog 54 #[.agg (rxV c0 c1 c2 c3 (.slice o4 n4 c4)),.int .i64 (S i:Nat)] W' fun e w'=>e=.returned (.int .i64 (S (i+1):Nat))∧Below W.heap.size W w')):=by
  refine hide fun i W hi hb => ?_
  obtain ⟨gg,c0,c1,c2,c3,o4,n4,c4,k,h0,h1,h2,h3,h4,h5,h6,h7,h8⟩:=hN.kid hi (hIn.below hb)
  obtain ⟨e1,e2,e3⟩:=szK_take _ i k h7
  obtain ⟨l1,l2,l3⟩:=szK_le (kidsOf T) (i+1)
  refine ⟨gg,c0,c1,c2,c3,o4,n4,c4,h0,h1,h2,h3,h4,h5,h6,by rw [hS];simp only;omega,fun W' hb' => ?_⟩
  have hs1:S i=g+d+ngK ((kidsOf T).take i)+1:=by rw [hS]
  have hs2:S (i+1)=g+d+ngK ((kidsOf T).take i)+ngT k+1:=by rw [hS];simp only [e2];omega
  rw [hs1,hs2]
  refine (hkids i k h7 M W' _ N _ (hok.kids.2 h7) (numK_get hd1 h7) ((hIn.below hb).below hb') h8 (by omega) (by omega)).mono ?_
  rintro e w' ⟨r1,r2⟩
  exact ⟨r1,hb'.trans (r2.mono hb'.size)⟩
 have hb0:(w.alloc (.cells (rxV kind n9 m9 ss (.slice o ln cp)) 25)).heap[w.heap.size]?=some (.cells (rxV kind n9 m9 ss (.slice o ln cp)) 25 (0,0)):=heap_alloc_new w _
 have HX0:=hide (And.intro hB hb0)
 have hSl:S ln=g+ngT T+1:=by rw [hS];simp only [hln,List.take_length];omega
 have hlnb:ln≤1000000:=by omega
 have hdg:g+d≤9:=by omega
 rw [←hgd] at hkd
 clear hIn hN hkids hB hb0 hsk hkl hln hS hsz hR hgk hok hnum hd1 hd2 hd3 hd4 hgd hng
 obtain ⟨RW,hRW⟩:∃ RW,RW=g+ngT T+1:=⟨_,rfl⟩
 rw [←hRW] at hSl ⊢
 clear hRW
 have hgw:IntKind.i64.wrap (((g+1:Nat):Int)+1)=((g+2:Nat):Int):=by rw [IntKind.wrap_i64];omega
 unfold rxV at HX0 ⊢
 rcases hkd with ⟨rfl,hn0,hn1,rfl,rfl,rfl,rfl⟩|⟨rfl,rfl,rfl,rfl,rfl,rfl⟩|⟨rfl,rfl,rfl,rfl,rfl,rfl⟩|⟨rfl,rfl,rfl,rfl,rfl,rfl⟩|⟨rfl,rfl,rfl,rfl,rfl,rfl⟩|⟨rfl,rfl,rfl,rfl,rfl⟩|⟨rfl,rfl,rfl,rfl,hl2,rfl⟩|⟨a,rfl,rfl,ha,hm,rfl,rfl,rfl⟩|⟨s,rfl,rfl,rfl,rfl,hs1,hs2,hs3,rfl,rfl⟩
 ·have hn2:¬ n9<0:=by omega
  have hn3:¬ 255<n9:=by omega
  go_enter Tryd.func54,Tryd.ntmps54
  go_wp2
  go_loopw [1,6] (fun v1 v6 wr=>∃ i:Nat,i≤0∧v1=.int .i64 (S i:Nat)∧v6=.int .i64 (i:Int)∧Hid (Below w.heap.size w wr∧wr.heap[w.heap.size]?=some (.cells #[.int .i64 1,.int .i64 n9,.int .i64 0,.string mt0,.slice o 0 cp] 25 (0,0)))) (fun _ v6 _=>0-(intOf v6).toNat)
  case atStart=>exact ⟨0,by omega,by rw [hS0] <;> first | rfl | simp,rfl,HX0⟩
  case round =>
   obtain ⟨i,hi,rfl,rfl,HX⟩:=hrel
   clear HX0
   have hx4:wr.cell? ⟨w.heap.size,4,none⟩=some (.slice o 0 cp):=by simp [World.cell?,HX.out.2]
   obtain rfl:i=0:=by omega
   have HE:=hide HX.out.1
   rw [hSl]
   clear HX HK
   go_wp2
   go_ret
   exact ⟨rfl,HE.out⟩
 ·clear hlnb
  go_enter Tryd.func54,Tryd.ntmps54
  go_wp2
  go_loopw [1,6] (fun v1 v6 wr=>∃ i:Nat,i≤0∧v1=.int .i64 (S i:Nat)∧v6=.int .i64 (i:Int)∧Hid (Below w.heap.size w wr∧wr.heap[w.heap.size]?=some (.cells #[.int .i64 2,.int .i64 0,.int .i64 0,.string mt0,.slice o 0 cp] 25 (0,0)))) (fun _ v6 _=>0-(intOf v6).toNat)
  case atStart=>exact ⟨0,by omega,by rw [hS0] <;> first | rfl | simp,rfl,HX0⟩
  case round =>
   obtain ⟨i,hi,rfl,rfl,HX⟩:=hrel
   clear HX0
   have hx4:wr.cell? ⟨w.heap.size,4,none⟩=some (.slice o 0 cp):=by simp [World.cell?,HX.out.2]
   obtain rfl:i=0:=by omega
   have HE:=hide HX.out.1
   rw [hSl]
   clear HX HK
   go_wp2
   go_ret
   exact ⟨rfl,HE.out⟩
 ·clear hlnb
  go_enter Tryd.func54,Tryd.ntmps54
  go_wp2
  go_loopw [1,6] (fun v1 v6 wr=>∃ i:Nat,i≤0∧v1=.int .i64 (S i:Nat)∧v6=.int .i64 (i:Int)∧Hid (Below w.heap.size w wr∧wr.heap[w.heap.size]?=some (.cells #[.int .i64 4,.int .i64 0,.int .i64 0,.string mt0,.slice o 0 cp] 25 (0,0)))) (fun _ v6 _=>0-(intOf v6).toNat)
  case atStart=>exact ⟨0,by omega,by rw [hS0] <;> first | rfl | simp,rfl,HX0⟩
  case round =>
   obtain ⟨i,hi,rfl,rfl,HX⟩:=hrel
   clear HX0
   have hx4:wr.cell? ⟨w.heap.size,4,none⟩=some (.slice o 0 cp):=by simp [World.cell?,HX.out.2]
   obtain rfl:i=0:=by omega
   have HE:=hide HX.out.1
   rw [hSl]
   clear HX HK
   go_wp2
   go_ret
   exact ⟨rfl,HE.out⟩
 ·clear hlnb
  go_enter Tryd.func54,Tryd.ntmps54
  go_wp2
  go_loopw [1,6] (fun v1 v6 wr=>∃ i:Nat,i≤0∧v1=.int .i64 (S i:Nat)∧v6=.int .i64 (i:Int)∧Hid (Below w.heap.size w wr∧wr.heap[w.heap.size]?=some (.cells #[.int .i64 5,.int .i64 0,.int .i64 0,.string mt0,.slice o 0 cp] 25 (0,0)))) (fun _ v6 _=>0-(intOf v6).toNat)
  case atStart=>exact ⟨0,by omega,by rw [hS0] <;> first | rfl | simp,rfl,HX0⟩
  case round =>
   obtain ⟨i,hi,rfl,rfl,HX⟩:=hrel
   clear HX0
   have hx4:wr.cell? ⟨w.heap.size,4,none⟩=some (.slice o 0 cp):=by simp [World.cell?,HX.out.2]
   obtain rfl:i=0:=by omega
   have HE:=hide HX.out.1
   rw [hSl]
   clear HX HK
   go_wp2
   go_ret
   exact ⟨rfl,HE.out⟩
 ·have h9:¬ (9:Int)<((g+1:Nat):Int):=by omega
  have hpp:(g+1+1:Nat)=g+2:=rfl
  go_enter Tryd.func54,Tryd.ntmps54
  go_wp2
  go_loopw [1,6] (fun v1 v6 wr=>∃ i:Nat,i≤1∧v1=.int .i64 (S i:Nat)∧v6=.int .i64 (i:Int)∧Hid (Below w.heap.size w wr∧wr.heap[w.heap.size]?=some (.cells #[.int .i64 6,.int .i64 ((g+1:Nat):Int),.int .i64 0,.string mt0,.slice o 1 cp] 25 (0,0)))) (fun _ v6 _=>1-(intOf v6).toNat)
  case atStart=>exact ⟨0,by omega,by rw [hS0] <;> first | rfl | simp,rfl,HX0⟩
  case round =>
   obtain ⟨i,hi,rfl,rfl,HX⟩:=hrel
   clear HX0
   have hx4:wr.cell? ⟨w.heap.size,4,none⟩=some (.slice o 1 cp):=by simp [World.cell?,HX.out.2]
   by_cases hil:i<1
   ·have hti:(i:Int)<(1:Int):=by omega
    have htw:IntKind.i64.wrap ((i:Int)+1)=((i+1:Nat):Int):=by rw [IntKind.wrap_i64];omega
    obtain ⟨gg,c0,c1,c2,c3,o4,n4,c4,rfl,hggl,q0,q1,q2,q3,q4,hpos,hcall⟩:=HK.out i wr hil HX.out.1
    have hs0:(0:Int)<((S i:Nat):Int):=by omega
    unfold rxV at hcall
    obtain ⟨s2,hs2⟩:∃ s2,s2=S (i+1):=⟨_,rfl⟩
    rw [←hs2] at hcall
    have hst:=hide hs2
    clear hs2
    have HC:=hide (fun W' hb'=>(hcall W' hb'))
    have HN:Hid (∀ w5,Below wr.heap.size wr w5→Hid (Below w.heap.size w w5∧w5.heap[w.heap.size]?=some (.cells #[.int .i64 6,.int .i64 ((g+1:Nat):Int),.int .i64 0,.string mt0,.slice (some ⟨gg,0,none⟩) 1 cp] 25 (0,0)))):=hide fun w5 h5=>hide ⟨HX.out.1.trans (h5.mono HX.out.1.size),(h5.block _ (Array.getElem?_eq_some_iff.1 HX.out.2).1).trans HX.out.2⟩
    clear hcall HX
    go_wp2_with fail
    refine (HC.out _ (Below.refl _ _)).mono ?_
    rintro e w5 ⟨rfl,h5⟩
    have HX5:=HN.out w5 h5
    clear h5 HC HN q0 q1 q2 q3 q4 hx4
    go_wp2
    go_roundw
    case rel=>exact ⟨i+1,by omega,by rw [hst.out],by simp,HX5⟩
    case measure=>simp [intOf];omega
   ·obtain rfl:i=1:=by omega
    have hnl:¬ (1:Int)<(1:Int):=by omega
    have HE:=hide HX.out.1
    rw [hSl]
    clear HX HK
    go_wp2
    go_ret
    exact ⟨rfl,HE.out⟩
 ·skip
  go_enter Tryd.func54,Tryd.ntmps54
  go_wp2
  go_loopw [1,6] (fun v1 v6 wr=>∃ i:Nat,i≤ln∧v1=.int .i64 (S i:Nat)∧v6=.int .i64 (i:Int)∧Hid (Below w.heap.size w wr∧wr.heap[w.heap.size]?=some (.cells #[.int .i64 7,.int .i64 0,.int .i64 0,.string mt0,.slice o ln cp] 25 (0,0)))) (fun _ v6 _=>ln-(intOf v6).toNat)
  case atStart=>exact ⟨0,by omega,by rw [hS0] <;> first | rfl | simp,rfl,HX0⟩
  case round =>
   obtain ⟨i,hi,rfl,rfl,HX⟩:=hrel
   clear HX0
   have hx4:wr.cell? ⟨w.heap.size,4,none⟩=some (.slice o ln cp):=by simp [World.cell?,HX.out.2]
   by_cases hil:i<ln
   ·have hti:(i:Int)<(ln:Int):=by omega
    have htw:IntKind.i64.wrap ((i:Int)+1)=((i+1:Nat):Int):=by rw [IntKind.wrap_i64];omega
    obtain ⟨gg,c0,c1,c2,c3,o4,n4,c4,rfl,hggl,q0,q1,q2,q3,q4,hpos,hcall⟩:=HK.out i wr hil HX.out.1
    have hs0:(0:Int)<((S i:Nat):Int):=by omega
    unfold rxV at hcall
    obtain ⟨s2,hs2⟩:∃ s2,s2=S (i+1):=⟨_,rfl⟩
    rw [←hs2] at hcall
    have hst:=hide hs2
    clear hs2
    have HC:=hide (fun W' hb'=>(hcall W' hb'))
    have HN:Hid (∀ w5,Below wr.heap.size wr w5→Hid (Below w.heap.size w w5∧w5.heap[w.heap.size]?=some (.cells #[.int .i64 7,.int .i64 0,.int .i64 0,.string mt0,.slice (some ⟨gg,0,none⟩) ln cp] 25 (0,0)))):=hide fun w5 h5=>hide ⟨HX.out.1.trans (h5.mono HX.out.1.size),(h5.block _ (Array.getElem?_eq_some_iff.1 HX.out.2).1).trans HX.out.2⟩
    clear hcall HX
    go_wp2_with fail
    refine (HC.out _ (Below.refl _ _)).mono ?_
    rintro e w5 ⟨rfl,h5⟩
    have HX5:=HN.out w5 h5
    clear h5 HC HN q0 q1 q2 q3 q4 hx4
    go_wp2
    go_roundw
    case rel=>exact ⟨i+1,by omega,by rw [hst.out],by simp,HX5⟩
    case measure=>simp [intOf];omega
   ·obtain rfl:i=ln:=by omega
    have hnl:¬ (i:Int)<(i:Int):=by omega
    have HE:=hide HX.out.1
    rw [hSl]
    clear HX HK
    go_wp2
    go_ret
    exact ⟨rfl,HE.out⟩
 ·have hl3:¬ (ln:Int)<2:=by omega
  go_enter Tryd.func54,Tryd.ntmps54
  go_wp2
  go_loopw [1,6] (fun v1 v6 wr=>∃ i:Nat,i≤ln∧v1=.int .i64 (S i:Nat)∧v6=.int .i64 (i:Int)∧Hid (Below w.heap.size w wr∧wr.heap[w.heap.size]?=some (.cells #[.int .i64 8,.int .i64 0,.int .i64 0,.string mt0,.slice o ln cp] 25 (0,0)))) (fun _ v6 _=>ln-(intOf v6).toNat)
  case atStart=>exact ⟨0,by omega,by rw [hS0] <;> first | rfl | simp,rfl,HX0⟩
  case round =>
   obtain ⟨i,hi,rfl,rfl,HX⟩:=hrel
   clear HX0
   have hx4:wr.cell? ⟨w.heap.size,4,none⟩=some (.slice o ln cp):=by simp [World.cell?,HX.out.2]
   by_cases hil:i<ln
   ·have hti:(i:Int)<(ln:Int):=by omega
    have htw:IntKind.i64.wrap ((i:Int)+1)=((i+1:Nat):Int):=by rw [IntKind.wrap_i64];omega
    obtain ⟨gg,c0,c1,c2,c3,o4,n4,c4,rfl,hggl,q0,q1,q2,q3,q4,hpos,hcall⟩:=HK.out i wr hil HX.out.1
    have hs0:(0:Int)<((S i:Nat):Int):=by omega
    unfold rxV at hcall
    obtain ⟨s2,hs2⟩:∃ s2,s2=S (i+1):=⟨_,rfl⟩
    rw [←hs2] at hcall
    have hst:=hide hs2
    clear hs2
    have HC:=hide (fun W' hb'=>(hcall W' hb'))
    have HN:Hid (∀ w5,Below wr.heap.size wr w5→Hid (Below w.heap.size w w5∧w5.heap[w.heap.size]?=some (.cells #[.int .i64 8,.int .i64 0,.int .i64 0,.string mt0,.slice (some ⟨gg,0,none⟩) ln cp] 25 (0,0)))):=hide fun w5 h5=>hide ⟨HX.out.1.trans (h5.mono HX.out.1.size),(h5.block _ (Array.getElem?_eq_some_iff.1 HX.out.2).1).trans HX.out.2⟩
    clear hcall HX
    go_wp2_with fail
    refine (HC.out _ (Below.refl _ _)).mono ?_
    rintro e w5 ⟨rfl,h5⟩
    have HX5:=HN.out w5 h5
    clear h5 HC HN q0 q1 q2 q3 q4 hx4
    go_wp2
    go_roundw
    case rel=>exact ⟨i+1,by omega,by rw [hst.out],by simp,HX5⟩
    case measure=>simp [intOf];omega
   ·obtain rfl:i=ln:=by omega
    have hnl:¬ (i:Int)<(i:Int):=by omega
    have HE:=hide HX.out.1
    rw [hSl]
    clear HX HK
    go_wp2
    go_ret
    exact ⟨rfl,HE.out⟩
 ·rcases hm with rfl | ⟨b,rfl,hb1,hb2⟩
  ·have ha0:¬ (a:Int)<0:=by omega
   have ha1:¬ (20:Int)<(a:Int):=by omega
   go_enter Tryd.func54,Tryd.ntmps54
   go_wp2
   go_loopw [1,6] (fun v1 v6 wr=>∃ i:Nat,i≤1∧v1=.int .i64 (S i:Nat)∧v6=.int .i64 (i:Int)∧Hid (Below w.heap.size w wr∧wr.heap[w.heap.size]?=some (.cells #[.int .i64 9,.int .i64 (a:Int),.int .i64 (-1),.string mt0,.slice o 1 cp] 25 (0,0)))) (fun _ v6 _=>1-(intOf v6).toNat)
   case atStart=>exact ⟨0,by omega,by rw [hS0] <;> first | rfl | simp,rfl,HX0⟩
   case round =>
    obtain ⟨i,hi,rfl,rfl,HX⟩:=hrel
    clear HX0
    have hx4:wr.cell? ⟨w.heap.size,4,none⟩=some (.slice o 1 cp):=by simp [World.cell?,HX.out.2]
    by_cases hil:i<1
    ·have hti:(i:Int)<(1:Int):=by omega
     have htw:IntKind.i64.wrap ((i:Int)+1)=((i+1:Nat):Int):=by rw [IntKind.wrap_i64];omega
     obtain ⟨gg,c0,c1,c2,c3,o4,n4,c4,rfl,hggl,q0,q1,q2,q3,q4,hpos,hcall⟩:=HK.out i wr hil HX.out.1
     have hs0:(0:Int)<((S i:Nat):Int):=by omega
     unfold rxV at hcall
     obtain ⟨s2,hs2⟩:∃ s2,s2=S (i+1):=⟨_,rfl⟩
     rw [←hs2] at hcall
     have hst:=hide hs2
     clear hs2
     have HC:=hide (fun W' hb'=>(hcall W' hb'))
     have HN:Hid (∀ w5,Below wr.heap.size wr w5→Hid (Below w.heap.size w w5∧w5.heap[w.heap.size]?=some (.cells #[.int .i64 9,.int .i64 (a:Int),.int .i64 (-1),.string mt0,.slice (some ⟨gg,0,none⟩) 1 cp] 25 (0,0)))):=hide fun w5 h5=>hide ⟨HX.out.1.trans (h5.mono HX.out.1.size),(h5.block _ (Array.getElem?_eq_some_iff.1 HX.out.2).1).trans HX.out.2⟩
     clear hcall HX
     go_wp2_with fail
     refine (HC.out _ (Below.refl _ _)).mono ?_
     rintro e w5 ⟨rfl,h5⟩
     have HX5:=HN.out w5 h5
     clear h5 HC HN q0 q1 q2 q3 q4 hx4
     go_wp2
     go_roundw
     case rel=>exact ⟨i+1,by omega,by rw [hst.out],by simp,HX5⟩
     case measure=>simp [intOf];omega
    ·obtain rfl:i=1:=by omega
     have hnl:¬ (1:Int)<(1:Int):=by omega
     have HE:=hide HX.out.1
     rw [hSl]
     clear HX HK
     go_wp2
     go_ret
     exact ⟨rfl,HE.out⟩
  ·have ha0:¬ (a:Int)<0:=by omega
   have ha1:¬ (20:Int)<(a:Int):=by omega
   have hb0:¬ (b:Int) < -1:=by omega
   have hb3:¬ (20:Int)<(b:Int):=by omega
   have hb4:(0:Int)≤(b:Int):=by omega
   have hb5:¬ (b:Int)<(a:Int):=by omega
   go_enter Tryd.func54,Tryd.ntmps54
   go_wp2
   go_loopw [1,6] (fun v1 v6 wr=>∃ i:Nat,i≤1∧v1=.int .i64 (S i:Nat)∧v6=.int .i64 (i:Int)∧Hid (Below w.heap.size w wr∧wr.heap[w.heap.size]?=some (.cells #[.int .i64 9,.int .i64 (a:Int),.int .i64 (b:Int),.string mt0,.slice o 1 cp] 25 (0,0)))) (fun _ v6 _=>1-(intOf v6).toNat)
   case atStart=>exact ⟨0,by omega,by rw [hS0] <;> first | rfl | simp,rfl,HX0⟩
   case round =>
    obtain ⟨i,hi,rfl,rfl,HX⟩:=hrel
    clear HX0
    have hx4:wr.cell? ⟨w.heap.size,4,none⟩=some (.slice o 1 cp):=by simp [World.cell?,HX.out.2]
    by_cases hil:i<1
    ·have hti:(i:Int)<(1:Int):=by omega
     have htw:IntKind.i64.wrap ((i:Int)+1)=((i+1:Nat):Int):=by rw [IntKind.wrap_i64];omega
     obtain ⟨gg,c0,c1,c2,c3,o4,n4,c4,rfl,hggl,q0,q1,q2,q3,q4,hpos,hcall⟩:=HK.out i wr hil HX.out.1
     have hs0:(0:Int)<((S i:Nat):Int):=by omega
     unfold rxV at hcall
     obtain ⟨s2,hs2⟩:∃ s2,s2=S (i+1):=⟨_,rfl⟩
     rw [←hs2] at hcall
     have hst:=hide hs2
     clear hs2
     have HC:=hide (fun W' hb'=>(hcall W' hb'))
     have HN:Hid (∀ w5,Below wr.heap.size wr w5→Hid (Below w.heap.size w w5∧w5.heap[w.heap.size]?=some (.cells #[.int .i64 9,.int .i64 (a:Int),.int .i64 (b:Int),.string mt0,.slice (some ⟨gg,0,none⟩) 1 cp] 25 (0,0)))):=hide fun w5 h5=>hide ⟨HX.out.1.trans (h5.mono HX.out.1.size),(h5.block _ (Array.getElem?_eq_some_iff.1 HX.out.2).1).trans HX.out.2⟩
     clear hcall HX
     go_wp2_with fail
     refine (HC.out _ (Below.refl _ _)).mono ?_
     rintro e w5 ⟨rfl,h5⟩
     have HX5:=HN.out w5 h5
     clear h5 HC HN q0 q1 q2 q3 q4 hx4
     go_wp2
     go_roundw
     case rel=>exact ⟨i+1,by omega,by rw [hst.out],by simp,HX5⟩
     case measure=>simp [intOf];omega
    ·obtain rfl:i=1:=by omega
     have hnl:¬ (1:Int)<(1:Int):=by omega
     have HE:=hide HX.out.1
     rw [hSl]
     clear HX HK
     go_wp2
     go_ret
     exact ⟨rfl,HE.out⟩
 ·have hlen:=set_len hs2 hs3
  have hsz:(strOfNums s).size=s.length:=strOfNums_size _
  have hpos:0<s.length:=List.length_pos_iff.2 hs1
  have hix:=fun (p:Nat) (hlt:p<s.length) (W:World)=>index_text s hs2 p hlt W
  have hl0:¬ (s.length:Int)=0:=by omega
  have hl00:((s.length:Int) == 0)=false:=by simp;omega
  have hl1:¬ (256:Int)<(s.length:Int):=by omega
  have HP:=hide hs3
  obtain ⟨SS,hSS⟩:∃ SS,SS=strOfNums s:=⟨_,rfl⟩
  rw [←hSS] at hix hsz HX0 ⊢
  clear hs1 hs2 hs3 hSS
  go_enter Tryd.func54,Tryd.ntmps54
  go_wp2
  go_loopw [5] (fun v5 wr=>∃ i:Nat,1≤i∧i≤s.length∧v5=.int .i64 (i:Int)∧Hid (Below w.heap.size w wr∧wr.heap[w.heap.size]?=some (.cells #[.int .i64 3,.int .i64 0,.int .i64 0,.string SS,.slice o 0 cp] 25 (0,0)))) (fun v5 _=>s.length-(intOf v5).toNat)
  case atStart=>exact ⟨1,by omega,by omega,rfl,HX0⟩
  case round =>
   obtain ⟨i,h1,h2,rfl,HX⟩:=hrel
   clear HX0
   have hx3:wr.cell? ⟨w.heap.size,3,none⟩=some (.string SS):=by simp [World.cell?,HX.out.2]
   by_cases hi:i<s.length
   ·have hti:(i:Int)<(s.length:Int):=by omega
    obtain ⟨j,rfl⟩:∃ j,i=j+1:=⟨i-1,by omega⟩
    have e1:((j+1:Nat):Int)-1=(j:Int):=by omega
    have hwj:IntKind.i64.wrap (((j+1:Nat):Int)-1)=(j:Int):=by rw [IntKind.wrap_i64];omega
    have hwi:IntKind.i64.wrap (((j+1:Nat):Int)+1)=((j+1+1:Nat):Int):=by rw [IntKind.wrap_i64];omega
    have i0:=hix j (by omega)
    have i1:=hix (j+1) hi
    have hlt:=pair_lt HP.out hi
    obtain ⟨a,ha⟩:∃ a,a=s.getD j 0:=⟨_,rfl⟩
    obtain ⟨b,hb⟩:∃ b,b=s.getD (j+1) 0:=⟨_,rfl⟩
    rw [←ha] at i0 hlt
    rw [←hb] at i1 hlt
    have hge:¬ b≤a:=by omega
    have hge2:decide (b≤a)=false:=by simp;omega
    obtain ⟨J,hJ⟩:∃ J,J=j+1:=⟨_,rfl⟩
    rw [←hJ] at i1 hti e1 hwj hwi hi h1 h2 ⊢
    have e2:(J:Int)-1=(j:Int):=by omega
    clear ha hb hix hJ
    have hw3:IntKind.i64.wrap (j:Int)=(j:Int):=by rw [IntKind.wrap_i64];omega
    have HB:=hide (And.intro HX.out.1.drew ((Below.refl wr.heap.size wr).drew.block _ (Array.getElem?_eq_some_iff.1 HX.out.2).1 |>.trans HX.out.2))
    go_wp2
    go_region
    all_goals (
     go_wp2
     go_roundw
     case rel=>exact ⟨J+1,by omega,by omega,by simp,HB⟩
     case measure=>simp [intOf];omega)
   ·obtain rfl:i=s.length:=by omega
    have hnl:¬ (s.length:Int)<(s.length:Int):=by omega
    have HX0:=HX
    clear hix HX
    go_wp2
    clear hx3
    go_loopw [1,6] (fun v1 v6 wr=>∃ i:Nat,i≤0∧v1=.int .i64 (S i:Nat)∧v6=.int .i64 (i:Int)∧Hid (Below w.heap.size w wr∧wr.heap[w.heap.size]?=some (.cells #[.int .i64 3,.int .i64 0,.int .i64 0,.string SS,.slice o 0 cp] 25 (0,0)))) (fun _ v6 _=>0-(intOf v6).toNat)
    case atStart=>exact ⟨0,by omega,by rw [hS0] <;> first | rfl | simp,rfl,HX0⟩
    case round =>
     obtain ⟨i,hi,rfl,rfl,HX⟩:=hrel
     clear HX0
     have hx4:wr.cell? ⟨w.heap.size,4,none⟩=some (.slice o 0 cp):=by simp [World.cell?,HX.out.2]
     obtain rfl:i=0:=by omega
     have HE:=hide HX.out.1
     rw [hSl]
     clear HX HK
     go_wp2
     go_ret
     exact ⟨rfl,HE.out⟩
theorem right_any (T:Tr):RightOf T:=by_kids (P:=RightOf) right_walk _ T (Nat.le_refl _)
end Go.Proofs.YtfhimmnoipfiaaaDoor.eng
namespace Go.Proofs.YtfhimmnoipfiaaaDoor.eng
open bytes places sets tz rex
structure Nq where
 kind:Int
 n:Int
 set:ByteArray
 a:Nat
 b:Nat
 A:B2
 s:Sp
def Nq.cells (x:Nq):Array Value:=#[.int .i64 x.kind,.int .i64 x.n,.string x.set,.int .i64 (x.a:Int),.int .i64 (x.b:Int)]
def NodeLaw (ts:List Int) (N:Nat) (q:List Nq) (k:Nat) (x:Nq):Prop :=
 (x.kind=1∧0≤x.n∧x.n≤255∧x.A=rex.mt ts (.char x.n)∧x.s=idS)∨(x.kind=2∧x.A=rex.mt ts .any∧x.s=idS)∨(∃ l:List Int,x.kind=3∧x.set=strOfNums l∧(∀ y∈l,0≤y∧y≤255)∧l.length≤256∧x.A=rex.mt ts (.set l)∧x.s=idS)∨(x.kind=4∧x.A=rex.mt ts .beg∧x.s=idS)∨(x.kind=5∧x.A=rex.mt ts .fin∧x.s=idS)∨(x.kind=21∧x.A=emptyB∧x.s=idS) ∨
 (∃ (m:Nat) (y:Nq),x.kind=6∧x.n=(m:Int)∧1≤m∧m≤9∧2*m+2≤N∧x.a<k∧q[x.a]?=some y∧x.A=y.A∧x.s=fun i j out=>y.s i j ((out.set (2*m) (i:Int)).set (2*m+1) (j:Int))) ∨
 (∃ y z:Nq,x.kind=8∧x.a<k∧x.b<k∧q[x.a]?=some y∧q[x.b]?=some z∧x.A=(fun i j=>y.A i j || z.A i j)∧x.s=fun i j out=>if y.A i j=true then y.s i j out else z.s i j out) ∨
 (∃ y:Nq,x.kind=20∧x.a<k∧q[x.a]?=some y∧x.A=(fun i j=>decide (i=j) || y.A i j)∧x.s=fun i j out=>if i<j then y.s i j out else out) ∨
 (∃ y:Nq,x.kind=9∧x.a<k∧q[x.a]?=some y∧x.A=upTo y.A ts.length∧x.s=upToS y.A y.s ts.length) ∨
 (∃ y z:Nq,x.kind=7∧x.a<k∧x.b<k∧q[x.a]?=some y∧q[x.b]?=some z∧x.A=seqB y.A z.A∧x.s=seqS y.A z.A y.s z.s)
def Laws (ts:List Int) (N:Nat) (q:List Nq):Prop:=∀ k x,q[k]?=some x→NodeLaw ts N q k x
abbrev Tb:=Nat→Nat→Nat→Nat
structure Mac where
 ts:List Int
 q:List Nq
 mb:Nat
 g:Nat
 cap:Nat
 kb:Nat
def Mac.at (m:Mac) (k i j:Nat):Nat:=(k*(m.ts.length+1)+i)*(m.ts.length+1)+j
structure MC (m:Mac) (tab:Tb) (W:World):Prop where
 box:W.heap[m.mb]?=some (.cells #[.slice (some ⟨m.g,0,none⟩) m.q.length m.cap,.string (strOfNums m.ts),.slice (some ⟨m.kb,0,none⟩) (m.q.length*(m.ts.length+1)*(m.ts.length+1)) (m.q.length*(m.ts.length+1)*(m.ts.length+1))] 97 (0,0))
 nodes:∃ cur,W.heap[m.g]?=some (.cells cur 100 (0,0))∧∀ k x,m.q[k]?=some x→∀ c,c<5→cur[k*5+c]?=x.cells[c]?
 known:∃ cur,W.heap[m.kb]?=some (.cells cur 5 (0,0))∧∀ k i j,k<m.q.length→i≤m.ts.length→j≤m.ts.length→cur[m.at k i j]?=some (.int .u8 (tab k i j:Int))
 nmk:m.mb≠m.kb
 ngk:m.g≠m.kb
theorem at_lt (m:Mac) {k i j:Nat} (hk:k<m.q.length) (hi:i≤m.ts.length) (hj:j≤m.ts.length):m.at k i j<m.q.length*(m.ts.length+1)*(m.ts.length+1):=by
 unfold Mac.at
 have h1:k*(m.ts.length+1)+i+1≤m.q.length*(m.ts.length+1):=by
  have:(k+1)*(m.ts.length+1)≤m.q.length*(m.ts.length+1):=Nat.mul_le_mul_right _ (by omega)
  rw [Nat.add_mul] at this
  omega
 have h2:(k*(m.ts.length+1)+i+1)*(m.ts.length+1)≤m.q.length*(m.ts.length+1)*(m.ts.length+1):=Nat.mul_le_mul_right _ h1
 rw [Nat.add_mul] at h2
 omega
theorem at_inj (m:Mac) {k i j k' i' j':Nat} (hi:i≤m.ts.length) (hj:j≤m.ts.length) (hi':i'≤m.ts.length) (hj':j'≤m.ts.length) (h:m.at k i j=m.at k' i' j'):k=k'∧i=i'∧j=j':=by
 unfold Mac.at at h
 have key:∀ a b c d:Nat,b<m.ts.length+1→d<m.ts.length+1→a*(m.ts.length+1)+b=c*(m.ts.length+1)+d→a=c∧b=d:=by
  intro a b c d hb hd e
  have e1:(a*(m.ts.length+1)+b) / (m.ts.length+1)=(c*(m.ts.length+1)+d) / (m.ts.length+1):=by rw [e]
  rw [Nat.add_comm,Nat.add_mul_div_right _ _ (by omega),Nat.add_comm (c*_),Nat.add_mul_div_right _ _ (by omega),Nat.div_eq_of_lt hb,Nat.div_eq_of_lt hd] at e1
  have:a=c:=by omega
  subst this
  exact ⟨rfl,by omega⟩
 obtain ⟨h1,h2⟩:=key _ _ _ _ (by omega) (by omega) h
 obtain ⟨h3,h4⟩:=key _ _ _ _ (by omega) (by omega) h1
 exact ⟨h3,h4,h2⟩
def Mac.mu (m:Mac) (k i j:Nat):Nat:=k*(m.ts.length+1)+(j-i)
def Right (m:Mac) (tab:Tb) (k i j:Nat):Prop:=tab k i j=0∨∃ x,m.q[k]?=some x∧((tab k i j=1∧x.A i j=false)∨(tab k i j=2∧x.A i j=true))
def TabOk (m:Mac) (tab:Tb) (u:Nat):Prop:=∀ k i j,k<m.q.length→i≤j→j≤m.ts.length→m.mu k i j<u→Right m tab k i j
structure CW (m:Mac) (u:Nat) (W0:World) (tab0:Tb) (W:World):Prop where
 ex:∃ tab,MC m tab W∧TabOk m tab u∧∀ k i j,u≤m.mu k i j→tab k i j=tab0 k i j
 gr:W0.grownBy W (some m.kb)
section
variable {m:Mac} {tab:Tb} {u:Nat} {W0 W W':World} {tab0:Tb}
theorem MC.keep (h:MC m tab W) (h1:W'.heap[m.mb]?=W.heap[m.mb]?) (h2:W'.heap[m.g]?=W.heap[m.g]?) (h3:W'.heap[m.kb]?=W.heap[m.kb]?):MC m tab W':=by
 obtain ⟨c1,k1,k2⟩:=h.nodes
 obtain ⟨c2,k3,k4⟩:=h.known
 exact ⟨h1.trans h.box,⟨c1,h2.trans k1,k2⟩,⟨c2,h3.trans k3,k4⟩,h.nmk,h.ngk⟩
theorem MC.lts (h:MC m tab W):m.mb<W.heap.size∧m.g<W.heap.size∧m.kb<W.heap.size:=by
 obtain ⟨c1,k1,k2⟩:=h.nodes
 obtain ⟨c2,k3,k4⟩:=h.known
 exact ⟨(Array.getElem?_eq_some_iff.1 h.box).1,(Array.getElem?_eq_some_iff.1 k1).1,(Array.getElem?_eq_some_iff.1 k3).1⟩
theorem MC.below (h:MC m tab W) (hb:Below W.heap.size W W'):MC m tab W':=h.keep (hb.block _ h.lts.1) (hb.block _ h.lts.2.1) (hb.block _ h.lts.2.2)
theorem CW.below (h:CW m u W0 tab0 W) (hb:Below W.heap.size W W'):CW m u W0 tab0 W':=by
 obtain ⟨t,h1,h2,h3⟩:=h.ex
 exact ⟨⟨t,h1.below hb,h2,h3⟩,grown_trans h.gr (grown_of_below hb)⟩
theorem CW.drew (h:CW m u W0 tab0 W):CW m u W0 tab0 W.drew:=h.below (Below.refl _ _).drew
theorem CW.box (h:CW m u W0 tab0 W):W.cell? ⟨m.mb,0,none⟩=some (.slice (some ⟨m.g,0,none⟩) m.q.length m.cap)∧W.cell? ⟨m.mb,1,none⟩=some (.string (strOfNums m.ts))∧W.cell? ⟨m.mb,2,none⟩=some (.slice (some ⟨m.kb,0,none⟩) (m.q.length*(m.ts.length+1)*(m.ts.length+1)) (m.q.length*(m.ts.length+1)*(m.ts.length+1))):=by
 obtain ⟨t,h1,_⟩:=h.ex
 refine ⟨?_,?_,?_⟩ <;> simp [World.cell?,h1.box]
theorem CW.node (h:CW m u W0 tab0 W) {k:Nat} {x:Nq} (hx:m.q[k]?=some x):W.cell? ⟨m.g,k*5,none⟩=some (.int .i64 x.kind)∧W.cell? ⟨m.g,k*5+1,none⟩=some (.int .i64 x.n)∧W.cell? ⟨m.g,k*5+2,none⟩=some (.string x.set)∧W.cell? ⟨m.g,k*5+3,none⟩=some (.int .i64 (x.a:Int))∧W.cell? ⟨m.g,k*5+4,none⟩=some (.int .i64 (x.b:Int)):=by
 obtain ⟨t,h1,_⟩:=h.ex
 obtain ⟨cur,k1,k2⟩:=h1.nodes
 have e:=k2 k x hx
 refine ⟨?_,?_,?_,?_,?_⟩
 ·have:=e 0 (by omega);rw [Nat.add_zero] at this;simp [World.cell?,k1,this,Nq.cells]
 ·have:=e 1 (by omega);simp [World.cell?,k1,this,Nq.cells]
 ·have:=e 2 (by omega);simp [World.cell?,k1,this,Nq.cells]
 ·have:=e 3 (by omega);simp [World.cell?,k1,this,Nq.cells]
 ·have:=e 4 (by omega);simp [World.cell?,k1,this,Nq.cells]
def tset (tab:Tb) (k i j v:Nat):Tb:=fun a b c=>if a=k∧b=i∧c=j then v else tab a b c
theorem MC.put (h:MC m tab W) {k i j:Nat} (hk:k<m.q.length) (hi:i≤m.ts.length) (hj:j≤m.ts.length) (v:Nat):MC m (tset tab k i j v) (W.setCell ⟨m.kb,m.at k i j,none⟩ (.int .u8 (v:Int))):=by
 obtain ⟨c1,k1,k2⟩:=h.nodes
 obtain ⟨c2,k3,k4⟩:=h.known
 refine ⟨(heap_setCell_other _ ⟨m.kb,m.at k i j,none⟩ _ _ h.nmk).trans h.box,⟨c1,(heap_setCell_other _ ⟨m.kb,m.at k i j,none⟩ _ _ h.ngk).trans k1,k2⟩,⟨_,heap_setCell_same W m.kb (m.at k i j) c2 5 _ k3,fun a b c ha hb hc => ?_⟩,h.nmk,h.ngk⟩
 by_cases e:m.at a b c=m.at k i j
 ·obtain ⟨rfl,rfl,rfl⟩:=at_inj m hb hc hi hj e
  have hlt:=(Array.getElem?_eq_some_iff.1 (k4 a b c ha hb hc)).1
  simp [tset,hlt]
 ·have hne:¬ (a=k∧b=i∧c=j):=fun ⟨h1,h2,h3⟩=>e (by rw [h1,h2,h3])
  rw [Array.getElem?_setIfInBounds_ne (fun x=>e x.symm),k4 a b c ha hb hc]
  simp [tset,hne]
end
end Go.Proofs.YtfhimmnoipfiaaaDoor.eng
namespace Go.Proofs.YtfhimmnoipfiaaaDoor.eng
open bytes places sets tz rex
theorem info100:(Tryd.prog.info? 100).map (fun i=>(i.zero,i.size,i.bytes))=some (some (.agg #[.int .i64 0,.int .i64 0,.string ⟨#[]⟩,.int .i64 0,.int .i64 0]),5,48):=by kernel_rfl
theorem get_app {q r:List Nq} {a:Nat} {y:Nq} (h:q[a]?=some y):(q++r)[a]?=some y:=by
 rw [List.getElem?_append_left (List.getElem?_eq_some_iff.1 h).1];exact h
theorem NodeLaw.app {ts:List Int} {N k:Nat} {q:List Nq} {x:Nq} (r:List Nq) (h:NodeLaw ts N q k x):NodeLaw ts N (q++r) k x:=by
 unfold NodeLaw at h ⊢
 rcases h with h | h | h | h | h | h | ⟨m,y,h1,h2,h3,h4,h5,h6,h7,h8⟩|⟨y,z,h1,h2,h3,h4,h5,h6⟩|⟨y,h1,h2,h3,h4⟩|⟨y,h1,h2,h3,h4⟩|⟨y,z,h1,h2,h3,h4,h5,h6⟩
 ·exact .inl h
 ·exact .inr (.inl h)
 ·exact .inr (.inr (.inl h))
 ·exact .inr (.inr (.inr (.inl h)))
 ·exact .inr (.inr (.inr (.inr (.inl h))))
 ·exact .inr (.inr (.inr (.inr (.inr (.inl h)))))
 ·exact .inr (.inr (.inr (.inr (.inr (.inr (.inl ⟨m,y,h1,h2,h3,h4,h5,h6,get_app h7,h8⟩))))))
 ·exact .inr (.inr (.inr (.inr (.inr (.inr (.inr (.inl ⟨y,z,h1,h2,h3,get_app h4,get_app h5,h6⟩)))))))
 ·exact .inr (.inr (.inr (.inr (.inr (.inr (.inr (.inr (.inl ⟨y,h1,h2,get_app h3,h4⟩))))))))
 ·exact .inr (.inr (.inr (.inr (.inr (.inr (.inr (.inr (.inr (.inl ⟨y,h1,h2,get_app h3,h4⟩)))))))))
 ·exact .inr (.inr (.inr (.inr (.inr (.inr (.inr (.inr (.inr (.inr ⟨y,z,h1,h2,h3,get_app h4,get_app h5,h6⟩)))))))))
theorem Laws.add {ts:List Int} {N:Nat} {q:List Nq} {x:Nq} (h:Laws ts N q) (hx:NodeLaw ts N q q.length x):Laws ts N (q++[x]):=by
 intro k y hy
 by_cases c:k<q.length
 ·rw [List.getElem?_append_left c] at hy
  exact (h k y hy).app _
 ·rw [List.getElem?_append_right (by omega)] at hy
  have hk:k-q.length=0:=by
   have:=(List.getElem?_eq_some_iff.1 hy).1
   simp at this;omega
  rw [hk] at hy
  simp only [List.getElem?_cons_zero,Option.some.injEq] at hy
  subst hy
  rw [show k=q.length by omega]
  exact hx.app _
def cellsOf (q:List Nq):List Value:=q.flatMap fun x=>x.cells.toList
theorem cellsOf_app (q:List Nq) (x:Nq):cellsOf (q++[x])=cellsOf q++[.int .i64 x.kind,.int .i64 x.n,.string x.set,.int .i64 (x.a:Int),.int .i64 (x.b:Int)]:=by
 simp [cellsOf,Nq.cells]
theorem cellsOf_at:∀ {q:List Nq} {k:Nat} {x:Nq},q[k]?=some x→∀ c,c<5→(cellsOf q)[k*5+c]?=x.cells[c]?
 | [],k,x,h,c,hc=>by simp at h
 | y::q,0,x,h,c,hc=>by
  simp only [List.getElem?_cons_zero,Option.some.injEq] at h
  subst h
  show (y.cells.toList++cellsOf q)[0*5+c]?=_
  rw [List.getElem?_append_left (by simp [Nq.cells];omega)]
  simp
 | y::q,k+1,x,h,c,hc=>by
  have h1:=cellsOf_at (q:=q) (k:=k) (x:=x) (by simpa using h) c hc
  show (y.cells.toList++cellsOf q)[(k+1)*5+c]?=_
  rw [List.getElem?_append_right (by simp [Nq.cells];omega),←h1]
  congr 1
  simp [Nq.cells];omega
structure MkSt (ts:List Int) (N mb lo:Nat) (v0:Value) (W0:World) (q:List Nq) (v:Value) (W:World):Prop where
 box:W.heap[mb]?=some (.cells #[v,.string (strOfNums ts),.slice none 0 0] 97 (0,0))
 own:W.ownsRow lo 100 5 v q.length (cellsOf q)
 laws:Laws ts N q
 low:lo≤mb
 nb:v.ownBlock≠some mb
 os:W.os=W0.os
 tape:W.tape=W0.tape
 output:W.output=W0.output
 size:W0.heap.size≤W.heap.size
 same:∀ b,b<W0.heap.size→b≠mb→v0.ownBlock≠some b→W.heap[b]?=W0.heap[b]?
 fresh:∀ g,v.ownBlock=some g→v0.ownBlock=some g∨W0.heap.size≤g
section
variable {ts:List Int} {N mb lo:Nat} {v0 v v':Value} {W0 W W':World} {q q':List Nq}
theorem MkSt.self (h:MkSt ts N mb lo v0 W0 q v W):MkSt ts N mb lo v W q v W:=⟨h.box,h.own,h.laws,h.low,h.nb,rfl,rfl,rfl,Nat.le_refl _,fun _ _ _ _=>rfl,fun _ h=>.inl h⟩
theorem MkSt.then (h:MkSt ts N mb lo v0 W0 q v W) (g:MkSt ts N mb lo v W q' v' W'):MkSt ts N mb lo v0 W0 q' v' W' where
 box:=g.box
 own:=g.own
 laws:=g.laws
 low:=g.low
 nb:=g.nb
 os:=g.os.trans h.os
 tape:=g.tape.trans h.tape
 output:=g.output.trans h.output
 size:=Nat.le_trans h.size g.size
 same:=fun b hb h1 h2=>(g.same b (Nat.lt_of_lt_of_le hb h.size) h1 (fun e=>by rcases h.fresh b e with k | k;exact h2 k;omega)).trans (h.same b hb h1 h2)
 fresh:=fun b hb=>by
  rcases g.fresh b hb with k | k
  ·exact h.fresh b k
  ·exact .inr (Nat.le_trans h.size k)
theorem MkSt.lts (h:MkSt ts N mb lo v0 W0 q v W):mb<W.heap.size∧∀ g,v.ownBlock=some g→g<W.heap.size∧lo≤g:=by
 refine ⟨(Array.getElem?_eq_some_iff.1 h.box).1,fun g hg => ?_⟩
 rcases h.own.2 with ⟨h1,_⟩|⟨g',cap,cur,h1,h2,h3,_⟩
 ·rw [h1] at hg;cases hg
 ·rw [h1] at hg
  simp only [Value.ownBlock,Option.some.injEq] at hg
  rw [←hg];exact ⟨(Array.getElem?_eq_some_iff.1 h3).1,h2⟩
theorem MkSt.below (h:MkSt ts N mb lo v0 W0 q v W) (hb:Below W.heap.size W W'):MkSt ts N mb lo v0 W0 q v W' where
 box:=(hb.block _ h.lts.1).trans h.box
 own:=by
  refine ⟨h.own.1,?_⟩
  rcases h.own.2 with h0 | ⟨g',cap,cur,h1,h2,h3,h4⟩
  ·exact .inl h0
  ·exact .inr ⟨g',cap,cur,h1,h2,(hb.block _ (h.lts.2 g' (by rw [h1];rfl)).1).trans h3,h4⟩
 laws:=h.laws
 low:=h.low
 nb:=h.nb
 os:=hb.os.trans h.os
 tape:=hb.tape.trans h.tape
 output:=hb.output.trans h.output
 size:=Nat.le_trans h.size hb.size
 same:=fun b hbb h1 h2=>(hb.block b (Nat.lt_of_lt_of_le hbb h.size)).trans (h.same b hbb h1 h2)
 fresh:=h.fresh
theorem MkSt.drew (h:MkSt ts N mb lo v0 W0 q v W):MkSt ts N mb lo v0 W0 q v W.drew:=h.below (Below.refl _ _).drew
theorem MkSt.put (h:MkSt ts N mb lo v0 W0 q v W) {x:Nq} (hx:NodeLaw ts N q q.length x) {g cap:Nat} {o:Obj} (h1:W'.ownsRow lo 100 5 (.slice (some ⟨g,0,none⟩) (q.length+1) cap) (q.length+1) (cellsOf q++[.int .i64 x.kind,.int .i64 x.n,.string x.set,.int .i64 (x.a:Int),.int .i64 (x.b:Int)]))
  (h2:(W.alloc o).grownBy W' v.ownBlock) (h3:v.ownBlock=some g∨g=W.heap.size+1):MkSt ts N mb lo v0 W0 (q++[x]) (.slice (some ⟨g,0,none⟩) (q.length+1) cap) (W'.setCell ⟨mb,0,none⟩ (.slice (some ⟨g,0,none⟩) (q.length+1) cap)):=by
 have hl:=h.lts
 have hgm:g≠mb:=by
  intro e
  rcases h3 with k | k
  ·rw [e] at k;exact h.nb k
  ·omega
 have hbx:W'.heap[mb]?=some (.cells #[v,.string (strOfNums ts),.slice none 0 0] 97 (0,0)):=(h2.block _ (by simp;omega) h.nb.symm).trans ((Below.heap_alloc _ _ _ hl.1).trans h.box)
 have hs:∀ b,b≠mb→(W'.setCell ⟨mb,0,none⟩ (.slice (some ⟨g,0,none⟩) (q.length+1) cap)).heap[b]?=W'.heap[b]? := fun b hb=>heap_setCell_other _ ⟨mb,0,none⟩ b _ hb
 refine ⟨?_,?_,h.laws.add hx,h.low,by simp only [Value.ownBlock,ne_eq,Option.some.injEq];exact hgm,h2.os.trans h.os,h2.tape.trans h.tape,h2.output.trans h.output,?_,fun b hb e1 e2 => ?_,fun b hb => ?_⟩
 ·have:=heap_setCell_same W' mb 0 _ 97 (.slice (some ⟨g,0,none⟩) (q.length+1) cap) hbx
  simpa using this
 ·rw [List.length_append,List.length_singleton,cellsOf_app]
  refine ⟨h1.1,?_⟩
  rcases h1.2 with h0 | ⟨g',cap',cur,k1,k2,k3,k4⟩
  ·exact .inl h0
  ·refine .inr ⟨g',cap',cur,k1,k2,(hs g' ?_).trans k3,k4⟩
   simp only [Value.slice.injEq,Option.some.injEq,Addr.mk.injEq,and_true,true_and] at k1
   rw [←k1.1];exact hgm
 ·have:=h2.size;have:=h.size;simp at *;omega
 ·have hv:v.ownBlock≠some b:=fun e=>by rcases h.fresh b e with k | k;exact e2 k;omega
  have:=h.size
  exact (hs b e1).trans ((h2.block b (by simp;omega) hv.symm).trans ((Below.heap_alloc _ _ _ (by omega)).trans (h.same b hb e1 e2)))
 ·simp only [Value.ownBlock,Option.some.injEq] at hb
  subst hb
  rcases h3 with k | k
  ·exact h.fresh _ k
  ·have:=h.size;exact .inr (by omega)
end
set_option maxRecDepth 20000 in
set_option maxHeartbeats 4000000 in
theorem add_any (ts:List Int) (N mb lo:Nat) (q:List Nq) (v:Value) (W:World) (x:Nq) (h:MkSt ts N mb lo v W q v W) (hx:NodeLaw ts N q q.length x) (hq:q.length≤700) :
  Calls Tryd.prog 79 #[.pointer (some ⟨mb,0,none⟩),.agg x.cells] W fun e w'=>e=.returned (.int .i64 (q.length:Int))∧∃ v',MkSt ts N mb lo v W (q++[x]) v' w':=by
 obtain ⟨i0,hi0,hz0,hs0,hb0⟩:=info_parts info100
 have HK:=hide (And.intro hi0 (And.intro hz0 (And.intro hs0 hb0)))
 obtain ⟨W1,hW1⟩:∃ W1,W.alloc (.cells x.cells 100)=W1:=⟨_,rfl⟩
 have h1:MkSt ts N mb lo v W q v W1:=by rw [←hW1];exact h.below ((Below.refl _ _).alloc (Nat.le_refl _) _)
 have hb1:W1.heap[W.heap.size]?=some (.cells x.cells 100 (0,0)):=by rw [←hW1];exact heap_alloc_new W _
 have p0:W1.cell? ⟨W.heap.size,0,none⟩=some (.int .i64 x.kind):=by simp [World.cell?,hb1,Nq.cells]
 have p1:W1.cell? ⟨W.heap.size,1,none⟩=some (.int .i64 x.n):=by simp [World.cell?,hb1,Nq.cells]
 have p2:W1.cell? ⟨W.heap.size,2,none⟩=some (.string x.set):=by simp [World.cell?,hb1,Nq.cells]
 have p3:W1.cell? ⟨W.heap.size,3,none⟩=some (.int .i64 (x.a:Int)):=by simp [World.cell?,hb1,Nq.cells]
 have p4:W1.cell? ⟨W.heap.size,4,none⟩=some (.int .i64 (x.b:Int)):=by simp [World.cell?,hb1,Nq.cells]
 have c0:W1.cell? ⟨mb,0,none⟩=some v:=by simp [World.cell?,h1.box]
 have hmb:=h1.lts.1
 have HNB:Hid (v.ownBlock≠some mb):=hide h1.nb
 have HBX:=hide h1.box
 have HO:Hid (W1.ownsRow lo 100 5 v q.length (cellsOf q)):=hide h1.own
 have hlo:lo≤W1.heap.size:=by have:=h1.low;omega
 have HP:=hide (fun (g cap:Nat) (W':World) (a1:W'.ownsRow lo 100 5 (.slice (some ⟨g,0,none⟩) (q.length+1) cap) (q.length+1) (cellsOf q++[.int .i64 x.kind,.int .i64 x.n,.string x.set,.int .i64 (x.a:Int),.int .i64 (x.b:Int)])) (a2:(W1.drew.alloc (.cells #[.int .i64 x.kind,.int .i64 x.n,.string x.set,.int .i64 (x.a:Int),.int .i64 (x.b:Int)] 100)).grownBy W' v.ownBlock) (a3:v.ownBlock=some g∨g=W1.heap.size+1)=>h1.drew.put hx a1 a2 a3)
 have hlw:IntKind.i64.wrap (((q.length:Int)+1)-1)=(q.length:Int):=by rw [IntKind.wrap_i64];omega
 unfold Nq.cells at hW1 ⊢
 clear hi0 hz0 hs0 hb0 h1 hb1 hx h
 go_enter Tryd.func79,Tryd.ntmps79
 go_wp2
 (try rw [hW1])
 clear hW1
 go_region_law (first | (refine step_append_lies _ rfl _ _ 95 rfl lo 100 i0 (.agg #[.int .i64 0,.int .i64 0,.string ⟨#[]⟩,.int .i64 0,.int .i64 0]) 5 48 Tryd.underlying95 HK.out.1 HK.out.2.1 HK.out.2.2.1 HK.out.2.2.2 rfl (by decide) v q.length (cellsOf q) rfl (World.ownsRow.alloc (by exact HO.out) _) ⟨W1.heap.size,0,none⟩ 1 1 [.int .i64 x.kind,.int .i64 x.n,.string x.set,.int .i64 (x.a:Int),.int .i64 (x.b:Int)] rfl rfl (World.news_of_block (heap_alloc_new _ _)) (by intro u hu;simp at hu;rcases hu with rfl | rfl | rfl | rfl | rfl <;> rfl) (by decide) (by unfold maxLen;omega) (by omega) (by simp;omega) (W1.heap.size+1) (by simp) ?_;intro g cap9 w9 hown hgrow hat hlt;have hb9:w9.heap[mb]?=W1.heap[mb]? := (hgrow.block mb (by simp;omega) (fun e=>HNB.out e.symm)).trans (by exact Below.heap_alloc W1 _ mb hmb);have hc9:w9.cell? ⟨mb,0,none⟩=some v:=(World.cell?_of_block hb9).trans c0;have hf9:w9.frozen? ⟨mb,0,none⟩=false:=by simp [World.frozen?,hb9,HBX.out]))
 all_goals
  have HF:=HP.out g cap9 w9 hown (by exact hgrow) hat
  have HE:=hide HF
  have hE0:(w9.setCell ⟨mb,0,none⟩ (.slice (some ⟨g,0,none⟩) (q.length+1) cap9)).cell? ⟨mb,0,none⟩=some (.slice (some ⟨g,0,none⟩) (q.length+1) cap9):=by simp [World.cell?,HF.box]
  clear hown hgrow hat hc9 hf9 hb9 HF HP
  go_wp2
  go_ret
  exact ⟨rfl,_,HE.out⟩
end Go.Proofs.YtfhimmnoipfiaaaDoor.eng
namespace Go.Proofs.YtfhimmnoipfiaaaDoor.eng
open bytes places sets tz rex
theorem way_of {ts:List Int} (hl:ts.length≤22) (hts:∀ t∈ts,0≤t∧t≤255) {N:Nat} {T:Tr} (hT:OkT N T) (hkids:∀ (j:Nat) (k:Tr),(kidsOf T)[j]?=some k→WayOf ts N k):WayOf ts N T:=by
 intro M K R O w cs hI hf hR
 obtain ⟨kind,n,m,ss,v,rfl,hv⟩:=hR.form
 exact way_walk ts hl hts N T hT hkids M K R O w kind n m ss v hI hf hv hR
mutual
theorem way_mk {ts:List Int} (hl:ts.length≤22) (hts:∀ t∈ts,0≤t∧t≤255) {N:Nat}:∀ T:Tr,OkT N T→WayOf ts N T
 | .char b,h=>way_of hl hts h fun j k hj=>by simp [kidsOf] at hj
 | .any,h=>way_of hl hts h fun j k hj=>by simp [kidsOf] at hj
 | .set s,h=>way_of hl hts h fun j k hj=>by simp [kidsOf] at hj
 | .beg,h=>way_of hl hts h fun j k hj=>by simp [kidsOf] at hj
 | .fin,h=>way_of hl hts h fun j k hj=>by simp [kidsOf] at hj
 | .group n k,h=>way_of hl hts h fun j x hj=>by
  have hx:=List.mem_of_getElem? hj
  simp only [kidsOf,List.mem_singleton] at hx
  rw [OkT] at h
  rw [hx]
  exact way_mk hl hts k h.2.2.2
 | .cat ks,h=>way_of hl hts h fun j k hj=>by
  rw [OkT] at h
  exact ways_mk hl hts ks h.2 j k hj
 | .alt ks,h=>way_of hl hts h fun j k hj=>by
  rw [OkT] at h
  exact ways_mk hl hts ks h.2.2 j k hj
 | .rep n m k,h=>way_of hl hts h fun j x hj=>by
  have hx:=List.mem_of_getElem? hj
  simp only [kidsOf,List.mem_singleton] at hx
  rw [OkT] at h
  rw [hx]
  exact way_mk hl hts k h.2.2
theorem ways_mk {ts:List Int} (hl:ts.length≤22) (hts:∀ t∈ts,0≤t∧t≤255) {N:Nat}:∀ (ks:List Tr),OkK N ks→∀ (j:Nat) (k:Tr),ks[j]?=some k→WayOf ts N k
 | [],_,j,k,hj=>by simp at hj
 | a::ks,h,0,k,hj=>by
  rw [OkK] at h
  simp only [List.getElem?_cons_zero,Option.some.injEq] at hj
  subst hj
  exact way_mk hl hts a h.1
 | a::ks,h,j+1,k,hj=>by
  rw [OkK] at h
  exact ways_mk hl hts ks h.2 j k (by simpa using hj)
end
end Go.Proofs.YtfhimmnoipfiaaaDoor.eng
namespace Go.Proofs.YtfhimmnoipfiaaaDoor.eng
open bytes places sets tz rex
def SeaMade (ts:List Int) (T:Tr) (M:Fz) (K:Ks) (R:Rs) (O:Lb) (w:World) (S:ByteArray) (e:Ending) (w':World):Prop :=
 ∃ k:Kd,∃ f1 c1 f2 c2,k.ve=.func (.func f1) #[] c1∧k.vp=.func (.func f2) #[] c2∧e=.returned (.tuple #[.agg #[.string S,.int .i64 (ngT T:Nat),k.ve,k.vp],.int .i64 0])∧k.a=rex.mt ts T∧k.s=sp ts T∧Made ts.length M K R O w w' fun M' K'=>KdOK ts.length M' K' (2*ngT T+2) k
theorem size51:(Tryd.prog.info? 51).map (·.size)=some 4:=by kernel_rfl
theorem sea_set {W:World} {b:Nat} {z0 z1 z2 z3:Value} (h:W.heap[b]?=some (.cells #[z0,z1,z2,z3] 51 (0,0))) (v0 v1 v2 v3:Value):((((W.setCell ⟨b,0,none⟩ v0).setCell ⟨b,1,none⟩ v1).setCell ⟨b,2,none⟩ v2).setCell ⟨b,3,none⟩ v3).heap[b]?=some (.cells #[v0,v1,v2,v3] 51 (0,0)):=by
 have h0:=heap_setCell_same W b 0 _ 51 v0 h
 have h1:=heap_setCell_same _ b 1 _ 51 v1 h0
 have h2:=heap_setCell_same _ b 2 _ 51 v2 h1
 have h3:=heap_setCell_same _ b 3 _ 51 v3 h2
 simp at h3
 exact h3
set_option maxRecDepth 20000 in
set_option maxHeartbeats 8000000 in
theorem search_mk (ts:List Int) (hl:ts.length≤22) (hts:∀ t∈ts,0≤t∧t≤255) (T:Tr) (hT:Good T) (M:Fz) (K:Ks) (R:Rs) (O:Lb) (w:World) (kind n9 m9:Int) (ss:ByteArray) (o:Option Addr) (ln cp:Nat) (hI:Inv ts.length M K R O w) (hf:Few K R) (hR:RxAt M T (rxV kind n9 m9 ss (.slice o ln cp))) :
  Calls Tryd.prog 18 #[.agg (rxV kind n9 m9 ss (.slice o ln cp)),.string (strOfNums ts)] w (SeaMade ts T M K R O w (strOfNums ts)):=by
 have hS:(strOfNums ts).size=ts.length:=strOfNums_size _
 obtain ⟨W0,hW0⟩:∃ W0,(w.alloc (.cells (rxV kind n9 m9 ss (.slice o ln cp)) 25)).alloc (.cells #[.string ⟨#[]⟩,.int .i64 0,.nilFunc,.nilFunc] 51)=W0:=⟨_,rfl⟩
 have hz:W0.heap.size=w.heap.size+2:=by rw [←hW0];simp
 have hB:Below w.heap.size w W0:=by
  rw [←hW0]
  exact ((Below.refl _ _).alloc (Nat.le_refl _) _).alloc (by simp) _
 have b1:W0.heap[w.heap.size]?=some (.cells (rxV kind n9 m9 ss (.slice o ln cp)) 25 (0,0)):=by
  rw [←hW0,Below.heap_alloc _ _ _ (by simp)]
  exact heap_alloc_new w _
 have b2:W0.heap[w.heap.size+1]?=some (.cells #[.string ⟨#[]⟩,.int .i64 0,.nilFunc,.nilFunc] 51 (0,0)):=by
  rw [←hW0]
  have h:=heap_alloc_new (w.alloc (.cells (rxV kind n9 m9 ss (.slice o ln cp)) 25)) (.cells #[.string ⟨#[]⟩,.int .i64 0,.nilFunc,.nilFunc] 51)
  rw [World.size_alloc] at h
  exact h
 have h0:=(St.refl hI).below hB
 have HG:=hide (groups_any hT hR W0 h0.inv.fz)
 have HW:Hid (∀ W,Below W0.heap.size W0 W→Calls Tryd.prog 31 #[.agg (rxV kind n9 m9 ss (.slice o ln cp)),.string (strOfNums ts)] W (WayMade ts.length M K R O W (2*ngT T+2) (rex.mt ts T) (sp ts T))):=hide fun W h=>way_mk hl hts T hT.ok M K R O W _ (h0.below h).inv hf hR
 have HF:Hid (∀ W w6 (k:Kd),Below W0.heap.size W0 W→Made ts.length M K R O W w6 (fun M' K'=>KdOK ts.length M' K' (2*ngT T+2) k)→w6.heap[w.heap.size+1]?=some (.cells #[.string ⟨#[]⟩,.int .i64 0,.nilFunc,.nilFunc] 51 (0,0)) ∧
   ∀ v0 v1 v2 v3,Made ts.length M K R O w ((((w6.setCell ⟨w.heap.size+1,0,none⟩ v0).setCell ⟨w.heap.size+1,1,none⟩ v1).setCell ⟨w.heap.size+1,2,none⟩ v2).setCell ⟨w.heap.size+1,3,none⟩ v3) fun M' K'=>KdOK ts.length M' K' (2*ngT T+2) k):=by
  refine hide fun W w6 k hb ⟨M',K',R',O',g1,g2,g3,g4,g5⟩ => ?_
  have hs:=hb.size
  have o1:O (w.heap.size+1)=none:=hI.fresh (by omega)
  have o2:O' (w.heap.size+1)=none:=(g3.lab _ (by omega)).trans o1
  refine ⟨(g3.same _ (by omega) (.inl o1)).trans ((hb.block _ (by omega)).trans b2),fun v0 v1 v2 v3=>⟨M',K',R',O',g1,g2,?_,g4,g5⟩⟩
  exact (((((h0.below hb).then g3).set (a:=⟨w.heap.size+1,0,none⟩) (by simp) o2 _).set (a:=⟨w.heap.size+1,1,none⟩) (by simp) o2 _).set (a:=⟨w.heap.size+1,2,none⟩) (by simp) o2 _).set (a:=⟨w.heap.size+1,3,none⟩) (by simp) o2 _
 have HB:=hide (And.intro b1 (And.intro b2 hz))
 unfold rxV at hW0 HG HW HB b1 ⊢
 have p0:W0.cell? ⟨w.heap.size,0,none⟩=some (.int .i64 kind):=by simp [World.cell?,b1]
 have p1:W0.cell? ⟨w.heap.size,1,none⟩=some (.int .i64 n9):=by simp [World.cell?,b1]
 have p2:W0.cell? ⟨w.heap.size,2,none⟩=some (.int .i64 m9):=by simp [World.cell?,b1]
 have p3:W0.cell? ⟨w.heap.size,3,none⟩=some (.string ss):=by simp [World.cell?,b1]
 have p4:W0.cell? ⟨w.heap.size,4,none⟩=some (.slice o ln cp):=by simp [World.cell?,b1]
 obtain ⟨S,hSS⟩:∃ S,S=strOfNums ts:=⟨_,rfl⟩
 rw [←hSS] at HW hS ⊢
 have hl1:¬ (65536:Int)<(ts.length:Int):=by omega
 have hl2:¬ (120:Int)<(ts.length:Int):=by omega
 clear hI hf hR hB b1 b2 h0 hSS hts hz
 go_enter Tryd.func18,Tryd.ntmps18
 go_wp2_with fail
 (try rw [hW0])
 refine HG.out.mono ?_
 rintro e w1 ⟨rfl,h1⟩
 have q:w1.heap[w.heap.size]?=some (.cells #[.int .i64 kind,.int .i64 n9,.int .i64 m9,.string ss,.slice o ln cp] 25 (0,0)):=(h1.block _ (by have:=HB.out.2.2;omega)).trans HB.out.1
 have q0:w1.cell? ⟨w.heap.size,0,none⟩=some (.int .i64 kind):=by simp [World.cell?,q]
 have q1:w1.cell? ⟨w.heap.size,1,none⟩=some (.int .i64 n9):=by simp [World.cell?,q]
 have q2:w1.cell? ⟨w.heap.size,2,none⟩=some (.int .i64 m9):=by simp [World.cell?,q]
 have q3:w1.cell? ⟨w.heap.size,3,none⟩=some (.string ss):=by simp [World.cell?,q]
 have q4:w1.cell? ⟨w.heap.size,4,none⟩=some (.slice o ln cp):=by simp [World.cell?,q]
 have HC:=hide (HW.out w1 h1)
 have H1:=hide h1
 clear h1 q p0 p1 p2 p3 p4 HG HW hW0
 go_wp2_with fail
 refine HC.out.mono ?_
 rintro e w6 ⟨k,rfl,hka,hks,hM⟩
 obtain ⟨g1,g2⟩:=HF.out w1 w6 k H1.out hM
 obtain ⟨_,_,_,_,_,_,_,_,hk⟩:=hM
 obtain ⟨f1,c1,he1,_,_⟩:=hk.e
 obtain ⟨f2,c2,he2,_,_⟩:=hk.p
 have HM:=hide (And.intro (g2 (.string S) (.int .i64 (ngT T:Nat)) k.ve k.vp) (And.intro hka hks))
 have HEE:k.ve=.func (.func f1) #[] c1∧k.vp=.func (.func f2) #[] c2:=⟨he1,he2⟩
 have HEE:=hide HEE
 have y0:w6.cell? ⟨w.heap.size+1,0,none⟩=some (.string ⟨#[]⟩):=by simp [World.cell?,g1]
 have y1:w6.cell? ⟨w.heap.size+1,1,none⟩=some (.int .i64 0):=by simp [World.cell?,g1]
 have y2:w6.cell? ⟨w.heap.size+1,2,none⟩=some .nilFunc:=by simp [World.cell?,g1]
 have y3:w6.cell? ⟨w.heap.size+1,3,none⟩=some .nilFunc:=by simp [World.cell?,g1]
 have z0:w6.frozen? ⟨w.heap.size+1,0,none⟩=false:=by simp [World.frozen?,g1]
 have z1:w6.frozen? ⟨w.heap.size+1,1,none⟩=false:=by simp [World.frozen?,g1]
 have z2:w6.frozen? ⟨w.heap.size+1,2,none⟩=false:=by simp [World.frozen?,g1]
 have z3:w6.frozen? ⟨w.heap.size+1,3,none⟩=false:=by simp [World.frozen?,g1]
 have hse:=sea_set g1 (.string S) (.int .i64 (ngT T:Nat)) k.ve k.vp
 rw [he1,he2] at HM hse ⊢
 obtain ⟨W9,hW9⟩:∃ W9,(((w6.setCell ⟨w.heap.size+1,0,none⟩ (.string S)).setCell ⟨w.heap.size+1,1,none⟩ (.int .i64 (ngT T:Nat))).setCell ⟨w.heap.size+1,2,none⟩ (.func (.func f1) #[] c1)).setCell ⟨w.heap.size+1,3,none⟩ (.func (.func f2) #[] c2)=W9:=⟨_,rfl⟩
 rw [hW9] at HM hse
 have x0:W9.cell? ⟨w.heap.size+1,0,none⟩=some (.string S):=by simp [World.cell?,hse]
 have x1:W9.cell? ⟨w.heap.size+1,1,none⟩=some (.int .i64 (ngT T:Nat)):=by simp [World.cell?,hse]
 have x2:W9.cell? ⟨w.heap.size+1,2,none⟩=some (.func (.func f1) #[] c1):=by simp [World.cell?,hse]
 have x3:W9.cell? ⟨w.heap.size+1,3,none⟩=some (.func (.func f2) #[] c2):=by simp [World.cell?,hse]
 clear g1 g2 hk hka hks he1 he2 HC HF HB q0 q1 q2 q3 q4 H1 hse
 go_wp2
 (try rw [hW9])
 refine bodyPost_ret (v:=.tuple #[.agg #[.string S,.int .i64 (ngT T:Nat),.func (.func f1) #[] c1,.func (.func f2) #[] c2],.int .i64 0]) (by simp [results,Tryd.results18,go_sem,x0,x1,x2,x3]) rfl ?_
 exact ⟨⟨_,_,rex.mt ts T,sp ts T⟩,f1,c1,f2,c2,rfl,rfl,rfl,rfl,rfl,HM.out.1.mono fun M' K' _ _ h=>by
  have:=h.congr HM.out.2.1 (fun i j out _ _=>by rw [HM.out.2.2])
  rw [HEE.out.1,HEE.out.2] at this
  exact this⟩
end Go.Proofs.YtfhimmnoipfiaaaDoor.eng
namespace Go.Proofs.YtfhimmnoipfiaaaDoor.eng
open bytes places sets tz rex
def firstB (a:B2) (L p:Nat):Option (Nat×Nat):=(List.range' p (L+1-p)).findSome? fun i=>(far i (a i) L).map fun j=>(i,j)
theorem firstB_step (a:B2) {L p:Nat} (hp:p≤L):firstB a L p=match far p (a p) L with | some j=>some (p,j) | none=>firstB a L (p+1):=by
 unfold firstB
 rw [show L+1-p=(L+1-(p+1))+1 by omega,List.range'_succ,List.findSome?_cons]
 cases far p (a p) L <;> rfl
theorem firstB_end (a:B2) {L p:Nat} (hp:L<p):firstB a L p=none:=by
 unfold firstB
 rw [show L+1-p=0 by omega]
 rfl
theorem pl_zero {a:B2} (ha:Mono a) {L p:Nat} (h:far p (a p) L=none):pl L a p=0:=by
 refine Nat.eq_of_testBit_eq fun j => ?_
 rw [bit_pl,Nat.zero_testBit]
 by_cases c:j≤L
 ·by_cases d:p≤j
  ·rw [far_none h j d c];simp
  ·have:a p j=false:=by
    cases e:a p j with
    | false=>rfl
    | true=>exact absurd (ha _ _ e) d
   rw [this];simp
 ·simp [c]
theorem pl_top {a:B2} {L p j:Nat} (h:far p (a p) L=some j):2 ^ j≤pl L a p∧pl L a p<2 ^ (j+1):=by
 obtain ⟨h1,h2,h3,h4⟩:=far_some h
 refine ⟨Nat.ge_two_pow_of_testBit (by rw [bit_pl,h3];simp [h2]),Nat.lt_pow_two_of_testBit _ fun i hi => ?_⟩
 rw [bit_pl]
 by_cases c:i≤L
 ·rw [h4 i (by omega) c];simp
 ·simp [c]
theorem last_pl (w:World) {a:B2} (ha:Mono a) {L p:Nat} (hL:L≤22):Calls Tryd.prog 32 #[psV (pl L a p)] w fun r w'=>r=.returned (.int .i64 (match far p (a p) L with | some j=>(j:Int) | none => -1))∧Below w.heap.size w w':=by
 cases e:far p (a p) L with
 | none=>rw [pl_zero ha e];exact lastp.last_none w
 | some j =>
  obtain ⟨h1,h2⟩:=pl_top e
  exact last_hi w _ j (Nat.lt_of_lt_of_le (pl_lt L a p) (Nat.pow_le_pow_right (by decide) (by omega))) h1 h2
theorem info3:(Tryd.prog.info? 3).map (fun i=>(i.zero,i.size,i.bytes))=some (some (.int .i64 0),1,8):=by kernel_rfl
def outs0 (i j n:Nat):List Int:=[(i:Int),(j:Int)]++List.replicate (2*n) (-1)
def FindMade (L:Nat) (M:Fz) (K:Ks) (R:Rs) (O:Lb) (w:World) (a:B2) (s:Sp) (n:Nat) (p:Nat) (e:Ending) (w':World):Prop :=
 ∃ R' O',St L M K R O w R' O' w'∧match firstB a L p with
  | none=>e=.returned (.slice none 0 0)
  | some (i,j)=>∃ g cap,e=.returned (.slice (some ⟨g,0,none⟩) (2*n+2) cap)∧w.heap.size≤g∧O' g=none∧Spn w' g (s i j (outs0 i j n))∧(s i j (outs0 i j n)).length=2*n+2
structure FH (L:Nat) (M:Fz) (K:Ks) (R0:Rs) (O0:Lb) (w0:World) (S:ByteArray) (n:Nat) (ve vp:Value) (W:World):Prop where
 sq:Sq L M K R0 O0 w0 (fun b=>b=w0.heap.size) W
 box:W.heap[w0.heap.size]?=some (.cells #[.string S,.int .i64 (n:Int),ve,vp] 51 (0,0))
section
variable {L:Nat} {M:Fz} {K:Ks} {R0:Rs} {O0:Lb} {w0 W W':World} {S:ByteArray} {n:Nat} {ve vp:Value}
theorem FH.below (h:FH L M K R0 O0 w0 S n ve vp W) (hb:Below W.heap.size W W'):FH L M K R0 O0 w0 S n ve vp W':=⟨h.sq.below hb,(hb.block _ (h.sq.lt rfl).2).trans h.box⟩
theorem FH.ask (h:FH L M K R0 O0 w0 S n ve vp W) {f:Nat} {cs:Array Value} {p X:Nat} (ha:At L M K f cs p X):Calls Tryd.prog f (#[.int .i64 (p:Int)]++cs) W fun e w'=>e=.returned (psV X)∧FH L M K R0 O0 w0 S n ve vp w':=by
 refine (h.sq.ask ha (FLe.refl _) (KLe.refl _)).mono ?_
 rintro e w' ⟨h1,h2,h3,h4⟩
 exact ⟨h1,h2,(h3 _ rfl).trans h.box⟩
theorem FH.cells (h:FH L M K R0 O0 w0 S n ve vp W):W.cell? ⟨w0.heap.size,0,none⟩=some (.string S)∧W.cell? ⟨w0.heap.size,1,none⟩=some (.int .i64 (n:Int))∧W.cell? ⟨w0.heap.size,2,none⟩=some ve∧W.cell? ⟨w0.heap.size,3,none⟩=some vp:=by
 refine ⟨?_,?_,?_,?_⟩ <;> simp [World.cell?,h.box]
theorem FH.wide (h:FH L M K R0 O0 w0 S n ve vp W) (o:Obj):(W.alloc o).cell? ⟨w0.heap.size,1,none⟩=some (.int .i64 (n:Int)):=by
 have h1:=(Below.heap_alloc W o _ (h.sq.lt rfl).2).trans h.box
 simp [World.cell?,h1]
end
structure FS (L:Nat) (M:Fz) (K:Ks) (R0:Rs) (O0:Lb) (w0:World) (S:ByteArray) (n:Nat) (ve vp:Value) (i j t g cap:Nat) (W:World):Prop where
 ex:∃ R O,St L M K R0 O0 w0 R O W∧O w0.heap.size=none∧O g=none
 box:W.heap[w0.heap.size]?=some (.cells #[.string S,.int .i64 (n:Int),ve,vp] 51 (0,0))
 own:W.ownsRow (w0.heap.size+1) 3 1 (.slice (some ⟨g,0,none⟩) (2*t+2) cap) (2*t+2) ((outs0 i j t).map (Value.int .i64))
section
variable {L:Nat} {M:Fz} {K:Ks} {R0:Rs} {O0:Lb} {w0 W W':World} {S:ByteArray} {n:Nat} {ve vp:Value} {i j t g cap:Nat}
theorem FS.start (h:FH L M K R0 O0 w0 S n ve vp W):FS L M K R0 O0 w0 S n ve vp i j 0 W.heap.size 2 (W.alloc (.cells #[.int .i64 (i:Int),.int .i64 (j:Int)] 3)):=by
 obtain ⟨R,O,g1,g2⟩:=h.sq.ex
 have hl:=(h.sq.lt rfl).2
 refine ⟨⟨R,O,g1.alloc _,(g2 _ rfl).2.2,g1.fresh (Nat.le_refl _)⟩,(Below.heap_alloc _ _ _ hl).trans h.box,⟨by simp [outs0],.inr ⟨W.heap.size,2,_,rfl,by omega,heap_alloc_new W _,by omega,by unfold maxLen;omega,rfl,by simp [outs0]⟩⟩⟩
theorem outs_succ (i j t:Nat):(outs0 i j (t+1)).map (Value.int .i64)=(outs0 i j t).map (Value.int .i64)++[.int .i64 (-1),.int .i64 (-1)]:=by
 unfold outs0
 rw [show 2*(t+1)=2*t+1+1 by omega,List.replicate_succ',List.replicate_succ']
 simp
theorem FS.step (h:FS L M K R0 O0 w0 S n ve vp i j t g cap W) {g' cap':Nat} {W3:World} (h1:W3.ownsRow (w0.heap.size+1) 3 1 (.slice (some ⟨g',0,none⟩) (2*t+2+2) cap') (2*t+2+2) ((outs0 i j t).map (Value.int .i64)++[.int .i64 (-1),.int .i64 (-1)]))
  (h2:(W.alloc (.cells #[.int .i64 (-1),.int .i64 (-1)] 3)).grownBy W3 (some g)) (h3:some g=some g'∨g'=W.heap.size+1):FS L M K R0 O0 w0 S n ve vp i j (t+1) g' cap' W3:=by
 obtain ⟨R,O,k1,k2,k3⟩:=h.ex
 have hg:=h.own.lt g rfl
 have hl:=(Array.getElem?_eq_some_iff.1 h.box).1
 refine ⟨⟨R,O,(k1.alloc _).grown h2 k3 (by omega),k2,?_⟩,?_,?_⟩
 ·rcases h3 with h3 | h3
  ·simp only [Option.some.injEq] at h3;rw [←h3];exact k3
  ·rw [h3];exact k1.fresh (by omega)
 ·exact (h2.block _ (by simp;omega) (by simp;omega)).trans ((Below.heap_alloc _ _ _ hl).trans h.box)
 ·rw [outs_succ,show 2*(t+1)+2=2*t+2+2 by omega]
  exact h1
theorem FS.spn (h:FS L M K R0 O0 w0 S n ve vp i j t g cap W):Spn W g (outs0 i j t)∧2*t+2≤cap:=by
 rcases h.own.2 with ⟨h0,_⟩|⟨g0,cap0,cur,z1,z2,z3,z4,z5,z6,z7⟩
 ·cases h0
 ·simp only [Value.slice.injEq,Option.some.injEq,Addr.mk.injEq,and_true,true_and] at z1
  obtain ⟨rfl,rfl⟩:=z1
  refine ⟨⟨cur,z3,fun x v hx => ?_⟩,z4⟩
  have h1:((outs0 i j t).map (Value.int .i64))[x]?=some (.int .i64 v):=by rw [List.getElem?_map,hx];rfl
  rw [←z7] at h1
  have hl:=(List.getElem?_eq_some_iff.1 h1).1
  rw [List.length_take] at hl
  rw [List.getElem?_take_of_lt (by omega)] at h1
  simpa using h1
end
set_option maxRecDepth 20000 in
set_option maxHeartbeats 8000000 in
theorem find_any (L:Nat) (M:Fz) (K:Ks) (R:Rs) (O:Lb) (w:World) (S:ByteArray) (n p:Nat) (k:Kd) (f1 f2:Nat) (c1 c2:Array Value) (he1:k.ve=.func (.func f1) #[] c1) (he2:k.vp=.func (.func f2) #[] c2) (hI:Inv L M K R O w) (hL:L≤22) (hS:S.size=L) (hn:n≤9) (hk:KdOK L M K (2*n+2) k) (hp:p≤L+1) :
  Calls Tryd.prog 19 #[.agg #[.string S,.int .i64 (n:Int),.func (.func f1) #[] c1,.func (.func f2) #[] c2],.int .i64 (p:Int)] w (FindMade L M K R O w k.a k.s n p):=by
 obtain ⟨f1',c1',e1',ho1,hAt⟩:=hk.e
 obtain ⟨f2',c2',e2',ho2,hPt⟩:=hk.p
 rw [he1] at e1'
 rw [he2] at e2'
 simp only [Value.func.injEq,Fn.func.injEq,true_and] at e1' e2'
 obtain ⟨rfl,rfl⟩:=e1'
 obtain ⟨rfl,rfl⟩:=e2'
 have hcf1:=callF ho1
 have hcf2:=callF ho2
 obtain ⟨i0,hi0,hz0,hs0,hb0⟩:=info_parts info3
 have HK:=hide (And.intro hi0 (And.intro hz0 (And.intro hs0 hb0)))
 have hB:=(Below.refl w.heap.size w).alloc (Nat.le_refl _) (.cells #[.string S,.int .i64 (n:Int),.func (.func f1) #[] c1,.func (.func f2) #[] c2] 51)
 obtain ⟨W0,hW0⟩:∃ W0,w.alloc (.cells #[.string S,.int .i64 (n:Int),.func (.func f1) #[] c1,.func (.func f2) #[] c2] 51)=W0:=⟨_,rfl⟩
 have HS:Hid (FH L M K R O w S n (.func (.func f1) #[] c1) (.func (.func f2) #[] c2) W0):=by
  rw [←hW0]
  exact hide ⟨Sq.start hI hB (fun b hb=>by simp;omega),heap_alloc_new w _⟩
 obtain ⟨RES,hRES⟩:∃ RES,RES=firstB k.a L p:=⟨_,rfl⟩
 have HP:Hid (∀ e w',(∃ R' O',St L M K R O w R' O' w'∧match RES with
  | none=>e=.returned (.slice none 0 0)
  | some (i,j)=>∃ g cap,e=.returned (.slice (some ⟨g,0,none⟩) (2*n+2) cap)∧w.heap.size≤g∧O' g=none∧Spn w' g (k.s i j (outs0 i j n))∧(k.s i j (outs0 i j n)).length=2*n+2)→FindMade L M K R O w k.a k.s n p e w'):=hide fun e w' h=>by unfold FindMade;rw [←hRES];exact h
 have HA:=hide (And.intro hAt (And.intro hPt (And.intro hk.mono (And.intro hL (And.intro hn hRES)))))
 clear hi0 hz0 hs0 hb0 hAt hPt hk he1 he2 hRES hI hB ho1 ho2
 go_enter Tryd.func19,Tryd.ntmps19
 go_wp2
 (try rw [hW0])
 clear hW0
 go_loopw [1,5,6] (fun v1 v5 v6 wr=>∃ q:Nat,q≤L+1∧v1=.int .i64 (q:Int)∧Hid (FH L M K R O w S n (.func (.func f1) #[] c1) (.func (.func f2) #[] c2) wr∧RES=firstB k.a L q)) (fun v1 _ _ _=>L+1-(intOf v1).toNat)
 case atStart=>exact ⟨p,hp,rfl,hide ⟨HS.out,HA.out.2.2.2.2.2⟩⟩
 case round =>
  obtain ⟨q,hq,rfl,HX⟩:=hrel
  clear HS
  obtain ⟨x0,x1,x2,x3⟩:=HX.out.1.cells
  by_cases hqL:q≤L
  ·have hqi:(q:Int)≤(L:Int):=by omega
   have hqw:IntKind.i64.wrap ((q:Int)+1)=((q+1:Nat):Int):=by rw [IntKind.wrap_i64];omega
   have HQ1:=hide (HX.out.1.ask (HA.out.1 q hqL))
   have hstep:=firstB_step k.a hqL
   obtain ⟨X,hX⟩:∃ X,X=pl L k.a q:=⟨_,rfl⟩
   have HL:Hid (∀ W,FH L M K R O w S n (.func (.func f1) #[] c1) (.func (.func f2) #[] c2) W→Calls Tryd.prog 32 #[psV X] W fun r w'=>r=.returned (.int .i64 (match far q (k.a q) L with | some j=>(j:Int) | none => -1))∧FH L M K R O w S n (.func (.func f1) #[] c1) (.func (.func f2) #[] c2) w'):=hide fun W h=>by
    rw [hX]
    exact (last_pl W HA.out.2.2.1 HA.out.2.2.2.1).mono fun e w' h2=>⟨h2.1,h.below h2.2⟩
   rw [←hX] at HQ1
   have hres:=HX.out.2
   rw [hstep] at hres
   have hRS:=hide hres
   clear hX hstep hres HX
   unfold psV at HQ1 HL
   cases hfar:far q (k.a q) L with
   | none =>
    rw [hfar] at HL hRS
    clear hfar
    go_wp2_with (first | (go_at_call 32;with_reducible (refine (HL.out _ ?_).mono ?_);exact h2;rintro e w3 ⟨rfl,h3⟩;have H3:=hide h3) | (with_reducible (refine HQ1.out.mono ?_);rintro e w2 ⟨rfl,h2⟩))
    go_roundw
    case rel=>exact ⟨q+1,by omega,by simp,hide ⟨H3.out,hRS.out⟩⟩
    case measure=>simp [intOf];omega
   | some j =>
    obtain ⟨hj1,hj2,hj3,hj4⟩:=far_some hfar
    rw [hfar] at HL hRS
    have hm:=hide hj3
    clear hfar hj3 hj4
    have hj0:(0:Int)≤(j:Int):=by omega
    go_wp2_with (first | (go_at_call 32;with_reducible (refine (HL.out _ ?_).mono ?_);exact h2;rintro e w3 ⟨rfl,h3⟩;have y0:=h3.wide;have H3:=hide h3) | (with_reducible (refine HQ1.out.mono ?_);rintro e w2 ⟨rfl,h2⟩))
    have HF0:=hide (FS.start (i:=q) (j:=j) H3.out)
    clear y0 H3 h3 h2 HL HQ1 x0 x1 x2 x3
    generalize w3.alloc (.cells #[.int .i64 (q:Int),.int .i64 (j:Int)] 3)=W4 at HF0 ⊢
    generalize w3.heap.size=g0 at HF0 ⊢
    go_loopw [6,27] (fun v6 v27 wx=>∃ t g cap:Nat,t≤n∧v27=.int .i64 (t:Int)∧v6=.slice (some ⟨g,0,none⟩) (2*t+2) cap∧Hid (FS L M K R O w S n (.func (.func f1) #[] c1) (.func (.func f2) #[] c2) q j t g cap wx)) (fun _ v27 _=>n-(intOf v27).toNat)
    case atStart=>exact ⟨0,g0,2,by omega,rfl,rfl,HF0⟩
    case round =>
     obtain ⟨t,g,cap,ht,rfl,rfl,HG⟩:=hrel
     clear HF0
     by_cases htn:t<n
     ·have hti:(t:Int)<(n:Int):=by omega
      have htw:IntKind.i64.wrap ((t:Int)+1)=((t+1:Nat):Int):=by rw [IntKind.wrap_i64];omega
      have hn9:=HA.out.2.2.2.2.1
      have hws:=(HG.out.own.lt g rfl)
      have HO:=hide HG.out.own
      have HN:=hide (fun g' cap' W3 h1 h2 h3=>HG.out.step (g':=g') (cap':=cap') (W3:=W3) h1 h2 h3)
      go_wp2_with (at_builtin;refine wpList_append_lies _ rfl _ _ 28 rfl (w.heap.size+1) 3 i0 (.int .i64 0) 1 8 Tryd.underlying28 HK.out.1 HK.out.2.1 HK.out.2.2.1 HK.out.2.2.2 rfl (by decide) _ (2*t+2) ((outs0 q j t).map (Value.int .i64)) rfl (HO.out.alloc _) ⟨_,0,none⟩ 2 2 [.int .i64 (-1),.int .i64 (-1)] rfl rfl (World.news_of_block (heap_alloc_new _ _)) (by simp [Value.oneCell']) (by decide) (by unfold maxLen;omega) (by omega) (by simp;omega) _ (World.size_alloc ..) ?_;intro g2 cap2 w2 h1 h2 h3 h4)
      have HR:=hide (HN.out g2 cap2 w2 h1 h2 h3)
      clear h1 h2 h3 HN HO HG
      go_roundw
      case rel=>exact ⟨t+1,g2,cap2,by omega,by simp,by rw [show 2*(t+1)+2=2*t+2+2 by omega],HR⟩
      case measure=>simp [intOf];omega
     ·obtain rfl:t=n:=by omega
      have hnl:¬ (t:Int)<(t:Int):=by omega
      have hb:=HG.out.box
      have z3:wr.cell? ⟨w.heap.size,3,none⟩=some (.func (.func f2) #[] c2):=by simp [World.cell?,hb]
      obtain ⟨hsp,hcap⟩:=HG.out.spn
      obtain ⟨R2,O2,k1,k2,k3⟩:=HG.out.ex
      have hlen:(outs0 q j t).length=2*t+2:=by simp [outs0]
      have HZ:=hide (HA.out.2.1 M K R2 O2 wr (FLe.refl _) (KLe.refl _) k1.inv q j g (2*t+2) cap (outs0 q j t) hj1 hj2 hm.out k3 hsp hlen (Nat.le_refl _) hcap (by have:=HA.out.2.2.2.2.1;omega))
      have hgl:=HG.out.own.lt g rfl
      have HW:=hide (And.intro k1 (And.intro k3 hgl))
      clear hb hsp k1 k2 k3 HG hgl
      go_wp2_with fail
      refine HZ.out.mono ?_
      rintro e w6 ⟨rfl,r1,r2,r3⟩
      have HE:Hid (FindMade L M K R O w k.a k.s t p (.returned (.slice (some ⟨g,0,none⟩) (2*t+2) cap)) w6):=by
       refine hide (HP.out _ _ ?_)
       obtain ⟨R3,O3,s1,s2,s3,s4,s5,s6,s7,_⟩:=r3.ex
       obtain ⟨k1,k3,hgl⟩:=HW.out
       refine ⟨R3,O3,St.of s1 ⟨s2.1.trans k1.os,s2.2.1.trans k1.tape,s2.2.2.trans k1.output,Nat.le_trans k1.size s3,fun b hb ho=>(s4 b (by have:=k1.size;omega) (by omega) (by rw [k1.lab b hb];exact ho)).trans (k1.same b hb ho),fun b hb=>(s5 b (by have:=k1.size;omega)).trans (k1.lab b hb),fun q hq=>(s6 q (by rw [k1.rows q hq];exact hq)).trans (k1.rows q hq)⟩,?_⟩
       rw [hRS.out]
       exact ⟨g,cap,rfl,by omega,s7,r1,r2⟩
      clear r1 r2 r3 HZ HW z3
      go_wp2
      go_ret
      exact HE.out
  ·have hqi:¬ (q:Int)≤(L:Int):=by omega
   have HE:Hid (FindMade L M K R O w k.a k.s n p (.returned (.slice none 0 0)) wr):=by
    refine hide (HP.out _ _ ?_)
    obtain ⟨R',O',h⟩:=HX.out.1.sq.st
    refine ⟨R',O',h,?_⟩
    rw [HX.out.2,firstB_end k.a (by omega)]
   clear HX
   go_wp2
   go_ret
   exact HE.out
end Go.Proofs.YtfhimmnoipfiaaaDoor.eng
namespace Go.Proofs.YtfhimmnoipfiaaaDoor.eng
open bytes places sets tz rex
theorem nil28 (W:World):Sem.run Tryd.prog (binOp .eql 28 (.slice none 0 0) (.slice none 0 0)) W=.ok (.bool true) W:=by kernel_rfl
theorem some28 (a n c:Nat) (W:World):Sem.run Tryd.prog (binOp .eql 28 (.slice (some ⟨a,0,none⟩) n c) (.slice none 0 0)) W=.ok (.bool false) W:=by kernel_rfl
def lb0 (M:Fz):Lb:=fun b=>if b=0∨M b≠none then some (0,0) else none
theorem inv_start (L:Nat) {M:Fz} {w:World} (h:In M w) (ht:TabIn w) (hz:0<w.heap.size):Inv L M (fun _=>none) (fun _=>none) (lb0 M) w where
 fz:=h
 tab:=ht
 l0:=fun b hb=>if_pos (.inr hb)
 z0:=if_pos (.inl rfl)
 lk:=fun k m hk=>by cases hk
 lr:=fun k a d hk=>by cases hk
 lt:=fun b hb=>by
  unfold lb0 at hb
  split at hb
  ·next c =>
   rcases c with c | c
   ·omega
   ·obtain ⟨o,ho⟩:=Option.ne_none_iff_exists'.1 c
    exact (Array.getElem?_eq_some_iff.1 (h b o ho)).1
  ·exact absurd rfl hb
 memo:=fun k m hk=>by cases hk
theorem few_start:Few (fun _=>none) (fun _=>none):=⟨0,fun _ _=>⟨rfl,rfl⟩⟩
theorem St.clean {L:Nat} {M M':Fz} {K:Ks} {R0 R:Rs} {O:Lb} {w w':World} (h:St L M' K R0 (lb0 M) w R O w'):Below w.heap.size w w' :=
 ⟨h.os,h.tape,h.output,h.size,fun b hb=>h.same b hb (by unfold lb0;split <;> simp)⟩
def Hit (ts:List Int) (T:Tr) (RES:Option (Nat×Nat)) (w w':World) (e:Ending):Prop :=
 Below w.heap.size w w'∧match RES with
  | none=>e=.returned (.tuple #[.slice none 0 0,.int .i64 6])
  | some (i,j)=>∃ g cap,e=.returned (.tuple #[.slice (some ⟨g,0,none⟩) (2*ngT T+2) cap,.int .i64 0])∧w.heap.size≤g∧Spn w' g (sp ts T i j (outs0 i j (ngT T)))∧(sp ts T i j (outs0 i j (ngT T))).length=2*ngT T+2
structure Sch (ts:List Int) (T:Tr) (M:Fz) (w0 w:World) (f1 f2:Nat) (c1 c2:Array Value):Prop where
 ex:∃ M' K R O,Few K R∧St ts.length M' K (fun _=>none) (lb0 M) w0 R O w∧KdOK ts.length M' K (2*ngT T+2) ⟨.func (.func f1) #[] c1,.func (.func f2) #[] c2,rex.mt ts T,sp ts T⟩
theorem Sch.below {ts:List Int} {T:Tr} {M:Fz} {w0 w w':World} {f1 f2:Nat} {c1 c2:Array Value} (h:Sch ts T M w0 w f1 f2 c1 c2) (hb:Below w.heap.size w w'):Sch ts T M w0 w' f1 f2 c1 c2:=by
 obtain ⟨M',K,R,O,h1,h2,h3⟩:=h.ex
 exact ⟨⟨M',K,R,O,h1,h2.below hb,h3⟩⟩
theorem Sch.old {ts:List Int} {T:Tr} {M:Fz} {w0 w:World} {f1 f2:Nat} {c1 c2:Array Value} (h:Sch ts T M w0 w f1 f2 c1 c2):Below w0.heap.size w0 w:=by
 obtain ⟨M',K,R,O,h1,h2,h3⟩:=h.ex
 exact h2.clean
theorem search_top (ts:List Int) (hl:ts.length≤22) (hts:∀ t∈ts,0≤t∧t≤255) (T:Tr) (hT:Good T) (M:Fz) (w:World) (kind n9 m9:Int) (ss:ByteArray) (o:Option Addr) (ln cp:Nat) (hIn:In M w) (ht:TabIn w) (hz:0<w.heap.size) (hR:RxAt M T (rxV kind n9 m9 ss (.slice o ln cp))) :
  Calls Tryd.prog 18 #[.agg (rxV kind n9 m9 ss (.slice o ln cp)),.string (strOfNums ts)] w fun e w'=>∃ f1 f2 c1 c2,e=.returned (.tuple #[.agg #[.string (strOfNums ts),.int .i64 (ngT T:Nat),.func (.func f1) #[] c1,.func (.func f2) #[] c2],.int .i64 0])∧Sch ts T M w w' f1 f2 c1 c2:=by
 refine (search_mk ts hl hts T hT M _ _ (lb0 M) w kind n9 m9 ss o ln cp (inv_start _ hIn ht hz) few_start hR).mono ?_
 rintro e w' ⟨⟨ve,vp,a,s⟩,f1,c1,f2,c2,he1,he2,rfl,ha,hs,M',K,R,O,h1,h2,h3,h4,h5⟩
 simp only at he1 he2 ha hs
 subst he1 he2 ha hs
 exact ⟨f1,f2,c1,c2,rfl,⟨M',K,R,O,h4,h3,h5⟩⟩
theorem find_top (ts:List Int) (hl:ts.length≤22) (T:Tr) (hT:Good T) (M:Fz) (w0 w:World) (f1 f2:Nat) (c1 c2:Array Value) (h:Sch ts T M w0 w f1 f2 c1 c2) (p:Nat) (hp:p≤ts.length+1) :
  Calls Tryd.prog 19 #[.agg #[.string (strOfNums ts),.int .i64 (ngT T:Nat),.func (.func f1) #[] c1,.func (.func f2) #[] c2],.int .i64 (p:Int)] w fun e w'=>Below w0.heap.size w0 w'∧(∃ M' K R O,Few K R∧St ts.length M' K (fun _=>none) (lb0 M) w0 R O w∧KdOK ts.length M' K (2*ngT T+2) ⟨.func (.func f1) #[] c1,.func (.func f2) #[] c2,rex.mt ts T,sp ts T⟩∧FindMade ts.length M' K R O w (rex.mt ts T) (sp ts T) (ngT T) p e w'):=by
 obtain ⟨M',K,R,O,h1,h2,h3⟩:=h.ex
 refine (find_any ts.length M' K R O w (strOfNums ts) (ngT T) p _ f1 f2 c1 c2 rfl rfl h2.inv hl (strOfNums_size _) hT.ng h3 hp).mono ?_
 intro e w' hF
 refine ⟨?_,M',K,R,O,h1,h2,h3,hF⟩
 obtain ⟨R',O',g1,_⟩:=hF
 exact (h2.trans g1).clean
set_option maxRecDepth 20000 in
set_option maxHeartbeats 8000000 in
theorem Find_top (ts:List Int) (hl:ts.length≤22) (hts:∀ t∈ts,0≤t∧t≤255) (T:Tr) (hT:Good T) (M:Fz) (w:World) (kind n9 m9:Int) (ss:ByteArray) (o:Option Addr) (ln cp:Nat) (hIn:In M w) (ht:TabIn w) (hz:0<w.heap.size) (hR:RxAt M T (rxV kind n9 m9 ss (.slice o ln cp))) :
  Calls Tryd.prog 7 #[.agg (rxV kind n9 m9 ss (.slice o ln cp)),.string (strOfNums ts),.int .i64 0] w fun e w'=>Hit ts T (firstB (rex.mt ts T) ts.length 0) w w' e:=by
 have hB:=(Below.refl w.heap.size w).alloc (Nat.le_refl _) (.cells (rxV kind n9 m9 ss (.slice o ln cp)) 25)
 have HC:=hide (search_top ts hl hts T hT M (w.alloc (.cells (rxV kind n9 m9 ss (.slice o ln cp)) 25)) kind n9 m9 ss o ln cp (fun b x hb=>(hB.block b (Array.getElem?_eq_some_iff.1 (hIn b x hb)).1).trans (hIn b x hb)) (fun j hj=>(World.cell?_of_block (a:=⟨0,j,none⟩) (hB.block 0 hz)).trans (ht j hj)) (by simp) hR)
 have HF:Hid (∀ (w3 W:World) f1 f2 c1 c2,Sch ts T M (w.alloc (.cells (rxV kind n9 m9 ss (.slice o ln cp)) 25)) w3 f1 f2 c1 c2→Below w3.heap.size w3 W→Calls Tryd.prog 19 #[.agg #[.string (strOfNums ts),.int .i64 (ngT T:Nat),.func (.func f1) #[] c1,.func (.func f2) #[] c2],.int .i64 (0:Int)] W fun e w'=>Below w.heap.size w w'∧match firstB (rex.mt ts T) ts.length 0 with
  | none=>e=.returned (.slice none 0 0)
  | some (i,j)=>∃ g cap,e=.returned (.slice (some ⟨g,0,none⟩) (2*ngT T+2) cap)∧w.heap.size≤g∧Spn w' g (sp ts T i j (outs0 i j (ngT T)))∧(sp ts T i j (outs0 i j (ngT T))).length=2*ngT T+2):=by
  refine hide fun w3 W f1 f2 c1 c2 hS hb=>(find_top ts hl T hT M _ W f1 f2 c1 c2 (hS.below hb) 0 (by omega)).mono ?_
  rintro e w' ⟨h1,M',K,R,O,h2,h3,h4,R',O',h5,h6⟩
  have hz:=(hS.below hb).old.size
  simp at hz
  refine ⟨⟨h1.os,h1.tape,h1.output,by have:=h1.size;simp at this;omega,fun b hb=>(h1.block b (by simp;omega)).trans (hB.block b hb)⟩,?_⟩
  cases hr:firstB (rex.mt ts T) ts.length 0 with
  | none=>rw [hr] at h6;exact h6
  | some x =>
   rw [hr] at h6
   obtain ⟨g,cap,e1,e2,e3,e4,e5⟩:=h6
   exact ⟨g,cap,e1,by omega,e4,e5⟩
 have hS:=strOfNums_size ts
 obtain ⟨S,hSS⟩:∃ S,S=strOfNums ts:=⟨_,rfl⟩
 rw [←hSS] at HC HF hS ⊢
 obtain ⟨RES,hRES⟩:∃ RES,RES=firstB (rex.mt ts T) ts.length 0:=⟨_,rfl⟩
 rw [←hRES] at HF ⊢
 unfold rxV at HC HF ⊢
 clear hR hIn hB ht hz hSS hts hRES
 go_enter Tryd.func7,Tryd.ntmps7
 go_wp2_with fail
 refine HC.out.mono ?_
 rintro e w1 ⟨f1,f2,c1,c2,rfl,hSc⟩
 have HQ:=hide (fun W hb=>HF.out w1 W f1 f2 c1 c2 hSc hb)
 clear hSc HC HF
 go_wp2_with fail
 refine (HQ.out _ ((Below.refl _ _).alloc (Nat.le_refl _) _)).mono ?_
 rintro e w3 ⟨hb,hr⟩
 have HB:=hide hb
 have hnil:=nil28
 have hsome:=some28
 clear hb HQ
 cases RES with
 | none =>
  subst hr
  go_wp2
  go_ret2
  exact ⟨HB.out,rfl⟩
 | some x =>
  obtain ⟨i,j⟩:=x
  obtain ⟨g,cap,rfl,h3,h4,h5⟩:=hr
  have HR:=hide (And.intro h3 (And.intro h4 h5))
  clear h3 h4 h5
  go_wp2
  go_ret2
  exact ⟨HB.out,g,cap,rfl,HR.out.1,HR.out.2.1,HR.out.2.2⟩
set_option maxRecDepth 20000 in
set_option maxHeartbeats 8000000 in
theorem Matches_top (ts:List Int) (hl:ts.length≤22) (hts:∀ t∈ts,0≤t∧t≤255) (T:Tr) (hT:Good T) (M:Fz) (w:World) (kind n9 m9:Int) (ss:ByteArray) (o:Option Addr) (ln cp:Nat) (hIn:In M w) (ht:TabIn w) (hz:0<w.heap.size) (hR:RxAt M T (rxV kind n9 m9 ss (.slice o ln cp))) (i j:Nat) (hij:i≤j) (hj:j≤ts.length) :
  Calls Tryd.prog 12 #[.agg (rxV kind n9 m9 ss (.slice o ln cp)),.string (strOfNums ts),.int .i64 (i:Int),.int .i64 (j:Int)] w fun e w'=>e=.returned (.tuple #[.bool (rex.mt ts T i j),.int .i64 0])∧Below w.heap.size w w':=by
 have hB:=(Below.refl w.heap.size w).alloc (Nat.le_refl _) (.cells (rxV kind n9 m9 ss (.slice o ln cp)) 25)
 have HC:=hide (search_top ts hl hts T hT M (w.alloc (.cells (rxV kind n9 m9 ss (.slice o ln cp)) 25)) kind n9 m9 ss o ln cp (fun b x hb=>(hB.block b (Array.getElem?_eq_some_iff.1 (hIn b x hb)).1).trans (hIn b x hb)) (fun j hj=>(World.cell?_of_block (a:=⟨0,j,none⟩) (hB.block 0 hz)).trans (ht j hj)) (by simp) hR)
 have HF:Hid (∀ (w3 W:World) f1 f2 c1 c2,Sch ts T M (w.alloc (.cells (rxV kind n9 m9 ss (.slice o ln cp)) 25)) w3 f1 f2 c1 c2→Below w3.heap.size w3 W→OkF f1∧Calls Tryd.prog f1 (#[.int .i64 (i:Int)]++c1) W fun e w'=>e=.returned (psV (pl ts.length (rex.mt ts T) i))∧Below w.heap.size w w'):=by
  refine hide fun w3 W f1 f2 c1 c2 hS hb => ?_
  have hS2:=hS.below hb
  obtain ⟨M',K,R,O,g1,g2,g3⟩:=hS2.ex
  obtain ⟨f,cs,e1,ho,hA⟩:=g3.e
  simp only [Value.func.injEq,Fn.func.injEq,true_and] at e1
  obtain ⟨rfl,rfl⟩:=e1
  refine ⟨ho,(hA i (by omega) M' K R O W (FLe.refl _) (KLe.refl _) g2.inv).mono ?_⟩
  rintro e w' ⟨rfl,R',O',g4⟩
  have h1:=(g2.trans g4).clean
  exact ⟨rfl,h1.os,h1.tape,h1.output,by have:=h1.size;simp at this;omega,fun b hb=>(h1.block b (by simp;omega)).trans (hB.block b hb)⟩
 have HH:Hid (∀ W,Calls Tryd.prog 23 #[psV (pl ts.length (rex.mt ts T) i),.int .i64 (j:Int)] W fun r w'=>r=.returned (.bool (rex.mt ts T i j))∧Below W.heap.size W w'):=by
  refine hide fun W=>(has_any W _ j (by omega) (Nat.lt_of_lt_of_le (pl_lt _ _ _) (Nat.pow_le_pow_right (n:=2) (j:=64) (by decide) (by omega)))).mono ?_
  rintro r w' ⟨rfl,h⟩
  rw [bit_pl]
  exact ⟨by simp [hj],h⟩
 have hS:=strOfNums_size ts
 obtain ⟨S,hSS⟩:∃ S,S=strOfNums ts:=⟨_,rfl⟩
 rw [←hSS] at HC hS ⊢
 obtain ⟨X,hX⟩:∃ X,X=pl ts.length (rex.mt ts T) i:=⟨_,rfl⟩
 obtain ⟨RES,hRES⟩:∃ RES,RES=rex.mt ts T i j:=⟨_,rfl⟩
 rw [←hX,←hRES] at HH
 rw [←hX] at HF
 rw [←hRES]
 unfold psV at HF HH
 unfold rxV at HC HF ⊢
 have hi0:¬ (i:Int)<0:=by omega
 have hij':¬ (j:Int)<(i:Int):=by omega
 have hjl:¬ (ts.length:Int)<(j:Int):=by omega
 clear hR hIn hB ht hz hSS hts hRES hX
 go_enter Tryd.func12,Tryd.ntmps12
 go_wp2_with fail
 refine HC.out.mono ?_
 rintro e w1 ⟨f1,f2,c1,c2,rfl,hSc⟩
 have HQ:=hide (fun W hb=>HF.out w1 W f1 f2 c1 c2 hSc hb)
 have hcf1:=callF (HQ.out w1 (Below.refl _ _)).1
 clear hSc HC HF
 go_wp2_with fail
 refine (HQ.out _ ((Below.refl _ _).alloc (Nat.le_refl _) _)).2.mono ?_
 rintro e w3 ⟨rfl,hb⟩
 have HB:=hide hb
 clear hb HQ hcf1
 go_wp2_with fail
 refine (HH.out _).mono ?_
 rintro e w4 ⟨rfl,hb⟩
 have HE:=hide (HB.out.trans (hb.mono HB.out.size))
 clear hb HB HH
 go_wp2
 go_ret2
 exact ⟨rfl,HE.out⟩
end Go.Proofs.YtfhimmnoipfiaaaDoor.eng
