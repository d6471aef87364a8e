import Derived.Test.YtfhimmnoipfiaaaDoorQ13
import Derived.Deep.RegionLaw
import Derived.Laws.Tables
import Derived.Laws.Rows
import Derived.Test.YtfhimmnoipfiaaaDoorQ08
set_option linter.unusedVariables false
open Go.ChangeShapes Go.WideShapes Go.ChangeAt Go.RowKit
namespace Go.Proofs.YtfhimmnoipfiaaaDoor.src
open bytes pile
theorem below_same (w:World) (n:Nat):Below w.heap.size w (w.drewN n):=⟨rfl,rfl,rfl,Nat.le_refl _,fun _ _=>rfl⟩
theorem rd_setCell {w:World} {ao:Option Addr} {n cap:Nat} {xs:List Int} (h:RdA w (.slice ao n cap) xs) {a:Addr} (ha:0<xs.length→∀ x,ao=some x→x.block≠a.block) (u:Value):RdA (w.setCell a u) (.slice ao n cap) xs:=by
 obtain ⟨⟨ao',cap',e,h1,h2,h3,h4⟩,hnil⟩:=h
 simp only [Value.slice.injEq] at e
 obtain ⟨rfl,rfl,rfl⟩:=e
 refine ⟨⟨ao,cap,rfl,h1,h2,h3,fun hp => ?_⟩,hnil⟩
 obtain ⟨b,off,rfl,hc⟩:=h4 hp
 refine ⟨b,off,rfl,fun i hi => ?_⟩
 rw [World.cell?_of_block (Below.heap_setCell w a u b (ha hp _ rfl))]
 exact hc i hi
structure SS (w:World) (d:Nat) (ao:Option Addr) (cap:Nat) (xs:List Int) (at_:Nat) (sd:Int):Prop where
 blk:w.heap[d]?=some (.cells #[.slice ao xs.length cap,.int .i64 at_,.int .i64 sd] 66 (0,0))
 data:RdA w (.slice ao xs.length cap) xs
 far:0<xs.length→∀ x,ao=some x→x.block≠d
 sd0:0≤sd
 sd1:sd<2147483648
theorem SS.lt {w:World} {d:Nat} {ao:Option Addr} {cap:Nat} {xs:List Int} {at_:Nat} {sd:Int} (h:SS w d ao cap xs at_ sd):d<w.heap.size:=(Array.getElem?_eq_some_iff.1 h.blk).1
theorem SS.c0 {w:World} {d:Nat} {ao:Option Addr} {cap:Nat} {xs:List Int} {at_:Nat} {sd:Int} (h:SS w d ao cap xs at_ sd):w.cell? ⟨d,0,none⟩=some (.slice ao xs.length cap):=by simp [World.cell?,h.blk]
theorem SS.c1 {w:World} {d:Nat} {ao:Option Addr} {cap:Nat} {xs:List Int} {at_:Nat} {sd:Int} (h:SS w d ao cap xs at_ sd):w.cell? ⟨d,1,none⟩=some (.int .i64 at_):=by simp [World.cell?,h.blk]
theorem SS.c2 {w:World} {d:Nat} {ao:Option Addr} {cap:Nat} {xs:List Int} {at_:Nat} {sd:Int} (h:SS w d ao cap xs at_ sd):w.cell? ⟨d,2,none⟩=some (.int .i64 sd):=by simp [World.cell?,h.blk]
theorem SS.fz {w:World} {d:Nat} {ao:Option Addr} {cap:Nat} {xs:List Int} {at_:Nat} {sd:Int} (h:SS w d ao cap xs at_ sd) (i:Nat):w.frozen? ⟨d,i,none⟩=false:=by simp [World.frozen?,h.blk]
theorem SS.below {w w':World} {d:Nat} {ao:Option Addr} {cap:Nat} {xs:List Int} {at_:Nat} {sd:Int} (h:SS w d ao cap xs at_ sd) (hb:Below w.heap.size w w'):SS w' d ao cap xs at_ sd :=
 ⟨(hb.block d h.lt).trans h.blk,h.data.below hb (Nat.le_refl _),h.far,h.sd0,h.sd1⟩
theorem SS.set1 {w:World} {d:Nat} {ao:Option Addr} {cap:Nat} {xs:List Int} {at_:Nat} {sd:Int} (h:SS w d ao cap xs at_ sd) (n:Nat):SS (w.setCell ⟨d,1,none⟩ (.int .i64 n)) d ao cap xs n sd where
 blk:=by
  have:=heap_setCell_same w d 1 _ 66 (.int .i64 n) h.blk
  simpa using this
 data:=rd_setCell h.data (fun hp x hx=>h.far hp x hx) _
 far:=h.far
 sd0:=h.sd0
 sd1:=h.sd1
theorem SS.set2 {w:World} {d:Nat} {ao:Option Addr} {cap:Nat} {xs:List Int} {at_:Nat} {sd:Int} (h:SS w d ao cap xs at_ sd) (s:Int) (h0:0≤s) (h1:s<2147483648):SS (w.setCell ⟨d,2,none⟩ (.int .i64 s)) d ao cap xs at_ s where
 blk:=by
  have:=heap_setCell_same w d 2 _ 66 (.int .i64 s) h.blk
  simpa using this
 data:=rd_setCell h.data (fun hp x hx=>h.far hp x hx) _
 far:=h.far
 sd0:=h0
 sd1:=h1
def Kept (d:Nat) (w w':World):Prop:=w.grownBy w' (some d)
theorem Kept.refl (d:Nat) (w:World):Kept d w w:=World.grownBy.refl _ _
theorem Kept.trans {d:Nat} {a b c:World} (h:Kept d a b) (g:Kept d b c):Kept d a c:=grown_trans h g
theorem kept_set {w:World} {d:Nat} {cur:Array Value} (h:w.heap[d]?=some (.cells cur 66 (0,0))) (i:Nat) (u:Value):Kept d w (w.setCell ⟨d,i,none⟩ u):=⟨rfl,rfl,rfl,by simp,fun k _ hk=>heap_setCell_other w ⟨d,i,none⟩ k u (fun e=>hk (by simp [e]))⟩
theorem kept_drewN {w:World} {d:Nat} (hd:d≤w.heap.size) (m:Nat):Kept d w (w.drewN m):=⟨rfl,rfl,rfl,Nat.le_refl _,fun _ _ _=>rfl⟩
set_option maxRecDepth 20000 in
set_option maxHeartbeats 1000000 in
theorem byte_any (w:World) (d:Nat) (ao:Option Addr) (cap:Nat) (xs:List Int) (at_:Nat) (sd:Int) (h:SS w d ao cap xs at_ sd) (hat:at_≤1000000000000) :
  Calls Tryd.prog 45 #[.pointer (some ⟨d,0,none⟩)] w fun e w'=>∃ (r:Int) (sd':Int),e=.returned (.int .i64 r)∧0≤r∧r≤255∧SS w' d ao cap xs (at_+1) sd'∧Kept d w w':=by
 have HS:Hid (SS w d ao cap xs at_ sd):=h
 have hd:=h.lt
 have c0:=h.c0
 have c1:=h.c1
 have c2:=h.c2
 have f1:=h.fz 1
 have f2:=h.fz 2
 have s0:=h.sd0
 have s1:=h.sd1
 have HS1:Hid (SS (w.setCell ⟨d,1,none⟩ (.int .i64 ((at_:Int)+1))) d ao cap xs (at_+1) sd):=by
  have:=h.set1 (at_+1)
  rw [show (((at_+1:Nat):Nat):Int)=(at_:Int)+1 by omega] at this
  exact this
 have HK1:Hid (Kept d w (w.setCell ⟨d,1,none⟩ (.int .i64 ((at_:Int)+1)))):=kept_set h.blk 1 _
 have hdat:=h.data.1
 obtain ⟨ao',ca,e,ha1,ha2,hx,ha3⟩:=hdat
 obtain ⟨rfl,_,rfl⟩:ao'=ao∧True∧ca=cap:=by simp at e;exact ⟨e.1.symm,trivial,e.2.symm⟩
 clear e
 unfold maxLen at ha2
 have hfar:=h.far
 clear h
 by_cases hin:(at_:Int)+1≤xs.length
 ·obtain ⟨ab,aoff,rfl,hca⟩:=ha3 (by omega)
  have hc:=hca at_ (by omega)
  have hcb:=getD_bd hx at_
  have hne:ab≠d:=hfar (by omega) _ rfl
  clear hca ha3 hfar
  generalize xs.getD at_ 0=c at hc hcb
  have hc':(w.setCell ⟨d,1,none⟩ (.int .i64 ((at_:Int)+1))).cell? ⟨ab,aoff+at_,none⟩=some (.int .u8 c):=by
   rw [World.cell?_of_block (Below.heap_setCell w ⟨d,1,none⟩ (.int .i64 ((at_:Int)+1)) ab hne)]
   exact hc
  have k0:=HS1.out.c0
  have k1:=HS1.out.c1
  have k2:=HS1.out.c2
  have g2:=HS1.out.fz 2
  rw [show (((at_+1:Nat):Nat):Int)=(at_:Int)+1 by omega] at k1
  go_enter Tryd.func45,Tryd.ntmps45
  go_wp2
  go_quiet (fail)
  go_wp2
  have hw1:IntKind.i64.wrap (at_:Int)=at_:=by rw [IntKind.wrap_i64];omega
  have hw2:IntKind.i64.wrap (sd*31)=sd*31:=by rw [IntKind.wrap_i64];omega
  have hw3:IntKind.i64.wrap (sd*31+c)=sd*31+c:=by rw [IntKind.wrap_i64];omega
  have hw4:IntKind.i64.wrap (sd*31+c+7)=sd*31+c+7:=by rw [IntKind.wrap_i64];omega
  have hw5:IntKind.i64.wrap c=c:=by rw [IntKind.wrap_i64];omega
  have hlt:(at_:Int)<xs.length:=by omega
  have hlt0:(0:Int)≤at_:=by omega
  go_region_law (fail)
  all_goals
   go_wp2
   go_quiet (fail)
   go_wp2
   go_ret
   have ht:(sd*31+c+7).tmod 2147483648=(sd*31+c+7) % 2147483648:=Int.tmod_eq_emod_of_nonneg (by omega)
   refine ⟨c,(sd*31+c+7).tmod 2147483648,rfl,hcb.1,hcb.2,((HS1.out.below (below_same _ _)).set2 _ (by rw [ht];omega) (by rw [ht];omega)).below (below_same _ _),?_⟩
   exact ((HK1.out.trans (kept_drewN (by simp;omega) _)).trans (kept_set (HS1.out.below (below_same _ _)).blk 2 _)).trans (kept_drewN (by simp;omega) _)
 ·by_cases h3:(3000:Int)<(at_:Int)+1
  ·go_enter Tryd.func45,Tryd.ntmps45
   go_wp2
   go_quiet (fail)
   go_wp2
   go_ret
   exact ⟨0,sd,rfl,by omega,by omega,HS1.out.below (below_same _ _),HK1.out.trans (kept_drewN (by simp;omega) _)⟩
  ·go_enter Tryd.func45,Tryd.ntmps45
   go_wp2
   go_quiet (fail)
   go_wp2
   go_ret
   refine ⟨_,_,rfl,by omega,by omega,(HS1.out.below (below_same _ _)).set2 _ (by omega) (by omega),?_⟩
   exact (HK1.out.trans (kept_drewN (by simp;omega) _)).trans (kept_set (HS1.out.below (below_same _ _)).blk 2 _)
def NextOf (n:Int) (w:World) (d:Nat) (ao:Option Addr) (cap:Nat) (xs:List Int) (at_:Nat) (r:Int) (w':World):Prop :=
 ∃ (a:Nat) (sd':Int),0≤r∧(r<n∨(n≤1∧r=0))∧a≤at_+3∧SS w' d ao cap xs a sd'∧Kept d w w'
set_option maxHeartbeats 1000000 in
theorem next_any (w:World) (d:Nat) (ao:Option Addr) (cap:Nat) (xs:List Int) (at_:Nat) (sd:Int) (n:Int) (hn:n≤256) (h:SS w d ao cap xs at_ sd) (hat:at_≤1000000000000) :
  Calls Tryd.prog 29 #[.pointer (some ⟨d,0,none⟩),.int .i64 n] w fun e w'=>∃ r:Int,e=.returned (.int .i64 r)∧NextOf n w d ao cap xs at_ r w':=by
 have HS:Hid (SS w d ao cap xs at_ sd):=h
 clear h
 by_cases h1:n≤1
 ·go_enter Tryd.func29,Tryd.ntmps29
  go_wp2
  go_ret
  exact ⟨0,rfl,at_,sd,by omega,.inr ⟨h1,rfl⟩,by omega,HS.out,Kept.refl _ _⟩
 ·go_enter Tryd.func29,Tryd.ntmps29
  go_wp2_with fail
  refine (byte_any _ d ao cap xs at_ sd HS.out hat).mono ?_
  rintro e w1 ⟨r,sd1,rfl,r0,r1,S1,K1⟩
  have HF:Hid (SS w1 d ao cap xs (at_+1) sd1∧Kept d w w1):=⟨S1,K1⟩
  clear S1 K1
  go_wp2
  go_ret
  exact ⟨_,rfl,at_+1,sd1,Int.emod_nonneg _ (by omega),.inl (Int.emod_lt_of_pos _ (by omega)),by omega,HF.out.1,HF.out.2⟩
end Go.Proofs.YtfhimmnoipfiaaaDoor.src
namespace Go.Proofs.YtfhimmnoipfiaaaDoor.letters
open bytes pile src
theorem str_app (xs ys:List Int):strOfNums xs++strOfNums ys=strOfNums (xs++ys):=by
 unfold strOfNums
 apply ByteArray.ext
 simp
set_option maxHeartbeats 1000000 in
theorem source_any (w:World) (ao:Option Addr) (cap:Nat) (xs:List Int) (hl:xs.length≤1048576) (h:RdA w (.slice ao xs.length cap) xs) :
  Calls Tryd.prog 15 #[.slice ao xs.length cap] w fun e w'=>e=.returned (.pointer (some ⟨w.heap.size,0,none⟩))∧(∃ sd,SS w' w.heap.size ao cap xs 0 sd)∧Below w.heap.size w w':=by
 have HG:Hid (∀ s:Int,0≤s→s<2147483648→SS (w.alloc (.cells #[.slice ao xs.length cap,.int .i64 0,.int .i64 s] 66)) w.heap.size ao cap xs 0 s):=by
  refine hide (fun s h0 h1=>⟨heap_alloc_new w _,h.below ((Below.refl _ _).alloc (Nat.le_refl _) _) (Nat.le_refl _),fun hp x hx => ?_,h0,h1⟩)
  obtain ⟨ao',cap',e,_,_,_,hc⟩:=h.1
  simp only [Value.slice.injEq] at e
  obtain ⟨rfl,_,rfl⟩:=e
  obtain ⟨b,off,e2,hc⟩:=hc hp
  rw [hx] at e2
  simp only [Option.some.injEq] at e2
  subst e2
  have:=cell_lt (hc 0 hp)
  simp at this ⊢
  omega
 have HB:Hid (∀ s:Int,Below w.heap.size w (w.alloc (.cells #[.slice ao xs.length cap,.int .i64 0,.int .i64 s] 66))):=hide (fun s=>(Below.refl _ _).alloc (Nat.le_refl _) _)
 clear h
 go_enter Tryd.func15,Tryd.ntmps15
 go_wp2
 go_ret
 exact ⟨rfl,⟨_,HG.out _ (by omega) (by omega)⟩,HB.out _⟩
set_option maxHeartbeats 1000000 in
theorem pick_any (w:World) (d:Nat) (ao:Option Addr) (cap:Nat) (xs:List Int) (at_:Nat) (sd:Int) (h:SS w d ao cap xs at_ sd) (hat:at_≤1000000000) (b n:Nat) (ss:List ByteArray) (hn:ss.length=n) (h1:2≤n) (h2:n≤256) (hbd:b≠d) (hb:b<w.heap.size)
  (hc:∀ i,i<n→w.cell? ⟨b,i,none⟩=some (.string (ss.getD i ⟨#[]⟩))) :
  Calls Tryd.prog 30 #[.pointer (some ⟨d,0,none⟩),.slice (some ⟨b,0,none⟩) n n] w fun e w'=>∃ (i a:Nat) (sd':Int),i<n∧e=.returned (.string (ss.getD i ⟨#[]⟩))∧a≤at_+3∧SS w' d ao cap xs a sd'∧Kept d w w':=by
 have HN:=hide (next_any w d ao cap xs at_ sd n (by omega) h (by omega))
 have HC:=hide hc
 clear h hc
 go_enter Tryd.func30,Tryd.ntmps30
 go_wp2_with fail
 refine HN.out.mono ?_
 rintro e w1 ⟨r,rfl,a,sd',r0,r1,ha,S1,K1⟩
 obtain ⟨i,rfl⟩:∃ i:Nat,r=(i:Int):=⟨r.toNat,by omega⟩
 have hi:i<n:=by omega
 have ci:w1.cell? ⟨b,i,none⟩=some (.string (ss.getD i ⟨#[]⟩)):=(World.cell?_of_block (K1.block b hb (by simp;exact hbd))).trans (HC.out i hi)
 have HF:Hid (SS w1 d ao cap xs a sd'∧Kept d w w1):=hide ⟨S1,K1⟩
 obtain ⟨S,hS⟩:∃ S,S=ss.getD i ⟨#[]⟩:=⟨_,rfl⟩
 rw [←hS] at ci
 have HS:=hide hS
 clear S1 K1 HN HC r0 r1 hS
 go_wp2
 go_ret
 exact ⟨i,a,sd',hi,by rw [←HS.out];rfl,ha,HF.out.1,HF.out.2⟩
def letterS:List ByteArray:=[⟨#[97]⟩,⟨#[98]⟩,⟨#[99]⟩,⟨#[49]⟩,⟨#[120]⟩]
def Letter (c:Int):Prop:=c=97∨c=98∨c=99∨c=49∨c=120
theorem letter_of (i:Nat) (h:i<5):∃ c,Letter c∧letterS.getD i ⟨#[]⟩=strOfNums [c]:=by
 rcases (show i=0∨i=1∨i=2∨i=3∨i=4 by omega) with rfl | rfl | rfl | rfl | rfl
 ·exact ⟨97,by simp [Letter],rfl⟩
 ·exact ⟨98,by simp [Letter],rfl⟩
 ·exact ⟨99,by simp [Letter],rfl⟩
 ·exact ⟨49,by simp [Letter],rfl⟩
 ·exact ⟨120,by simp [Letter],rfl⟩
def wordS:List ByteArray:=[⟨#[97]⟩,⟨#[98]⟩,⟨#[97]⟩,⟨#[98]⟩,⟨#[99]⟩,⟨#[120]⟩,⟨#[32]⟩,⟨#[49]⟩,⟨#[95]⟩,⟨#[46]⟩]
def WordB (c:Int):Prop:=0≤c∧c≤255
theorem word_of (i:Nat) (h:i<10):∃ c,WordB c∧wordS.getD i ⟨#[]⟩=strOfNums [c]:=by
 rcases (show i=0∨i=1∨i=2∨i=3∨i=4∨i=5∨i=6∨i=7∨i=8∨i=9 by omega) with rfl | rfl | rfl | rfl | rfl | rfl | rfl | rfl | rfl | rfl
 ·exact ⟨97,by simp [WordB],rfl⟩
 ·exact ⟨98,by simp [WordB],rfl⟩
 ·exact ⟨97,by simp [WordB],rfl⟩
 ·exact ⟨98,by simp [WordB],rfl⟩
 ·exact ⟨99,by simp [WordB],rfl⟩
 ·exact ⟨120,by simp [WordB],rfl⟩
 ·exact ⟨32,by simp [WordB],rfl⟩
 ·exact ⟨49,by simp [WordB],rfl⟩
 ·exact ⟨95,by simp [WordB],rfl⟩
 ·exact ⟨46,by simp [WordB],rfl⟩
theorem kept_below {d:Nat} {a w w':World} (h:Below d a w) (k:Kept d w w') (hd:d≤w.heap.size):Below d a w':=h.grown k hd (fun j hj=>by simp at hj;omega)
theorem pick_new (P:Int→Prop) (ss:List ByteArray) (cs:Array Value) (hcs:cs.toList=ss.map Value.string) (n:Nat) (hn:ss.length=n) (h1:2≤n) (h2:n≤256) (hP:∀ i,i<n→∃ c,P c∧ss.getD i ⟨#[]⟩=strOfNums [c])
  (w:World) (d:Nat) (ao:Option Addr) (cap:Nat) (xs:List Int) (at_:Nat) (sd:Int) (h:SS w d ao cap xs at_ sd) (hat:at_≤1000000000) :
  Calls Tryd.prog 30 #[.pointer (some ⟨d,0,none⟩),.slice (some ⟨w.heap.size,0,none⟩) n n] (w.alloc (.cells cs 9)) fun e w'=>∃ (c:Int) (a:Nat) (sd':Int),P c∧e=.returned (.string (strOfNums [c]))∧a≤at_+3∧SS w' d ao cap xs a sd'∧Below d w w':=by
 have hd:=h.lt
 have hA:Below w.heap.size w (w.alloc (.cells cs 9)):=(Below.refl _ _).alloc (Nat.le_refl _) _
 refine (pick_any (w.alloc (.cells cs 9)) d ao cap xs at_ sd (h.below hA) hat w.heap.size n ss hn h1 h2 (by omega) (by simp) (fun i hi => ?_)).mono ?_
 ·have hb:(w.alloc (.cells cs 9)).heap[w.heap.size]?=some (.cells cs 9 (0,0)):=heap_alloc_new w _
  simp only [World.cell?,hb]
  have e:cs[i]?=some (.string (ss.getD i ⟨#[]⟩)):=by
   rw [←Array.getElem?_toList,hcs,List.getElem?_map,List.getD_eq_getElem?_getD,List.getElem?_eq_getElem (by omega:i<ss.length)]
   rfl
  simpa using e
 ·rintro e w' ⟨i,a,sd',hi,rfl,ha,S1,K1⟩
  obtain ⟨c,hc,e⟩:=hP i hi
  exact ⟨c,a,sd',hc,by rw [e],ha,S1,kept_below (hA.mono (by omega)) K1 (by simp;omega)⟩
set_option maxHeartbeats 2000000 in
theorem words_any (w:World) (d:Nat) (ao:Option Addr) (cap:Nat) (xs:List Int) (sd:Int) (h:SS w d ao cap xs 0 sd) :
  Calls Tryd.prog 17 #[.pointer (some ⟨d,0,none⟩),.int .i64 14] w fun e w'=>∃ ys:List Int,e=.returned (.string (strOfNums ys))∧ys.length≤14∧(∀ y∈ys,WordB y)∧Below d w w':=by
 have HN:=hide (next_any w d ao cap xs 0 sd 15 (by omega) h (by omega))
 have hdw:=h.lt
 clear h
 go_enter Tryd.func17,Tryd.ntmps17
 go_wp2_with fail
 refine HN.out.mono ?_
 rintro e w2 ⟨r,rfl,a,sd',r0,r1,ha,S2,K2⟩
 obtain ⟨i,rfl⟩:∃ i:Nat,r=(i:Int):=⟨r.toNat,by omega⟩
 have hi:i<15:=by omega
 have HR0:Hid (SS w2 d ao cap xs a sd'∧Below d w w2):=hide ⟨S2,kept_below (Below.refl _ _) K2 (by omega)⟩
 clear HN S2 K2 r0 r1
 go_wp2
 go_loopw [5,6] (fun tv iv wr=>∃ (j a:Nat) (sd:Int) (ys:List Int),j≤14∧iv=.int .i64 j∧tv=.string (strOfNums ys)∧Hid (ys.length+j≤14∧(∀ y∈ys,WordB y)∧a+3*j≤100∧SS wr d ao cap xs a sd∧Below d w wr)) (fun _ iv _=>(intOf iv).toNat)
 case atStart=>exact ⟨i,a,sd',[],by omega,rfl,rfl,hide ⟨by simp <;> omega,by simp,by omega,HR0.out.1,HR0.out.2⟩⟩
 case round =>
  obtain ⟨j,a,sd,ys,hj,rfl,rfl,HR⟩:=hrel
  clear HR0
  by_cases h0:0<j
  ·have HPk:=hide (pick_new WordB wordS #[.string ⟨#[97]⟩,.string ⟨#[98]⟩,.string ⟨#[97]⟩,.string ⟨#[98]⟩,.string ⟨#[99]⟩,.string ⟨#[120]⟩,.string ⟨#[32]⟩,.string ⟨#[49]⟩,.string ⟨#[95]⟩,.string ⟨#[46]⟩] rfl 10 rfl (by decide) (by decide) word_of wr d ao cap xs a sd HR.out.2.2.2.1 (by have:=HR.out.2.2.1;omega))
   go_wp2_with fail
   refine HPk.out.mono ?_
   rintro e w3 ⟨c,a3,sd3,hc,rfl,ha3,S3,B3⟩
   have HR3:Hid ((ys++[c]).length+(j-1)≤14∧(∀ y∈ys++[c],WordB y)∧a3+3*(j-1)≤100∧SS w3 d ao cap xs a3 sd3∧Below d w w3):=by
    have h1:=HR.out
    refine hide ⟨by simp;omega,fun y hy => ?_,by omega,S3,h1.2.2.2.2.trans B3⟩
    rcases List.mem_append.1 hy with hy | hy
    ·exact h1.2.1 y hy
    ·simp at hy
     rw [hy]
     exact hc
   have HA:=hide (str_app ys [c])
   have hs1:(strOfNums ys).size≤14:=by rw [strOfNums_size];have:=HR.out.1;omega
   have hs2:(strOfNums [c]).size=1:=by rw [strOfNums_size];rfl
   clear HPk S3 B3 HR hc
   go_wp2
   go_roundw
   case rel=>exact ⟨j-1,a3,sd3,ys++[c],by omega,by congr 1;omega,by rw [←HA.out],HR3⟩
   case measure=>simp [intOf];omega
  ·obtain rfl:j=0:=by omega
   go_wp2
   go_ret
   exact ⟨ys,rfl,by have:=HR.out.1;omega,HR.out.2.1,HR.out.2.2.2.2⟩
set_option maxHeartbeats 1000000 in
theorem wordsOf_any (w:World) (ao:Option Addr) (cap:Nat) (xs:List Int) (hl:xs.length≤1048576) (h:RdA w (.slice ao xs.length cap) xs) :
  Calls Tryd.prog 6 #[.slice ao xs.length cap] w fun e w'=>∃ ys:List Int,e=.returned (.string (strOfNums ys))∧ys.length≤14∧(∀ y∈ys,WordB y)∧Below w.heap.size w w':=by
 have HS:=hide (source_any w ao cap xs hl h)
 clear h
 go_enter Tryd.func6,Tryd.ntmps6
 go_wp2_with fail
 refine HS.out.mono ?_
 rintro e w1 ⟨rfl,⟨sd,S1⟩,B1⟩
 have HW:=hide (words_any w1 w.heap.size ao cap xs sd S1)
 have HB1:=hide B1
 clear HS S1 B1
 go_wp2_with fail
 refine HW.out.mono ?_
 rintro e w2 ⟨ys,rfl,h1,h2,B2⟩
 have HF:=hide (And.intro h2 (HB1.out.trans B2))
 clear HW h2 B2 HB1
 go_wp2
 go_ret
 exact ⟨ys,rfl,h1,HF.out.1,HF.out.2⟩
end Go.Proofs.YtfhimmnoipfiaaaDoor.letters
namespace Go.Proofs.YtfhimmnoipfiaaaDoor.eng
open bytes places sets tz rex
mutual
theorem OkT.tight {N':Nat}:∀ (T:Tr) (g:Nat),NumT g T→OkT 20 T→2*(g+ngT T)+2≤N'→OkT N' T
 | .char b,g,h,k,l=>by rw [OkT] at k ⊢;exact k
 | .any,g,h,k,l=>by rw [OkT];trivial
 | .set s,g,h,k,l=>by rw [OkT] at k ⊢;exact k
 | .beg,g,h,k,l=>by rw [OkT];trivial
 | .fin,g,h,k,l=>by rw [OkT];trivial
 | .group n t,g,h,k,l=>by
  rw [NumT] at h
  rw [OkT] at k ⊢
  rw [ngT] at l
  exact ⟨k.1,by omega,k.2.2.1,OkT.tight t (g+1) h.2 k.2.2.2 (by omega)⟩
 | .cat ks,g,h,k,l=>by
  rw [NumT] at h
  rw [OkT] at k ⊢
  rw [ngT] at l
  exact ⟨k.1,OkK.tight ks g h k.2 l⟩
 | .alt ks,g,h,k,l=>by
  rw [NumT] at h
  rw [OkT] at k ⊢
  rw [ngT] at l
  exact ⟨k.1,k.2.1,OkK.tight ks g h k.2.2 l⟩
 | .rep n m t,g,h,k,l=>by
  rw [NumT] at h
  rw [OkT] at k ⊢
  rw [ngT] at l
  exact ⟨k.1,k.2.1,OkT.tight t g h k.2.2 l⟩
theorem OkK.tight {N':Nat}:∀ (ks:List Tr) (g:Nat),NumK g ks→OkK 20 ks→2*(g+ngK ks)+2≤N'→OkK N' ks
 | [],g,h,k,l=>by rw [OkK];trivial
 | t::ks,g,h,k,l=>by
  rw [NumK] at h
  rw [OkK] at k ⊢
  rw [ngK] at l
  exact ⟨OkT.tight t g h.1 k.1 (by omega),OkK.tight ks (g+ngT t) h.2 k.2 (by omega)⟩
end
theorem str_bytes (S:ByteArray):∃ ts:List Int,strOfNums ts=S∧ts.length=S.size∧∀ t∈ts,0≤t∧t≤255:=by
 have h:strOfNums (S.data.toList.map fun b=>(b.toNat:Int))=S:=by
  apply ByteArray.ext
  have e:((fun n:Int=>UInt8.ofNat n.toNat) ∘ fun b:UInt8=>(b.toNat:Int))=id:=by
   funext b
   simp
  simp [strOfNums,e]
 refine ⟨_,h,by simp [←ByteArray.size_data],fun t ht => ?_⟩
 obtain ⟨b,_,rfl⟩:=List.mem_map.1 ht
 have:=b.toNat_lt
 omega
end Go.Proofs.YtfhimmnoipfiaaaDoor.eng
