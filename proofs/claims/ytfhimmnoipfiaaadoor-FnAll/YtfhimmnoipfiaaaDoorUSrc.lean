import Derived.Test.YtfhimmnoipfiaaaDoorUPile
import Derived.Deep.RegionLaw
namespace Go.Proofs.YtfhimmnoipfiaaaDoor.src
open Go.ChangeShapes Go.WideShapes Go.ChangeAt Go.RowKit
open bytes pile
set_option linter.unusedVariables false
theorem below_same (w:World) (n:Nat):Below w.heap.size w (w.drewN n):=⟨rfl,rfl,rfl,Nat.le_refl _,fun _ _=>rfl⟩
theorem rd_setCell {w:World} {ao:Option Addr} {n cap:Nat} {xs:List Int} (h:RdA w (.slice ao n cap) xs) {a:Addr} (ha:0<xs.length→∀ x,ao=some x→x.block≠a.block) (u:Value):RdA (w.setCell a u) (.slice ao n cap) xs:=by
 obtain ⟨⟨ao',cap',e,h1,h2,h3,h4⟩,hnil⟩:=h
 simp only [Value.slice.injEq] at e
 obtain ⟨rfl,rfl,rfl⟩:=e
 refine ⟨⟨ao,cap,rfl,h1,h2,h3,fun hp => ?_⟩,hnil⟩
 obtain ⟨b,off,rfl,hc⟩:=h4 hp
 refine ⟨b,off,rfl,fun i hi => ?_⟩
 rw [World.cell?_of_block (Below.heap_setCell w a u b (ha hp _ rfl))]
 exact hc i hi
structure SS (w:World) (d:Nat) (ao:Option Addr) (cap:Nat) (xs:List Int) (at_:Nat) (sd:Int):Prop where
 blk:w.heap[d]?=some (.cells #[.slice ao xs.length cap,.int .i64 at_,.int .i64 sd] 66 (0,0))
 data:RdA w (.slice ao xs.length cap) xs
 far:0<xs.length→∀ x,ao=some x→x.block≠d
 sd0:0≤sd
 sd1:sd<2147483648
theorem SS.lt {w:World} {d:Nat} {ao:Option Addr} {cap:Nat} {xs:List Int} {at_:Nat} {sd:Int} (h:SS w d ao cap xs at_ sd):d<w.heap.size:=(Array.getElem?_eq_some_iff.1 h.blk).1
theorem SS.c0 {w:World} {d:Nat} {ao:Option Addr} {cap:Nat} {xs:List Int} {at_:Nat} {sd:Int} (h:SS w d ao cap xs at_ sd):w.cell? ⟨d,0,none⟩=some (.slice ao xs.length cap):=by simp [World.cell?,h.blk]
theorem SS.c1 {w:World} {d:Nat} {ao:Option Addr} {cap:Nat} {xs:List Int} {at_:Nat} {sd:Int} (h:SS w d ao cap xs at_ sd):w.cell? ⟨d,1,none⟩=some (.int .i64 at_):=by simp [World.cell?,h.blk]
theorem SS.c2 {w:World} {d:Nat} {ao:Option Addr} {cap:Nat} {xs:List Int} {at_:Nat} {sd:Int} (h:SS w d ao cap xs at_ sd):w.cell? ⟨d,2,none⟩=some (.int .i64 sd):=by simp [World.cell?,h.blk]
theorem SS.fz {w:World} {d:Nat} {ao:Option Addr} {cap:Nat} {xs:List Int} {at_:Nat} {sd:Int} (h:SS w d ao cap xs at_ sd) (i:Nat):w.frozen? ⟨d,i,none⟩=false:=by simp [World.frozen?,h.blk]
theorem SS.below {w w':World} {d:Nat} {ao:Option Addr} {cap:Nat} {xs:List Int} {at_:Nat} {sd:Int} (h:SS w d ao cap xs at_ sd) (hb:Below w.heap.size w w'):SS w' d ao cap xs at_ sd :=
 ⟨(hb.block d h.lt).trans h.blk,h.data.below hb (Nat.le_refl _),h.far,h.sd0,h.sd1⟩
theorem SS.set1 {w:World} {d:Nat} {ao:Option Addr} {cap:Nat} {xs:List Int} {at_:Nat} {sd:Int} (h:SS w d ao cap xs at_ sd) (n:Nat):SS (w.setCell ⟨d,1,none⟩ (.int .i64 n)) d ao cap xs n sd where
 blk:=by
  have:=heap_setCell_same w d 1 _ 66 (.int .i64 n) h.blk
  simpa using this
 data:=rd_setCell h.data (fun hp x hx=>h.far hp x hx) _
 far:=h.far
 sd0:=h.sd0
 sd1:=h.sd1
theorem SS.set2 {w:World} {d:Nat} {ao:Option Addr} {cap:Nat} {xs:List Int} {at_:Nat} {sd:Int} (h:SS w d ao cap xs at_ sd) (s:Int) (h0:0≤s) (h1:s<2147483648):SS (w.setCell ⟨d,2,none⟩ (.int .i64 s)) d ao cap xs at_ s where
 blk:=by
  have:=heap_setCell_same w d 2 _ 66 (.int .i64 s) h.blk
  simpa using this
 data:=rd_setCell h.data (fun hp x hx=>h.far hp x hx) _
 far:=h.far
 sd0:=h0
 sd1:=h1
def Kept (d:Nat) (w w':World):Prop:=w.grownBy w' (some d)
theorem Kept.refl (d:Nat) (w:World):Kept d w w:=World.grownBy.refl _ _
theorem Kept.trans {d:Nat} {a b c:World} (h:Kept d a b) (g:Kept d b c):Kept d a c:=grown_trans h g
theorem kept_set {w:World} {d:Nat} {cur:Array Value} (h:w.heap[d]?=some (.cells cur 66 (0,0))) (i:Nat) (u:Value):Kept d w (w.setCell ⟨d,i,none⟩ u):=⟨rfl,rfl,rfl,by simp,fun k _ hk=>heap_setCell_other w ⟨d,i,none⟩ k u (fun e=>hk (by simp [e]))⟩
theorem kept_drewN {w:World} {d:Nat} (hd:d≤w.heap.size) (m:Nat):Kept d w (w.drewN m):=⟨rfl,rfl,rfl,Nat.le_refl _,fun _ _ _=>rfl⟩
set_option maxRecDepth 20000 in
set_option maxHeartbeats 1000000 in
theorem byte_any (w:World) (d:Nat) (ao:Option Addr) (cap:Nat) (xs:List Int) (at_:Nat) (sd:Int) (h:SS w d ao cap xs at_ sd) (hat:at_≤1000000000000) :
  Calls Tryd.prog 45 #[.pointer (some ⟨d,0,none⟩)] w fun e w'=>∃ (r:Int) (sd':Int),e=.returned (.int .i64 r)∧0≤r∧r≤255∧SS w' d ao cap xs (at_+1) sd'∧Kept d w w':=by
 have HS:Hid (SS w d ao cap xs at_ sd):=h
 have hd:=h.lt
 have c0:=h.c0
 have c1:=h.c1
 have c2:=h.c2
 have f1:=h.fz 1
 have f2:=h.fz 2
 have s0:=h.sd0
 have s1:=h.sd1
 have HS1:Hid (SS (w.setCell ⟨d,1,none⟩ (.int .i64 ((at_:Int)+1))) d ao cap xs (at_+1) sd):=by
  have:=h.set1 (at_+1)
  rw [show (((at_+1:Nat):Nat):Int)=(at_:Int)+1 by omega] at this
  exact this
 have HK1:Hid (Kept d w (w.setCell ⟨d,1,none⟩ (.int .i64 ((at_:Int)+1)))):=kept_set h.blk 1 _
 have hdat:=h.data.1
 obtain ⟨ao',ca,e,ha1,ha2,hx,ha3⟩:=hdat
 obtain ⟨rfl,_,rfl⟩:ao'=ao∧True∧ca=cap:=by simp at e;exact ⟨e.1.symm,trivial,e.2.symm⟩
 clear e
 unfold maxLen at ha2
 have hfar:=h.far
 clear h
 by_cases hin:(at_:Int)+1≤xs.length
 ·obtain ⟨ab,aoff,rfl,hca⟩:=ha3 (by omega)
  have hc:=hca at_ (by omega)
  have hcb:=getD_bd hx at_
  have hne:ab≠d:=hfar (by omega) _ rfl
  clear hca ha3 hfar
  generalize xs.getD at_ 0=c at hc hcb
  have hc':(w.setCell ⟨d,1,none⟩ (.int .i64 ((at_:Int)+1))).cell? ⟨ab,aoff+at_,none⟩=some (.int .u8 c):=by
   rw [World.cell?_of_block (Below.heap_setCell w ⟨d,1,none⟩ (.int .i64 ((at_:Int)+1)) ab hne)]
   exact hc
  have k0:=HS1.out.c0
  have k1:=HS1.out.c1
  have k2:=HS1.out.c2
  have g2:=HS1.out.fz 2
  rw [show (((at_+1:Nat):Nat):Int)=(at_:Int)+1 by omega] at k1
  go_enter Tryd.func45,Tryd.ntmps45
  go_wp2
  go_quiet (fail)
  go_wp2
  have hw1:IntKind.i64.wrap (at_:Int)=at_:=by rw [IntKind.wrap_i64];omega
  have hw2:IntKind.i64.wrap (sd*31)=sd*31:=by rw [IntKind.wrap_i64];omega
  have hw3:IntKind.i64.wrap (sd*31+c)=sd*31+c:=by rw [IntKind.wrap_i64];omega
  have hw4:IntKind.i64.wrap (sd*31+c+7)=sd*31+c+7:=by rw [IntKind.wrap_i64];omega
  have hw5:IntKind.i64.wrap c=c:=by rw [IntKind.wrap_i64];omega
  have hlt:(at_:Int)<xs.length:=by omega
  have hlt0:(0:Int)≤at_:=by omega
  go_region_law (fail)
  all_goals
   go_wp2
   go_quiet (fail)
   go_wp2
   go_ret
   have ht:(sd*31+c+7).tmod 2147483648=(sd*31+c+7) % 2147483648:=Int.tmod_eq_emod_of_nonneg (by omega)
   refine ⟨c,(sd*31+c+7).tmod 2147483648,rfl,hcb.1,hcb.2,((HS1.out.below (below_same _ _)).set2 _ (by rw [ht];omega) (by rw [ht];omega)).below (below_same _ _),?_⟩
   exact ((HK1.out.trans (kept_drewN (by simp;omega) _)).trans (kept_set (HS1.out.below (below_same _ _)).blk 2 _)).trans (kept_drewN (by simp;omega) _)
 ·by_cases h3:(3000:Int)<(at_:Int)+1
  ·go_enter Tryd.func45,Tryd.ntmps45
   go_wp2
   go_quiet (fail)
   go_wp2
   go_ret
   exact ⟨0,sd,rfl,by omega,by omega,HS1.out.below (below_same _ _),HK1.out.trans (kept_drewN (by simp;omega) _)⟩
  ·go_enter Tryd.func45,Tryd.ntmps45
   go_wp2
   go_quiet (fail)
   go_wp2
   go_ret
   refine ⟨_,_,rfl,by omega,by omega,(HS1.out.below (below_same _ _)).set2 _ (by omega) (by omega),?_⟩
   exact (HK1.out.trans (kept_drewN (by simp;omega) _)).trans (kept_set (HS1.out.below (below_same _ _)).blk 2 _)
def NextOf (n:Int) (w:World) (d:Nat) (ao:Option Addr) (cap:Nat) (xs:List Int) (at_:Nat) (r:Int) (w':World):Prop :=
 ∃ (a:Nat) (sd':Int),0≤r∧(r<n∨(n≤1∧r=0))∧a≤at_+3∧SS w' d ao cap xs a sd'∧Kept d w w'
set_option maxHeartbeats 1000000 in
theorem next_any (w:World) (d:Nat) (ao:Option Addr) (cap:Nat) (xs:List Int) (at_:Nat) (sd:Int) (n:Int) (hn:n≤256) (h:SS w d ao cap xs at_ sd) (hat:at_≤1000000000000) :
  Calls Tryd.prog 29 #[.pointer (some ⟨d,0,none⟩),.int .i64 n] w fun e w'=>∃ r:Int,e=.returned (.int .i64 r)∧NextOf n w d ao cap xs at_ r w':=by
 have HS:Hid (SS w d ao cap xs at_ sd):=h
 clear h
 by_cases h1:n≤1
 ·go_enter Tryd.func29,Tryd.ntmps29
  go_wp2
  go_ret
  exact ⟨0,rfl,at_,sd,by omega,.inr ⟨h1,rfl⟩,by omega,HS.out,Kept.refl _ _⟩
 ·go_enter Tryd.func29,Tryd.ntmps29
  go_wp2_with fail
  refine (byte_any _ d ao cap xs at_ sd HS.out hat).mono ?_
  rintro e w1 ⟨r,sd1,rfl,r0,r1,S1,K1⟩
  have HF:Hid (SS w1 d ao cap xs (at_+1) sd1∧Kept d w w1):=⟨S1,K1⟩
  clear S1 K1
  go_wp2
  go_ret
  exact ⟨_,rfl,at_+1,sd1,Int.emod_nonneg _ (by omega),.inl (Int.emod_lt_of_pos _ (by omega)),by omega,HF.out.1,HF.out.2⟩
end Go.Proofs.YtfhimmnoipfiaaaDoor.src
