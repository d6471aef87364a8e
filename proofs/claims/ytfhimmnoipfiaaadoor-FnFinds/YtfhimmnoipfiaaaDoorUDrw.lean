import Derived.Test.YtfhimmnoipfiaaaDoorULetters
namespace Go.Proofs.YtfhimmnoipfiaaaDoor.drw
open Go.ChangeShapes Go.WideShapes Go.ChangeAt Go.RowKit
open bytes pile src letters
set_option linter.unusedVariables false
theorem kept_of_below {w w':World} {d:Nat} (h:Below w.heap.size w w'):Kept d w w':=⟨h.os,h.tape,h.output,h.size,fun k hk _=>h.block k hk⟩
structure Dw (w:World) (d:Nat) (ao:Option Addr) (cap:Nat) (xs:List Int) (n:Nat) (w':World):Prop where
 ss:∃ (a:Nat) (sd:Int),a≤n∧SS w' d ao cap xs a sd
 bel:Kept d w w'
section
variable {w w' w'':World} {d:Nat} {ao:Option Addr} {cap:Nat} {xs:List Int} {n n':Nat}
theorem Dw.tr (h:Dw w d ao cap xs n w') (k:Dw w' d ao cap xs n' w''):Dw w d ao cap xs n' w'':=⟨k.ss,h.bel.trans k.bel⟩
theorem Dw.up (h:Dw w d ao cap xs n w') (hn:n≤n'):Dw w d ao cap xs n' w':=by
 obtain ⟨a,sd,h1,h2⟩:=h.ss
 exact ⟨⟨a,sd,by omega,h2⟩,h.bel⟩
theorem Dw.lt (h:Dw w d ao cap xs n w'):d<w'.heap.size:=by
 obtain ⟨a,sd,h1,h2⟩:=h.ss
 exact h2.lt
theorem Dw.refl {at_:Nat} {sd:Int} (h:SS w d ao cap xs at_ sd) (hn:at_≤n):Dw w d ao cap xs n w:=⟨⟨at_,sd,hn,h⟩,Kept.refl _ _⟩
theorem Dw.below (h:Dw w d ao cap xs n w') (hb:Below w'.heap.size w' w''):Dw w d ao cap xs n w'':=by
 obtain ⟨a,sd,h1,h2⟩:=h.ss
 exact ⟨⟨a,sd,h1,h2.below hb⟩,h.bel.trans (kept_of_below hb)⟩
end
set_option maxHeartbeats 2000000 in
theorem next_dw {w0 w:World} {d:Nat} {ao:Option Addr} {cap:Nat} {xs:List Int} {m:Nat} (h:Dw w0 d ao cap xs m w) (hm:m≤100000000) (n:Int) (hn:n≤100000) :
  Calls Tryd.prog 29 #[.pointer (some ⟨d,0,none⟩),.int .i64 n] w fun e w'=>∃ r:Int,e=.returned (.int .i64 r)∧0≤r∧(r<n∨(n≤1∧r=0))∧Dw w0 d ao cap xs (m+3) w':=by
 obtain ⟨at_,sd,ha,hs⟩:=h.ss
 by_cases h256:n≤256
 ·refine (next_any w d ao cap xs at_ sd n h256 hs (by omega)).mono ?_
  rintro e w' ⟨r,rfl,a,sd',r0,r1,k1,k2,k3⟩
  exact ⟨r,rfl,r0,r1,⟨a,sd',by omega,k2⟩,h.bel.trans k3⟩
 ·have h1:¬ n≤1:=by omega
  have HB:=hide h.bel
  have HS:=hide hs
  clear h hs
  go_enter Tryd.func29,Tryd.ntmps29
  go_wp2_with fail
  refine (byte_any _ d ao cap xs at_ sd HS.out (by omega)).mono ?_
  rintro e w1 ⟨a,sd1,rfl,a0,a1,S1,K1⟩
  have HS1:Hid (SS w1 d ao cap xs (at_+1) sd1∧Kept d w0 w1):=hide ⟨S1,HB.out.trans K1⟩
  clear S1 K1 HS HB
  go_wp2_with fail
  refine (byte_any _ d ao cap xs (at_+1) sd1 HS1.out.1 (by omega)).mono ?_
  rintro e w2 ⟨b,sd2,rfl,b0,b1,S2,K2⟩
  have HS2:Hid (SS w2 d ao cap xs (at_+1+1) sd2∧Kept d w0 w2):=hide ⟨S2,HS1.out.2.trans K2⟩
  clear S2 K2 HS1
  go_wp2_with fail
  refine (byte_any _ d ao cap xs (at_+1+1) sd2 HS2.out.1 (by omega)).mono ?_
  rintro e w3 ⟨c,sd3,rfl,c0,c1,S3,K3⟩
  have HS3:Hid (Dw w0 d ao cap xs (m+3) w3):=hide ⟨⟨_,sd3,by omega,S3⟩,HS2.out.2.trans K3⟩
  clear S3 K3 HS2
  have hw1:IntKind.i64.wrap (a*65536)=a*65536:=by rw [IntKind.wrap_i64];omega
  have hw2:IntKind.i64.wrap (b*256)=b*256:=by rw [IntKind.wrap_i64];omega
  have hw3:IntKind.i64.wrap (a*65536+b*256)=a*65536+b*256:=by rw [IntKind.wrap_i64];omega
  have hw4:IntKind.i64.wrap (a*65536+b*256+c)=a*65536+b*256+c:=by rw [IntKind.wrap_i64];omega
  go_wp2
  go_ret
  exact ⟨_,rfl,Int.emod_nonneg _ (by omega),.inl (Int.emod_lt_of_pos _ (by omega)),HS3.out⟩
theorem pick_dw (ss:List ByteArray) (cs:Array Value) (hcs:cs.toList=ss.map Value.string) (n:Nat) (hn:ss.length=n) (h1:2≤n) (h2:n≤256) (hP:∀ s∈ss,s.size≤60)
  {w0 w:World} {d:Nat} {ao:Option Addr} {cap:Nat} {xs:List Int} {m:Nat} (h:Dw w0 d ao cap xs m w) (hm:m≤100000000) :
  Calls Tryd.prog 30 #[.pointer (some ⟨d,0,none⟩),.slice (some ⟨w.heap.size,0,none⟩) n n] (w.alloc (.cells cs 9)) fun e w'=>∃ S:ByteArray,S.size≤60∧e=.returned (.string S)∧Dw w0 d ao cap xs (m+3) w':=by
 obtain ⟨at_,sd,ha,hs⟩:=h.ss
 have hd:=hs.lt
 have hA:Below w.heap.size w (w.alloc (.cells cs 9)):=(Below.refl _ _).alloc (Nat.le_refl _) _
 refine (pick_any (w.alloc (.cells cs 9)) d ao cap xs at_ sd (hs.below hA) (by omega) w.heap.size n ss hn h1 h2 (by omega) (by simp) (fun i hi => ?_)).mono ?_
 ·have hb:(w.alloc (.cells cs 9)).heap[w.heap.size]?=some (.cells cs 9 (0,0)):=heap_alloc_new w _
  simp only [World.cell?,hb]
  have e:cs[i]?=some (.string (ss.getD i ⟨#[]⟩)):=by
   rw [←Array.getElem?_toList,hcs,List.getElem?_map,List.getD_eq_getElem?_getD,List.getElem?_eq_getElem (by omega:i<ss.length)]
   rfl
  simpa using e
 ·rintro e w' ⟨i,a,sd',hi,rfl,k1,k2,k3⟩
  refine ⟨_,?_,rfl,⟨a,sd',by omega,k2⟩,(h.bel.trans (kept_of_below hA)).trans k3⟩
  rw [List.getD_eq_getElem?_getD,List.getElem?_eq_getElem (by omega:i<ss.length)]
  exact hP _ (List.getElem_mem _)
set_option maxHeartbeats 1000000 in
theorem chance_dw {w0 w:World} {d:Nat} {ao:Option Addr} {cap:Nat} {xs:List Int} {m:Nat} (h:Dw w0 d ao cap xs m w) (hm:m≤100000000) (n:Nat) (hn:2≤n) (hn2:n≤100) :
  Calls Tryd.prog 25 #[.pointer (some ⟨d,0,none⟩),.int .i64 (n:Int)] w fun e w'=>∃ r:Bool,e=.returned (.bool r)∧Dw w0 d ao cap xs (m+3) w':=by
 have HN:=hide (next_dw h hm (n:Int) (by omega))
 have hw:IntKind.i64.wrap ((n:Int)-1)=(n:Int)-1:=by rw [IntKind.wrap_i64];omega
 clear h
 go_enter Tryd.func25,Tryd.ntmps25
 go_wp2_with fail
 refine HN.out.mono ?_
 rintro e w1 ⟨r,rfl,r0,r1,hD⟩
 have HD:=hide hD
 clear HN hD r1
 by_cases hr:r=(n:Int)-1
 ·have e1:(r == (n:Int)-1)=true:=by simp [hr]
  have e2:decide (r=(n:Int)-1)=true:=decide_eq_true hr
  clear hr
  go_wp2
  go_ret
  exact ⟨_,rfl,HD.out⟩
 ·have e1:(r == (n:Int)-1)=false:=by simpa using hr
  have e2:decide (r=(n:Int)-1)=false:=decide_eq_false hr
  clear hr
  go_wp2
  go_ret
  exact ⟨_,rfl,HD.out⟩
end Go.Proofs.YtfhimmnoipfiaaaDoor.drw
