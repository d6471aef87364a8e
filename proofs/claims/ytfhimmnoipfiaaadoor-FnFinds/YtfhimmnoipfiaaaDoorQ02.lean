import Derived.Test.YtfhimmnoipfiaaaDoorQ01
import Derived.Deep.RegionLaw
import Derived.Deep.RegionHeldLaw
import Derived.Deep.CutRange
import Derived.Deep.CutBlock
import Derived.Deep.DeepCutAuto
set_option linter.unusedVariables false
open Go.ChangeShapes Go.WideShapes Go.ChangeAt Go.RowKit
namespace Go.Proofs.YtfhimmnoipfiaaaDoor.eng
open bytes places sets tz rex
theorem nil124 (W:World):Sem.run Tryd.prog (binOp .eql 124 (.slice none 0 0) (.slice none 0 0)) W=.ok (.bool true) W:=by kernel_rfl
theorem some124 (a n c:Nat) (W:World):Sem.run Tryd.prog (binOp .eql 124 (.slice (some ⟨a,0,none⟩) n c) (.slice none 0 0)) W=.ok (.bool false) W:=by kernel_rfl
theorem info62:(Tryd.prog.info? 62).map (fun i=>(i.zero,i.size,i.bytes))=some (some (.agg #[.int .u64 0,.int .u64 0]),2,16):=by kernel_rfl
theorem info4:(Tryd.prog.info? 4).map (fun i=>(i.zero,i.size,i.bytes))=some (some (.bool false),1,1):=by kernel_rfl
theorem make124 (n:Nat) (hn:n≤1000) (W:World):(Instr.makeSlice 124 (.int .i64 (n:Int)) (.int .i64 (n:Int))).run Tryd.prog W=.ok (.slice (some ⟨W.heap.size,0,none⟩) n n) (W.alloc (.cells (madeCells #[.int .u64 0,.int .u64 0] (n*2)) 62)):=by
 obtain ⟨i0,hi,hz0,hz1,hz2⟩:=info_parts info62
 have h:=run_make (P:=Tryd.prog) W 124 62 i0 _ Tryd.underlying124 hi hz0 .i64 .i64 n n (by omega) (Int.le_refl _) (by rw [hz2];omega) (by omega)
 rw [hz1,Int.toNat_natCast] at h
 exact h
theorem make125 (n:Nat) (hn:n≤1000) (W:World):(Instr.makeSlice 125 (.int .i64 (n:Int)) (.int .i64 (n:Int))).run Tryd.prog W=.ok (.slice (some ⟨W.heap.size,0,none⟩) n n) (W.alloc (.cells (madeCells #[.bool false] (n*1)) 4)):=by
 obtain ⟨i0,hi,hz0,hz1,hz2⟩:=info_parts info4
 have h:=run_make (P:=Tryd.prog) W 125 4 i0 _ Tryd.underlying125 hi hz0 .i64 .i64 n n (by omega) (Int.le_refl _) (by rw [hz2];omega) (by omega)
 rw [hz1,Int.toNat_natCast] at h
 exact h
theorem made_at (z:Array Value) (n i:Nat) (h:i<n):(madeCells z n)[i]?=some (z[i % z.size]!):=by simp [madeCells,h]
theorem row_new (L:Nat) (A:Nat→Nat) (W:World) (a d:Nat) (ha:W.heap[a]?=some (.cells (madeCells #[.int .u64 0,.int .u64 0] ((L+1)*2)) 62 (0,0))) (hd:W.heap[d]?=some (.cells (madeCells #[.bool false] ((L+1)*1)) 4 (0,0))):Row L A W a d (fun _=>0) (fun _=>false) where
 lo:=fun p hp=>by
  have h:=made_at #[Value.int .u64 0,.int .u64 0] ((L+1)*2) (p*2) (by omega)
  rw [show p*2 % (#[Value.int .u64 0,.int .u64 0]:Array Value).size=0 by simp] at h
  simp [World.cell?,ha,h]
 hi:=fun p hp=>by
  have h:=made_at #[Value.int .u64 0,.int .u64 0] ((L+1)*2) (p*2+1) (by omega)
  rw [show (p*2+1) % (#[Value.int .u64 0,.int .u64 0]:Array Value).size=1 by simp] at h
  simp [World.cell?,ha,h]
 was:=fun p hp=>by
  have h:=made_at #[Value.bool false] ((L+1)*1) p (by omega)
  rw [show p % (#[Value.bool false]:Array Value).size=0 by simp;omega] at h
  rw [Nat.mul_one] at h
  simp [World.cell?,hd,h]
 fa:=fun i=>by simp [World.frozen?,ha]
 fd:=fun i=>by simp [World.frozen?,hd]
 right:=fun p hp h=>by cases h
section
variable {L:Nat} {M:Fz} {K:Ks} {R0:Rs} {O0:Lb} {w:World} {k:Nat} {m:Mk}
theorem made_end (h:Inv L M K R0 O0 w) (hk:K k=some m) (hr:R0 k=none) (B:World) (a d:Nat) (had:(a=w.heap.size+1∧d=w.heap.size+2)∨(a=w.heap.size+2∧d=w.heap.size+1))
  (hB:Below 0 w B) (hz:B.heap.size=w.heap.size+3) (hs:∀ b,b<w.heap.size→b≠m.b→b≠m.d→B.heap[b]?=w.heap[b]?) (ho:C2 B w.heap.size 0)
  (ha:B.heap[a]?=some (.cells (madeCells #[.int .u64 0,.int .u64 0] ((L+1)*2)) 62 (0,0))) (hd:B.heap[d]?=some (.cells (madeCells #[.bool false] ((L+1)*1)) 4 (0,0))) (hb4:C1 B m.b (.slice (some ⟨a,0,none⟩) (L+1) (L+1)) 124) (v:Value) (hb5:C1 B m.d v 125) :
  KL L M K R0 O0 w k a d (B.setCell ⟨m.d,0,none⟩ (.slice (some ⟨d,0,none⟩) (L+1) (L+1))).drew:=by
 have y:=h.lk k m hk
 have hne:m.b≠m.d:=by intro e;have:=y.1;rw [e,y.2] at this;simp at this
 have hl1:=h.lt m.b (by rw [y.1];simp)
 have hl2:=h.lt m.d (by rw [y.2];simp)
 have o5:=Below.heap_setCell B ⟨m.d,0,none⟩ (.slice (some ⟨d,0,none⟩) (L+1) (L+1))
 have hB2:=(hB.setCell (p:=⟨m.d,0,none⟩) (Nat.zero_le _) (.slice (some ⟨d,0,none⟩) (L+1) (L+1))).drew
 refine KL.made h hk hr _ a d ⟨hB2.os,hB2.tape,hB2.output⟩ (by simp [hz]) (fun b h0 h1 h2=>(o5 b h2).trans (hs b h0 h1 h2)) ((o5 _ hne).trans hb4) (hb5.set _) had ⟨_,_,row_new L m.A _ a d ((o5 _ (by simp;omega)).trans ha) ((o5 _ (by simp;omega)).trans hd)⟩ ((o5 _ (by simp;omega)).trans ho)
theorem made_mid (h:Inv L M K R0 O0 w) (hk:K k=some m) (B:World) (u:Value) (a:Nat) (hB:Below 0 w B) (hs:∀ b,b<w.heap.size→B.heap[b]?=w.heap[b]?) (hb4:C1 B m.b u 124) (v:Value) (hb5:C1 B m.d v 125) (x:Value) :
  Below 0 w (B.setCell ⟨m.b,0,none⟩ x)∧(∀ b,b<w.heap.size→b≠m.b→b≠m.d→(B.setCell ⟨m.b,0,none⟩ x).heap[b]?=w.heap[b]?)∧C1 (B.setCell ⟨m.b,0,none⟩ x) m.b x 124∧C1 (B.setCell ⟨m.b,0,none⟩ x) m.d v 125∧(∀ b,w.heap.size≤b→(B.setCell ⟨m.b,0,none⟩ x).heap[b]?=B.heap[b]?):=by
 have y:=h.lk k m hk
 have hne:m.d≠m.b:=by intro e;have:=y.1;rw [←e,y.2] at this;simp at this
 have hl1:=h.lt m.b (by rw [y.1];simp)
 have o4:=Below.heap_setCell B ⟨m.b,0,none⟩ x
 exact ⟨hB.setCell (p:=⟨m.b,0,none⟩) (Nat.zero_le _) _,fun b h0 h1 _=>(o4 b h1).trans (hs b h0),hb4.set _,(o4 _ hne).trans hb5,fun b hb=>o4 b (by simp;omega)⟩
variable (h:Inv L M K R0 O0 w) (hk:K k=some m) (hr:R0 k=none) (W1:World) (hW1:W1=w.alloc (.cells #[.int .u64 0,.int .u64 0] 62)) (A D:Array Value) (hA:A=madeCells #[.int .u64 0,.int .u64 0] ((L+1)*2)) (hD:D=madeCells #[.bool false] ((L+1)*1))
 (h4:C1 W1 m.b (.slice none 0 0) 124) (h5:C1 W1 m.d (.slice none 0 0) 125)
 include h hk hr hW1 hA hD h4 h5
theorem made1:KL L M K R0 O0 w k W1.heap.size (W1.heap.size+1) (((((W1.alloc (.cells A 62)).alloc (.cells D 4)).setCell ⟨m.b,0,none⟩ (.slice (some ⟨W1.heap.size,0,none⟩) (L+1) (L+1))).setCell ⟨m.d,0,none⟩ (.slice (some ⟨W1.heap.size+1,0,none⟩) (L+1) (L+1))).drew):=by
 have hz:W1.heap.size=w.heap.size+1:=by rw [hW1];simp
 have e0:∀ b,b<W1.heap.size→((W1.alloc (.cells A 62)).alloc (.cells D 4)).heap[b]?=W1.heap[b]? := fun b hb=>(Below.heap_alloc _ _ _ (by simp;omega)).trans (Below.heap_alloc _ _ _ hb)
 have e1:∀ b,b<w.heap.size→W1.heap[b]?=w.heap[b]? := fun b hb=>by rw [hW1];exact Below.heap_alloc _ _ _ hb
 have y:=h.lk k m hk
 have hl1:=h.lt m.b (by rw [y.1];simp)
 have hl2:=h.lt m.d (by rw [y.2];simp)
 have hB:Below 0 w ((W1.alloc (.cells A 62)).alloc (.cells D 4)):=(((Below.refl 0 w).trans (by rw [hW1];exact (Below.refl 0 w).alloc (Nat.zero_le _) _)).alloc (Nat.zero_le _) _).alloc (Nat.zero_le _) _
 obtain ⟨g1,g2,g3,g4,g5⟩:=made_mid h hk _ _ W1.heap.size hB (fun b hb=>(e0 b (by omega)).trans (e1 b hb)) ((e0 _ (by omega)).trans h4) _ ((e0 _ (by omega)).trans h5) (.slice (some ⟨W1.heap.size,0,none⟩) (L+1) (L+1))
 refine made_end h hk hr _ _ _ (by omega) g1 (by simp;omega) g2 ?_ ?_ ?_ g3 _ g4
 ·refine (g5 _ (Nat.le_refl _)).trans ((e0 _ (by omega)).trans ?_)
  rw [hW1];exact heap_alloc_new w _
 ·refine (g5 _ (by omega)).trans ((Below.heap_alloc _ _ _ (by simp)).trans ?_)
  rw [hA];exact heap_alloc_new W1 _
 ·refine (g5 _ (by omega)).trans ?_
  have h:=heap_alloc_new (W1.alloc (.cells A 62)) (.cells D 4)
  rw [show (W1.alloc (.cells A 62)).heap.size=W1.heap.size+1 by simp] at h
  rw [hD] at h ⊢
  exact h
theorem made2:KL L M K R0 O0 w k W1.heap.size (W1.heap.size+1) (((((W1.alloc (.cells A 62)).setCell ⟨m.b,0,none⟩ (.slice (some ⟨W1.heap.size,0,none⟩) (L+1) (L+1))).alloc (.cells D 4)).setCell ⟨m.d,0,none⟩ (.slice (some ⟨W1.heap.size+1,0,none⟩) (L+1) (L+1))).drew):=by
 have hz:W1.heap.size=w.heap.size+1:=by rw [hW1];simp
 have e0:∀ b,b<W1.heap.size→(W1.alloc (.cells A 62)).heap[b]?=W1.heap[b]? := fun b hb=>Below.heap_alloc _ _ _ hb
 have e1:∀ b,b<w.heap.size→W1.heap[b]?=w.heap[b]? := fun b hb=>by rw [hW1];exact Below.heap_alloc _ _ _ hb
 have y:=h.lk k m hk
 have hl1:=h.lt m.b (by rw [y.1];simp)
 have hl2:=h.lt m.d (by rw [y.2];simp)
 have hB:Below 0 w (W1.alloc (.cells A 62)):=((Below.refl 0 w).trans (by rw [hW1];exact (Below.refl 0 w).alloc (Nat.zero_le _) _)).alloc (Nat.zero_le _) _
 obtain ⟨g1,g2,g3,g4,g5⟩:=made_mid h hk _ _ W1.heap.size hB (fun b hb=>(e0 b (by omega)).trans (e1 b hb)) ((e0 _ (by omega)).trans h4) _ ((e0 _ (by omega)).trans h5) (.slice (some ⟨W1.heap.size,0,none⟩) (L+1) (L+1))
 have hz1:((W1.alloc (.cells A 62)).setCell ⟨m.b,0,none⟩ (.slice (some ⟨W1.heap.size,0,none⟩) (L+1) (L+1))).heap.size=w.heap.size+2:=by simp;omega
 have xa:((W1.alloc (.cells A 62)).setCell ⟨m.b,0,none⟩ (.slice (some ⟨W1.heap.size,0,none⟩) (L+1) (L+1))).heap[W1.heap.size]?=some (.cells A 62 (0,0)):=(g5 _ (by omega)).trans (heap_alloc_new W1 _)
 have xo:((W1.alloc (.cells A 62)).setCell ⟨m.b,0,none⟩ (.slice (some ⟨W1.heap.size,0,none⟩) (L+1) (L+1))).heap[w.heap.size]?=some (.cells #[.int .u64 ((0:Nat):Int),.int .u64 0] 62 (0,0)):=by
  refine (g5 _ (Nat.le_refl _)).trans ((e0 _ (by omega)).trans ?_)
  rw [hW1];exact heap_alloc_new w _
 generalize (W1.alloc (.cells A 62)).setCell ⟨m.b,0,none⟩ (.slice (some ⟨W1.heap.size,0,none⟩) (L+1) (L+1))=B at *
 have al:∀ b,b<w.heap.size+2→(B.alloc (.cells D 4)).heap[b]?=B.heap[b]? := fun b hb=>Below.heap_alloc _ _ _ (by omega)
 refine made_end h hk hr _ _ _ (by omega) (g1.alloc (Nat.zero_le _) _) (by simp;omega) (fun b h0 h1 h2=>(al b (by omega)).trans (g2 b h0 h1 h2)) ((al _ (by omega)).trans xo) ?_ ?_ ((al _ (by omega)).trans g3) _ ((al _ (by omega)).trans g4)
 ·rw [hA] at xa
  exact (al _ (by omega)).trans xa
 ·have h:=heap_alloc_new B (.cells D 4)
  rw [show B.heap.size=W1.heap.size+1 by omega] at h
  rw [hD] at h ⊢
  exact h
theorem made3:KL L M K R0 O0 w k (W1.heap.size+1) W1.heap.size (((((W1.alloc (.cells D 4)).alloc (.cells A 62)).setCell ⟨m.b,0,none⟩ (.slice (some ⟨W1.heap.size+1,0,none⟩) (L+1) (L+1))).setCell ⟨m.d,0,none⟩ (.slice (some ⟨W1.heap.size,0,none⟩) (L+1) (L+1))).drew):=by
 have hz:W1.heap.size=w.heap.size+1:=by rw [hW1];simp
 have e0:∀ b,b<W1.heap.size→((W1.alloc (.cells D 4)).alloc (.cells A 62)).heap[b]?=W1.heap[b]? := fun b hb=>(Below.heap_alloc _ _ _ (by simp;omega)).trans (Below.heap_alloc _ _ _ hb)
 have e1:∀ b,b<w.heap.size→W1.heap[b]?=w.heap[b]? := fun b hb=>by rw [hW1];exact Below.heap_alloc _ _ _ hb
 have y:=h.lk k m hk
 have hl1:=h.lt m.b (by rw [y.1];simp)
 have hl2:=h.lt m.d (by rw [y.2];simp)
 have hB:Below 0 w ((W1.alloc (.cells D 4)).alloc (.cells A 62)):=(((Below.refl 0 w).trans (by rw [hW1];exact (Below.refl 0 w).alloc (Nat.zero_le _) _)).alloc (Nat.zero_le _) _).alloc (Nat.zero_le _) _
 obtain ⟨g1,g2,g3,g4,g5⟩:=made_mid h hk _ _ W1.heap.size hB (fun b hb=>(e0 b (by omega)).trans (e1 b hb)) ((e0 _ (by omega)).trans h4) _ ((e0 _ (by omega)).trans h5) (.slice (some ⟨W1.heap.size+1,0,none⟩) (L+1) (L+1))
 refine made_end h hk hr _ _ _ (by omega) g1 (by simp;omega) g2 ?_ ?_ ?_ g3 _ g4
 ·refine (g5 _ (Nat.le_refl _)).trans ((e0 _ (by omega)).trans ?_)
  rw [hW1];exact heap_alloc_new w _
 ·refine (g5 _ (by omega)).trans ?_
  have h:=heap_alloc_new (W1.alloc (.cells D 4)) (.cells A 62)
  rw [show (W1.alloc (.cells D 4)).heap.size=W1.heap.size+1 by simp] at h
  rw [hA] at h ⊢
  exact h
 ·refine (g5 _ (by omega)).trans ((Below.heap_alloc _ _ _ (by simp)).trans ?_)
  rw [hD];exact heap_alloc_new W1 _
end
theorem OkF86:OkF 86:=⟨_,Tryd.func86,by kernel_rfl,by kernel_rfl⟩
set_option maxRecDepth 20000 in
set_option maxHeartbeats 8000000 in
theorem known_any (L:Nat) (M:Fz) (K:Ks) (k:Nat) (m:Mk) (tb sb:Nat) (S:ByteArray) (f:Nat) (cs:Array Value) (p E:Nat) (hL:L≤22) (hp:p≤L) (hS:S.size=L) (hk:K k=some m) (hE:E=m.A p)
  (m1:M tb=some (.cells #[.string S] 9 (0,0))) (m2:M sb=some (.cells #[.func (.func f) #[] cs] 46 (0,0))) (ho:OkF f) (ha:At L M K f cs p E) :
  At L M K 86 #[.pointer (some ⟨m.b,0,none⟩),.pointer (some ⟨tb,0,none⟩),.pointer (some ⟨m.d,0,none⟩),.pointer (some ⟨sb,0,none⟩)] p E:=by
 intro M' K' R O w hM hK hI
 have hcf:=callF ho
 have hk':=hK _ _ hk
 have hM1:=hM _ _ m1
 have hM2:=hM _ _ m2
 have y:=hI.lk k m hk'
 have hbl:=hI.lt m.b (by rw [y.1];simp)
 have hdl:=hI.lt m.d (by rw [y.2];simp)
 have htl:=hI.lt tb (by rw [hI.mem hM1];simp)
 have nbd:m.b≠m.d:=by intro e;have:=y.1;rw [e,y.2] at this;simp at this
 have ntb:tb≠m.b:=by intro e;have:=hI.mem hM1;rw [e,y.1] at this;simp at this
 have ntd:tb≠m.d:=by intro e;have:=hI.mem hM1;rw [e,y.2] at this;simp at this
 obtain ⟨MM,hMM⟩:∃ MM,MM=L+1:=⟨_,rfl⟩
 have hpM:(p:Int)<(MM:Int):=by omega
 have HA:Hid (∀ a d W,KL L M' K' R O w k a d W→Calls Tryd.prog f (#[.int .i64 (p:Int)]++cs) W fun e w'=>e=.returned (psV E)∧KL L M' K' R O w k a d w'):=hide (fun a d W h=>h.use ha hM hK)
 have HP:Hid (∀ a d W,KL L M' K' R O w k a d W→KL L M' K' R O w k a d (((W.setCell ⟨a,p*2,none⟩ (.int .u64 (E:Nat))).setCell ⟨a,p*2+1,none⟩ (.int .u64 0)).setCell ⟨d,p,none⟩ (.bool true))∧(((W.setCell ⟨a,p*2,none⟩ (.int .u64 (E:Nat))).setCell ⟨a,p*2+1,none⟩ (.int .u64 0)).setCell ⟨d,p,none⟩ (.bool true)).cell? ⟨a,p*2,none⟩=some (.int .u64 (E:Nat))):=hide (fun a d W h=>h.put hk' hp hE)
 have HE:Hid (∀ a d W,KL L M' K' R O w k a d W→C2 ((W.setCell ⟨w.heap.size,0,none⟩ (.int .u64 (E:Nat))).setCell ⟨w.heap.size,1,none⟩ (.int .u64 0)) w.heap.size E∧∃ R' O',St L M' K' R O w R' O' ((W.setCell ⟨w.heap.size,0,none⟩ (.int .u64 (E:Nat))).setCell ⟨w.heap.size,1,none⟩ (.int .u64 0))):=hide (fun a d W h=>h.done E)
 have HD:Hid (∀ a d W,KL L M' K' R O w k a d W→KL L M' K' R O w k a d W.drew):=hide (fun a d W h=>h.drew)
 have HF:Hid (∀ a d W,KL L M' K' R O w k a d W→(¬ a=d∧¬ d=a∧¬ a=m.d∧¬ m.d=a)∧(W.cell? ⟨m.b,0,none⟩=some (.slice (some ⟨a,0,none⟩) MM MM)∧W.cell? ⟨m.d,0,none⟩=some (.slice (some ⟨d,0,none⟩) MM MM)∧W.cell? ⟨sb,0,none⟩=some (.func (.func f) #[] cs))∧(W.cell? ⟨a,p*2+1,none⟩=some (.int .u64 0))∧(W.frozen? ⟨a,p*2,none⟩=false∧W.frozen? ⟨a,p*2+1,none⟩=false∧W.frozen? ⟨d,p,none⟩=false)∧(W.cell? ⟨w.heap.size,0,none⟩=some (.int .u64 ((0:Nat):Int))∧W.cell? ⟨w.heap.size,1,none⟩=some (.int .u64 0)∧W.frozen? ⟨w.heap.size,0,none⟩=false∧W.frozen? ⟨w.heap.size,1,none⟩=false)∧∃ (x:Nat) (qp:Bool),W.cell? ⟨a,p*2,none⟩=some (.int .u64 (x:Nat))∧W.cell? ⟨d,p,none⟩=some (.bool qp)∧(qp=true→x=E)):=by
  refine hide (fun a d W h => ?_)
  rw [hMM]
  obtain ⟨g1,g2,X,q,r⟩:=h.row hk'
  obtain ⟨n1,n2,n3,n4,n5⟩:=h.ne hk'
  exact ⟨⟨n1,fun e=>n1 e.symm,n3,fun e=>n3 e.symm⟩,⟨g1.c,g2.c,h.fz.at hM2 rfl⟩,r.hi p hp,⟨r.fa _,r.fa _,r.fd _⟩,⟨h.out.c0,h.out.c1,h.out.fz 0,h.out.fz 1⟩,X p,q p,r.lo p hp,r.was p hp,fun hq=>(r.right p hp hq).trans hE.symm⟩
 clear ha
 cases hR:R k with
 | none =>
  obtain ⟨W1,hW1⟩:∃ W1,W1=w.alloc (.cells #[.int .u64 0,.int .u64 0] 62):=⟨_,rfl⟩
  have hI':Inv L M' K' R O W1:=by rw [hW1];exact hI.below ((Below.refl _ _).alloc (Nat.le_refl _) _)
  have hm:C1 W1 m.b (.slice none 0 0) 124∧C1 W1 m.d (.slice none 0 0) 125:=by
   rcases hI'.memo k m hk' with ⟨_,h1,h2⟩|⟨a,d,h0,_⟩
   ·exact ⟨h1,h2⟩
   ·rw [h0] at hR;cases hR
  have hW1z:W1.heap.size=w.heap.size+1:=by rw [hW1];simp
  have m4:=hm.1.c
  have m5:=hm.2.c
  have f4:=hm.1.fz 0
  have f5:=hm.2.fz 0
  have mt:=hI'.fz.at hM1 (i:=0) rfl
  have v4:=m4
  have v5:=m5
  rw [hW1] at v4 v5
  have hnil:=nil124
  have k139:∀ W:World,(Instr.makeSlice 124 (.int .i64 ((L:Int)+1)) (.int .i64 ((L:Int)+1))).run Tryd.prog W=.ok (.slice (some ⟨W.heap.size,0,none⟩) (L+1) (L+1)) (W.alloc (.cells (madeCells #[.int .u64 0,.int .u64 0] ((L+1)*2)) 62)):=fun W=>make124 (L+1) (by omega) W
  have k140:∀ W:World,(Instr.makeSlice 125 (.int .i64 ((L:Int)+1)) (.int .i64 ((L:Int)+1))).run Tryd.prog W=.ok (.slice (some ⟨W.heap.size,0,none⟩) (L+1) (L+1)) (W.alloc (.cells (madeCells #[.bool false] ((L+1)*1)) 4)):=fun W=>make125 (L+1) (by omega) W
  obtain ⟨A,hA9⟩:∃ A,A=madeCells #[.int .u64 0,.int .u64 0] ((L+1)*2):=⟨_,rfl⟩
  obtain ⟨D,hD9⟩:∃ D,D=madeCells #[.bool false] ((L+1)*1):=⟨_,rfl⟩
  rw [←hA9] at k139
  rw [←hD9] at k140
  have HQ1:=hide (made1 hI hk' hR W1 hW1 A D hA9 hD9 hm.1 hm.2)
  have HQ2:=hide (made2 hI hk' hR W1 hW1 A D hA9 hD9 hm.1 hm.2)
  have HQ3:=hide (made3 hI hk' hR W1 hW1 A D hA9 hD9 hm.1 hm.2)
  clear hA9 hD9
  have hwl:IntKind.i64.wrap ((L:Int)+1)=(L:Int)+1:=by rw [IntKind.wrap_i64];omega
  unfold psV at HA ⊢
  clear hE hMM m1 m2 hM hK hk hk' hI hI' y hM1 hM2
  obtain ⟨mb,md,mA⟩:=m
  simp only at *
  go_enter Tryd.func86,Tryd.ntmps86
  go_upto_region 2 with fail
  rw [←hW1]
  clear v4 v5
  have hz1:=hW1z
  have al1:∀ (b:Nat) (o:Obj),b<w.heap.size→(W1.alloc o).heap[b]?=W1.heap[b]? := fun b o hb=>Below.heap_alloc _ _ _ (by omega)
  have al2:∀ (b:Nat) (o o':Obj),b<w.heap.size→((W1.alloc o).alloc o').heap[b]?=W1.heap[b]? := fun b o o' hb=>(Below.heap_alloc _ _ _ (by simp;omega)).trans (al1 b o hb)
  have a2:∀ o,(W1.alloc o).cell? ⟨tb,0,none⟩=some (.string S):=fun o=>(World.cell?_of_block (al1 tb o (by omega))).trans mt
  have b2:∀ o o',((W1.alloc o).alloc o').cell? ⟨tb,0,none⟩=some (.string S):=fun o o'=>(World.cell?_of_block (al2 tb o o' (by omega))).trans mt
  have b4:∀ o o',((W1.alloc o).alloc o').cell? ⟨mb,0,none⟩=some (.slice none 0 0):=fun o o'=>(World.cell?_of_block (al2 mb o o' (by omega))).trans m4
  have b5:∀ o o',((W1.alloc o).alloc o').cell? ⟨md,0,none⟩=some (.slice none 0 0):=fun o o'=>(World.cell?_of_block (al2 md o o' (by omega))).trans m5
  have c4:∀ o o',((W1.alloc o).alloc o').frozen? ⟨mb,0,none⟩=false:=fun o o'=>(World.frozen?_of_block (al2 mb o o' (by omega))).trans f4
  have c5:∀ o o',((W1.alloc o).alloc o').frozen? ⟨md,0,none⟩=false:=fun o o'=>(World.frozen?_of_block (al2 md o o' (by omega))).trans f5
  have a4:∀ o,(W1.alloc o).cell? ⟨mb,0,none⟩=some (.slice none 0 0):=fun o=>(World.cell?_of_block (al1 mb o (by omega))).trans m4
  have a5:∀ o,(W1.alloc o).cell? ⟨md,0,none⟩=some (.slice none 0 0):=fun o=>(World.cell?_of_block (al1 md o (by omega))).trans m5
  have d4:∀ o,(W1.alloc o).frozen? ⟨mb,0,none⟩=false:=fun o=>(World.frozen?_of_block (al1 mb o (by omega))).trans f4
  have d5:∀ o,(W1.alloc o).frozen? ⟨md,0,none⟩=false:=fun o=>(World.frozen?_of_block (al1 md o (by omega))).trans f5
  have al3:∀ (b:Nat) (o:Obj) (v:Value) (o':Obj),b<w.heap.size→b≠mb→(((W1.alloc o).setCell ⟨mb,0,none⟩ v).alloc o').heap[b]?=W1.heap[b]? := fun b o v o' hb hn=>(Below.heap_alloc _ _ _ (by simp;omega)).trans ((Below.heap_setCell _ _ _ _ hn).trans (al1 b o hb))
  have g2:∀ o v o',(((W1.alloc o).setCell ⟨mb,0,none⟩ v).alloc o').cell? ⟨tb,0,none⟩=some (.string S):=fun o v o'=>(World.cell?_of_block (al3 tb o v o' (by omega) ntb)).trans mt
  have g5:∀ o v o',(((W1.alloc o).setCell ⟨mb,0,none⟩ v).alloc o').cell? ⟨md,0,none⟩=some (.slice none 0 0):=fun o v o'=>(World.cell?_of_block (al3 md o v o' (by omega) (fun e=>nbd e.symm))).trans m5
  have h5:∀ o v o',(((W1.alloc o).setCell ⟨mb,0,none⟩ v).alloc o').frozen? ⟨md,0,none⟩=false:=fun o v o'=>(World.frozen?_of_block (al3 md o v o' (by omega) (fun e=>nbd e.symm))).trans f5
  clear hz1
  have HW1e:=hide hW1
  clear hW1
  have HW1:=hide hW1z
  clear hW1z hm
  go_cut [] from 9 to 16 (fun wx=>∃ a d,Hid (KL L M' K' R O w k a d wx))
  case first =>
   go_region_law (fail)
   all_goals (go_wp2_with fail;go_meet)
   all_goals first | exact ⟨_,_,HQ1⟩|exact ⟨_,_,HQ2⟩|exact ⟨_,_,HQ3⟩
  case rest =>
   obtain ⟨a,d,HK⟩:=hcut
   obtain ⟨⟨had,hda,hac,hca⟩,⟨r4,r5,r3⟩,s2,⟨z1,z2,z3⟩,⟨o1,o2,o3,o4⟩,x,qp,s1,s3,HXX⟩:=HF.out _ _ _ HK.out
   have HXX:=hide HXX
   cases qp with
   | true =>
    rw [HXX.out rfl] at s1
    have HQ:=hide (HE.out _ _ _ HK.out)
    clear HXX HA HP HE HD HF HK
    go_wp2
    exact bodyPost_ret (results_cell_row rfl _ _ w.heap.size 62 _ (0,0) _ rfl HQ.out.1 Tryd.underlying62 rfl (size62.trans (by simp))) rfl ⟨rfl,HQ.out.2⟩
   | false =>
    have hK0:=HK.out
    clear HXX HK
    go_upto_region 4 with fail
    go_cut [] from 22 to 30 (fun wx=>Hid (KL L M' K' R O w k a d wx∧wx.cell? ⟨a,p*2,none⟩=some (.int .u64 (E:Nat))))
    case first =>
     go_region_law (first | (go_simp;with_reducible (refine (HA.out a d _ ?_).mono ?_);(first | exact hK0 | exact HD.out _ _ _ hK0);rintro r w2 ⟨rfl,hK2⟩;obtain ⟨_,⟨r4b,r5b,r3b⟩,s2b,⟨z1b,z2b,z3b⟩,⟨o1b,o2b,o3b,o4b⟩,xb,qb,s1b,s3b,_⟩:=HF.out _ _ _ hK2))
     all_goals
      have hK3:=hide (HP.out _ _ _ hK2)
      clear HA HP HE HD HF
      go_wp2_with fail
      go_meet
      exact hK3
    case rest =>
     clear r4 r5 r3 s1 s2 s3 z1 z2 z3 o1 o2 o3 o4 hK0
     obtain ⟨_,⟨r4,r5,r3⟩,s2,⟨z1,z2,z3⟩,⟨o1,o2,o3,o4⟩,_⟩:=HF.out _ _ _ hcut.out.1
     have s1:=hcut.out.2
     have HQ:=hide (HE.out _ _ _ hcut.out.1)
     clear HA HP HE HD HF hcut
     go_wp2
     exact bodyPost_ret (results_cell_row rfl _ _ w.heap.size 62 _ (0,0) _ rfl HQ.out.1 Tryd.underlying62 rfl (size62.trans (by simp))) rfl ⟨rfl,HQ.out.2⟩
 | some ad =>
  obtain ⟨a,d⟩:=ad
  have hKK:=KL.old (L:=L) (M:=M') (K:=K') hI hR
  have hsome:=some124
  obtain ⟨_,⟨r4,_,_⟩,_⟩:=HF.out _ _ _ hKK
  have HK:=hide hKK
  clear hKK hE hMM m1 m2 hM hK hk hk' hI y hM1 hM2
  obtain ⟨mb,md,mA⟩:=m
  simp only at *
  obtain ⟨W1,hW1⟩:∃ W1,W1=w.alloc (.cells #[.int .u64 0,.int .u64 0] 62):=⟨_,rfl⟩
  rw [←hW1] at HK
  unfold psV at HA ⊢
  go_enter Tryd.func86,Tryd.ntmps86
  go_upto_region 3 with fail
  rw [←hW1]
  clear r4 hW1
  obtain ⟨⟨had,hda,hac,hca⟩,⟨r4,r5,r3⟩,s2,⟨z1,z2,z3⟩,⟨o1,o2,o3,o4⟩,x,qp,s1,s3,HXX⟩:=HF.out _ _ _ HK.out
  have HXX:=hide HXX
  cases qp with
  | true =>
   rw [HXX.out rfl] at s1
   have HQ:=hide (HE.out _ _ _ HK.out)
   clear HXX HA HP HE HD HF HK
   go_wp2
   exact bodyPost_ret (results_cell_row rfl _ _ w.heap.size 62 _ (0,0) _ rfl HQ.out.1 Tryd.underlying62 rfl (size62.trans (by simp))) rfl ⟨rfl,HQ.out.2⟩
  | false =>
   have hK0:=HK.out
   clear HXX HK
   go_upto_region 4 with fail
   go_cut [] from 22 to 30 (fun wx=>Hid (KL L M' K' R O w k a d wx∧wx.cell? ⟨a,p*2,none⟩=some (.int .u64 (E:Nat))))
   case first =>
    go_region_law (first | (go_simp;with_reducible (refine (HA.out a d _ ?_).mono ?_);(first | exact hK0 | exact HD.out _ _ _ hK0);rintro r w2 ⟨rfl,hK2⟩;obtain ⟨_,⟨r4b,r5b,r3b⟩,s2b,⟨z1b,z2b,z3b⟩,⟨o1b,o2b,o3b,o4b⟩,xb,qb,s1b,s3b,_⟩:=HF.out _ _ _ hK2))
    all_goals
     have hK3:=hide (HP.out _ _ _ hK2)
     clear HA HP HE HD HF
     go_wp2_with fail
     go_meet
     exact hK3
   case rest =>
    clear r4 r5 r3 s1 s2 s3 z1 z2 z3 o1 o2 o3 o4 hK0
    obtain ⟨_,⟨r4,r5,r3⟩,s2,⟨z1,z2,z3⟩,⟨o1,o2,o3,o4⟩,_⟩:=HF.out _ _ _ hcut.out.1
    have s1:=hcut.out.2
    have HQ:=hide (HE.out _ _ _ hcut.out.1)
    clear HA HP HE HD HF hcut
    go_wp2
    exact bodyPost_ret (results_cell_row rfl _ _ w.heap.size 62 _ (0,0) _ rfl HQ.out.1 Tryd.underlying62 rfl (size62.trans (by simp))) rfl ⟨rfl,HQ.out.2⟩
end Go.Proofs.YtfhimmnoipfiaaaDoor.eng
