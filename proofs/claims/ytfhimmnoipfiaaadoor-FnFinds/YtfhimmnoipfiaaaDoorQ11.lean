import Derived.Test.YtfhimmnoipfiaaaDoorQ10
import Derived.Deep.QuietTactic
import Derived.BigQuiet
import Derived.Test.YtfhimmnoipfiaaaDoorQ08
set_option linter.unusedVariables false
open Go.ChangeShapes Go.WideShapes Go.ChangeAt Go.RowKit
namespace Go.Proofs.YtfhimmnoipfiaaaDoor.eng
open bytes places sets tz rex
structure RS (ts:List Int) (N mb lo:Nat) (v:Value) (W1:World) (q:List Nq) (ka:Nat) (x:Nq) (r:List Nq) (kk:Nat) (y:Nq) (w:World):Prop where
 mac:∃ v':Value,MkSt ts N mb lo v W1 (q++r) v' w
 a:(q++r)[ka]?=some x
 b:(q++r)[kk]?=some y
section
variable {ts:List Int} {N mb lo:Nat} {v:Value} {W1:World} {q:List Nq} {ka kk:Nat} {x y:Nq} {r:List Nq} {w:World}
theorem RS.add (h:RS ts N mb lo v W1 q ka x r kk y w) (X:Nq) (hl:NodeLaw ts N (q++r) (q++r).length X) (hq:q.length+r.length≤700):Calls Tryd.prog 79 #[.pointer (some ⟨mb,0,none⟩),.agg X.cells] w fun e w'=>∃ (r3:List Nq) (k3:Nat),e=.returned (.int .i64 (k3:Int))∧r3.length=r.length+1∧RS ts N mb lo v W1 q ka x r3 k3 X w':=by
 obtain ⟨v',hm⟩:=h.mac
 refine (add_any ts N mb lo (q++r) v' w X hm.self hl (by rw [List.length_append];exact hq)).mono ?_
 rintro e w' ⟨rfl,v3,h2⟩
 have ek:q++(r++[X])=q++r++[X]:=by simp
 exact ⟨r++[X],(q++r).length,rfl,by simp,⟨v3,by rw [ek];exact hm.then h2⟩,by rw [ek];exact get_app h.a,by rw [ek,List.getElem?_append_right (Nat.le_refl _),Nat.sub_self];rfl⟩
theorem RS.empty (h:RS ts N mb lo v W1 q ka x r kk y w) (hq:q.length+r.length≤700):Calls Tryd.prog 79 #[.pointer (some ⟨mb,0,none⟩),.agg #[.int .i64 21,.int .i64 0,.string ⟨#[]⟩,.int .i64 0,.int .i64 0]] w fun e w'=>∃ (r3:List Nq) (k3:Nat) (z:Nq),e=.returned (.int .i64 (k3:Int))∧r3.length=r.length+1∧RS ts N mb lo v W1 q ka x r3 k3 z w'∧z.A=emptyB∧z.s=idS:=by
 refine (h.add ⟨21,0,⟨#[]⟩,0,0,emptyB,idS⟩ (by unfold NodeLaw;exact .inr (.inr (.inr (.inr (.inr (.inl ⟨rfl,rfl,rfl⟩)))))) hq).mono ?_
 rintro e w' ⟨r3,k3,h1,h2,h3⟩
 exact ⟨r3,k3,_,h1,h2,h3,rfl,rfl⟩
theorem RS.many (h:RS ts N mb lo v W1 q ka x r kk y w) (hq:q.length+r.length≤700):Calls Tryd.prog 79 #[.pointer (some ⟨mb,0,none⟩),.agg #[.int .i64 9,.int .i64 0,.string ⟨#[]⟩,.int .i64 (ka:Int),.int .i64 0]] w fun e w'=>∃ (r3:List Nq) (k3:Nat) (z:Nq),e=.returned (.int .i64 (k3:Int))∧r3.length=r.length+1∧RS ts N mb lo v W1 q ka x r3 k3 z w'∧z.A=upTo x.A ts.length∧z.s=upToS x.A x.s ts.length:=by
 refine (h.add ⟨9,0,⟨#[]⟩,ka,0,upTo x.A ts.length,upToS x.A x.s ts.length⟩ (by
  unfold NodeLaw
  iterate 9 right
  exact .inl ⟨x,rfl,(List.getElem?_eq_some_iff.1 h.a).1,h.a,rfl,rfl⟩) hq).mono ?_
 rintro e w' ⟨r3,k3,h1,h2,h3⟩
 exact ⟨r3,k3,_,h1,h2,h3,rfl,rfl⟩
theorem RS.may (h:RS ts N mb lo v W1 q ka x r kk y w) (hq:q.length+r.length≤700):Calls Tryd.prog 79 #[.pointer (some ⟨mb,0,none⟩),.agg #[.int .i64 20,.int .i64 0,.string ⟨#[]⟩,.int .i64 (kk:Int),.int .i64 0]] w fun e w'=>∃ (r3:List Nq) (k3:Nat) (z:Nq),e=.returned (.int .i64 (k3:Int))∧r3.length=r.length+1∧RS ts N mb lo v W1 q ka x r3 k3 z w'∧z.A=(fun i j=>decide (i=j) || y.A i j)∧z.s=fun i j out=>if i<j then y.s i j out else out:=by
 refine (h.add ⟨20,0,⟨#[]⟩,kk,0,fun i j=>decide (i=j) || y.A i j,fun i j out=>if i<j then y.s i j out else out⟩ (by
  unfold NodeLaw
  iterate 8 right
  exact .inl ⟨y,rfl,(List.getElem?_eq_some_iff.1 h.b).1,h.b,rfl,rfl⟩) hq).mono ?_
 rintro e w' ⟨r3,k3,h1,h2,h3⟩
 exact ⟨r3,k3,_,h1,h2,h3,rfl,rfl⟩
theorem RS.both (h:RS ts N mb lo v W1 q ka x r kk y w) (hq:q.length+r.length≤700):Calls Tryd.prog 80 #[.pointer (some ⟨mb,0,none⟩),.int .i64 (ka:Int),.int .i64 (kk:Int)] w fun e w'=>∃ (r3:List Nq) (k3:Nat) (z:Nq),e=.returned (.int .i64 (k3:Int))∧r3.length=r.length+1∧RS ts N mb lo v W1 q ka x r3 k3 z w'∧z.A=seqB x.A y.A∧z.s=seqS x.A y.A x.s y.s:=by
 obtain ⟨v',hm⟩:=h.mac
 refine (both_any ts N mb lo (q++r) v' w ka kk x y hm.self h.a h.b (by rw [List.length_append];exact hq)).mono ?_
 rintro e w' ⟨rfl,v3,h2⟩
 have ek:q++(r++[⟨7,0,⟨#[]⟩,ka,kk,seqB x.A y.A,seqS x.A y.A x.s y.s⟩])=q++r++[⟨7,0,⟨#[]⟩,ka,kk,seqB x.A y.A,seqS x.A y.A x.s y.s⟩]:=by simp
 exact ⟨r++[⟨7,0,⟨#[]⟩,ka,kk,seqB x.A y.A,seqS x.A y.A x.s y.s⟩],(q++r).length,_,rfl,by simp,⟨⟨v3,by rw [ek];exact hm.then h2⟩,by rw [ek];exact get_app h.a,by rw [ek,List.getElem?_append_right (Nat.le_refl _),Nat.sub_self];rfl⟩,rfl,rfl⟩
end
set_option maxRecDepth 20000 in
set_option maxHeartbeats 16000000 in
theorem make_rep_inf (n:Nat) (kid:Tr) (ih:MakeOf kid):MakeOf (.rep n none kid):=by
 intro ts N mb lo M q v W cs hok hIn hlo hR h hq
 rw [RxAt] at hR
 obtain ⟨gg,cap,cur,rfl,hM,cc,hcc,hcur,hRk⟩:=hR
 rw [OkT] at hok
 obtain ⟨c0,c1,c2,c3,o4,n4,c4,rfl,hNk⟩:=nd_of hRk
 obtain ⟨W1,hW1⟩:∃ W1,W.alloc (.cells (rxV 9 n (unM none) mt0 (.slice (some ⟨gg,0,none⟩) 1 cap)) 25)=W1:=⟨_,rfl⟩
 have h1:MkSt ts N mb lo v W q v W1:=by rw [←hW1];exact h.below ((Below.refl _ _).alloc (Nat.le_refl _) _)
 have hb1:W1.heap[W.heap.size]?=some (.cells (rxV 9 n (unM none) mt0 (.slice (some ⟨gg,0,none⟩) 1 cap)) 25 (0,0)):=by rw [←hW1];exact heap_alloc_new W _
 have hIn1:=h.tree hIn hlo h1
 have g0:W1.cell? ⟨gg,0,none⟩=some (.int .i64 c0):=hIn1.at hM (hcur 0 (by omega))
 have g1:W1.cell? ⟨gg,1,none⟩=some (.int .i64 c1):=hIn1.at hM (hcur 1 (by omega))
 have g2:W1.cell? ⟨gg,2,none⟩=some (.int .i64 c2):=hIn1.at hM (hcur 2 (by omega))
 have g3:W1.cell? ⟨gg,3,none⟩=some (.string c3):=hIn1.at hM (hcur 3 (by omega))
 have g4:W1.cell? ⟨gg,4,none⟩=some (.slice o4 n4 c4):=hIn1.at hM (hcur 4 (by omega))
 have hwt:wtT (.rep n none kid)=(1+wtT kid)*(tmsT n none+1):=by simp [wtT]
 have hwp:=wt_pos kid
 obtain ⟨tm,htm⟩:∃ tm,tm=tmsT n none:=⟨_,rfl⟩
 have hcap:2*wtT kid+1+4*tm≤2*wtT (.rep n none kid)-1:=by
  rw [hwt,←htm]
  have:2*tm≤(1+wtT kid)*tm:=Nat.mul_le_mul_right _ (by omega)
  rw [Nat.mul_add]
  omega
 have htm2:True:=by trivial
 have htn:n≤tm:=by rw [htm];exact Nat.le_refl _
 obtain ⟨CAP,hCAP⟩:∃ CAP,CAP=2*wtT (.rep n none kid)-1:=⟨_,rfl⟩
 rw [←hCAP] at hcap
 have hq7:q.length+CAP≤700:=by omega
 have HBX:Hid (∀ (w5:World) (r:List Nq) (ka kk:Nat) (x y:Nq),RS ts N mb lo v W1 q ka x r kk y w5→w5.heap[W.heap.size]?=some (.cells #[.int .i64 9,.int .i64 (n:Int),.int .i64 (unM none),.string mt0,.slice (some ⟨gg,0,none⟩) 1 cap] 25 (0,0))):=hide fun w5 r ka kk x y k=>by
  obtain ⟨v',hm⟩:=k.mac
  exact (h.own_ hW1 hm).trans hb1
 have HC:Hid (Calls Tryd.prog 55 #[.pointer (some ⟨mb,0,none⟩),.agg (rxV c0 c1 c2 c3 (.slice o4 n4 c4))] W1 fun e w5=>∃ (r:List Nq) (ka:Nat) (x:Nq),e=.returned (.int .i64 (ka:Int))∧RS ts N mb lo v W1 q ka x r ka x w5∧r.length≤2*wtT kid-1∧EqB ts.length x.A (rex.mt ts kid) x.s (sp ts kid)):=by
  refine hide ((ih ts N mb lo M q v W1 _ hok.2.2 hIn1 hlo hRk h1.self (by omega)).mono ?_)
  rintro e w5 ⟨r,v5,ka,x,he,k1,k2,k3,k4⟩
  exact ⟨r,ka,x,he,⟨⟨v5,k1⟩,k3,k3⟩,k2,k4⟩
 have HF:Hid (∀ (w':World) (r:List Nq) (ka kk:Nat) (x y:Nq),RS ts N mb lo v W1 q ka x r kk y w'→r.length≤CAP→EqB ts.length y.A (pw (rex.mt ts kid) (moreB ts.length n none (rex.mt ts kid)) n) y.s (pwS (rex.mt ts kid) (moreB ts.length n none (rex.mt ts kid)) (sp ts kid) (moreS ts.length n none (rex.mt ts kid) (sp ts kid)) n)→MadeN ts N mb lo v W q (2*wtT (.rep n none kid)-1) (rex.mt ts (.rep n none kid)) (sp ts (.rep n none kid)) (.returned (.int .i64 (kk:Int))) w'):=by
  refine hide fun w' r ka kk x y k1 k2 k3 => ?_
  obtain ⟨v',hm⟩:=k1.mac
  exact ⟨r,v',kk,y,rfl,h1.then hm,by rw [←hCAP];exact k2,k1.b,k3⟩
 have hn20:n≤20:=hok.1
 have hm20:True:=by trivial
 unfold rxV at hW1 hb1 HC ⊢
 obtain ⟨p0,p1,p2,p3,p4⟩:=cells5 hb1
 simp only [unM] at *
 clear hok hIn hlo h hq hRk hNk h1 hb1 ih hIn1 hM hcur hcc hwt hCAP htm
 go_enter Tryd.func55,Tryd.ntmps55
 go_wp2_with fail
 (try rw [hW1])
 clear hW1
 refine HC.out.mono ?_
 rintro e w5 ⟨r,ka,x,rfl,k1,k2,k3⟩
 have H2:=hide (k1.empty (by omega))
 have hr1:=k2
 have HX:=hide k3
 clear k1 k2 k3 HC p0 p1 p2 p3 p4 g0 g1 g2 g3 g4
 go_wp2_with fail
 refine H2.out.mono ?_
 rintro e w6 ⟨r2,kk,y,rfl,hr2,k4,k5,k6⟩
 obtain ⟨s0,s1,s2,s3,s4⟩:=cells5 (HBX.out w6 _ _ _ _ _ k4)
 have H3:=hide (k4.many (by omega))
 have hr2':=hr2
 clear k4 k5 k6 H2
 go_wp2_with fail
 refine H3.out.mono ?_
 rintro e w7 ⟨r4,k7,z,rfl,hr3,m1,m2,m3⟩
 obtain ⟨t0,t1,t2,t3,t4⟩:=cells5 (HBX.out w7 _ _ _ _ _ m1)
 have HX0:Hid (RS ts N mb lo v W1 q ka x r4 k7 z w7∧r4.length≤2*wtT kid+1+2*0∧EqB ts.length z.A (moreB ts.length n none (rex.mt ts kid)) z.s (moreS ts.length n none (rex.mt ts kid) (sp ts kid))):=hide ⟨m1,by omega,by rw [m2,m3];exact eq_upTo HX.out _⟩
 clear m1 m2 m3 H3 s0 s1 s2 s3 s4
 go_wp2
 clear t0 t1 t2 t3 t4
 go_loopw [8,9] (fun v8 v9 wr=>∃ (t:Nat) (r:List Nq) (kk:Nat) (y:Nq),t≤0∧v8=.int .i64 (kk:Int)∧v9=.int .i64 ((n+t:Nat):Int)∧Hid (RS ts N mb lo v W1 q ka x r kk y wr∧r.length≤2*wtT kid+1+2*t∧EqB ts.length y.A (moreB ts.length n none (rex.mt ts kid)) y.s (moreS ts.length n none (rex.mt ts kid) (sp ts kid)))) (fun _ v9 _=>(n+0)-(intOf v9).toNat)
 case atStart=>exact ⟨0,_,_,_,by omega,rfl,by simp,HX0⟩
 case round =>
  obtain ⟨t,r,kk,y,ht,rfl,rfl,HY⟩:=hrel
  clear HX0
  obtain ⟨s0,s1,s2,s3,s4⟩:=cells5 (HBX.out wr _ _ _ _ _ HY.out.1)
  by_cases htd:t<0
  ·omega
  ·obtain rfl:t=0:=by omega
   have hnl:¬ ((n+0:Nat):Int)<(-1:Int):=by omega
   have HZ:Hid (RS ts N mb lo v W1 q ka x r kk y wr∧r.length≤2*wtT kid+1+2*0+0∧EqB ts.length y.A (pw (rex.mt ts kid) (moreB ts.length n none (rex.mt ts kid)) 0) y.s (pwS (rex.mt ts kid) (moreB ts.length n none (rex.mt ts kid)) (sp ts kid) (moreS ts.length n none (rex.mt ts kid) (sp ts kid)) 0)):=hide ⟨HY.out.1,by have:=HY.out.2.1;omega,HY.out.2.2⟩
   clear HY
   go_wp2
   clear s0 s1 s2 s3 s4
   go_loopw [8,10] (fun v8 v10 wr=>∃ (t:Nat) (r:List Nq) (kk:Nat) (y:Nq),t≤n∧v8=.int .i64 (kk:Int)∧v10=.int .i64 (t:Int)∧Hid (RS ts N mb lo v W1 q ka x r kk y wr∧r.length≤2*wtT kid+1+2*0+t∧EqB ts.length y.A (pw (rex.mt ts kid) (moreB ts.length n none (rex.mt ts kid)) t) y.s (pwS (rex.mt ts kid) (moreB ts.length n none (rex.mt ts kid)) (sp ts kid) (moreS ts.length n none (rex.mt ts kid) (sp ts kid)) t))) (fun _ v10 _=>n-(intOf v10).toNat)
   case atStart=>exact ⟨0,r,kk,y,by omega,rfl,rfl,HZ⟩
   case round =>
    obtain ⟨t,r,kk,y,ht,rfl,rfl,HY⟩:=hrel
    clear HZ
    obtain ⟨s0,s1,s2,s3,s4⟩:=cells5 (HBX.out wr _ _ _ _ _ HY.out.1)
    by_cases htn2:t<n
    ·have hti:(t:Int)<(n:Int):=by omega
     have htw:IntKind.i64.wrap ((t:Int)+1)=((t+1:Nat):Int):=by rw [IntKind.wrap_i64];omega
     have hrl:=HY.out.2.1
     have H5:=hide (HY.out.1.both (by omega))
     have HE5:=hide HY.out.2.2
     clear HY
     go_wp2_with fail
     refine H5.out.mono ?_
     rintro e w8 ⟨r3,k3,z,rfl,l1,l2,l3,l4⟩
     have HE:Hid (RS ts N mb lo v W1 q ka x r3 k3 z w8∧r3.length≤2*wtT kid+1+2*0+(t+1)∧EqB ts.length z.A (pw (rex.mt ts kid) (moreB ts.length n none (rex.mt ts kid)) (t+1)) z.s (pwS (rex.mt ts kid) (moreB ts.length n none (rex.mt ts kid)) (sp ts kid) (moreS ts.length n none (rex.mt ts kid) (sp ts kid)) (t+1))):=by
      refine hide ⟨l2,by omega,?_⟩
      rw [l3,l4]
      exact eq_seq HX.out HE5.out
     clear l1 l2 l3 l4 H5 HE5 s0 s1 s2 s3 s4
     go_wp2
     go_roundw
     case rel=>exact ⟨t+1,r3,k3,z,by omega,rfl,by simp,HE⟩
     case measure=>simp [intOf];omega
    ·obtain rfl:t=n:=by omega
     have hnl2:¬ (t:Int)<(t:Int):=by omega
     have HE:=hide (HF.out wr r ka kk x y HY.out.1 (by have:=HY.out.2.1;omega) HY.out.2.2)
     clear HY HBX HF HX
     go_wp2
     go_ret
     exact HE.out
set_option maxRecDepth 20000 in
set_option maxHeartbeats 16000000 in
theorem make_rep_upto (n:Nat) (m:Nat) (kid:Tr) (ih:MakeOf kid):MakeOf (.rep n (some m) kid):=by
 intro ts N mb lo M q v W cs hok hIn hlo hR h hq
 rw [RxAt] at hR
 obtain ⟨gg,cap,cur,rfl,hM,cc,hcc,hcur,hRk⟩:=hR
 rw [OkT] at hok
 obtain ⟨c0,c1,c2,c3,o4,n4,c4,rfl,hNk⟩:=nd_of hRk
 obtain ⟨W1,hW1⟩:∃ W1,W.alloc (.cells (rxV 9 n (unM (some m)) mt0 (.slice (some ⟨gg,0,none⟩) 1 cap)) 25)=W1:=⟨_,rfl⟩
 have h1:MkSt ts N mb lo v W q v W1:=by rw [←hW1];exact h.below ((Below.refl _ _).alloc (Nat.le_refl _) _)
 have hb1:W1.heap[W.heap.size]?=some (.cells (rxV 9 n (unM (some m)) mt0 (.slice (some ⟨gg,0,none⟩) 1 cap)) 25 (0,0)):=by rw [←hW1];exact heap_alloc_new W _
 have hIn1:=h.tree hIn hlo h1
 have g0:W1.cell? ⟨gg,0,none⟩=some (.int .i64 c0):=hIn1.at hM (hcur 0 (by omega))
 have g1:W1.cell? ⟨gg,1,none⟩=some (.int .i64 c1):=hIn1.at hM (hcur 1 (by omega))
 have g2:W1.cell? ⟨gg,2,none⟩=some (.int .i64 c2):=hIn1.at hM (hcur 2 (by omega))
 have g3:W1.cell? ⟨gg,3,none⟩=some (.string c3):=hIn1.at hM (hcur 3 (by omega))
 have g4:W1.cell? ⟨gg,4,none⟩=some (.slice o4 n4 c4):=hIn1.at hM (hcur 4 (by omega))
 have hwt:wtT (.rep n (some m) kid)=(1+wtT kid)*(tmsT n (some m)+1):=by simp [wtT]
 have hwp:=wt_pos kid
 obtain ⟨tm,htm⟩:∃ tm,tm=tmsT n (some m):=⟨_,rfl⟩
 have hcap:2*wtT kid+1+4*tm≤2*wtT (.rep n (some m) kid)-1:=by
  rw [hwt,←htm]
  have:2*tm≤(1+wtT kid)*tm:=Nat.mul_le_mul_right _ (by omega)
  rw [Nat.mul_add]
  omega
 have htm2:m≤tm:=by rw [htm];exact Nat.le_max_right _ _
 have htn:n≤tm:=by rw [htm];exact Nat.le_max_left _ _
 obtain ⟨CAP,hCAP⟩:∃ CAP,CAP=2*wtT (.rep n (some m) kid)-1:=⟨_,rfl⟩
 rw [←hCAP] at hcap
 have hq7:q.length+CAP≤700:=by omega
 have HBX:Hid (∀ (w5:World) (r:List Nq) (ka kk:Nat) (x y:Nq),RS ts N mb lo v W1 q ka x r kk y w5→w5.heap[W.heap.size]?=some (.cells #[.int .i64 9,.int .i64 (n:Int),.int .i64 (unM (some m)),.string mt0,.slice (some ⟨gg,0,none⟩) 1 cap] 25 (0,0))):=hide fun w5 r ka kk x y k=>by
  obtain ⟨v',hm⟩:=k.mac
  exact (h.own_ hW1 hm).trans hb1
 have HC:Hid (Calls Tryd.prog 55 #[.pointer (some ⟨mb,0,none⟩),.agg (rxV c0 c1 c2 c3 (.slice o4 n4 c4))] W1 fun e w5=>∃ (r:List Nq) (ka:Nat) (x:Nq),e=.returned (.int .i64 (ka:Int))∧RS ts N mb lo v W1 q ka x r ka x w5∧r.length≤2*wtT kid-1∧EqB ts.length x.A (rex.mt ts kid) x.s (sp ts kid)):=by
  refine hide ((ih ts N mb lo M q v W1 _ hok.2.2 hIn1 hlo hRk h1.self (by omega)).mono ?_)
  rintro e w5 ⟨r,v5,ka,x,he,k1,k2,k3,k4⟩
  exact ⟨r,ka,x,he,⟨⟨v5,k1⟩,k3,k3⟩,k2,k4⟩
 have HF:Hid (∀ (w':World) (r:List Nq) (ka kk:Nat) (x y:Nq),RS ts N mb lo v W1 q ka x r kk y w'→r.length≤CAP→EqB ts.length y.A (pw (rex.mt ts kid) (moreB ts.length n (some m) (rex.mt ts kid)) n) y.s (pwS (rex.mt ts kid) (moreB ts.length n (some m) (rex.mt ts kid)) (sp ts kid) (moreS ts.length n (some m) (rex.mt ts kid) (sp ts kid)) n)→MadeN ts N mb lo v W q (2*wtT (.rep n (some m) kid)-1) (rex.mt ts (.rep n (some m) kid)) (sp ts (.rep n (some m) kid)) (.returned (.int .i64 (kk:Int))) w'):=by
  refine hide fun w' r ka kk x y k1 k2 k3 => ?_
  obtain ⟨v',hm⟩:=k1.mac
  exact ⟨r,v',kk,y,rfl,h1.then hm,by rw [←hCAP];exact k2,k1.b,k3⟩
 have hn20:n≤20:=hok.1
 have hm20:n≤m∧m≤20:=by exact hok.2.1 m rfl
 unfold rxV at hW1 hb1 HC ⊢
 obtain ⟨p0,p1,p2,p3,p4⟩:=cells5 hb1
 simp only [unM] at *
 clear hok hIn hlo h hq hRk hNk h1 hb1 ih hIn1 hM hcur hcc hwt hCAP htm
 go_enter Tryd.func55,Tryd.ntmps55
 go_wp2_with fail
 (try rw [hW1])
 clear hW1
 refine HC.out.mono ?_
 rintro e w5 ⟨r,ka,x,rfl,k1,k2,k3⟩
 have H2:=hide (k1.empty (by omega))
 have hr1:=k2
 have HX:=hide k3
 clear k1 k2 k3 HC p0 p1 p2 p3 p4 g0 g1 g2 g3 g4
 go_wp2_with fail
 refine H2.out.mono ?_
 rintro e w6 ⟨r2,kk,y,rfl,hr2,k4,k5,k6⟩
 obtain ⟨s0,s1,s2,s3,s4⟩:=cells5 (HBX.out w6 _ _ _ _ _ k4)
 have HX0:Hid (RS ts N mb lo v W1 q ka x r2 kk y w6∧r2.length≤2*wtT kid+1+2*0∧EqB ts.length y.A (mayB (rex.mt ts kid) 0) y.s (mayS (rex.mt ts kid) (sp ts kid) 0)):=hide ⟨k4,by omega,by rw [k5,k6];exact EqB.refl _ _ _⟩
 have hm0:¬ (m:Int)<0:=by omega
 clear k4 k5 k6 H2
 go_wp2
 clear s0 s1 s2 s3 s4
 go_loopw [8,9] (fun v8 v9 wr=>∃ (t:Nat) (r:List Nq) (kk:Nat) (y:Nq),t≤(m-n)∧v8=.int .i64 (kk:Int)∧v9=.int .i64 ((n+t:Nat):Int)∧Hid (RS ts N mb lo v W1 q ka x r kk y wr∧r.length≤2*wtT kid+1+2*t∧EqB ts.length y.A (mayB (rex.mt ts kid) t) y.s (mayS (rex.mt ts kid) (sp ts kid) t))) (fun _ v9 _=>(n+(m-n))-(intOf v9).toNat)
 case atStart=>exact ⟨0,_,_,_,by omega,rfl,by simp,HX0⟩
 case round =>
  obtain ⟨t,r,kk,y,ht,rfl,rfl,HY⟩:=hrel
  clear HX0
  obtain ⟨s0,s1,s2,s3,s4⟩:=cells5 (HBX.out wr _ _ _ _ _ HY.out.1)
  by_cases htd:t<(m-n)
  ·have hti:((n+t:Nat):Int)<(m:Int):=by omega
   have htw:IntKind.i64.wrap (((n+t:Nat):Int)+1)=((n+(t+1):Nat):Int):=by rw [IntKind.wrap_i64];omega
   have hrl:=HY.out.2.1
   have H5:=hide (HY.out.1.both (by omega))
   have HE5:=hide HY.out.2.2
   obtain ⟨nt,hnt⟩:∃ nt,nt=n+t:=⟨_,rfl⟩
   rw [←hnt] at hti htw ⊢
   obtain ⟨nt1,hnt1⟩:∃ nt1,nt1=n+(t+1):=⟨_,rfl⟩
   rw [←hnt1] at htw
   have HNT:=hide (And.intro hnt hnt1)
   clear HY hnt hnt1
   go_wp2_with fail
   refine H5.out.mono ?_
   rintro e w8 ⟨r3,k3,z,rfl,l1,l2,l3,l4⟩
   have H6:=hide (l2.may (by omega))
   have HL:=hide (And.intro l3 l4)
   clear l2 l3 l4 H5 s0 s1 s2 s3 s4
   go_wp2_with fail
   refine H6.out.mono ?_
   rintro e w9 ⟨r5,k5,z5,rfl,j1,j2,j3,j4⟩
   have HE:Hid (RS ts N mb lo v W1 q ka x r5 k5 z5 w9∧r5.length≤2*wtT kid+1+2*(t+1)∧EqB ts.length z5.A (mayB (rex.mt ts kid) (t+1)) z5.s (mayS (rex.mt ts kid) (sp ts kid) (t+1))):=by
    refine hide ⟨j2,by omega,?_⟩
    rw [j3,j4,HL.out.1,HL.out.2]
    exact eq_may HX.out HE5.out
   clear j1 j2 j3 j4 H6 HE5 HL l1
   go_wp2
   go_roundw
   case rel=>exact ⟨t+1,r5,k5,z5,by omega,rfl,by rw [HNT.out.2],HE⟩
   case measure=>(have:=HNT.out;simp [intOf];omega)
  ·obtain rfl:t=(m-n):=by omega
   have hnl:¬ ((n+(m-n):Nat):Int)<(m:Int):=by omega
   have HZ:Hid (RS ts N mb lo v W1 q ka x r kk y wr∧r.length≤2*wtT kid+1+2*(m-n)+0∧EqB ts.length y.A (pw (rex.mt ts kid) (moreB ts.length n (some m) (rex.mt ts kid)) 0) y.s (pwS (rex.mt ts kid) (moreB ts.length n (some m) (rex.mt ts kid)) (sp ts kid) (moreS ts.length n (some m) (rex.mt ts kid) (sp ts kid)) 0)):=hide ⟨HY.out.1,by have:=HY.out.2.1;omega,HY.out.2.2.trans (eq_mayUp _ _ _ _)⟩
   clear HY
   go_wp2
   clear s0 s1 s2 s3 s4
   go_loopw [8,10] (fun v8 v10 wr=>∃ (t:Nat) (r:List Nq) (kk:Nat) (y:Nq),t≤n∧v8=.int .i64 (kk:Int)∧v10=.int .i64 (t:Int)∧Hid (RS ts N mb lo v W1 q ka x r kk y wr∧r.length≤2*wtT kid+1+2*(m-n)+t∧EqB ts.length y.A (pw (rex.mt ts kid) (moreB ts.length n (some m) (rex.mt ts kid)) t) y.s (pwS (rex.mt ts kid) (moreB ts.length n (some m) (rex.mt ts kid)) (sp ts kid) (moreS ts.length n (some m) (rex.mt ts kid) (sp ts kid)) t))) (fun _ v10 _=>n-(intOf v10).toNat)
   case atStart=>exact ⟨0,r,kk,y,by omega,rfl,rfl,HZ⟩
   case round =>
    obtain ⟨t,r,kk,y,ht,rfl,rfl,HY⟩:=hrel
    clear HZ
    obtain ⟨s0,s1,s2,s3,s4⟩:=cells5 (HBX.out wr _ _ _ _ _ HY.out.1)
    by_cases htn2:t<n
    ·have hti:(t:Int)<(n:Int):=by omega
     have htw:IntKind.i64.wrap ((t:Int)+1)=((t+1:Nat):Int):=by rw [IntKind.wrap_i64];omega
     have hrl:=HY.out.2.1
     have H5:=hide (HY.out.1.both (by omega))
     have HE5:=hide HY.out.2.2
     clear HY
     go_wp2_with fail
     refine H5.out.mono ?_
     rintro e w8 ⟨r3,k3,z,rfl,l1,l2,l3,l4⟩
     have HE:Hid (RS ts N mb lo v W1 q ka x r3 k3 z w8∧r3.length≤2*wtT kid+1+2*(m-n)+(t+1)∧EqB ts.length z.A (pw (rex.mt ts kid) (moreB ts.length n (some m) (rex.mt ts kid)) (t+1)) z.s (pwS (rex.mt ts kid) (moreB ts.length n (some m) (rex.mt ts kid)) (sp ts kid) (moreS ts.length n (some m) (rex.mt ts kid) (sp ts kid)) (t+1))):=by
      refine hide ⟨l2,by omega,?_⟩
      rw [l3,l4]
      exact eq_seq HX.out HE5.out
     clear l1 l2 l3 l4 H5 HE5 s0 s1 s2 s3 s4
     go_wp2
     go_roundw
     case rel=>exact ⟨t+1,r3,k3,z,by omega,rfl,by simp,HE⟩
     case measure=>simp [intOf];omega
    ·obtain rfl:t=n:=by omega
     have hnl2:¬ (t:Int)<(t:Int):=by omega
     have HE:=hide (HF.out wr r ka kk x y HY.out.1 (by have:=HY.out.2.1;omega) HY.out.2.2)
     clear HY HBX HF HX
     go_wp2
     go_ret
     exact HE.out
end Go.Proofs.YtfhimmnoipfiaaaDoor.eng
namespace Go.Proofs.YtfhimmnoipfiaaaDoor.eng
open bytes places sets tz rex
structure Rw where
 g:Nat
 cap:Nat
 i:Nat
 j:Nat
def Rw.v (n:Nat) (r:Rw):Value:=.slice (some ⟨r.g,0,none⟩) (2*n+2) r.cap
def Rw.ij (r:Rw):Nat×Nat:=(r.i,r.j)
def curV (n:Nat):Option Rw→Value
 | none=>.slice none 0 0
 | some r=>r.v n
theorem info28:(Tryd.prog.info? 28).map (fun i=>(i.zero,i.size,i.bytes))=some (some (.slice none 0 0),1,24):=by kernel_rfl
structure RowOk (ts:List Int) (T:Tr) (lo:Nat) (O:Lb) (v8:Value) (W:World) (r:Rw):Prop where
 o:O r.g=none
 ne:v8.ownBlock≠some r.g
 lo:lo≤r.g
 spn:Spn W r.g (sp ts T r.i r.j (outs0 r.i r.j (ngT T)))
 len:(sp ts T r.i r.j (outs0 r.i r.j (ngT T))).length=2*ngT T+2
structure AH (ts:List Int) (T:Tr) (M:Fz) (w0:World) (B f1 f2:Nat) (c1 c2:Array Value) (rs:List Rw) (cur:Option Rw) (v8:Value) (W:World):Prop where
 ex:∃ M' K R O,St ts.length M' K (fun _=>none) (lb0 M) w0 R O W∧KdOK ts.length M' K (2*ngT T+2) ⟨.func (.func f1) #[] c1,.func (.func f2) #[] c2,rex.mt ts T,sp ts T⟩∧O B=none∧(∀ r,(r∈rs∨cur=some r)→RowOk ts T w0.heap.size O v8 W r)∧(∀ g,v8.ownBlock=some g→O g=none)
 nb:v8.ownBlock≠some B
 lb:w0.heap.size≤B
 box:W.heap[B]?=some (.cells #[.string (strOfNums ts),.int .i64 (ngT T:Nat),.func (.func f1) #[] c1,.func (.func f2) #[] c2] 51 (0,0))
 own:W.ownsRow w0.heap.size 28 1 v8 rs.length (rs.map (Rw.v (ngT T)))
theorem Spn.of_block {w w':World} {g:Nat} {out:List Int} (h:Spn w g out) (e:w'.heap[g]?=w.heap[g]?):Spn w' g out:=by
 obtain ⟨cur,h1,h2⟩:=h
 exact ⟨cur,e.trans h1,h2⟩
section
variable {ts:List Int} {T:Tr} {M:Fz} {w0 W W':World} {B f1 f2:Nat} {c1 c2:Array Value} {rs:List Rw} {cur:Option Rw} {v8:Value}
theorem ownsRow_lt {W:World} {base:Nat} {e:TypeId} {size:Nat} {v:Value} {n:Nat} {xs:List Value} (h:W.ownsRow base e size v n xs) {g:Nat} (hg:v.ownBlock=some g):g<W.heap.size:=by
 rcases h.2 with ⟨h1,_⟩|⟨g',cap,cur,h1,h2,h3,_⟩
 ·rw [h1] at hg;cases hg
 ·rw [h1] at hg
  simp only [Value.ownBlock,Option.some.injEq] at hg
  rw [←hg];exact (Array.getElem?_eq_some_iff.1 h3).1
theorem ownsRow_of_block {W W':World} {base:Nat} {e:TypeId} {size:Nat} {v:Value} {n:Nat} {xs:List Value} (h:W.ownsRow base e size v n xs) (hs:∀ g,v.ownBlock=some g→W'.heap[g]?=W.heap[g]?):W'.ownsRow base e size v n xs:=by
 refine ⟨h.1,?_⟩
 rcases h.2 with h0 | ⟨g',cap,cur,h1,h2,h3,h4⟩
 ·exact .inl h0
 ·exact .inr ⟨g',cap,cur,h1,h2,(hs g' (by rw [h1];rfl)).trans h3,h4⟩
theorem AH.below (h:AH ts T M w0 B f1 f2 c1 c2 rs cur v8 W) (hb:Below W.heap.size W W'):AH ts T M w0 B f1 f2 c1 c2 rs cur v8 W':=by
 obtain ⟨M',K,R,O,g2,g3,g4,g5,g6⟩:=h.ex
 exact ⟨⟨M',K,R,O,g2.below hb,g3,g4,fun r hr=>⟨(g5 r hr).o,(g5 r hr).ne,(g5 r hr).lo,(g5 r hr).spn.of_block (hb.block _ (g5 r hr).spn.lt),(g5 r hr).len⟩,g6⟩,h.nb,h.lb,(hb.block _ (Array.getElem?_eq_some_iff.1 h.box).1).trans h.box,ownsRow_of_block h.own fun g hg=>hb.block g (ownsRow_lt h.own hg)⟩
theorem AH.drew (h:AH ts T M w0 B f1 f2 c1 c2 rs cur v8 W):AH ts T M w0 B f1 f2 c1 c2 rs cur v8 W.drew:=h.below (Below.refl _ _).drew
theorem AH.old (h:AH ts T M w0 B f1 f2 c1 c2 rs cur v8 W):Below w0.heap.size w0 W:=by
 obtain ⟨M',K,R,O,g2,_⟩:=h.ex
 exact g2.clean
theorem AH.cells (h:AH ts T M w0 B f1 f2 c1 c2 rs cur v8 W):W.cell? ⟨B,0,none⟩=some (.string (strOfNums ts))∧W.cell? ⟨B,1,none⟩=some (.int .i64 (ngT T:Nat))∧W.cell? ⟨B,2,none⟩=some (.func (.func f1) #[] c1)∧W.cell? ⟨B,3,none⟩=some (.func (.func f2) #[] c2):=by
 refine ⟨?_,?_,?_,?_⟩ <;> simp [World.cell?,h.box]
theorem AH.m01 (hT:Good T) {r:Rw} (h:AH ts T M w0 B f1 f2 c1 c2 rs (some r) v8 W) (hij:r.i≤r.j):W.cell? ⟨r.g,0,none⟩=some (.int .i64 (r.i:Int))∧W.cell? ⟨r.g,1,none⟩=some (.int .i64 (r.j:Int)):=by
 obtain ⟨M',K,R,O,g2,g3,g4,g5,g6⟩:=h.ex
 obtain ⟨cur,h1,h2⟩:=(g5 r (.inr rfl)).spn
 refine ⟨?_,?_⟩
 ·have:=h2 0 (r.i:Int) (by rw [sp_low ts hT.num hij _ (by omega)];rfl)
  simp [World.cell?,h1,this]
 ·have:=h2 1 (r.j:Int) (by rw [sp_low ts hT.num hij _ (by omega)];rfl)
  simp [World.cell?,h1,this]
theorem AH.find (hl:ts.length≤22) (hT:Good T) (h:AH ts T M w0 B f1 f2 c1 c2 rs cur v8 W) (p:Nat) (hp:p≤ts.length+1) :
  Calls Tryd.prog 19 #[.agg #[.string (strOfNums ts),.int .i64 (ngT T:Nat),.func (.func f1) #[] c1,.func (.func f2) #[] c2],.int .i64 (p:Int)] W fun e w'=>∃ cur',firstB (rex.mt ts T) ts.length p=cur'.map Rw.ij∧e=.returned (curV (ngT T) cur')∧AH ts T M w0 B f1 f2 c1 c2 rs cur' v8 w':=by
 obtain ⟨M',K,R,O,g2,g3,g4,g5,g6⟩:=h.ex
 refine (find_any ts.length M' K R O W (strOfNums ts) (ngT T) p _ f1 f2 c1 c2 rfl rfl g2.inv hl (strOfNums_size _) hT.ng g3 hp).mono ?_
 rintro e w' ⟨R',O',k1,k2⟩
 have hB:=(Array.getElem?_eq_some_iff.1 h.box).1
 have hs:∀ b,b<W.heap.size→O b=none→w'.heap[b]?=W.heap[b]? := fun b hb ho=>k1.same b hb (.inl ho)
 have base:∀ r,(r∈rs)→RowOk ts T w0.heap.size O' v8 w' r:=fun r hr=>by
  have q:=g5 r (.inl hr)
  exact ⟨(k1.lab _ q.spn.lt).trans q.o,q.ne,q.lo,q.spn.of_block (hs _ q.spn.lt q.o),q.len⟩
 have o8:∀ g,v8.ownBlock=some g→O' g=none:=fun g hg=>(k1.lab g (ownsRow_lt h.own hg)).trans (g6 g hg)
 have hbox:=(hs B hB g4).trans h.box
 have hown:=ownsRow_of_block (W':=w') h.own fun g hg=>hs g (ownsRow_lt h.own hg) (g6 g hg)
 have hsz:=h.old.size
 cases hr:firstB (rex.mt ts T) ts.length p with
 | none =>
  rw [hr] at k2
  exact ⟨none,rfl,k2,⟨M',K,R',O',g2.trans k1,g3,(k1.lab B hB).trans g4,fun r hr=>hr.elim (base r) (fun e=>by cases e),o8⟩,h.nb,h.lb,hbox,hown⟩
 | some x =>
  obtain ⟨i,j⟩:=x
  rw [hr] at k2
  obtain ⟨g,cap,e1,e2,e3,e4,e5⟩:=k2
  refine ⟨some ⟨g,cap,i,j⟩,rfl,e1,⟨M',K,R',O',g2.trans k1,g3,(k1.lab B hB).trans g4,fun r hr=>hr.elim (base r) (fun e => ?_),o8⟩,h.nb,h.lb,hbox,hown⟩
  simp only [Option.some.injEq] at e
  subst e
  exact ⟨e3,fun h8=>by have:=ownsRow_lt h.own h8;simp only at this;omega,by simp only;omega,e4,e5⟩
theorem AH.app {r:Rw} (h:AH ts T M w0 B f1 f2 c1 c2 rs (some r) v8 W) {g' cap':Nat} {W3:World} (h1:W3.ownsRow w0.heap.size 28 1 (.slice (some ⟨g',0,none⟩) (rs.length+1) cap') (rs.length+1) (rs.map (Rw.v (ngT T))++[r.v (ngT T)]))
  (h2:(W.alloc (.cells #[r.v (ngT T)] 28)).grownBy W3 v8.ownBlock) (h3:v8.ownBlock=some g'∨g'=W.heap.size+1):AH ts T M w0 B f1 f2 c1 c2 (rs++[r]) (some r) (.slice (some ⟨g',0,none⟩) (rs.length+1) cap') W3:=by
 obtain ⟨M',K,R,O,g2,g3,g4,g5,g6⟩:=h.ex
 have hB:=(Array.getElem?_eq_some_iff.1 h.box).1
 have hs:∀ b,b<W.heap.size→v8.ownBlock≠some b→W3.heap[b]?=W.heap[b]? := fun b hb hn=>(h2.block b (by simp;omega) hn.symm).trans (Below.heap_alloc _ _ _ hb)
 have hst:St ts.length M' K (fun _=>none) (lb0 M) w0 R O W3:=by
  cases hv:v8.ownBlock with
  | none =>
   rw [hv] at h2
   have hbl:Below W.heap.size W W3:=by
    have hA:=(Below.refl W.heap.size W).alloc (Nat.le_refl _) (.cells #[r.v (ngT T)] 28)
    exact ⟨h2.os.trans hA.os,h2.tape.trans hA.tape,h2.output.trans hA.output,Nat.le_trans hA.size h2.size,fun b hb=>(h2.block b (by simp;omega) (by simp)).trans (hA.block b hb)⟩
   exact g2.below hbl
  | some g =>
   rw [hv] at h2
   have hlo:w0.heap.size≤g:=by
    rcases h.own.2 with ⟨k1,_⟩|⟨g9,cap,cur,k1,k2,_⟩
    ·rw [k1] at hv;cases hv
    ·rw [k1] at hv
     simp only [Value.ownBlock,Option.some.injEq] at hv
     omega
   exact (g2.alloc _).grown h2 (g6 g hv) hlo
 have hb':∀ b,b<W.heap.size→v8.ownBlock≠some b→g'≠b:=by
  intro b hb hn e
  rcases h3 with h3 | h3
  ·rw [e] at h3;exact hn h3
  ·omega
 refine ⟨⟨M',K,R,O,hst,g3,g4,fun q hq => ?_,fun g hg => ?_⟩,?_,h.lb,(hs B hB h.nb).trans h.box,?_⟩
 ·have q5:RowOk ts T w0.heap.size O v8 W q:=by
   rcases hq with hq | hq
   ·rcases List.mem_append.1 hq with hq | hq
    ·exact g5 q (.inl hq)
    ·rw [List.mem_singleton] at hq;rw [hq];exact g5 r (.inr rfl)
   ·exact g5 q (.inr hq)
  exact ⟨q5.o,fun e=>by simp only [Value.ownBlock,Option.some.injEq] at e;exact hb' _ q5.spn.lt q5.ne e,q5.lo,q5.spn.of_block (hs _ q5.spn.lt q5.ne),q5.len⟩
 ·simp only [Value.ownBlock,Option.some.injEq] at hg
  subst hg
  rcases h3 with h3 | h3
  ·exact g6 _ h3
  ·rw [h3];exact g2.fresh (by omega)
 ·intro e
  simp only [Value.ownBlock,Option.some.injEq] at e
  exact hb' _ hB h.nb e
 ·rw [List.length_append,List.length_singleton,List.map_append]
  exact h1
end
end Go.Proofs.YtfhimmnoipfiaaaDoor.eng
namespace Go.Proofs.YtfhimmnoipfiaaaDoor.eng
open bytes places sets tz rex
theorem can_all (m:Mac) (N:Nat) (hl:m.ts.length≤22) (hts:∀ t∈m.ts,0≤t∧t≤255) (hlaw:Laws m.ts N m.q) (hq:m.q.length≤700):∀ u,CanOk m u:=by
 intro u
 induction u using Nat.strongRecOn with
 | _ u ih=>exact can_walk m hl hq u fun k i j x hx hij hj hmu=>find_walk m N hl hts k i j x hx (hlaw k x hx) hij hj (ih _ hmu) hq
def Mac.top (m:Mac):Nat:=m.q.length*(m.ts.length+1)+(m.ts.length+1)
theorem mu_top (m:Mac) {k i j:Nat} (hk:k<m.q.length) (hj:j≤m.ts.length):m.mu k i j<m.top:=by
 have:=mu_kid m (k:=m.q.length) (i:=0) (j:=m.ts.length) (i':=i) hk hj
 unfold Mac.mu at this ⊢
 unfold Mac.top
 omega
structure SW (m:Mac) (og N:Nat) (W0:World) (out:List Int) (W:World):Prop where
 ex:∃ tab,MC m tab W∧TabOk m tab m.top
 spn:Spn W og out
 len:out.length=N
 n1:og≠m.kb
 n2:og≠m.mb
 n3:og≠m.g
 os:W.os=W0.os
 tape:W.tape=W0.tape
 output:W.output=W0.output
 size:W0.heap.size≤W.heap.size
 same:∀ b,b<W0.heap.size→b≠m.kb→b≠og→W.heap[b]?=W0.heap[b]?
section
variable {m:Mac} {og N:Nat} {W0 W W':World} {out out':List Int}
theorem SW.self (h:SW m og N W0 out W):SW m og N W out W:=⟨h.ex,h.spn,h.len,h.n1,h.n2,h.n3,rfl,rfl,rfl,Nat.le_refl _,fun _ _ _ _=>rfl⟩
theorem SW.trans (h:SW m og N W0 out W) (g:SW m og N W out' W'):SW m og N W0 out' W':=⟨g.ex,g.spn,g.len,g.n1,g.n2,g.n3,g.os.trans h.os,g.tape.trans h.tape,g.output.trans h.output,Nat.le_trans h.size g.size,fun b hb h1 h2=>(g.same b (Nat.lt_of_lt_of_le hb h.size) h1 h2).trans (h.same b hb h1 h2)⟩
theorem SW.below (h:SW m og N W0 out W) (hb:Below W.heap.size W W'):SW m og N W0 out W':=by
 obtain ⟨t,h1,h2⟩:=h.ex
 exact ⟨⟨t,h1.below hb,h2⟩,h.spn.of_block (hb.block _ h.spn.lt),h.len,h.n1,h.n2,h.n3,hb.os.trans h.os,hb.tape.trans h.tape,hb.output.trans h.output,Nat.le_trans h.size hb.size,fun b hbb e1 e2=>(hb.block b (Nat.lt_of_lt_of_le hbb h.size)).trans (h.same b hbb e1 e2)⟩
theorem SW.cw (h:SW m og N W0 out W):∃ tab,CW m m.top W tab W∧∀ w',CW m m.top W tab w'→SW m og N W0 out w':=by
 obtain ⟨t,h1,h2⟩:=h.ex
 refine ⟨t,⟨⟨t,h1,h2,fun _ _ _ _=>rfl⟩,grown_of_below (Below.refl _ _)⟩,fun w' h' => ?_⟩
 obtain ⟨t',g1,g2,_⟩:=h'.ex
 exact ⟨⟨t',g1,g2⟩,h.spn.of_block (h'.gr.block _ h.spn.lt (by intro e;simp only [Option.some.injEq] at e;exact h.n1 e)),h.len,h.n1,h.n2,h.n3,h'.gr.os.trans h.os,h'.gr.tape.trans h.tape,h'.gr.output.trans h.output,Nat.le_trans h.size h'.gr.size,fun b hb e1 e2=>(h'.gr.block b (Nat.lt_of_lt_of_le hb h.size) (by intro e;simp only [Option.some.injEq] at e;exact e1 e)).trans (h.same b hb e1 e2)⟩
theorem SW.set (h:SW m og N W0 out W) {x:Nat} (hx:x<N) (v:Int):SW m og N W0 (out.set x v) (W.setCell ⟨og,x,none⟩ (.int .i64 v)):=by
 obtain ⟨t,h1,h2⟩:=h.ex
 have hs:∀ b,b≠og→(W.setCell ⟨og,x,none⟩ (.int .i64 v)).heap[b]?=W.heap[b]? := fun b hb=>heap_setCell_other _ ⟨og,x,none⟩ b _ hb
 exact ⟨⟨t,h1.keep (hs _ h.n2.symm) (hs _ h.n3.symm) (hs _ h.n1.symm),h2⟩,h.spn.set x (by rw [h.len];exact hx) v,by rw [List.length_set];exact h.len,h.n1,h.n2,h.n3,h.os,h.tape,h.output,by simpa using h.size,fun b hb e1 e2=>(hs b e2).trans (h.same b hb e1 e2)⟩
theorem SW.node (h:SW m og N W0 out W) {k:Nat} {x:Nq} (hx:m.q[k]?=some x):W.cell? ⟨m.mb,0,none⟩=some (.slice (some ⟨m.g,0,none⟩) m.q.length m.cap)∧W.cell? ⟨m.g,k*5,none⟩=some (.int .i64 x.kind)∧W.cell? ⟨m.g,k*5+1,none⟩=some (.int .i64 x.n)∧W.cell? ⟨m.g,k*5+2,none⟩=some (.string x.set)∧W.cell? ⟨m.g,k*5+3,none⟩=some (.int .i64 (x.a:Int))∧W.cell? ⟨m.g,k*5+4,none⟩=some (.int .i64 (x.b:Int)):=by
 obtain ⟨t,h1,_⟩:=h.cw
 exact ⟨h1.box.1,h1.node hx⟩
end
def SpanOk (m:Mac) (u:Nat):Prop:=∀ (og N cap:Nat) (W:World) (k i j:Nat) (x:Nq) (out:List Int),k<u→m.q[k]?=some x→Laws m.ts N m.q→i≤j→j≤m.ts.length→x.A i j=true→SW m og N W out W→N≤cap→N≤100 →
 Calls Tryd.prog 37 #[.pointer (some ⟨m.mb,0,none⟩),.int .i64 (k:Int),.int .i64 (i:Int),.int .i64 (j:Int),.slice (some ⟨og,0,none⟩) N cap] W fun e w'=>e=.returned (.tuple #[])∧SW m og N W (x.s i j out) w'
theorem rep_span (a:B2) (s:Sp) {L i j:Nat} (hij:i<j) (hj:j≤L) (h:upTo a L i j=true) (out:List Int):∃ p,far (i+1) (fun x=>a i x && upTo a L x j) j=some p∧a i p=true∧upTo a L p j=true∧i<p∧p≤j∧upToS a s L i j out=upToS a s L p j (s i p out):=by
 rw [rep_step a (by omega) hj] at h
 have hne:decide (i=j)=false:=by simp;omega
 rw [hne,Bool.false_or] at h
 obtain ⟨p,hp⟩:=far_exIn h
 obtain ⟨h1,h2,h3,h4⟩:=far_some hp
 simp only [Bool.and_eq_true] at h3
 refine ⟨p,hp,h3.1,h3.2,by omega,h2,?_⟩
 cases L with
 | zero=>omega
 | succ L =>
  show (if i<j then (match far (i+1) (fun x=>a i x && upTo a L x j) j with | some k=>upToS a s L k j (s i k out) | none=>out) else out)=_
  rw [if_pos hij,far_congr (f:=fun x=>a i x && upTo a L x j) (g:=fun x=>a i x && upTo a (L+1) x j) (fun x g1 g2=>by rw [upTo_same a (t:=L) (u:=L+1) (by omega) (by omega)]),hp]
  exact (upToS_more a s L p j _ (by omega)).symm
set_option maxRecDepth 20000 in
set_option maxHeartbeats 16000000 in
theorem span_walk (m:Mac) (hl:m.ts.length≤22) (hqn:m.q.length≤700) (hc:∀ u,CanOk m u) (k:Nat) (ih:SpanOk m k):SpanOk m (k+1):=by
 intro og N cap W k' i j x out hk' hx hlaws hij hj hm hS hNc hN
 by_cases hkk:k'<k
 ·exact ih og N cap W k' i j x out hkk hx hlaws hij hj hm hS hNc hN
 obtain rfl:k'=k:=by omega
 have hlaw:=hlaws k' x hx
 obtain ⟨W1,hW1⟩:∃ W1,W.alloc (.cells x.cells 100)=W1:=⟨_,rfl⟩
 have hS1:SW m og N W out W1:=by rw [←hW1];exact hS.below ((Below.refl _ _).alloc (Nat.le_refl _) _)
 have hb1:W1.heap[W.heap.size]?=some (.cells x.cells 100 (0,0)):=by rw [←hW1];exact heap_alloc_new W _
 have hbl:W.heap.size<W1.heap.size:=(Array.getElem?_eq_some_iff.1 hb1).1
 have hkb:m.kb<W.heap.size:=by obtain ⟨t,h1,_⟩:=hS.ex;exact h1.lts.2.2
 have hog:og<W.heap.size:=hS.spn.lt
 have hk:=(List.getElem?_eq_some_iff.1 hx).1
 obtain ⟨x0,n0,n1,n2,n3,n4⟩:=hS.node hx
 have HI:Hid (∀ (w5:World) (o2:List Int) (c i2 j2:Nat) (y:Nq),m.q[c]?=some y→c<k'→i2≤j2→j2≤m.ts.length→y.A i2 j2=true→SW m og N W1 o2 w5→w5.heap[W.heap.size]?=W1.heap[W.heap.size]? ∧ Calls Tryd.prog 37 #[.pointer (some ⟨m.mb,0,none⟩),.int .i64 (c:Int),.int .i64 (i2:Int),.int .i64 (j2:Int),.slice (some ⟨og,0,none⟩) N cap] w5 fun e w'=>e=.returned (.tuple #[])∧SW m og N W1 (y.s i2 j2 o2) w'):=by
  refine hide fun w5 o2 c i2 j2 y hy hck h1 h2 h3 h4=>⟨h4.same _ hbl (by omega) (by omega),(ih og N cap w5 c i2 j2 y o2 hck hy hlaws h1 h2 h3 h4.self hNc hN).mono ?_⟩
  rintro e w' ⟨r1,r2⟩
  exact ⟨r1,h4.trans r2⟩
 have HCan:Hid (∀ (w5:World) (o2:List Int) (c i2 j2:Nat) (y:Nq),m.q[c]?=some y→i2≤j2→j2≤m.ts.length→SW m og N W1 o2 w5→Calls Tryd.prog 35 #[.pointer (some ⟨m.mb,0,none⟩),.int .i64 (c:Int),.int .i64 (i2:Int),.int .i64 (j2:Int)] w5 fun e w'=>e=.returned (.bool (y.A i2 j2))∧SW m og N W1 o2 w'):=by
  refine hide fun w5 o2 c i2 j2 y hy h1 h2 h4 => ?_
  obtain ⟨t,g1,g2⟩:=h4.cw
  refine (hc m.top w5 w5 t c i2 j2 y m.top hy h1 h2 (mu_top m (List.getElem?_eq_some_iff.1 hy).1 h2) (Nat.le_refl _) g1).mono ?_
  rintro e w' ⟨r1,r2⟩
  exact ⟨r1,g2 w' r2⟩
 have HSplit:Hid (∀ (w5:World) (o2:List Int) (a b i2 j2 least:Nat) (y z:Nq),m.q[a]?=some y→m.q[b]?=some z→i2≤least→least≤j2+1→j2≤m.ts.length→SW m og N W1 o2 w5→Calls Tryd.prog 57 #[.pointer (some ⟨m.mb,0,none⟩),.int .i64 (a:Int),.int .i64 (b:Int),.int .i64 (i2:Int),.int .i64 (j2:Int),.int .i64 (least:Int)] w5 fun e w'=>e=.returned (.int .i64 (splitV least (fun x=>y.A i2 x && z.A x j2) j2))∧SW m og N W1 o2 w'):=by
  refine hide fun w5 o2 a b i2 j2 least y z hy hz h1 h2 h3 h4 => ?_
  obtain ⟨t,g1,g2⟩:=h4.cw
  refine (split_any m hl m.top m.top (hc _) w5 w5 t a b i2 j2 least y z hy hz h1 h2 h3 (Nat.le_refl _) (fun p q1 q2=>mu_top m (List.getElem?_eq_some_iff.1 hy).1 (by omega)) (fun p q1 q2=>mu_top m (List.getElem?_eq_some_iff.1 hz).1 (by omega)) g1).mono ?_
  rintro e w' ⟨r1,r2⟩
  exact ⟨r1,g2 w' r2⟩
 have HE0:Hid (∀ (w':World) (o2:List Int),SW m og N W1 o2 w'→SW m og N W o2 w'):=hide fun w' o2 h=>hS1.trans h
 have hX:=hS1.self
 have HX:=hide hX
 have HB:Hid (∀ (w5:World) (o2:List Int),SW m og N W1 o2 w5→w5.heap[W.heap.size]?=W1.heap[W.heap.size]?):=hide fun w5 o2 h4=>h4.same _ hbl (by omega) (by omega)
 have HK:=hide (And.intro hx hm)
 have hbn:W.heap.size≠og:=by omega
 have hbo:og≠W.heap.size:=by omega
 clear hS hS1 hX ih hc hlaws hx hm hkk
 unfold Nq.cells at hb1 hW1
 rcases hlaw with ⟨hkd,hx2,hx3,hA,hs⟩|⟨hkd,hA,hs⟩|⟨l,hkd,hset,hlb,hll,hA,hs⟩|⟨hkd,hA,hs⟩|⟨hkd,hA,hs⟩|⟨hkd,hA,hs⟩|⟨mm,y,hkd,hn,hm1,hm2,hm3,hak,hy,hA,hs⟩|⟨y,z,hkd,hak,hbk,hy,hz,hA,hs⟩|⟨y,hkd,hak,hy,hA,hs⟩|⟨y,hkd,hak,hy,hA,hs⟩|⟨y,z,hkd,hak,hbk,hy,hz,hA,hs⟩
 ·rw [hkd] at hW1 hb1 n0
  obtain ⟨p0,p1,p2,p3,p4⟩:=cells5 hb1
  clear hkd
  clear HI HCan HSplit hb1
  go_enter Tryd.func37,Tryd.ntmps37
  go_wp2_with fail
  (try rw [hW1])
  clear hW1 n0 n1 n2 n3 n4 x0
  go_end0
  exact ⟨rfl,by rw [hs];exact HE0.out _ _ HX.out⟩
 ·rw [hkd] at hW1 hb1 n0
  obtain ⟨p0,p1,p2,p3,p4⟩:=cells5 hb1
  clear hkd
  clear HI HCan HSplit hb1
  go_enter Tryd.func37,Tryd.ntmps37
  go_wp2_with fail
  (try rw [hW1])
  clear hW1 n0 n1 n2 n3 n4 x0
  go_end0
  exact ⟨rfl,by rw [hs];exact HE0.out _ _ HX.out⟩
 ·clear hset
  rw [hkd] at hW1 hb1 n0
  obtain ⟨p0,p1,p2,p3,p4⟩:=cells5 hb1
  clear hkd
  clear HI HCan HSplit hb1
  go_enter Tryd.func37,Tryd.ntmps37
  go_wp2_with fail
  (try rw [hW1])
  clear hW1 n0 n1 n2 n3 n4 x0
  go_end0
  exact ⟨rfl,by rw [hs];exact HE0.out _ _ HX.out⟩
 ·rw [hkd] at hW1 hb1 n0
  obtain ⟨p0,p1,p2,p3,p4⟩:=cells5 hb1
  clear hkd
  clear HI HCan HSplit hb1
  go_enter Tryd.func37,Tryd.ntmps37
  go_wp2_with fail
  (try rw [hW1])
  clear hW1 n0 n1 n2 n3 n4 x0
  go_end0
  exact ⟨rfl,by rw [hs];exact HE0.out _ _ HX.out⟩
 ·rw [hkd] at hW1 hb1 n0
  obtain ⟨p0,p1,p2,p3,p4⟩:=cells5 hb1
  clear hkd
  clear HI HCan HSplit hb1
  go_enter Tryd.func37,Tryd.ntmps37
  go_wp2_with fail
  (try rw [hW1])
  clear hW1 n0 n1 n2 n3 n4 x0
  go_end0
  exact ⟨rfl,by rw [hs];exact HE0.out _ _ HX.out⟩
 ·rw [hkd] at hW1 hb1 n0
  obtain ⟨p0,p1,p2,p3,p4⟩:=cells5 hb1
  clear hkd
  clear HI HCan HSplit hb1
  go_enter Tryd.func37,Tryd.ntmps37
  go_wp2_with fail
  (try rw [hW1])
  clear hW1 n0 n1 n2 n3 n4 x0
  go_end0
  exact ⟨rfl,by rw [hs];exact HE0.out _ _ HX.out⟩
 ·rw [hkd] at hW1 hb1 n0
  obtain ⟨p0,p1,p2,p3,p4⟩:=cells5 hb1
  clear hkd
  rw [hn] at hW1 hb1 n1 p1
  have hlen:=HX.out.len
  obtain ⟨v0,hv0⟩:∃ v,out[2*mm]?=some v:=⟨_,List.getElem?_eq_getElem (by omega)⟩
  obtain ⟨v1,hv1⟩:∃ v,out[2*mm+1]?=some v:=⟨_,List.getElem?_eq_getElem (by omega)⟩
  have hs1:=HX.out.set (x:=2*mm) (by omega) (i:Int)
  have hs2:=hs1.set (x:=2*mm+1) (by omega) (j:Int)
  have y0:=HX.out.spn.cell hv0
  have y1:=HX.out.spn.cell hv1
  have y2:=HX.out.spn.fr (2*mm)
  have y3:=HX.out.spn.fr (2*mm+1)
  obtain ⟨i0,hp0⟩:∃ p,p=2*mm:=⟨_,rfl⟩
  obtain ⟨i1,hp1⟩:∃ p,p=2*mm+1:=⟨_,rfl⟩
  have w0:IntKind.i64.wrap (2*(mm:Int))=(i0:Int):=by rw [IntKind.wrap_i64];omega
  have w1:IntKind.i64.wrap ((i0:Int)+1)=(i1:Int):=by rw [IntKind.wrap_i64];omega
  have l0:(i0:Int)<(N:Int):=by omega
  have l1:(i1:Int)<(N:Int):=by omega
  have hne:i0≠i1:=by omega
  rw [←hp0] at hs1
  rw [←hp1,←hp0] at hs2
  have hR:x.s i j out=y.s i j ((out.set i0 (i:Int)).set i1 (j:Int)):=by rw [hs,hp0,hp1]
  have HR:=hide hR
  obtain ⟨W3,hW3⟩:∃ W3,W3=(W1.setCell ⟨og,i0,none⟩ (.int .i64 (i:Int))).setCell ⟨og,i1,none⟩ (.int .i64 (j:Int)):=⟨_,rfl⟩
  rw [←hW3] at hs2
  obtain ⟨c1,c2⟩:=HI.out W3 _ x.a i j y hy hak hij hj (by rw [←hA];exact HK.out.2) hs2
  have HC:=hide c2
  rw [←hp0] at y0 y2
  rw [←hp1] at y1 y3
  clear hs1 hs2 hp0 hp1 hv0 hv1 c1 c2 hR hs hA HCan HSplit HI HX hn
  go_enter Tryd.func37,Tryd.ntmps37
  go_wp2_with fail
  (try rw [hW1])
  clear hW1 n0 n1 n2 n3 n4 x0
  (try rw [←hW3])
  refine HC.out.mono ?_
  rintro e w' ⟨rfl,h2⟩
  have HE:=hide (HE0.out _ _ h2)
  clear h2 HC hW3
  go_wp2
  go_end0
  exact ⟨rfl,by rw [HR.out];exact HE.out⟩
 ·rw [hkd] at hW1 hb1 n0
  obtain ⟨p0,p1,p2,p3,p4⟩:=cells5 hb1
  clear hkd
  have hR:x.s i j out=if y.A i j=true then y.s i j out else z.s i j out:=by rw [hs]
  have hm2:(y.A i j || z.A i j)=true:=by have:=HK.out.2;rw [hA] at this;exact this
  have H1:=hide (HCan.out W1 out x.a i j y hy hij hj HX.out)
  have HB1:=hide hb1
  cases hyA:y.A i j with
  | true =>
   rw [hyA] at H1
   rw [if_pos hyA] at hR
   have HR:=hide hR
   have H2:Hid (∀ w5,SW m og N W1 out w5→w5.heap[W.heap.size]?=W1.heap[W.heap.size]? ∧ _):=hide fun w5 h5=>HI.out w5 out x.a i j y hy hak hij hj hyA h5
   clear hR hs hA HCan HSplit HI HX hyA hb1
   go_enter Tryd.func37,Tryd.ntmps37
   go_wp2_with fail
   (try rw [hW1])
   clear hW1 n0 n1 n2 n3 n4 x0
   refine H1.out.mono ?_
   rintro e w5 ⟨rfl,h5⟩
   obtain ⟨k1,k2⟩:=H2.out w5 h5
   obtain ⟨r0,r1,r2,r3,r4⟩:=cells5 (k1.trans HB1.out)
   have H3:=hide k2
   clear h5 H1 k1 k2 p0 p1 p2 p3 p4 H2
   go_wp2_with fail
   refine H3.out.mono ?_
   rintro e w6 ⟨rfl,h6⟩
   have HE:=hide (HE0.out _ _ h6)
   clear h6 H3
   go_wp2
   go_end0
   exact ⟨rfl,by rw [HR.out];exact HE.out⟩
  | false =>
   rw [hyA] at H1
   rw [if_neg (by rw [hyA];decide)] at hR
   rw [hyA,Bool.false_or] at hm2
   have HR:=hide hR
   have H2:Hid (∀ w5,SW m og N W1 out w5→w5.heap[W.heap.size]?=W1.heap[W.heap.size]? ∧ _):=hide fun w5 h5=>HI.out w5 out x.b i j z hz hbk hij hj hm2 h5
   clear hR hs hA HCan HSplit HI HX hyA hb1 hm2
   go_enter Tryd.func37,Tryd.ntmps37
   go_wp2_with fail
   (try rw [hW1])
   clear hW1 n0 n1 n2 n3 n4 x0
   refine H1.out.mono ?_
   rintro e w5 ⟨rfl,h5⟩
   obtain ⟨k1,k2⟩:=H2.out w5 h5
   obtain ⟨r0,r1,r2,r3,r4⟩:=cells5 (k1.trans HB1.out)
   have H3:=hide k2
   clear h5 H1 k1 k2 p0 p1 p2 p3 p4 H2
   go_wp2_with fail
   refine H3.out.mono ?_
   rintro e w6 ⟨rfl,h6⟩
   have HE:=hide (HE0.out _ _ h6)
   clear h6 H3
   go_wp2
   go_end0
   exact ⟨rfl,by rw [HR.out];exact HE.out⟩
 ·rw [hkd] at hW1 hb1 n0
  obtain ⟨p0,p1,p2,p3,p4⟩:=cells5 hb1
  clear hkd
  have hR:x.s i j out=if i<j then y.s i j out else out:=by rw [hs]
  have hm2:(decide (i=j) || y.A i j)=true:=by have:=HK.out.2;rw [hA] at this;exact this
  by_cases h0:i<j
  ·rw [if_pos h0] at hR
   have hne:decide (i=j)=false:=by simp;omega
   rw [hne,Bool.false_or] at hm2
   have HR:=hide hR
   have hii:(i:Int)<(j:Int):=by omega
   have H3:=hide (HI.out W1 out x.a i j y hy hak hij hj hm2 HX.out).2
   clear hR hs hA HCan HSplit HI HX hb1 hm2 hne h0
   go_enter Tryd.func37,Tryd.ntmps37
   go_wp2_with fail
   (try rw [hW1])
   clear hW1 n0 n1 n2 n3 n4 x0
   refine H3.out.mono ?_
   rintro e w6 ⟨rfl,h6⟩
   have HE:=hide (HE0.out _ _ h6)
   clear h6 H3
   go_wp2
   go_end0
   exact ⟨rfl,by rw [HR.out];exact HE.out⟩
  ·rw [if_neg h0] at hR
   have HR:=hide hR
   have hii:¬ (i:Int)<(j:Int):=by omega
   have HE:=hide (HE0.out _ _ HX.out)
   clear hR hs hA HCan HSplit HI HX hb1 hm2 h0
   go_enter Tryd.func37,Tryd.ntmps37
   go_wp2_with fail
   (try rw [hW1])
   clear hW1 n0 n1 n2 n3 n4 x0
   go_end0
   exact ⟨rfl,by rw [HR.out];exact HE.out⟩
 ·rw [hkd] at hW1 hb1 n0
  obtain ⟨p0,p1,p2,p3,p4⟩:=cells5 hb1
  clear hkd
  obtain ⟨RES,hRES⟩:∃ RES,RES=x.s i j out:=⟨_,rfl⟩
  have HX0:Hid (SW m og N W1 out W1∧RES=upToS y.A y.s m.ts.length i j out∧upTo y.A m.ts.length i j=true):=hide ⟨HX.out,by rw [hRES,hs],by have:=HK.out.2;rw [hA] at this;exact this⟩
  have HR:=hide hRES
  have HB1:=hide hb1
  have hq1:=HK.out.1
  have HAx:Hid (x.A=upTo y.A m.ts.length):=hide hA
  clear HCan HX hb1 hRES hs hA
  go_enter Tryd.func37,Tryd.ntmps37
  go_wp2_with fail
  (try rw [hW1])
  clear hW1 n0 n1 n2 n3 n4 x0
  clear p0 p1 p2 p3 p4
  go_loopw [2,11] (fun v2 v11 wr=>∃ (i':Nat) (o2:List Int),i'≤j∧v2=.int .i64 (i':Int)∧Hid (SW m og N W1 o2 wr∧RES=upToS y.A y.s m.ts.length i' j o2∧upTo y.A m.ts.length i' j=true)) (fun v2 _ _=>j-(intOf v2).toNat)
  case atStart=>exact ⟨i,out,hij,rfl,HX0⟩
  case round =>
   obtain ⟨i',o2,hi',rfl,HY⟩:=hrel
   clear HX0
   obtain ⟨r0,r1,r2,r3,r4⟩:=cells5 ((HB.out wr o2 HY.out.1).trans HB1.out)
   by_cases h0:i'<j
   ·obtain ⟨p,e1,e2,e3,e4,e5,e6⟩:=rep_span y.A y.s h0 hj HY.out.2.2 o2
    have H1:=HSplit.out wr o2 x.a k' i' j (i'+1) y x hy hq1 (by omega) (by omega) hj HY.out.1
    rw [HAx.out] at H1
    unfold splitV at H1
    rw [e1] at H1
    have H1:Calls Tryd.prog 57 #[.pointer (some ⟨m.mb,0,none⟩),.int .i64 (x.a:Int),.int .i64 (k':Int),.int .i64 (i':Int),.int .i64 (j:Int),.int .i64 ((i':Int)+1)] wr fun e w'=>e=.returned (.int .i64 (p:Int))∧SW m og N W1 o2 w':=H1
    have H1:=hide H1
    have H2:Hid (∀ w5,SW m og N W1 o2 w5→w5.heap[W.heap.size]?=W1.heap[W.heap.size]? ∧ _):=hide fun w5 h5=>HI.out w5 o2 x.a i' p y hy hak (by omega) (by omega) e2 h5
    have HS:=hide (And.intro (HY.out.2.1.trans e6) e3)
    have hiw:IntKind.i64.wrap ((i':Int)+1)=(i':Int)+1:=by rw [IntKind.wrap_i64];omega
    have hii:(i':Int)<(j:Int):=by omega
    clear e1 e2 e3 e6 HSplit HI HY
    go_wp2_with fail
    refine H1.out.mono ?_
    rintro e w5 ⟨rfl,h5⟩
    obtain ⟨k1,k2⟩:=H2.out w5 h5
    obtain ⟨s0,s1,s2,s3,s4⟩:=cells5 (k1.trans HB1.out)
    have H3:=hide k2
    clear h5 H1 k1 k2 r0 r1 r2 r3 r4 H2
    go_wp2_with fail
    refine H3.out.mono ?_
    rintro e w6 ⟨rfl,h6⟩
    have HE:=hide h6
    clear h6 H3
    go_wp2
    go_roundw
    case rel=>exact ⟨p,_,by omega,rfl,hide ⟨HE.out,HS.out.1,HS.out.2⟩⟩
    case measure=>simp [intOf];omega
   ·have hii:¬ (i':Int)<(j:Int):=by omega
    obtain rfl:i'=j:=by omega
    have hZ:RES=o2:=by
     rw [HY.out.2.1]
     cases m.ts.length with
     | zero=>rfl
     | succ n=>exact if_neg (by omega)
    have HE:=hide (And.intro (HE0.out _ _ HY.out.1) (hZ.symm.trans HR.out))
    clear HY HSplit HI hZ
    go_wp2
    go_end0
    exact ⟨rfl,by rw [←HE.out.2];exact HE.out.1⟩
 ·rw [hkd] at hW1 hb1 n0
  obtain ⟨p0,p1,p2,p3,p4⟩:=cells5 hb1
  clear hkd
  have hm2:exIn i j (fun p=>y.A i p && z.A p j)=true:=by have:=HK.out.2;rw [hA] at this;exact this
  obtain ⟨p,hp⟩:=far_exIn hm2
  obtain ⟨e1,e2,e3,e4⟩:=far_some hp
  simp only [Bool.and_eq_true] at e3
  have hR:x.s i j out=z.s p j (y.s i p out):=by rw [hs];unfold seqS;rw [hp]
  have HR:=hide hR
  have H1:=HSplit.out W1 out x.a x.b i j i y z hy hz (by omega) (by omega) hj HX.out
  unfold splitV at H1
  rw [hp] at H1
  have H1:Calls Tryd.prog 57 #[.pointer (some ⟨m.mb,0,none⟩),.int .i64 (x.a:Int),.int .i64 (x.b:Int),.int .i64 (i:Int),.int .i64 (j:Int),.int .i64 (i:Int)] W1 fun e w'=>e=.returned (.int .i64 (p:Int))∧SW m og N W1 out w':=H1
  have H1:=hide H1
  have H2:Hid (∀ w5,SW m og N W1 out w5→w5.heap[W.heap.size]?=W1.heap[W.heap.size]? ∧ _):=hide fun w5 h5=>HI.out w5 out x.a i p y hy hak (by omega) (by omega) e3.1 h5
  have H4:Hid (∀ w5,SW m og N W1 (y.s i p out) w5→w5.heap[W.heap.size]?=W1.heap[W.heap.size]? ∧ _):=hide fun w5 h5=>HI.out w5 _ x.b p j z hz hbk (by omega) (by omega) e3.2 h5
  have HB1:=hide hb1
  clear hR hs hA HCan HSplit HI HX hb1 hm2 hp e3 e4
  go_enter Tryd.func37,Tryd.ntmps37
  go_wp2_with fail
  (try rw [hW1])
  clear hW1 n0 n1 n2 n3 n4 x0
  refine H1.out.mono ?_
  rintro e w5 ⟨rfl,h5⟩
  obtain ⟨k1,k2⟩:=H2.out w5 h5
  obtain ⟨r0,r1,r2,r3,r4⟩:=cells5 (k1.trans HB1.out)
  have H3:=hide k2
  clear h5 H1 k1 k2 p0 p1 p2 p3 p4 H2
  go_wp2_with fail
  refine H3.out.mono ?_
  rintro e w6 ⟨rfl,h6⟩
  obtain ⟨k1,k2⟩:=H4.out w6 h6
  obtain ⟨s0,s1,s2,s3,s4⟩:=cells5 (k1.trans HB1.out)
  have H5:=hide k2
  clear h6 H3 k1 k2 r0 r1 r2 r3 r4 H4
  go_wp2_with fail
  refine H5.out.mono ?_
  rintro e w7 ⟨rfl,h7⟩
  have HE:=hide (HE0.out _ _ h7)
  clear h7 H5
  go_wp2
  go_end0
  exact ⟨rfl,by rw [HR.out];exact HE.out⟩
theorem span_all (m:Mac) (N:Nat) (hl:m.ts.length≤22) (hts:∀ t∈m.ts,0≤t∧t≤255) (hlaw:Laws m.ts N m.q) (hqn:m.q.length≤700):∀ u,SpanOk m u
 | 0=>fun _ _ _ _ _ _ _ _ _ h=>absurd h (Nat.not_lt_zero _)
 | u+1=>span_walk m hl hqn (can_all m N hl hts hlaw hqn) u (span_all m N hl hts hlaw hqn u)
end Go.Proofs.YtfhimmnoipfiaaaDoor.eng
namespace Go.Proofs.YtfhimmnoipfiaaaDoor.eng
open bytes places sets tz rex
theorem make_any (T:Tr):MakeOf T:=by_kids (P:=MakeOf) (fun T h=>by
 cases T with
 | char b=>exact make_leaf _ rfl (fun _ e=>by cases e)
 | any=>exact make_leaf _ rfl (fun _ e=>by cases e)
 | set s=>exact make_leaf _ rfl (fun _ e=>by cases e)
 | beg=>exact make_leaf _ rfl (fun _ e=>by cases e)
 | fin=>exact make_leaf _ rfl (fun _ e=>by cases e)
 | group n k=>exact make_group n k (h 0 k rfl)
 | cat ks =>
  by_cases e:ks=[]
  ·subst e;exact make_none
  ·exact make_cat ks e h
 | alt ks =>
  by_cases e:ks=[]
  ·subst e
   intro ts N mb lo M q v W cs hok
   rw [OkT] at hok
   simp at hok
  ·exact make_alt ks e h
 | rep n m k =>
  cases m with
  | none=>exact make_rep_inf n k (h 0 k rfl)
  | some m=>exact make_rep_upto n m k (h 0 k rfl)) _ T (Nat.le_refl _)
theorem info5':(Tryd.prog.info? 5).map (fun i=>(i.zero,i.size,i.bytes))=some (some (.int .u8 0),1,1):=by kernel_rfl
theorem make22 (n:Nat) (hn:n≤1000000) (W:World):(Instr.makeSlice 22 (.int .i64 (n:Int)) (.int .i64 (n:Int))).run Tryd.prog W=.ok (.slice (some ⟨W.heap.size,0,none⟩) n n) (W.alloc (.cells (madeCells #[.int .u8 0] (n*1)) 5)):=by
 obtain ⟨i0,hi,hz0,hz1,hz2⟩:=info_parts info5'
 have h:=run_make (P:=Tryd.prog) W 22 5 i0 _ Tryd.underlying22 hi hz0 .i64 .i64 n n (by omega) (Int.le_refl _) (by rw [hz2];omega) (by omega)
 rw [hz1,Int.toNat_natCast] at h
 exact h
structure Ready (ts:List Int) (T:Tr) (N:Nat) (m:Mac) (root:Nat) (W:World):Prop where
 ts_:m.ts=ts
 laws:Laws ts N m.q
 len:m.q.length≤700
 root_:∃ x,m.q[root]?=some x∧EqB ts.length x.A (rex.mt ts T) x.s (sp ts T)
 mc:MC m (fun _ _ _=>0) W
theorem ready_of {ts:List Int} {T:Tr} {N mb lo g cap k:Nat} {W0 w5:World} {v0:Value} {q:List Nq} {x:Nq} (h:MkSt ts N mb lo v0 W0 q (.slice (some ⟨g,0,none⟩) q.length cap) w5) (hq:q.length≤700) (hk:q[k]?=some x) (he:EqB ts.length x.A (rex.mt ts T) x.s (sp ts T)) (P2:Nat) (hP:P2=q.length*(ts.length+1)*(ts.length+1)) (W:World) (hW:W=(w5.alloc (.cells (madeCells #[.int .u8 0] (P2*1)) 5)).setCell ⟨mb,2,none⟩ (.slice (some ⟨w5.heap.size,0,none⟩) P2 P2)) :
  Ready ts T N ⟨ts,q,mb,g,cap,w5.heap.size⟩ k W:=by
 have hl:=h.lts
 have hg:=(hl.2 g rfl).1
 have hgm:g≠mb:=fun e=>h.nb (by rw [e];rfl)
 have hs:∀ b,b≠mb→b<w5.heap.size→W.heap[b]?=w5.heap[b]? := fun b h1 h2=>by
  rw [hW]
  exact (heap_setCell_other _ ⟨mb,2,none⟩ b _ h1).trans (Below.heap_alloc _ _ _ h2)
 refine ⟨rfl,h.laws,hq,⟨x,hk,he⟩,⟨?_,?_,⟨madeCells #[.int .u8 0] (P2*1),?_,fun a b c ha hb hc => ?_⟩,by simp;omega,by simp;omega⟩⟩
 ·have hbx:=(Below.heap_alloc w5 (.cells (madeCells #[.int .u8 0] (P2*1)) 5) mb hl.1).trans h.box
  have h2:=heap_setCell_same _ mb 2 _ 97 (.slice (some ⟨w5.heap.size,0,none⟩) P2 P2) hbx
  rw [hW]
  simpa [←hP] using h2
 ·rcases h.own.2 with ⟨h0,_⟩|⟨g',cap',cur,k1,k2,k3,k4,k5,k6,k7⟩
  ·cases h0
  ·simp only [Value.slice.injEq,Option.some.injEq,Addr.mk.injEq,and_true,true_and] at k1
   obtain ⟨rfl,rfl⟩:=k1
   refine ⟨cur,(hs g hgm hg).trans k3,fun k x hx c hc => ?_⟩
   have hkl:=(List.getElem?_eq_some_iff.1 hx).1
   have h1:=cellsOf_at hx c hc
   rw [←k7,List.getElem?_take_of_lt (by simp only at hkl;omega)] at h1
   rw [←h1];simp
 ·rw [hW]
  exact (heap_setCell_other _ ⟨mb,2,none⟩ _ _ (by simp;omega)).trans (heap_alloc_new w5 _)
 ·have hlt:=at_lt ⟨ts,q,mb,g,cap,w5.heap.size⟩ ha hb hc
  rw [made_at _ _ _ (by simp only at hlt;omega)]
  simp [Nat.mod_one]
set_option maxRecDepth 20000 in
set_option maxHeartbeats 8000000 in
theorem machine_any (ts:List Int) (hl:ts.length≤22) (T:Tr) (hT:Good T) (M:Fz) (w:World) (cs:Array Value) (hIn:In M w) (hR:RxAt M T cs) :
  Calls Tryd.prog 34 #[.agg cs,.string (strOfNums ts)] w fun e w'=>∃ (m:Mac) (root:Nat),e=.returned (.tuple #[.pointer (some ⟨m.mb,0,none⟩),.int .i64 (root:Int)])∧Ready ts T (2*ngT T+2) m root w'∧Below w.heap.size w w'∧w.heap.size≤m.mb∧w.heap.size≤m.kb∧w.heap.size≤m.g:=by
 obtain ⟨kind,n9,m9,ss,o,ln,cp,rfl,hN⟩:=nd_of hR
 obtain ⟨W2,hW2⟩:∃ W2,(w.alloc (.cells (rxV kind n9 m9 ss (.slice o ln cp)) 25)).alloc (.cells #[.slice none 0 0,.string (strOfNums ts),.slice none 0 0] 97)=W2:=⟨_,rfl⟩
 have hB:Below w.heap.size w W2:=by rw [←hW2];exact ((Below.refl _ _).alloc (Nat.le_refl _) _).alloc (by simp) _
 have hbx:W2.heap[w.heap.size+1]?=some (.cells #[.slice none 0 0,.string (strOfNums ts),.slice none 0 0] 97 (0,0)):=by
  rw [←hW2]
  have h:=heap_alloc_new (w.alloc (.cells (rxV kind n9 m9 ss (.slice o ln cp)) 25)) (.cells #[.slice none 0 0,.string (strOfNums ts),.slice none 0 0] 97)
  rw [World.size_alloc] at h
  exact h
 have hz2:W2.heap.size=w.heap.size+2:=by rw [←hW2];simp
 have hb0:W2.heap[w.heap.size]?=some (.cells (rxV kind n9 m9 ss (.slice o ln cp)) 25 (0,0)):=by
  rw [←hW2,Below.heap_alloc _ _ _ (by simp)]
  exact heap_alloc_new w _
 have hMk:MkSt ts (2*ngT T+2) (w.heap.size+1) (w.heap.size+1) (.slice none 0 0) W2 [] (.slice none 0 0) W2:=⟨hbx,⟨rfl,.inl ⟨rfl,rfl⟩⟩,fun k x hx=>by simp at hx,Nat.le_refl _,by simp [Value.ownBlock],rfl,rfl,rfl,Nat.le_refl _,fun _ _ _ _=>rfl,fun g hg=>by cases hg⟩
 have hwt:=hT.wt
 have HC:Hid (Calls Tryd.prog 55 #[.pointer (some ⟨w.heap.size+1,0,none⟩),.agg (rxV kind n9 m9 ss (.slice o ln cp))] W2 fun e w5=>∃ (q:List Nq) (g cap k:Nat) (x:Nq),e=.returned (.int .i64 (k:Int))∧MkSt ts (2*ngT T+2) (w.heap.size+1) (w.heap.size+1) (.slice none 0 0) W2 q (.slice (some ⟨g,0,none⟩) q.length cap) w5∧q.length≤600∧q[k]?=some x∧EqB ts.length x.A (rex.mt ts T) x.s (sp ts T)):=by
  refine hide ((make_any T ts (2*ngT T+2) (w.heap.size+1) (w.heap.size+1) M [] _ W2 _ hT.ok (hIn.below hB) (fun b o hb=>by have:=(Array.getElem?_eq_some_iff.1 (hIn b o hb)).1;omega) hR hMk (by simp;omega)).mono ?_)
  rintro e w5 ⟨r,v',k,x,he,h1,h2,h3,h4⟩
  rw [List.nil_append] at h1 h3
  rcases h1.own.2 with ⟨_,h0⟩|⟨g,cap,cur,k1,_⟩
  ·have:=(List.getElem?_eq_some_iff.1 h3).1
   omega
  ·subst k1
   exact ⟨r,g,cap,k,x,he,h1,by omega,h3,h4⟩
 have HB:=hide (And.intro hB hz2)
 have hS:=strOfNums_size ts
 obtain ⟨L1,hL1⟩:∃ L1,L1=ts.length+1:=⟨_,rfl⟩
 have e1:IntKind.i64.wrap ((ts.length:Int)+1)=(L1:Int):=by rw [IntKind.wrap_i64];omega
 have hL23:L1≤23:=by omega
 have HL1:=hide hL1
 have HSS:Hid (∀ (q:List Nq) (g cap k:Nat) (x:Nq) (w5:World),MkSt ts (2*ngT T+2) (w.heap.size+1) (w.heap.size+1) (.slice none 0 0) W2 q (.slice (some ⟨g,0,none⟩) q.length cap) w5→w5.heap[w.heap.size+1]?=some (.cells #[.slice (some ⟨g,0,none⟩) q.length cap,.string (strOfNums ts),.slice none 0 0] 97 (0,0))):=hide fun q g cap k x w5 h=>h.box
 obtain ⟨SS,hSS⟩:∃ SS,SS=strOfNums ts:=⟨_,rfl⟩
 rw [←hSS] at hS hW2 ⊢
 unfold rxV at hW2 HC hb0 ⊢
 obtain ⟨p0,p1,p2,p3,p4⟩:=cells5 hb0
 clear hR hIn hN hB hbx hz2 hMk hwt hL1 hSS hb0
 go_enter Tryd.func34,Tryd.ntmps34
 go_wp2_with fail
 (try rw [hW2])
 refine HC.out.mono ?_
 rintro e w5 ⟨q,g,cap,k,x,rfl,h1,h2,h3,h4⟩
 have hbx:=HSS.out q g cap k x w5 h1
 have hmb:=h1.lts.1
 have z0:w5.cell? ⟨w.heap.size+1,0,none⟩=some (.slice (some ⟨g,0,none⟩) q.length cap):=by simp [World.cell?,hbx]
 obtain ⟨P1,hP1⟩:∃ P1,P1=q.length*L1:=⟨_,rfl⟩
 obtain ⟨P2,hP2⟩:∃ P2,P2=P1*L1:=⟨_,rfl⟩
 have hb1:P1≤600*23:=by rw [hP1];exact Nat.mul_le_mul h2 hL23
 have hb2:P2≤600*23*23:=by rw [hP2];exact Nat.mul_le_mul hb1 hL23
 have e2:(q.length:Int)*(L1:Int)=(P1:Int):=by rw [hP1];push_cast;rfl
 have e3:IntKind.i64.wrap (P1:Int)=(P1:Int):=by rw [IntKind.wrap_i64];omega
 have e4:(P1:Int)*(L1:Int)=(P2:Int):=by rw [hP2];push_cast;rfl
 have e5:IntKind.i64.wrap (P2:Int)=(P2:Int):=by rw [IntKind.wrap_i64];omega
 have k22:=make22 P2 (by omega)
 have HR:Hid (∀ W,W=(w5.alloc (.cells (madeCells #[.int .u8 0] (P2*1)) 5)).setCell ⟨w.heap.size+1,2,none⟩ (.slice (some ⟨w5.heap.size,0,none⟩) P2 P2)→Ready ts T (2*ngT T+2) ⟨ts,q,w.heap.size+1,g,cap,w5.heap.size⟩ k W∧Below w.heap.size w W∧w.heap.size≤w.heap.size+1∧w.heap.size≤w5.heap.size∧w.heap.size≤g):=by
  refine hide fun W hW=>⟨ready_of h1 (by omega) h3 h4 P2 (by rw [hP2,hP1,HL1.out]) W hW,?_,by omega,by omega,by have:=(h1.lts.2 g rfl).2;omega⟩
  have hz:=HB.out.2
  have hb:=HB.out.1
  have hs:=h1.size
  rw [hW]
  refine Below.setCell (Below.alloc (w:=w5) ⟨h1.os.trans hb.os,h1.tape.trans hb.tape,h1.output.trans hb.output,by omega,fun b hbb=>(h1.same b (by omega) (by omega) (by simp [Value.ownBlock])).trans (hb.block b hbb)⟩ (by omega) _) (p:=⟨w.heap.size+1,2,none⟩) (by simp) _
 obtain ⟨D,hD⟩:∃ D,D=madeCells #[.int .u8 0] (P2*1):=⟨_,rfl⟩
 rw [←hD] at k22 HR
 have z2:∀ o,(w5.alloc o).cell? ⟨w.heap.size+1,2,none⟩=some (.slice none 0 0):=fun o=>by
  have:=(Below.heap_alloc w5 o _ hmb).trans hbx
  simp [World.cell?,this]
 have z3:∀ o,(w5.alloc o).frozen? ⟨w.heap.size+1,2,none⟩=false:=fun o=>by
  have:=(Below.heap_alloc w5 o _ hmb).trans hbx
  simp [World.frozen?,this]
 clear h1 h2 h3 h4 hbx hP1 hP2 hb1 hb2 hD HC HSS HB HL1 hW2
 go_wp2
 go_ret2
 exact ⟨_,k,rfl,HR.out _ (World.setCell_alloc_past _ _ _ _ hmb).symm⟩
end Go.Proofs.YtfhimmnoipfiaaaDoor.eng
namespace Go.Proofs.YtfhimmnoipfiaaaDoor.eng
open bytes places sets tz rex
structure FQ (m:Mac) (w0 W:World):Prop where
 ex:∃ tab,MC m tab W∧TabOk m tab m.top
 bel:Below w0.heap.size w0 W
 k1:w0.heap.size≤m.kb
 k2:w0.heap.size≤m.mb
 k3:w0.heap.size≤m.g
section
variable {m:Mac} {w0 W W':World}
theorem FQ.below (h:FQ m w0 W) (hb:Below W.heap.size W W'):FQ m w0 W':=by
 obtain ⟨t,h1,h2⟩:=h.ex
 exact ⟨⟨t,h1.below hb,h2⟩,h.bel.trans (hb.mono h.bel.size),h.k1,h.k2,h.k3⟩
theorem FQ.can {N:Nat} (h:FQ m w0 W) (hc:∀ u,CanOk m u) {k i j:Nat} {x:Nq} (hx:m.q[k]?=some x) (hij:i≤j) (hj:j≤m.ts.length) :
  Calls Tryd.prog 35 #[.pointer (some ⟨m.mb,0,none⟩),.int .i64 (k:Int),.int .i64 (i:Int),.int .i64 (j:Int)] W fun e w'=>e=.returned (.bool (x.A i j))∧FQ m w0 w':=by
 obtain ⟨t,h1,h2⟩:=h.ex
 refine (hc m.top W W t k i j x m.top hx hij hj (mu_top m (List.getElem?_eq_some_iff.1 hx).1 hj) (Nat.le_refl _) ⟨⟨t,h1,h2,fun _ _ _ _=>rfl⟩,grown_of_below (Below.refl _ _)⟩).mono ?_
 rintro e w' ⟨r1,r2⟩
 obtain ⟨t',g1,g2,_⟩:=r2.ex
 have hb:=h.bel
 exact ⟨r1,⟨t',g1,g2⟩,⟨r2.gr.os.trans hb.os,r2.gr.tape.trans hb.tape,r2.gr.output.trans hb.output,Nat.le_trans hb.size r2.gr.size,fun b hbb=>(r2.gr.block b (Nat.lt_of_lt_of_le hbb hb.size) (by intro e;simp only [Option.some.injEq] at e;have:=h.k1;omega)).trans (hb.block b hbb)⟩,h.k1,h.k2,h.k3⟩
end
structure GS (m:Mac) (w0:World) (lo i j t g cap:Nat) (W:World):Prop where
 fq:FQ m w0 W
 l1:m.mb<lo
 l2:m.kb<lo
 l3:m.g<lo
 l0:w0.heap.size≤lo
 own:W.ownsRow lo 3 1 (.slice (some ⟨g,0,none⟩) (2*t+2) cap) (2*t+2) ((outs0 i j t).map (Value.int .i64))
section
variable {m:Mac} {w0 W:World} {lo i j t g cap:Nat}
theorem GS.start (h:FQ m w0 W):GS m w0 W.heap.size i j 0 W.heap.size 2 (W.alloc (.cells #[.int .i64 (i:Int),.int .i64 (j:Int)] 3)):=by
 obtain ⟨t,h1,h2⟩:=h.ex
 obtain ⟨a,b,c⟩:=h1.lts
 exact ⟨h.below ((Below.refl _ _).alloc (Nat.le_refl _) _),a,c,b,h.bel.size,⟨by simp [outs0],.inr ⟨W.heap.size,2,_,rfl,Nat.le_refl _,heap_alloc_new W _,by omega,by unfold maxLen;omega,rfl,by simp [outs0]⟩⟩⟩
theorem GS.glt (h:GS m w0 lo i j t g cap W):g<W.heap.size∧lo≤g:=by
 rcases h.own.2 with ⟨h0,_⟩|⟨g0,cap0,cur,z1,z2,z3,_⟩
 ·cases h0
 ·simp only [Value.slice.injEq,Option.some.injEq,Addr.mk.injEq,and_true,true_and] at z1
  rw [z1.1];exact ⟨(Array.getElem?_eq_some_iff.1 z3).1,z2⟩
theorem GS.step (h:GS m w0 lo i j t g cap W) {g' cap':Nat} {W3:World} (h1:W3.ownsRow lo 3 1 (.slice (some ⟨g',0,none⟩) (2*t+2+2) cap') (2*t+2+2) ((outs0 i j t).map (Value.int .i64)++[.int .i64 (-1),.int .i64 (-1)]))
  (h2:(W.alloc (.cells #[.int .i64 (-1),.int .i64 (-1)] 3)).grownBy W3 (some g)):GS m w0 lo i j (t+1) g' cap' W3:=by
 obtain ⟨tb,m1,m2⟩:=h.fq.ex
 obtain ⟨a,b,c⟩:=m1.lts
 have hg:=h.glt
 have hk:∀ x,x<W.heap.size→x<lo→W3.heap[x]?=W.heap[x]? := fun x hx hl=>(h2.block x (by simp;omega) (by intro e;simp only [Option.some.injEq] at e;omega)).trans (Below.heap_alloc _ _ _ hx)
 have hb:=h.fq.bel
 have hA:=(Below.refl W.heap.size W).alloc (Nat.le_refl _) (.cells #[.int .i64 (-1),.int .i64 (-1)] 3)
 refine ⟨⟨⟨tb,m1.keep (hk _ a h.l1) (hk _ b h.l3) (hk _ c h.l2),m2⟩,⟨(h2.os.trans hA.os).trans hb.os,(h2.tape.trans hA.tape).trans hb.tape,(h2.output.trans hA.output).trans hb.output,Nat.le_trans hb.size (Nat.le_trans hA.size h2.size),fun x hx=>(hk x (Nat.lt_of_lt_of_le hx hb.size) (Nat.lt_of_lt_of_le hx h.l0)).trans (hb.block x hx)⟩,h.fq.k1,h.fq.k2,h.fq.k3⟩,h.l1,h.l2,h.l3,h.l0,?_⟩
 rw [outs_succ,show 2*(t+1)+2=2*t+2+2 by omega]
 exact h1
theorem GS.below {W':World} (h:GS m w0 lo i j t g cap W) (hb:Below W.heap.size W W'):GS m w0 lo i j t g cap W':=⟨h.fq.below hb,h.l1,h.l2,h.l3,h.l0,ownsRow_of_block h.own fun x hx=>hb.block x (ownsRow_lt h.own hx)⟩
theorem GS.sw (h:GS m w0 lo i j t g cap W):SW m g (2*t+2) W (outs0 i j t) W∧2*t+2≤cap:=by
 rcases h.own.2 with ⟨h0,_⟩|⟨g0,cap0,cur,z1,z2,z3,z4,z5,z6,z7⟩
 ·cases h0
 ·simp only [Value.slice.injEq,Option.some.injEq,Addr.mk.injEq,and_true,true_and] at z1
  obtain ⟨rfl,rfl⟩:=z1
  have k1:=h.l1
  have k2:=h.l2
  have k3:=h.l3
  refine ⟨⟨h.fq.ex,⟨cur,z3,fun x v hx => ?_⟩,by simp [outs0],by omega,by omega,by omega,rfl,rfl,rfl,Nat.le_refl _,fun _ _ _ _=>rfl⟩,z4⟩
  have h1:((outs0 i j t).map (Value.int .i64))[x]?=some (.int .i64 v):=by rw [List.getElem?_map,hx];rfl
  rw [←z7] at h1
  have hl:=(List.getElem?_eq_some_iff.1 h1).1
  rw [List.length_take] at hl
  rw [List.getElem?_take_of_lt (by omega)] at h1
  simpa using h1
end
def SpecHit (ts:List Int) (T:Tr) (RES:Option (Nat×Nat)) (w w':World) (e:Ending):Prop :=
 Below w.heap.size w w'∧match RES with
  | none=>∃ g,e=.returned (.slice (some ⟨g,0,none⟩) 0 0)
  | some (i,j)=>∃ g cap,e=.returned (.slice (some ⟨g,0,none⟩) (2*ngT T+2) cap)∧w.heap.size≤g∧Spn w' g (sp ts T i j (outs0 i j (ngT T)))∧(sp ts T i j (outs0 i j (ngT T))).length=2*ngT T+2
theorem firstB_congr {a b:B2} {L:Nat} (h:∀ i j,i≤j→j≤L→a i j=b i j) (p:Nat):firstB a L p=firstB b L p:=by
 unfold firstB
 congr 1
 funext i
 by_cases c:i≤L
 ·rw [far_congr fun x h1 h2=>h i x h1 h2]
 ·have:∀ f:Nat→Bool,far i f L=none:=fun f=>by
   cases hf:far i f L with
   | none=>rfl
   | some k=>have:=far_some hf;omega
  rw [this,this]
set_option maxRecDepth 20000 in
set_option maxHeartbeats 16000000 in
theorem find_spec (ts:List Int) (hl:ts.length≤22) (hts:∀ t∈ts,0≤t∧t≤255) (T:Tr) (hT:Good T) (M:Fz) (w:World) (cs:Array Value) (p:Nat) (hp:p≤ts.length+1) (hIn:In M w) (hR:RxAt M T cs) :
  Calls Tryd.prog 21 #[.agg cs,.string (strOfNums ts),.int .i64 (p:Int)] w (fun e w'=>SpecHit ts T (firstB (rex.mt ts T) ts.length p) w w' e):=by
 obtain ⟨kind,n9,m9,ss,o,ln,cp,rfl,hN⟩:=nd_of hR
 obtain ⟨W1,hW1⟩:∃ W1,w.alloc (.cells (rxV kind n9 m9 ss (.slice o ln cp)) 25)=W1:=⟨_,rfl⟩
 have hB:Below w.heap.size w W1:=by rw [←hW1];exact (Below.refl _ _).alloc (Nat.le_refl _) _
 have hb0:W1.heap[w.heap.size]?=some (.cells (rxV kind n9 m9 ss (.slice o ln cp)) 25 (0,0)):=by rw [←hW1];exact heap_alloc_new w _
 have hz1:W1.heap.size=w.heap.size+1:=by rw [←hW1];simp
 have HC:Hid (Calls Tryd.prog 34 #[.agg (rxV kind n9 m9 ss (.slice o ln cp)),.string (strOfNums ts)] W1 fun e w'=>∃ (m:Mac) (root:Nat) (x:Nq),e=.returned (.tuple #[.pointer (some ⟨m.mb,0,none⟩),.int .i64 (root:Int)])∧(m.ts=ts∧m.q[root]?=some x∧EqB ts.length x.A (rex.mt ts T) x.s (sp ts T)∧(∀ u,CanOk m u)∧SpanOk m (root+1)∧Laws m.ts (2*ngT T+2) m.q)∧FQ m W1 w'):=by
  refine hide ((machine_any ts hl T hT M W1 _ (hIn.below hB) hR).mono ?_)
  rintro e w' ⟨m,root,he,hr,hb,k1,k2,k3⟩
  obtain ⟨x,hx,hxe⟩:=hr.root_
  have hlaw:Laws m.ts (2*ngT T+2) m.q:=by rw [hr.ts_];exact hr.laws
  exact ⟨m,root,x,he,⟨hr.ts_,hx,hxe,can_all m _ (by rw [hr.ts_];exact hl) (by rw [hr.ts_];exact hts) hlaw hr.len,span_all m _ (by rw [hr.ts_];exact hl) (by rw [hr.ts_];exact hts) hlaw hr.len _,hlaw⟩,⟨_,hr.mc,fun _ _ _ _ _ _ _=>.inl rfl⟩,hb,k2,k1,k3⟩
 have HBX:Hid (∀ (m:Mac) (W:World),FQ m W1 W→Below w.heap.size w W∧In M W∧W.heap[w.heap.size]?=some (.cells #[.int .i64 kind,.int .i64 n9,.int .i64 m9,.string ss,.slice o ln cp] 25 (0,0))):=hide fun m W h=>⟨hB.trans (h.bel.mono (by omega)),(hIn.below hB).below h.bel,(h.bel.block _ (by omega)).trans hb0⟩
 have HG:Hid (∀ W:World,In M W→Calls Tryd.prog 36 #[.agg (rxV kind n9 m9 ss (.slice o ln cp))] W fun e w'=>e=.returned (.int .i64 (ngT T:Int))∧Below W.heap.size W w'):=hide fun W h=>ngroups_any T M W _ (szT T) h hR (Nat.le_refl _) (by have:=hT.sz;omega)
 have hng:=hT.ng
 have hWs:Hid (w.heap.size≤W1.heap.size):=hide (by omega)
 have hS:=strOfNums_size ts
 obtain ⟨i0,hi0,hz0,hs0,hb00⟩:=info_parts info3
 have HK:=hide (And.intro hi0 (And.intro hz0 (And.intro hs0 hb00)))
 obtain ⟨RES,hRES⟩:∃ RES,RES=firstB (rex.mt ts T) ts.length p:=⟨_,rfl⟩
 rw [←hRES]
 have HR:=hide hRES
 obtain ⟨SS,hSS⟩:∃ SS,SS=strOfNums ts:=⟨_,rfl⟩
 rw [←hSS] at HC hS ⊢
 unfold rxV at hW1 HC HG hb0 ⊢
 obtain ⟨p0,p1,p2,p3,p4⟩:=cells5 hb0
 clear hR hIn hN hB hb0 hz1 hts hRES hSS hi0 hz0 hs0 hb00
 go_enter Tryd.func21,Tryd.ntmps21
 go_wp2_with fail
 (try rw [hW1])
 clear hW1
 refine HC.out.mono ?_
 rintro e w2 ⟨m,root,x,rfl,hm,hF⟩
 have HM:=hide hm
 have HX0:=hide hF
 obtain ⟨AA,hAA⟩:∃ AA,AA=x.A:=⟨_,rfl⟩
 have HR2:Hid (RES=firstB AA ts.length p):=hide (by rw [HR.out,hAA];exact (firstB_congr (fun i j h1 h2=>(hm.2.2.1 i j h1 h2).1) p).symm)
 have HCan:Hid (∀ (W:World) (i j:Nat),i≤j→j≤ts.length→FQ m W1 W→Calls Tryd.prog 35 #[.pointer (some ⟨m.mb,0,none⟩),.int .i64 (root:Int),.int .i64 (i:Int),.int .i64 (j:Int)] W fun e w'=>e=.returned (.bool (AA i j))∧FQ m W1 w'):=hide fun W i j h1 h2 h=>by rw [hAA];exact h.can (N:=0) hm.2.2.2.1 hm.2.1 h1 (by rw [hm.1];exact h2)
 have hA9:=hide hAA
 clear hm hF HC HR p0 p1 p2 p3 p4 hAA
 go_wp2
 go_loopw [9,10] (fun v9 v10 wr=>∃ q:Nat,q≤ts.length+1∧v9=.int .i64 (q:Int)∧Hid (FQ m W1 wr∧RES=firstB AA ts.length q)) (fun v9 _ _=>ts.length+1-(intOf v9).toNat)
 case atStart=>exact ⟨p,hp,rfl,hide ⟨HX0.out,HR2.out⟩⟩
 case round =>
  obtain ⟨q,hq,rfl,HX⟩:=hrel
  clear HX0 HR2
  by_cases hqL:q≤ts.length
  ·have hqi:(q:Int)≤(ts.length:Int):=by omega
   have hqw:IntKind.i64.wrap ((q:Int)+1)=((q+1:Nat):Int):=by rw [IntKind.wrap_i64];omega
   have hst:=firstB_step AA hqL
   have HX1:Hid (FQ m W1 wr∧RES=match far q (AA q) ts.length with | some j=>some (q,j) | none=>firstB AA ts.length (q+1)):=hide ⟨HX.out.1,by rw [HX.out.2];exact hst⟩
   clear HX hst
   go_wp2
   go_loopw [10] (fun v10 wr=>∃ z:Int,(q:Int)≤z+1∧z≤ts.length∧v10=.int .i64 z∧Hid (FQ m W1 wr∧((q:Int)≤z→RES=match far q (AA q) z.toNat with | some j=>some (q,j) | none=>firstB AA ts.length (q+1))∧(z<q→RES=firstB AA ts.length (q+1)))) (fun v10 _=>(intOf v10+1).toNat)
   case atStart=>exact ⟨ts.length,by omega,by omega,rfl,hide ⟨HX1.out.1,fun _=>HX1.out.2,fun h=>by omega⟩⟩
   case round =>
    obtain ⟨z,hz1,hz2,rfl,HY⟩:=hrel
    clear HX1
    by_cases hz:(q:Int)≤z
    ·obtain ⟨j,rfl⟩:∃ j:Nat,z=(j:Int):=⟨z.toNat,by omega⟩
     have hjq:q≤j:=by omega
     have hjl:j≤ts.length:=by omega
     have hRES:=HY.out.2.1 hz
     rw [Int.toNat_natCast,far_drop hjq] at hRES
     have hjw:IntKind.i64.wrap ((j:Int)-1)=(j:Int)-1:=by rw [IntKind.wrap_i64];omega
     have H1:=hide (HCan.out _ q j hjq hjl HY.out.1)
     clear HY HCan
     cases hA:AA q j with
     | false =>
      rw [hA] at H1 hRES
      have hRES2:RES=match (if q<j then far q (AA q) (j-1) else none) with | some j=>some (q,j) | none=>firstB AA ts.length (q+1):=hRES
      have HS:=hide hRES2
      clear hRES hRES2 hA
      go_wp2_with fail
      refine H1.out.mono ?_
      rintro e w5 ⟨rfl,h5⟩
      have HE:=hide h5
      clear h5 H1
      go_wp2
      go_roundw
      case rel=>exact ⟨(j:Int)-1,by omega,by omega,rfl,hide ⟨HE.out,fun h=>by rw [HS.out,if_pos (by omega),show ((j:Int)-1).toNat=j-1 by omega],fun h=>by rw [HS.out,if_neg (by omega)]⟩⟩
      case measure=>simp [intOf]
     | true =>
      rw [hA] at H1 hRES
      have hRES2:RES=some (q,j):=hRES
      have HS:=hide (And.intro hRES2 hA)
      clear hRES hRES2 hA
      go_wp2_with fail
      refine H1.out.mono ?_
      rintro e w5 ⟨rfl,h5⟩
      obtain ⟨W4,hW4⟩:∃ W4,w5.alloc (.cells #[.int .i64 (q:Int),.int .i64 (j:Int)] 3)=W4:=⟨_,rfl⟩
      have hG:GS m W1 w5.heap.size q j 0 w5.heap.size 2 W4:=by rw [←hW4];exact GS.start h5
      obtain ⟨b1,b2,b3⟩:=HBX.out m W4 hG.fq
      obtain ⟨s0,s1,s2,s3,s4⟩:=cells5 b3
      have HG4:=hide (HG.out W4 b2)
      have HGS:=hide hG
      obtain ⟨lo,hlo⟩:∃ lo,lo=w5.heap.size:=⟨_,rfl⟩
      clear h5 hG b1 b2 b3 H1 HG
      go_wp2_with fail
      (try rw [hW4])
      rw [←hlo] at HGS ⊢
      clear hW4 hlo
      refine HG4.out.mono ?_
      rintro e w6 ⟨rfl,h6⟩
      have HG6:=hide (HGS.out.below h6)
      clear h6 HG4 HGS s0 s1 s2 s3 s4
      go_wp2
      go_loopw [11,12] (fun v11 v12 wx=>∃ t g cap:Nat,t≤ngT T∧v12=.int .i64 ((ngT T-t:Nat):Int)∧v11=.slice (some ⟨g,0,none⟩) (2*t+2) cap∧Hid (GS m W1 lo q j t g cap wx)) (fun _ v12 _=>(intOf v12).toNat)
      case atStart=>exact ⟨0,lo,2,by omega,by simp,rfl,HG6⟩
      case round =>
       obtain ⟨t,g,cap,ht,rfl,rfl,HZ⟩:=hrel
       clear HG6
       by_cases htn:t<ngT T
       ·obtain ⟨d,hd⟩:∃ d,d=ngT T-t:=⟨_,rfl⟩
        have hdi:(0:Int)<(d:Int):=by omega
        have hdw:IntKind.i64.wrap ((d:Int)-1)=((ngT T-(t+1):Nat):Int):=by rw [IntKind.wrap_i64];omega
        obtain ⟨d1,hd1⟩:∃ d1,d1=ngT T-(t+1):=⟨_,rfl⟩
        rw [←hd1] at hdw
        rw [←hd]
        have HD:=hide (And.intro hd hd1)
        have hgl:=HZ.out.glt
        have HO:=hide HZ.out.own
        have HN:Hid (∀ (g' cap':Nat) (W3:World),W3.ownsRow lo 3 1 (.slice (some ⟨g',0,none⟩) (2*t+2+2) cap') (2*t+2+2) ((outs0 q j t).map (Value.int .i64)++[.int .i64 (-1),.int .i64 (-1)])→(wr.alloc (.cells #[.int .i64 (-1),.int .i64 (-1)] 3)).grownBy W3 (some g)→GS m W1 lo q j (t+1) g' cap' W3):=hide fun g' cap' W3 h1 h2=>HZ.out.step h1 h2
        clear hd hd1 HZ
        go_wp2_with (at_builtin;refine wpList_append_lies _ rfl _ _ 28 rfl lo 3 i0 (.int .i64 0) 1 8 Tryd.underlying28 HK.out.1 HK.out.2.1 HK.out.2.2.1 HK.out.2.2.2 rfl (by decide) _ (2*t+2) ((outs0 q j t).map (Value.int .i64)) rfl (HO.out.alloc _) ⟨_,0,none⟩ 2 2 [.int .i64 (-1),.int .i64 (-1)] rfl rfl (World.news_of_block (heap_alloc_new _ _)) (by simp [Value.oneCell']) (by decide) (by unfold maxLen;omega) (by omega) (by simp;omega) _ (World.size_alloc ..) ?_;intro g2 cap2 w8 h1 h2 h3 h4)
        have HR8:=hide (HN.out g2 cap2 w8 h1 h2)
        clear h1 h2 h3 HN HO
        go_roundw
        case rel=>exact ⟨t+1,g2,cap2,by omega,by rw [HD.out.2],by rw [show 2*(t+1)+2=2*t+2+2 by omega],HR8⟩
        case measure=>(have:=HD.out;simp [intOf];omega)
       ·obtain rfl:t=ngT T:=by omega
        have hnl:ngT T-ngT T=0:=by omega
        obtain ⟨hsw,hcap⟩:=HZ.out.sw
        have hlow:=HZ.out.glt
        have hl0:=HZ.out.l0
        obtain ⟨e1,e2,e3,e4,e5,e6⟩:=HM.out
        have hm1:x.A q j=true:=by rw [←hA9.out];exact HS.out.2
        have hz:=e5 g (2*ngT T+2) cap wr root q j x (outs0 q j (ngT T)) (Nat.lt_succ_self _) e2 e6 hjq (by rw [e1];exact hjl) hm1 hsw hcap (by omega)
        have HP:Hid (Calls Tryd.prog 37 #[.pointer (some ⟨m.mb,0,none⟩),.int .i64 (root:Int),.int .i64 (q:Int),.int .i64 (j:Int),.slice (some ⟨g,0,none⟩) (2*ngT T+2) cap] wr fun e w'=>e=.returned (.tuple #[])∧SpecHit ts T RES w w' (.returned (.slice (some ⟨g,0,none⟩) (2*ngT T+2) cap))):=by
         refine hide (hz.mono ?_)
         rintro e w' ⟨r1,r2⟩
         have hxs:=(e3 q j hjq hjl).2 (by rw [←(e3 q j hjq hjl).1];exact hm1) (outs0 q j (ngT T))
         have hbw:=(HBX.out m wr HZ.out.fq).1
         have hk1:=HZ.out.fq.k1
         have hW1s:w.heap.size≤W1.heap.size:=hWs.out
         refine ⟨r1,⟨r2.os.trans hbw.os,r2.tape.trans hbw.tape,r2.output.trans hbw.output,Nat.le_trans hbw.size r2.size,fun b hb=>(r2.same b (Nat.lt_of_lt_of_le hb hbw.size) (by omega) (by omega)).trans (hbw.block b hb)⟩,?_⟩
         rw [HS.out.1]
         refine ⟨g,cap,rfl,by omega,?_,?_⟩
         ·rw [←hxs];exact r2.spn
         ·rw [←hxs];exact r2.len
        clear hsw hz hm1 e1 e2 e3 e4 e5 e6 HZ HM HBX
        rw [hnl]
        go_wp2_with fail
        refine HP.out.mono ?_
        rintro e w9 ⟨rfl,h9⟩
        have HE:=hide h9
        clear h9 HP
        go_wp2
        go_ret
        exact HE.out
    ·have HE:=hide (And.intro HY.out.1 (HY.out.2.2 (by omega)))
     clear HY
     go_wp2
     go_roundw
     case rel=>exact ⟨q+1,by omega,by simp,hide HE.out⟩
     case measure=>simp [intOf];omega
  ·obtain rfl:q=ts.length+1:=by omega
   have hqi:¬ (((ts.length+1:Nat):Int))≤(ts.length:Int):=by omega
   have hE:RES=none:=by rw [HX.out.2];exact firstB_end _ (by omega)
   have HE:=hide (And.intro (HBX.out m wr HX.out.1).1 hE)
   clear HX hE
   go_wp2
   go_ret
   refine ⟨?_,?_⟩
   ·exact HE.out.1.trans (((Below.refl _ _).alloc (Nat.le_refl _) _).mono HE.out.1.size)
   ·rw [HE.out.2];exact ⟨_,rfl⟩
end Go.Proofs.YtfhimmnoipfiaaaDoor.eng
namespace Go.Proofs.YtfhimmnoipfiaaaDoor.eng
open bytes places sets tz rex
theorem boxed {M:Fz} {w:World} {cs:Array Value} (hIn:In M w) {W:World} (h:Below (w.heap.size+1) (w.alloc (.cells cs 25)) W):Below w.heap.size w W∧In M W∧W.heap[w.heap.size]?=some (.cells cs 25 (0,0)):=by
 have hB:=(Below.refl w.heap.size w).alloc (Nat.le_refl _) (.cells cs 25)
 have hb:=hB.trans (h.mono (by omega))
 exact ⟨hb,hIn.below hb,(h.block _ (by omega)).trans (heap_alloc_new w _)⟩
set_option maxRecDepth 20000 in
set_option maxHeartbeats 4000000 in
theorem rxOK_spec {M:Fz} {T:Tr} (hT:Good T) {cs:Array Value} (hR:RxAt M T cs) (w:World) (hIn:In M w) :
  Calls Tryd.prog 33 #[.agg cs] w fun e w'=>e=.returned (.bool true)∧Below w.heap.size w w':=by
 obtain ⟨kind,n9,m9,ss,o,ln,cp,rfl,hN⟩:=nd_of hR
 have HB:Hid (∀ W,Below (w.heap.size+1) (w.alloc (.cells (rxV kind n9 m9 ss (.slice o ln cp)) 25)) W→Below w.heap.size w W∧In M W∧W.heap[w.heap.size]?=some (.cells (rxV kind n9 m9 ss (.slice o ln cp)) 25 (0,0))):=hide fun W h=>boxed hIn h
 have HC1:Hid (∀ W,In M W→Calls Tryd.prog 53 #[.agg (rxV kind n9 m9 ss (.slice o ln cp)),.int .i64 120] W fun e w'=>e=.returned (.int .i64 ((120-szT T:Nat):Int))∧Below W.heap.size W w'):=hide fun W h=>left_any T M W _ 120 h hR hT.sz (by omega)
 have HC2:Hid (∀ W,In M W→Calls Tryd.prog 54 #[.agg (rxV kind n9 m9 ss (.slice o ln cp)),.int .i64 1] W fun e w'=>e=.returned (.int .i64 ((0+ngT T+1:Nat):Int))∧Below W.heap.size W w'):=hide fun W h=>right_any T M W _ _ 0 hT.ok hT.num h hR (by have:=hT.sz;omega) (by have:=hT.ng;omega)
 have HC3:Hid (∀ W,In M W→Calls Tryd.prog 42 #[.agg (rxV kind n9 m9 ss (.slice o ln cp))] W fun e w'=>e=.returned (.int .i64 ((wtT T:Nat):Int))∧Below W.heap.size W w'):=hide fun W h=>by
  have h1:=sweight_any T M W _ (szT T) ⟨_,hT.ok⟩ h hR (Nat.le_refl _) (by have:=hT.sz;omega)
  rw [Nat.min_eq_left (by have:=hT.wt;omega)] at h1
  exact h1
 obtain ⟨W1,hW1⟩:∃ W1,w.alloc (.cells (rxV kind n9 m9 ss (.slice o ln cp)) 25)=W1:=⟨_,rfl⟩
 have hz1:W1.heap.size=w.heap.size+1:=by rw [←hW1];simp
 rw [hW1] at HB
 obtain ⟨b1,b2,b3⟩:=HB.out W1 (Below.refl _ _)
 have h1:=hide (HC1.out W1 b2)
 have hwt:=hT.wt
 have q1:(0:Int)≤((120-szT T:Nat):Int):=by omega
 have q2:(0:Int)<((0+ngT T+1:Nat):Int):=by omega
 have q3:((wtT T:Nat):Int)≤300:=by omega
 generalize 120-szT T=A1 at *
 generalize 0+ngT T+1=A2 at *
 generalize wtT T=A3 at *
 have HZ:=hide hz1
 unfold rxV at hW1 HC1 HC2 HC3 HB h1 b3 ⊢
 obtain ⟨p0,p1,p2,p3,p4⟩:=cells5 b3
 clear hR hIn hN b1 b2 b3 hz1 hwt
 go_enter Tryd.func33,Tryd.ntmps33
 go_wp2_with fail
 (try rw [hW1])
 clear hW1
 refine h1.out.mono ?_
 rintro e w2 ⟨rfl,g1⟩
 rw [HZ.out] at g1
 obtain ⟨b1,b2,b3⟩:=HB.out w2 g1
 obtain ⟨r0,r1,r2,r3,r4⟩:=cells5 b3
 have h2:=hide (HC2.out w2 b2)
 have G1:=hide g1
 clear b1 b2 b3 g1 h1 p0 p1 p2 p3 p4
 go_wp2_with fail
 refine h2.out.mono ?_
 rintro e w3 ⟨rfl,g2⟩
 have g3:=G1.out.trans (g2.mono (by have:=G1.out.size;rw [HZ.out] at this;exact this))
 obtain ⟨b1,b2,b3⟩:=HB.out w3 g3
 obtain ⟨s0,s1,s2,s3,s4⟩:=cells5 b3
 have h3:=hide (HC3.out w3 b2)
 have G3:=hide g3
 clear b1 b2 b3 g2 g3 h2 r0 r1 r2 r3 r4
 go_wp2_with fail
 refine h3.out.mono ?_
 rintro e w4 ⟨rfl,g4⟩
 have HE:=hide (HB.out w4 (G3.out.trans (g4.mono (by have:=G3.out.size;rw [HZ.out] at this;exact this)))).1
 clear g4 h3
 go_wp2
 go_ret
 exact ⟨ret_bool (by simp),HE.out⟩
set_option maxRecDepth 20000 in
set_option maxHeartbeats 4000000 in
theorem code_spec (ts:List Int) (hl:ts.length≤22) {M:Fz} {T:Tr} (hT:Good T) {cs:Array Value} (hR:RxAt M T cs) (w:World) (hIn:In M w) :
  Calls Tryd.prog 20 #[.agg cs,.string (strOfNums ts)] w fun e w'=>e=.returned (.int .i64 0)∧Below w.heap.size w w':=by
 obtain ⟨kind,n9,m9,ss,o,ln,cp,rfl,hN⟩:=nd_of hR
 obtain ⟨W1,hW1⟩:∃ W1,w.alloc (.cells (rxV kind n9 m9 ss (.slice o ln cp)) 25)=W1:=⟨_,rfl⟩
 have hB:Below w.heap.size w W1:=by rw [←hW1];exact (Below.refl _ _).alloc (Nat.le_refl _) _
 have b3:W1.heap[w.heap.size]?=some (.cells (rxV kind n9 m9 ss (.slice o ln cp)) 25 (0,0)):=by rw [←hW1];exact heap_alloc_new w _
 have HC:=hide (rxOK_spec hT hR W1 (hIn.below hB))
 have HB:=hide hB
 have hS:=strOfNums_size ts
 have l1:¬ (65536:Int)<(ts.length:Int):=by omega
 have l2:¬ (120:Int)<(ts.length:Int):=by omega
 generalize strOfNums ts=SS at *
 unfold rxV at hW1 HC b3 ⊢
 obtain ⟨p0,p1,p2,p3,p4⟩:=cells5 b3
 clear hR hIn hN hB b3
 go_enter Tryd.func20,Tryd.ntmps20
 go_wp2_with fail
 (try rw [hW1])
 clear hW1
 refine HC.out.mono ?_
 rintro e w2 ⟨rfl,g1⟩
 have HE:=hide (HB.out.trans (g1.mono HB.out.size))
 clear g1 HC HB
 go_wp2
 go_ret
 exact ⟨rfl,HE.out⟩
def SFHit (ts:List Int) (T:Tr) (RES:Option (Nat×Nat)) (w w':World) (e:Ending):Prop :=
 Below w.heap.size w w'∧match RES with
  | none=>∃ g,e=.returned (.tuple #[.slice (some ⟨g,0,none⟩) 0 0,.int .i64 6])
  | some (i,j)=>∃ g cap,e=.returned (.tuple #[.slice (some ⟨g,0,none⟩) (2*ngT T+2) cap,.int .i64 0])∧w.heap.size≤g∧Spn w' g (sp ts T i j (outs0 i j (ngT T)))∧(sp ts T i j (outs0 i j (ngT T))).length=2*ngT T+2
set_option maxRecDepth 20000 in
set_option maxHeartbeats 4000000 in
theorem Find_spec (ts:List Int) (hl:ts.length≤22) (hts:∀ t∈ts,0≤t∧t≤255) {M:Fz} {T:Tr} (hT:Good T) {cs:Array Value} (hR:RxAt M T cs) (w:World) (hIn:In M w) :
  Calls Tryd.prog 8 #[.agg cs,.string (strOfNums ts),.int .i64 0] w fun e w'=>SFHit ts T (firstB (rex.mt ts T) ts.length 0) w w' e:=by
 obtain ⟨kind,n9,m9,ss,o,ln,cp,rfl,hN⟩:=nd_of hR
 obtain ⟨W1,hW1⟩:∃ W1,w.alloc (.cells (rxV kind n9 m9 ss (.slice o ln cp)) 25)=W1:=⟨_,rfl⟩
 have hB:Below w.heap.size w W1:=by rw [←hW1];exact (Below.refl _ _).alloc (Nat.le_refl _) _
 have b3:W1.heap[w.heap.size]?=some (.cells (rxV kind n9 m9 ss (.slice o ln cp)) 25 (0,0)):=by rw [←hW1];exact heap_alloc_new w _
 have hz1:W1.heap.size=w.heap.size+1:=by rw [←hW1];simp
 have HC:=hide (code_spec ts hl hT hR W1 (hIn.below hB))
 have HF:Hid (∀ W,Below W1.heap.size W1 W→W.heap[w.heap.size]?=some (.cells (rxV kind n9 m9 ss (.slice o ln cp)) 25 (0,0))∧Calls Tryd.prog 21 #[.agg (rxV kind n9 m9 ss (.slice o ln cp)),.string (strOfNums ts),.int .i64 0] W fun e w'=>Below w.heap.size w w'∧SpecHit ts T (firstB (rex.mt ts T) ts.length 0) W w' e∧w.heap.size≤W.heap.size):=hide fun W h=>⟨(h.block _ (by omega)).trans b3,(find_spec ts hl hts T hT M W _ 0 (by omega) ((hIn.below hB).below h) hR).mono fun e w' h2=>⟨(hB.trans (h.mono hB.size)).trans (h2.1.mono (by have:=hB.size;have:=h.size;omega)),h2,by have:=hB.size;have:=h.size;omega⟩⟩
 have hS:=strOfNums_size ts
 have l1:¬ (ts.length:Int)<0:=by omega
 obtain ⟨RES,hRES⟩:∃ RES,RES=firstB (rex.mt ts T) ts.length 0:=⟨_,rfl⟩
 rw [←hRES] at HF ⊢
 generalize strOfNums ts=SS at *
 unfold rxV at hW1 HC HF b3 ⊢
 obtain ⟨p0,p1,p2,p3,p4⟩:=cells5 b3
 clear hR hIn hN hB b3 hts hRES hz1
 go_enter Tryd.func8,Tryd.ntmps8
 go_wp2_with fail
 (try rw [hW1])
 clear hW1
 refine HC.out.mono ?_
 rintro e w2 ⟨rfl,g1⟩
 obtain ⟨k1,k2⟩:=HF.out w2 g1
 obtain ⟨r0,r1,r2,r3,r4⟩:=cells5 k1
 have H2:=hide k2
 clear g1 HC HF k1 k2 p0 p1 p2 p3 p4
 go_wp2_with fail
 refine H2.out.mono ?_
 rintro e w3 ⟨m1,⟨m2,m3⟩,m4⟩
 have HB:=hide m1
 have HW:=hide m4
 clear m1 m2 m4 H2
 cases RES with
 | none =>
  obtain ⟨g,rfl⟩:=m3
  go_wp2
  go_ret2
  exact ⟨HB.out.trans (((Below.refl _ _).alloc (Nat.le_refl _) _).mono HB.out.size),_,rfl⟩
 | some x =>
  obtain ⟨i,j⟩:=x
  obtain ⟨g,cap,rfl,n1,n2,n3⟩:=m3
  have HN:=hide (And.intro n1 (And.intro n2 n3))
  clear n1 n2 n3
  have hnz:¬ ((2*ngT T+2:Nat):Int)=0:=by omega
  have hnz2:(((2*ngT T+2:Nat):Int) == 0)=false:=by simp;omega
  go_wp2
  go_ret2
  exact ⟨HB.out,g,cap,rfl,by have:=HN.out.1;have:=HW.out;omega,HN.out.2.1,HN.out.2.2⟩
end Go.Proofs.YtfhimmnoipfiaaaDoor.eng
namespace Go.Proofs.YtfhimmnoipfiaaaDoor.eng
open bytes places sets tz rex
theorem nilne28 (W:World):Sem.run Tryd.prog (binOp .neq 28 (.slice none 0 0) (.slice none 0 0)) W=.ok (.bool false) W:=by kernel_rfl
theorem somene28 (a n c:Nat) (W:World):Sem.run Tryd.prog (binOp .neq 28 (.slice (some ⟨a,0,none⟩) n c) (.slice none 0 0)) W=.ok (.bool true) W:=by kernel_rfl
def AllHit (ts:List Int) (T:Tr) (RES:List (Nat×Nat)) (w w':World) (e:Ending):Prop :=
 ∃ (v:Value) (rs:List Rw),e=.returned (.tuple #[v,.int .i64 0])∧rs.map Rw.ij=RES∧Below w.heap.size w w'∧w'.ownsRow w.heap.size 28 1 v rs.length (rs.map (Rw.v (ngT T)))∧∀ r∈rs,w.heap.size≤r.g∧v.ownBlock≠some r.g∧Spn w' r.g (sp ts T r.i r.j (outs0 r.i r.j (ngT T)))
theorem AH.start {ts:List Int} {T:Tr} {M:Fz} {w0 w:World} {f1 f2:Nat} {c1 c2:Array Value} (h:Sch ts T M w0 w f1 f2 c1 c2):AH ts T M w0 w.heap.size f1 f2 c1 c2 [] none (.slice none 0 0) (w.alloc (.cells #[.string (strOfNums ts),.int .i64 (ngT T:Nat),.func (.func f1) #[] c1,.func (.func f2) #[] c2] 51)):=by
 obtain ⟨M',K,R,O,g1,g2,g3⟩:=h.ex
 refine ⟨⟨M',K,R,O,g2.alloc _,g3,g2.fresh (Nat.le_refl _),fun r hr => ?_,fun g hg=>by cases hg⟩,by simp [Value.ownBlock],g2.size,heap_alloc_new w _,⟨rfl,.inl ⟨rfl,rfl⟩⟩⟩
 rcases hr with hr | hr
 ·cases hr
 ·cases hr
theorem ret_all {ts:List Int} {T:Tr} {M:Fz} {w W:World} {B f1 f2:Nat} {c1 c2:Array Value} {rs:List Rw} {cur:Option Rw} {v8:Value} {o:Obj} (h:AH ts T M (w.alloc o) B f1 f2 c1 c2 rs cur v8 W):AllHit ts T (rs.map Rw.ij) w W (.returned (.tuple #[v8,.int .i64 0])):=by
 have hB:=(Below.refl w.heap.size w).alloc (Nat.le_refl _) o
 obtain ⟨M',K,R,O,g2,g3,g4,g5,g6⟩:=h.ex
 refine ⟨v8,rs,rfl,rfl,hB.trans (h.old.mono hB.size),⟨h.own.1,?_⟩,fun r hr=>⟨?_,(g5 r (.inl hr)).ne,(g5 r (.inl hr)).spn⟩⟩
 ·rcases h.own.2 with h0 | ⟨g,cap,cur,k1,k2,k3⟩
  ·exact .inl h0
  ·exact .inr ⟨g,cap,cur,k1,Nat.le_trans hB.size k2,k3⟩
 ·exact Nat.le_trans hB.size (g5 r (.inl hr)).lo
theorem allM_fuel (a:B2) (L:Nat):∀ (f g:Nat) (last:Int) (p:Nat),L+2-p≤f→L+2-p≤g→allM a L f last p=allM a L g last p
 | 0,0,last,p,_,_=>rfl
 | 0,g+1,last,p,h1,h2=>by
  rw [allM,allM,firstB_end a (by omega)]
 | f+1,0,last,p,h1,h2=>by
  rw [allM,allM,firstB_end a (by omega)]
 | f+1,g+1,last,p,h1,h2=>by
  rw [allM,allM]
  cases h:firstB a L p with
  | none=>rfl
  | some x =>
   obtain ⟨i,j⟩:=x
   obtain ⟨k1,k2,k3,_⟩:=firstB_some h
   show _++allM a L f (j:Int) (if i=j then j+1 else j)=_++allM a L g (j:Int) (if i=j then j+1 else j)
   rw [allM_fuel a L f g (j:Int) (if i=j then j+1 else j) (by split <;> omega) (by split <;> omega)]
def meaM (L:Nat) (v10 v12:Value):Nat:=match v10 with | .slice none _ _=>0 | _=>L+2-(intOf v12).toNat
theorem meaM_dec (L n:Nat) (cur:Option Rw) (g c l:Nat) (v12:Value) (p q:Nat) (h1:intOf v12=(p:Int)) (h2:p<q) (h3:p≤L):meaM L (curV n cur) (.int .i64 (q:Int))<meaM L (.slice (some ⟨g,0,none⟩) l c) v12:=by
 have e:meaM L (.slice (some ⟨g,0,none⟩) l c) v12=L+2-p:=by
  show L+2-(intOf v12).toNat=L+2-p
  rw [h1];rfl
 rw [e]
 cases cur with
 | none =>
  show 0<_
  omega
 | some r =>
  show L+2-(q:Int).toNat<_
  rw [Int.toNat_natCast]
  omega
set_option maxRecDepth 20000 in
set_option maxHeartbeats 8000000 in
theorem MatchAll_top (ts:List Int) (hl:ts.length≤22) (hts:∀ t∈ts,0≤t∧t≤255) (T:Tr) (hT:Good T) (M:Fz) (w:World) (kind n9 m9:Int) (ss:ByteArray) (o:Option Addr) (ln cp:Nat) (hIn:In M w) (ht:TabIn w) (hz:0<w.heap.size) (hR:RxAt M T (rxV kind n9 m9 ss (.slice o ln cp))) :
  Calls Tryd.prog 13 #[.agg (rxV kind n9 m9 ss (.slice o ln cp)),.string (strOfNums ts)] w fun e w'=>AllHit ts T (allM (rex.mt ts T) ts.length (ts.length+2) (-1) 0) w w' e:=by
 have hB:=(Below.refl w.heap.size w).alloc (Nat.le_refl _) (.cells (rxV kind n9 m9 ss (.slice o ln cp)) 25)
 have HC:=hide (search_top ts hl hts T hT M (w.alloc (.cells (rxV kind n9 m9 ss (.slice o ln cp)) 25)) kind n9 m9 ss o ln cp (fun b x hb=>(hB.block b (Array.getElem?_eq_some_iff.1 (hIn b x hb)).1).trans (hIn b x hb)) (fun j hj=>(World.cell?_of_block (a:=⟨0,j,none⟩) (hB.block 0 hz)).trans (ht j hj)) (by simp) hR)
 obtain ⟨w0,hw0⟩:∃ w0,w0=w.alloc (.cells (rxV kind n9 m9 ss (.slice o ln cp)) 25):=⟨_,rfl⟩
 have HF:=hide (fun (W:World) (B f1 f2:Nat) (c1 c2:Array Value) (rs:List Rw) (cur:Option Rw) (v8:Value) (h:AH ts T M w0 B f1 f2 c1 c2 rs cur v8 W)=>h.find hl hT)
 have HM:=hide (fun (W:World) (B f1 f2:Nat) (c1 c2:Array Value) (rs:List Rw) (r:Rw) (v8:Value) (h:AH ts T M w0 B f1 f2 c1 c2 rs (some r) v8 W)=>h.m01 hT)
 have HE:Hid (∀ (W:World) (B f1 f2:Nat) (c1 c2:Array Value) (rs:List Rw) (cur:Option Rw) (v8:Value),AH ts T M w0 B f1 f2 c1 c2 rs cur v8 W→AllHit ts T (rs.map Rw.ij) w W (.returned (.tuple #[v8,.int .i64 0]))):=hide fun W B f1 f2 c1 c2 rs cur v8 h=>by rw [hw0] at h;exact ret_all h
 obtain ⟨i0,hi0,hz0,hs0,hb0⟩:=info_parts info28
 have HK:=hide (And.intro hi0 (And.intro hz0 (And.intro hs0 hb0)))
 have hng:=hT.ng
 obtain ⟨RES,hRES⟩:∃ RES,RES=allM (rex.mt ts T) ts.length (ts.length+2) (-1) 0:=⟨_,rfl⟩
 rw [←hRES]
 have hRS:=hide hRES
 rw [hw0] at HF HM HE
 have hnil:=nilne28
 have hsome:=somene28
 clear hi0 hz0 hs0 hb0 hR hIn hB ht hz hRES hw0
 unfold rxV at HC HF HM HE ⊢
 go_enter Tryd.func13,Tryd.ntmps13
 go_wp2_with fail
 refine HC.out.mono ?_
 rintro e w1 ⟨f1,f2,c1,c2,rfl,hSc⟩
 have HA:=hide (AH.start hSc)
 have HA2:=hide (hSc.old)
 clear hSc HC
 go_wp2_with fail
 refine (HF.out _ _ _ _ _ _ _ _ _ HA.out 0 (by omega)).mono ?_
 rintro e w2 ⟨cur,hcur,rfl,hAH⟩
 obtain ⟨V0,hV0⟩:∃ V0,V0=curV (ngT T) cur:=⟨_,rfl⟩
 rw [←hV0]
 have HS:=hide (And.intro hAH (And.intro hcur hV0))
 clear hAH hcur HA HA2 hV0
 generalize w1.heap.size=B at *
 go_wp2
 go_loopw [8,9,10,11,12,13] (fun v8 v9 v10 v11 v12 v13 wr=>∃ (p:Nat) (last:Int) (rs:List Rw) (cur:Option Rw) (V8:Value),V8=v8∧p≤ts.length+1∧intOf v12=(p:Int)∧v9=.int .i64 last∧v10=curV (ngT T) cur∧Hid (AH ts T M (w.alloc (.cells #[.int .i64 kind,.int .i64 n9,.int .i64 m9,.string ss,.slice o ln cp] 25)) B f1 f2 c1 c2 rs cur V8 wr∧RES=rs.map Rw.ij++allM (rex.mt ts T) ts.length (ts.length+2-p) last p∧firstB (rex.mt ts T) ts.length p=cur.map Rw.ij ∧ -1≤last∧last≤ts.length∧rs.length≤p)) (fun _ _ v10 _ v12 _ _=>meaM ts.length v10 v12)
 case atStart=>exact ⟨0,-1,[],cur,_,rfl,by omega,rfl,rfl,HS.out.2.2,hide ⟨HS.out.1,hRS.out,HS.out.2.1,by omega,by omega,Nat.le_refl _⟩⟩
 case round =>
  obtain ⟨p,last,rs,cur',v8,rfl,hp,hv12,rfl,rfl,HX⟩:=hrel
  cases cur' with
  | none =>
   have HE2:Hid (AllHit ts T RES w wr (.returned (.tuple #[v8,.int .i64 0]))):=by
    have h:=HE.out _ _ _ _ _ _ _ _ _ HX.out.1
    obtain ⟨_,h2,h3,_⟩:=HX.out
    rw [show ts.length+2-p=(ts.length+1-p)+1 by omega] at h2
    have h4:allM (rex.mt ts T) ts.length (ts.length+1-p+1) last p=[]:=by rw [allM,h3];rfl
    rw [h4,List.append_nil] at h2
    rw [h2];exact hide h
   clear HX HF HM HE HS hv12
   dsimp only [curV]
   go_wp2
   go_ret2
   exact HE2.out
  | some r =>
   obtain ⟨hA,hR1,hR2,hl1,hl2,hl3⟩:=HX.out
   obtain ⟨g1,g2,g3,g4,g5,g6⟩:=firstB_some (i:=r.i) (j:=r.j) (by rw [hR2];rfl)
   rw [show ts.length+2-p=(ts.length+1-p)+1 by omega,allM,hR2] at hR1
   have hR3:RES=rs.map Rw.ij++((if r.i=r.j∧(r.i:Int)=last then [] else [(r.i,r.j)])++allM (rex.mt ts T) ts.length (ts.length+1-p) (r.j:Int) (if r.i=r.j then r.j+1 else r.j)):=hR1
   obtain ⟨m0,m1⟩:=HM.out _ _ _ _ _ _ _ _ _ hA g2
   have HA:=hide hA.drew
   have HG:=hide (And.intro g4 (And.intro g5 g6))
   have HL:=hide (And.intro hl1 (And.intro hl2 hl3))
   have hlt0:0<2*ngT T+2:=by omega
   have hlt1:1<2*ngT T+2:=by omega
   clear hA hR1 hR2 HX HM HE HS g4 g5 g6 hl1 hl2 hl3
   obtain ⟨b0,b1,b2,b3⟩:=HA.out.cells
   by_cases hE:r.i=r.j
   ·rw [if_pos hE] at hR3
    have hEi:(r.i:Int)=(r.j:Int):=by omega
    have hjw:IntKind.i64.wrap ((r.j:Int)+1)=((r.j+1:Nat):Int):=by rw [IntKind.wrap_i64];omega
    by_cases hLs:(r.i:Int)=last
    ·rw [if_pos ⟨hE,hLs⟩,List.nil_append] at hR3
     have HR:=hide hR3
     have HQ:=hide (fun W hb=>by
      have h:=HF.out W B f1 f2 c1 c2 rs (some r) v8 (HA.out.below hb) (r.j+1) (by omega)
      rwa [show ((r.j+1:Nat):Int)=(r.j:Int)+1 by omega] at h)
     clear hjw
     obtain ⟨rg,rcap,ri,rj⟩:=r
     dsimp only at *
     dsimp only [curV,Rw.v] at *
     have hjw:IntKind.i64.wrap ((rj:Int)+1)=(rj:Int)+1:=by rw [IntKind.wrap_i64];omega
     go_wp2
     go_region
     all_goals (
      go_wp2_with fail
      with_reducible (refine (HQ.out _ ?_).mono ?_)
      ·exact Below.refl _ _
      rintro e w5 ⟨cur,hcur,rfl,hAH⟩
      have HS:=hide (And.intro hAH hcur)
      clear hAH hcur
      go_wp2
      go_roundw
      case rel=>exact ⟨_,_,rs,cur,v8,rfl,(by omega:rj+1≤ts.length+1),rfl,rfl,rfl,hide ⟨HS.out.1,by rw [HR.out,allM_fuel _ _ _ (ts.length+2-(rj+1)) _ _ (by omega) (by omega)],HS.out.2,by omega,by omega,by have:=HL.out.2.2;omega⟩⟩
      case measure=>exact meaM_dec ts.length (ngT T) cur _ _ _ _ p (rj+1) hv12 (by omega) (by omega))
    ·clear hjw
     rw [if_neg (fun h=>hLs h.2)] at hR3
     have HR:Hid (RES=(rs++[r]).map Rw.ij++allM (rex.mt ts T) ts.length (ts.length+1-p) (r.j:Int) (r.j+1)):=hide (by rw [hR3,List.map_append,List.append_assoc];rfl)
     clear hR3
     have HQ:=hide (fun (W:World) (v:Value) (h:AH ts T M (w.alloc (.cells #[.int .i64 kind,.int .i64 n9,.int .i64 m9,.string ss,.slice o ln cp] 25)) B f1 f2 c1 c2 (rs++[r]) (some r) v W)=>by
      have h:=HF.out W B f1 f2 c1 c2 (rs++[r]) (some r) v h (r.j+1) (by omega)
      rwa [show ((r.j+1:Nat):Int)=(r.j:Int)+1 by omega] at h)
     have HO:Hid (wr.drew.ownsRow (w.heap.size+1) 28 1 v8 rs.length (rs.map (Rw.v (ngT T)))∧w.heap.size+1≤wr.heap.size):=by
      have h1:=HA.out.own
      have h2:=HA.out.old.size
      simp only [World.size_alloc] at h1 h2
      exact hide ⟨h1,h2⟩
     have HN:Hid (∀ (g' cap':Nat) (W3:World),W3.ownsRow (w.heap.size+1) 28 1 (.slice (some ⟨g',0,none⟩) (rs.length+1) cap') (rs.length+1) (rs.map (Rw.v (ngT T))++[r.v (ngT T)])→(wr.drew.alloc (.cells #[r.v (ngT T)] 28)).grownBy W3 v8.ownBlock→(v8.ownBlock=some g'∨g'=wr.drew.heap.size+1)→AH ts T M (w.alloc (.cells #[.int .i64 kind,.int .i64 n9,.int .i64 m9,.string ss,.slice o ln cp] 25)) B f1 f2 c1 c2 (rs++[r]) (some r) (.slice (some ⟨g',0,none⟩) (rs.length+1) cap') W3):=by
      refine hide fun g' cap' W3 h1 h2 h3=>HA.out.app ?_ h2 h3
      rw [World.size_alloc];exact h1
     have hws:=HO.out.2
     have hrl:=HL.out.2.2
     have hl1:=HL.out.1
     have hjw:IntKind.i64.wrap ((r.j:Int)+1)=(r.j:Int)+1:=by rw [IntKind.wrap_i64];omega
     obtain ⟨rg,rcap,ri,rj⟩:=r
     dsimp only at *
     dsimp only [curV,Rw.v] at *
     go_wp2
     go_region
     all_goals (
      go_wp2_with (first
       | (at_builtin;refine wpList_append_lies _ rfl _ _ 38 rfl (w.heap.size+1) 28 i0 (.slice none 0 0) 1 24 Tryd.underlying38 HK.out.1 HK.out.2.1 HK.out.2.2.1 HK.out.2.2.2 rfl (by decide) v8 rs.length (rs.map (Rw.v (ngT T))) rfl (HO.out.1.alloc _) ⟨_,0,none⟩ 1 1 [.slice (some ⟨rg,0,none⟩) (2*ngT T+2) rcap] rfl rfl (World.news_of_block (heap_alloc_new _ _)) (by simp [Value.oneCell']) (by decide) (by unfold maxLen;omega) (by omega) (by simp;omega) _ (World.size_alloc ..) ?_;intro g2 cap2 w2 h1 h2 h3 h4;have HX:=hide (HN.out g2 cap2 w2 h1 h2 h3);clear h1 h2 h3;obtain ⟨y0,y1,y2,y3⟩:=HX.out.cells)
       | (go_at_call 19;refine (HQ.out _ _ HX.out).mono ?_;rintro e w5 ⟨cur,hcur,rfl,hAH⟩;have HS:=hide (And.intro hAH hcur);clear hAH hcur))
      clear HX HQ HN HO HF
      go_roundw
      case rel=>exact ⟨rj+1,_,_,cur,_,rfl,(by omega:rj+1≤ts.length+1),rfl,rfl,rfl,hide ⟨HS.out.1,by rw [HR.out,allM_fuel _ _ _ (ts.length+2-(rj+1)) _ _ (by omega) (by omega)],HS.out.2,by omega,by omega,by rw [List.length_append,List.length_singleton];omega⟩⟩
      case measure=>exact meaM_dec ts.length (ngT T) cur _ _ _ _ p (rj+1) hv12 (by omega) (by omega))
   ·rw [if_neg hE,if_neg (fun h=>hE h.1)] at hR3
    have HR:Hid (RES=(rs++[r]).map Rw.ij++allM (rex.mt ts T) ts.length (ts.length+1-p) (r.j:Int) (r.j)):=hide (by rw [hR3,List.map_append,List.append_assoc];rfl)
    clear hR3
    have HQ:=hide (fun (W:World) (v:Value) (h:AH ts T M (w.alloc (.cells #[.int .i64 kind,.int .i64 n9,.int .i64 m9,.string ss,.slice o ln cp] 25)) B f1 f2 c1 c2 (rs++[r]) (some r) v W)=>by
     have h:=HF.out W B f1 f2 c1 c2 (rs++[r]) (some r) v h (r.j) (by omega)
     exact h)
    have HO:Hid (wr.drew.ownsRow (w.heap.size+1) 28 1 v8 rs.length (rs.map (Rw.v (ngT T)))∧w.heap.size+1≤wr.heap.size):=by
     have h1:=HA.out.own
     have h2:=HA.out.old.size
     simp only [World.size_alloc] at h1 h2
     exact hide ⟨h1,h2⟩
    have HN:Hid (∀ (g' cap':Nat) (W3:World),W3.ownsRow (w.heap.size+1) 28 1 (.slice (some ⟨g',0,none⟩) (rs.length+1) cap') (rs.length+1) (rs.map (Rw.v (ngT T))++[r.v (ngT T)])→(wr.drew.alloc (.cells #[r.v (ngT T)] 28)).grownBy W3 v8.ownBlock→(v8.ownBlock=some g'∨g'=wr.drew.heap.size+1)→AH ts T M (w.alloc (.cells #[.int .i64 kind,.int .i64 n9,.int .i64 m9,.string ss,.slice o ln cp] 25)) B f1 f2 c1 c2 (rs++[r]) (some r) (.slice (some ⟨g',0,none⟩) (rs.length+1) cap') W3):=by
     refine hide fun g' cap' W3 h1 h2 h3=>HA.out.app ?_ h2 h3
     rw [World.size_alloc];exact h1
    have hws:=HO.out.2
    have hrl:=HL.out.2.2
    have hl1:=HL.out.1
    have hEi:¬ (r.i:Int)=(r.j:Int):=by omega
    obtain ⟨rg,rcap,ri,rj⟩:=r
    dsimp only at *
    dsimp only [curV,Rw.v] at *
    go_wp2
    go_region
    all_goals (
     go_wp2_with (first
      | (at_builtin;refine wpList_append_lies _ rfl _ _ 38 rfl (w.heap.size+1) 28 i0 (.slice none 0 0) 1 24 Tryd.underlying38 HK.out.1 HK.out.2.1 HK.out.2.2.1 HK.out.2.2.2 rfl (by decide) v8 rs.length (rs.map (Rw.v (ngT T))) rfl (HO.out.1.alloc _) ⟨_,0,none⟩ 1 1 [.slice (some ⟨rg,0,none⟩) (2*ngT T+2) rcap] rfl rfl (World.news_of_block (heap_alloc_new _ _)) (by simp [Value.oneCell']) (by decide) (by unfold maxLen;omega) (by omega) (by simp;omega) _ (World.size_alloc ..) ?_;intro g2 cap2 w2 h1 h2 h3 h4;have HX:=hide (HN.out g2 cap2 w2 h1 h2 h3);clear h1 h2 h3;obtain ⟨y0,y1,y2,y3⟩:=HX.out.cells)
      | (go_at_call 19;refine (HQ.out _ _ HX.out).mono ?_;rintro e w5 ⟨cur,hcur,rfl,hAH⟩;have HS:=hide (And.intro hAH hcur);clear hAH hcur))
     clear HX HQ HN HO HF
     go_roundw
     case rel=>exact ⟨rj,_,_,cur,_,rfl,(by omega:rj≤ts.length+1),rfl,rfl,rfl,hide ⟨HS.out.1,by rw [HR.out,allM_fuel _ _ _ (ts.length+2-(rj)) _ _ (by omega) (by omega)],HS.out.2,by omega,by omega,by rw [List.length_append,List.length_singleton];omega⟩⟩
     case measure=>exact meaM_dec ts.length (ngT T) cur _ _ _ _ p (rj) hv12 (by omega) (by omega))
end Go.Proofs.YtfhimmnoipfiaaaDoor.eng
namespace Go.Proofs.YtfhimmnoipfiaaaDoor.eng
open bytes places sets tz rex
structure AS (ts:List Int) (T:Tr) (w0:World) (rs:List Rw) (v:Value) (W:World):Prop where
 bel:Below w0.heap.size w0 W
 rows:∀ r∈rs,v.ownBlock≠some r.g∧w0.heap.size≤r.g∧Spn W r.g (sp ts T r.i r.j (outs0 r.i r.j (ngT T)))
 own:W.ownsRow w0.heap.size 28 1 v rs.length (rs.map (Rw.v (ngT T)))
section
variable {ts:List Int} {T:Tr} {w0 W W':World} {rs:List Rw} {v:Value}
theorem AS.below (h:AS ts T w0 rs v W) (hb:Below W.heap.size W W'):AS ts T w0 rs v W':=⟨h.bel.trans (hb.mono h.bel.size),fun r hr=>⟨(h.rows r hr).1,(h.rows r hr).2.1,(h.rows r hr).2.2.of_block (hb.block _ (h.rows r hr).2.2.lt)⟩,ownsRow_of_block h.own fun x hx=>hb.block x (ownsRow_lt h.own hx)⟩
structure Fre (ts:List Int) (T:Tr) (w0:World) (v:Value) (W:World) (r:Rw):Prop where
 ne:v.ownBlock≠some r.g
 lo:w0.heap.size≤r.g
 spn:Spn W r.g (sp ts T r.i r.j (outs0 r.i r.j (ngT T)))
theorem Fre.below {r:Rw} (h:Fre ts T w0 v W r) (hb:Below W.heap.size W W'):Fre ts T w0 v W' r:=⟨h.ne,h.lo,h.spn.of_block (hb.block _ h.spn.lt)⟩
theorem Fre.m01 (hT:Good T) {r:Rw} (h:Fre ts T w0 v W r) (hij:r.i≤r.j):W.cell? ⟨r.g,0,none⟩=some (.int .i64 (r.i:Int))∧W.cell? ⟨r.g,1,none⟩=some (.int .i64 (r.j:Int)):=by
 obtain ⟨cur,h1,h2⟩:=h.spn
 refine ⟨?_,?_⟩
 ·have:=h2 0 (r.i:Int) (by rw [sp_low ts hT.num hij _ (by omega)];rfl)
  simp [World.cell?,h1,this]
 ·have:=h2 1 (r.j:Int) (by rw [sp_low ts hT.num hij _ (by omega)];rfl)
  simp [World.cell?,h1,this]
theorem AS.app {r:Rw} (h:AS ts T w0 rs v W) (hr:Fre ts T w0 v W r) {g' cap':Nat} {W3:World} (h1:W3.ownsRow w0.heap.size 28 1 (.slice (some ⟨g',0,none⟩) (rs.length+1) cap') (rs.length+1) (rs.map (Rw.v (ngT T))++[r.v (ngT T)]))
  (h2:(W.alloc (.cells #[r.v (ngT T)] 28)).grownBy W3 v.ownBlock) (h3:v.ownBlock=some g'∨g'=W.heap.size+1):AS ts T w0 (rs++[r]) (.slice (some ⟨g',0,none⟩) (rs.length+1) cap') W3∧Fre ts T w0 (.slice (some ⟨g',0,none⟩) (rs.length+1) cap') W3 r:=by
 have hk:∀ b,b<W.heap.size→v.ownBlock≠some b→W3.heap[b]?=W.heap[b]? := fun b hb hn=>(h2.block b (by simp;omega) hn.symm).trans (Below.heap_alloc _ _ _ hb)
 have hg:∀ b,b<W.heap.size→v.ownBlock≠some b→g'≠b:=by
  intro b hb hn e
  rcases h3 with h3 | h3
  ·rw [e] at h3;exact hn h3
  ·omega
 have hlo:∀ x,v.ownBlock=some x→w0.heap.size≤x:=fun x hx=>by
  rcases h.own.2 with ⟨k1,_⟩|⟨g9,cap,cur,k1,k2,_⟩
  ·rw [k1] at hx;cases hx
  ·rw [k1] at hx
   simp only [Value.ownBlock,Option.some.injEq] at hx
   omega
 have hA:=(Below.refl W.heap.size W).alloc (Nat.le_refl _) (.cells #[r.v (ngT T)] 28)
 have hb:=h.bel
 refine ⟨⟨⟨(h2.os.trans hA.os).trans hb.os,(h2.tape.trans hA.tape).trans hb.tape,(h2.output.trans hA.output).trans hb.output,Nat.le_trans hb.size (Nat.le_trans hA.size h2.size),fun x hx=>(hk x (Nat.lt_of_lt_of_le hx hb.size) (fun e=>by have:=hlo x e;omega)).trans (hb.block x hx)⟩,fun q hq => ?_,?_⟩,⟨?_,hr.lo,hr.spn.of_block (hk _ hr.spn.lt hr.ne)⟩⟩
 ·have q5:Fre ts T w0 v W q:=by
   rcases List.mem_append.1 hq with hq | hq
   ·exact ⟨(h.rows q hq).1,(h.rows q hq).2.1,(h.rows q hq).2.2⟩
   ·rw [List.mem_singleton] at hq;rw [hq];exact hr
  exact ⟨fun e=>by simp only [Value.ownBlock,Option.some.injEq] at e;exact hg _ q5.spn.lt q5.ne e,q5.lo,q5.spn.of_block (hk _ q5.spn.lt q5.ne)⟩
 ·rw [List.length_append,List.length_singleton,List.map_append];exact h1
 ·intro e
  simp only [Value.ownBlock,Option.some.injEq] at e
  exact hg _ hr.spn.lt hr.ne e
end
set_option maxRecDepth 20000 in
set_option maxHeartbeats 16000000 in
theorem all_spec (ts:List Int) (hl:ts.length≤22) (hts:∀ t∈ts,0≤t∧t≤255) {M:Fz} {T:Tr} (hT:Good T) {cs:Array Value} (hR:RxAt M T cs) (w:World) (hIn:In M w) :
  Calls Tryd.prog 24 #[.agg cs,.string (strOfNums ts)] w fun e w'=>∃ (v:Value) (rs:List Rw),e=.returned v∧rs.map Rw.ij=allM (rex.mt ts T) ts.length (ts.length+2) (-1) 0∧AS ts T w rs v w':=by
 obtain ⟨kind,n9,m9,ss,o,ln,cp,rfl,hN⟩:=nd_of hR
 obtain ⟨W1,hW1⟩:∃ W1,w.alloc (.cells (rxV kind n9 m9 ss (.slice o ln cp)) 25)=W1:=⟨_,rfl⟩
 have hB:Below w.heap.size w W1:=by rw [←hW1];exact (Below.refl _ _).alloc (Nat.le_refl _) _
 have b3:W1.heap[w.heap.size]?=some (.cells (rxV kind n9 m9 ss (.slice o ln cp)) 25 (0,0)):=by rw [←hW1];exact heap_alloc_new w _
 have hz1:W1.heap.size=w.heap.size+1:=by rw [←hW1];simp
 have HBX:Hid (∀ (rs:List Rw) (v:Value) (W:World),AS ts T W1 rs v W→W.heap[w.heap.size]?=some (.cells (rxV kind n9 m9 ss (.slice o ln cp)) 25 (0,0))∧∀ p,p≤ts.length+1→Calls Tryd.prog 21 #[.agg (rxV kind n9 m9 ss (.slice o ln cp)),.string (strOfNums ts),.int .i64 (p:Int)] W fun e w'=>AS ts T W1 rs v w'∧match firstB (rex.mt ts T) ts.length p with
   | none=>∃ g,e=.returned (.slice (some ⟨g,0,none⟩) 0 0)
   | some (i,j)=>∃ r:Rw,r.i=i∧r.j=j∧e=.returned (r.v (ngT T))∧Fre ts T W1 v w' r):=by
  refine hide fun rs v W h=>⟨(h.bel.block _ (by omega)).trans b3,fun p hp=>(find_spec ts hl hts T hT M W _ p hp ((hIn.below hB).below h.bel) hR).mono ?_⟩
  rintro e w' ⟨h1,h2⟩
  refine ⟨h.below h1,?_⟩
  cases hr:firstB (rex.mt ts T) ts.length p with
  | none=>rw [hr] at h2;exact h2
  | some x =>
   obtain ⟨i,j⟩:=x
   rw [hr] at h2
   obtain ⟨g,cap,e1,e2,e3,e4⟩:=h2
   exact ⟨⟨g,cap,i,j⟩,rfl,rfl,e1,fun e=>by have:=ownsRow_lt h.own e;simp only at this;omega,by have:=h.bel.size;simp only;omega,e3⟩
 have HE0:Hid (∀ (rs:List Rw) (v:Value) (W:World),AS ts T W1 rs v W→AS ts T w rs v W):=by
  refine hide fun rs v W h=>⟨hB.trans (h.bel.mono hB.size),fun r hr=>⟨(h.rows r hr).1,by have:=(h.rows r hr).2.1;omega,(h.rows r hr).2.2⟩,h.own.1,?_⟩
  rcases h.own.2 with h0 | ⟨g,cap,cur,k1,k2,k3⟩
  ·exact .inl h0
  ·exact .inr ⟨g,cap,cur,k1,by omega,k3⟩
 have HS0:Hid (AS ts T W1 [] (.slice (some ⟨W1.heap.size,0,none⟩) 0 0) (W1.alloc (.cells #[] 28))):=hide ⟨(Below.refl _ _).alloc (Nat.le_refl _) _,fun r hr=>by simp at hr,rfl,.inr ⟨W1.heap.size,0,#[],rfl,Nat.le_refl _,heap_alloc_new W1 _,Nat.le_refl _,by unfold maxLen;omega,rfl,rfl⟩⟩
 obtain ⟨i0,hi0,hz0,hs0,hb00⟩:=info_parts info28
 have HK:=hide (And.intro hi0 (And.intro hz0 (And.intro hs0 hb00)))
 have hng:=hT.ng
 have hS:=strOfNums_size ts
 obtain ⟨RES,hRES⟩:∃ RES,RES=allM (rex.mt ts T) ts.length (ts.length+2) (-1) 0:=⟨_,rfl⟩
 rw [←hRES]
 have HR:=hide hRES
 obtain ⟨SS,hSS⟩:∃ SS,SS=strOfNums ts:=⟨_,rfl⟩
 rw [←hSS] at HBX hS ⊢
 unfold rxV at hW1 HBX b3 ⊢
 have HT:=hide hT
 clear hR hIn hN hB b3 hz1 hts hRES hSS hi0 hz0 hs0 hb00 hT
 go_enter Tryd.func24,Tryd.ntmps24
 go_wp2
 (try rw [hW1])
 clear hW1
 go_loopw [5,6,7,8] (fun v5 v6 v7 v8 wr=>∃ (p:Nat) (last:Int) (rs:List Rw) (V:Value),V=v5∧p≤ts.length+1∧v6=.int .i64 (p:Int)∧v7=.int .i64 last∧Hid (AS ts T W1 rs V wr∧RES=rs.map Rw.ij++allM (rex.mt ts T) ts.length (ts.length+2-p) last p∧rs.length≤p)) (fun _ v6 _ _ _=>ts.length+1-(intOf v6).toNat)
 case atStart=>exact ⟨0,-1,[],_,rfl,by omega,rfl,rfl,hide ⟨HS0.out,HR.out,Nat.le_refl _⟩⟩
 case round =>
  obtain ⟨p,last,rs,v,rfl,hp,rfl,rfl,HX⟩:=hrel
  clear HS0 HR
  obtain ⟨hb,hcall⟩:=HBX.out rs v wr HX.out.1
  by_cases hpl:p≤ts.length
  ·have hpi:(p:Int)≤(ts.length:Int):=by omega
   obtain ⟨x0,x1,x2,x3,x4⟩:=cells5 hb
   have H1:=hide (hcall p hp)
   have hR:=HX.out.2.1
   rw [show ts.length+2-p=(ts.length+1-p)+1 by omega,allM] at hR
   have hrl:=HX.out.2.2
   clear hb hcall HBX HX
   go_wp2_with fail
   refine H1.out.mono ?_
   rintro e w3 ⟨hA,hm⟩
   clear H1 x0 x1 x2 x3 x4
   cases hf:firstB (rex.mt ts T) ts.length p with
   | none =>
    rw [hf] at hm hR
    obtain ⟨g,rfl⟩:=hm
    have hR2:RES=rs.map Rw.ij:=by rw [hR];simp
    have HE:=hide (And.intro hR2 (HE0.out _ _ _ hA))
    clear hA hR hR2 hf
    go_wp2
    go_ret
    exact ⟨v,rs,rfl,HE.out.1.symm,HE.out.2⟩
   | some y =>
    obtain ⟨i,j⟩:=y
    rw [hf] at hm hR
    obtain ⟨⟨rg,rcap,ri,rj⟩,rfl,rfl,rfl,hF⟩:=hm
    obtain ⟨g1,g2,g3,_⟩:=firstB_some hf
    have hij:ri≤rj:=g2
    have hR3:RES=rs.map Rw.ij++((if ri=rj∧(ri:Int)=last then [] else [(ri,rj)])++allM (rex.mt ts T) ts.length (ts.length+1-p) (rj:Int) (if ri=rj then rj+1 else rj)):=hR
    obtain ⟨m0,m1⟩:=hF.m01 HT.out hij
    dsimp only at m0 m1 g1 g2 g3
    dsimp only [Rw.v]
    have hnz:¬ ((2*ngT T+2:Nat):Int)=0:=by omega
    have hnz2:(((2*ngT T+2:Nat):Int) == 0)=false:=by simp;omega
    have hlt0:(0:Int)<((2*ngT T+2:Nat):Int):=by omega
    have hlt1:(1:Int)<((2*ngT T+2:Nat):Int):=by omega
    have hjw:IntKind.i64.wrap ((rj:Int)+1)=((rj+1:Nat):Int):=by rw [IntKind.wrap_i64];omega
    clear hR hf
    by_cases hE:ri=rj
    ·subst hE
     rw [if_pos rfl] at hR3
     by_cases hLs:(ri:Int)=last
     ·rw [if_pos ⟨rfl,hLs⟩,List.nil_append] at hR3
      have HRR:=hide hR3
      subst hLs
      have HAA:=hide hA
      clear hA hF hR3
      go_wp2
      go_quiet (fail)
      go_wp2
      go_roundw
      case rel=>exact ⟨ri+1,(ri:Int),rs,v,rfl,by omega,rfl,rfl,hide ⟨HAA.out.below (below_drewN (Below.refl _ _) _),by rw [HRR.out,allM_fuel _ _ _ (ts.length+2-(ri+1)) _ _ (by omega) (by omega)],by omega⟩⟩
      case measure=>simp [intOf];omega
     ·rw [if_neg (fun h=>hLs h.2)] at hR3
      have HRR:=hide hR3
      have hls2:decide ((ri:Int)=last)=false:=by simpa using hLs
      have hls3:((ri:Int) == last)=false:=by simpa using hLs
      clear hR3
      have HO:Hid (∀ n,(w3.drewN n).ownsRow W1.heap.size 28 1 v rs.length (rs.map (Rw.v (ngT T)))):=hide fun n=>(hA.below (below_drewN (Below.refl _ _) n)).own
      have HN:Hid (∀ (n:Nat) (g' cap':Nat) (W3:World),W3.ownsRow W1.heap.size 28 1 (.slice (some ⟨g',0,none⟩) (rs.length+1) cap') (rs.length+1) (rs.map (Rw.v (ngT T))++[.slice (some ⟨rg,0,none⟩) (2*ngT T+2) rcap])→((w3.drewN n).alloc (.cells #[.slice (some ⟨rg,0,none⟩) (2*ngT T+2) rcap] 28)).grownBy W3 v.ownBlock→(v.ownBlock=some g'∨g'=(w3.drewN n).heap.size+1)→AS ts T W1 (rs++[⟨rg,rcap,ri,ri⟩]) (.slice (some ⟨g',0,none⟩) (rs.length+1) cap') W3∧W3.cell? ⟨rg,0,none⟩=some (.int .i64 (ri:Int))∧W3.cell? ⟨rg,1,none⟩=some (.int .i64 (ri:Int))):=by
       refine hide fun n g' cap' W3 h1 h2 h3 => ?_
       have hd:=below_drewN (Below.refl w3.heap.size w3) n
       obtain ⟨k1,k2⟩:=(hA.below hd).app (hF.below hd) h1 h2 h3
       exact ⟨k1,k2.m01 HT.out hij⟩
      have hws:W1.heap.size≤w3.heap.size:=hA.bel.size
      clear hA hF
      go_wp2
      go_quiet (fail)
      go_wp2_with (at_builtin;refine wpList_append_lies _ rfl _ _ 38 rfl W1.heap.size 28 i0 (.slice none 0 0) 1 24 Tryd.underlying38 HK.out.1 HK.out.2.1 HK.out.2.2.1 HK.out.2.2.2 rfl (by decide) v rs.length (rs.map (Rw.v (ngT T))) rfl ((HO.out _).alloc _) ⟨_,0,none⟩ 1 1 [.slice (some ⟨rg,0,none⟩) (2*ngT T+2) rcap] rfl rfl (World.news_of_block (heap_alloc_new _ _)) (by simp [Value.oneCell']) (by decide) (by unfold maxLen;omega) (by omega) (by simp;omega) _ (World.size_alloc ..) ?_;intro g2 cap2 w9 h1 h2 h3 h4;obtain ⟨k1,c0,c1⟩:=HN.out _ g2 cap2 w9 h1 h2 h3;have HX9:=hide k1;clear h1 h2 h3 k1)
      clear HN HO m0 m1
      go_quiet (fail)
      go_wp2
      go_roundw
      case rel=>exact ⟨ri+1,(ri:Int),rs++[⟨rg,rcap,ri,ri⟩],_,rfl,by omega,rfl,rfl,hide ⟨HX9.out.below (below_drewN (Below.refl _ _) _),by rw [HRR.out,List.map_append,List.append_assoc,allM_fuel _ _ _ (ts.length+2-(ri+1)) _ _ (by omega) (by omega)];rfl,by rw [List.length_append,List.length_singleton];omega⟩⟩
      case measure=>simp [intOf];omega
    ·rw [if_neg hE,if_neg (fun h=>hE h.1)] at hR3
     have HRR:=hide hR3
     have hls2:decide ((ri:Int)=(rj:Int))=false:=by simp;omega
     have hls3:((ri:Int) == (rj:Int))=false:=by simp;omega
     have hls4:¬ (ri:Int)=(rj:Int):=by omega
     clear hR3
     have HO:Hid (∀ n,(w3.drewN n).ownsRow W1.heap.size 28 1 v rs.length (rs.map (Rw.v (ngT T)))):=hide fun n=>(hA.below (below_drewN (Below.refl _ _) n)).own
     have HN:Hid (∀ (n:Nat) (g' cap':Nat) (W3:World),W3.ownsRow W1.heap.size 28 1 (.slice (some ⟨g',0,none⟩) (rs.length+1) cap') (rs.length+1) (rs.map (Rw.v (ngT T))++[.slice (some ⟨rg,0,none⟩) (2*ngT T+2) rcap])→((w3.drewN n).alloc (.cells #[.slice (some ⟨rg,0,none⟩) (2*ngT T+2) rcap] 28)).grownBy W3 v.ownBlock→(v.ownBlock=some g'∨g'=(w3.drewN n).heap.size+1)→AS ts T W1 (rs++[⟨rg,rcap,ri,rj⟩]) (.slice (some ⟨g',0,none⟩) (rs.length+1) cap') W3∧W3.cell? ⟨rg,0,none⟩=some (.int .i64 (ri:Int))∧W3.cell? ⟨rg,1,none⟩=some (.int .i64 (rj:Int))):=by
      refine hide fun n g' cap' W3 h1 h2 h3 => ?_
      have hd:=below_drewN (Below.refl w3.heap.size w3) n
      obtain ⟨k1,k2⟩:=(hA.below hd).app (hF.below hd) h1 h2 h3
      exact ⟨k1,k2.m01 HT.out hij⟩
     have hws:W1.heap.size≤w3.heap.size:=hA.bel.size
     clear hA hF
     go_wp2
     go_quiet (fail)
     go_wp2_with (at_builtin;refine wpList_append_lies _ rfl _ _ 38 rfl W1.heap.size 28 i0 (.slice none 0 0) 1 24 Tryd.underlying38 HK.out.1 HK.out.2.1 HK.out.2.2.1 HK.out.2.2.2 rfl (by decide) v rs.length (rs.map (Rw.v (ngT T))) rfl ((HO.out _).alloc _) ⟨_,0,none⟩ 1 1 [.slice (some ⟨rg,0,none⟩) (2*ngT T+2) rcap] rfl rfl (World.news_of_block (heap_alloc_new _ _)) (by simp [Value.oneCell']) (by decide) (by unfold maxLen;omega) (by omega) (by simp;omega) _ (World.size_alloc ..) ?_;intro g2 cap2 w9 h1 h2 h3 h4;obtain ⟨k1,c0,c1⟩:=HN.out _ g2 cap2 w9 h1 h2 h3;have HX9:=hide k1;clear h1 h2 h3 k1)
     clear HN HO m0 m1
     go_quiet (fail)
     go_wp2
     go_roundw
     case rel=>exact ⟨rj,(rj:Int),rs++[⟨rg,rcap,ri,rj⟩],_,rfl,by omega,rfl,rfl,hide ⟨HX9.out.below (below_drewN (Below.refl _ _) _),by rw [HRR.out,List.map_append,List.append_assoc,allM_fuel _ _ _ (ts.length+2-(rj)) _ _ (by omega) (by omega)];rfl,by rw [List.length_append,List.length_singleton];omega⟩⟩
     case measure=>simp [intOf];omega
  ·have hpi:¬ (p:Int)≤(ts.length:Int):=by omega
   have hR2:RES=rs.map Rw.ij:=by
    rw [HX.out.2.1,show ts.length+2-p=0+1 by omega,allM,firstB_end _ (by omega)];simp
   have HE:=hide (And.intro hR2 (HE0.out _ _ _ HX.out.1))
   clear HX hb hcall hR2 HBX
   go_wp2
   go_ret
   exact ⟨v,rfl,rs,HE.out.1.symm,HE.out.2⟩
end Go.Proofs.YtfhimmnoipfiaaaDoor.eng
namespace Go.Proofs.YtfhimmnoipfiaaaDoor.eng
open bytes places sets tz rex
set_option maxRecDepth 20000 in
set_option maxHeartbeats 4000000 in
theorem MatchAll_spec (ts:List Int) (hl:ts.length≤22) (hts:∀ t∈ts,0≤t∧t≤255) {M:Fz} {T:Tr} (hT:Good T) {cs:Array Value} (hR:RxAt M T cs) (w:World) (hIn:In M w) :
  Calls Tryd.prog 14 #[.agg cs,.string (strOfNums ts)] w fun e w'=>∃ (v:Value) (rs:List Rw),e=.returned (.tuple #[v,.int .i64 0])∧rs.map Rw.ij=allM (rex.mt ts T) ts.length (ts.length+2) (-1) 0∧AS ts T w rs v w':=by
 obtain ⟨kind,n9,m9,ss,o,ln,cp,rfl,hN⟩:=nd_of hR
 obtain ⟨W1,hW1⟩:∃ W1,w.alloc (.cells (rxV kind n9 m9 ss (.slice o ln cp)) 25)=W1:=⟨_,rfl⟩
 have hB:Below w.heap.size w W1:=by rw [←hW1];exact (Below.refl _ _).alloc (Nat.le_refl _) _
 have b3:W1.heap[w.heap.size]?=some (.cells (rxV kind n9 m9 ss (.slice o ln cp)) 25 (0,0)):=by rw [←hW1];exact heap_alloc_new w _
 have hz1:W1.heap.size=w.heap.size+1:=by rw [←hW1];simp
 have HC:=hide (code_spec ts hl hT hR W1 (hIn.below hB))
 have HF:Hid (∀ W,Below W1.heap.size W1 W→W.heap[w.heap.size]?=some (.cells (rxV kind n9 m9 ss (.slice o ln cp)) 25 (0,0))∧Calls Tryd.prog 24 #[.agg (rxV kind n9 m9 ss (.slice o ln cp)),.string (strOfNums ts)] W fun e w'=>∃ (v:Value) (rs:List Rw),e=.returned v∧rs.map Rw.ij=allM (rex.mt ts T) ts.length (ts.length+2) (-1) 0∧AS ts T w rs v w'):=by
  refine hide fun W h=>⟨(h.block _ (by omega)).trans b3,(all_spec ts hl hts hT hR W ((hIn.below hB).below h)).mono ?_⟩
  rintro e w' ⟨v,rs,he,h1,h2⟩
  have hz:w.heap.size≤W.heap.size:=by have:=h.size;omega
  refine ⟨v,rs,he,h1,(hB.trans (h.mono hB.size)).trans (h2.bel.mono hz),fun r hr=>⟨(h2.rows r hr).1,Nat.le_trans hz (h2.rows r hr).2.1,(h2.rows r hr).2.2⟩,h2.own.1,?_⟩
  rcases h2.own.2 with h0 | ⟨g,cap,cur,k1,k2,k3⟩
  ·exact .inl h0
  ·exact .inr ⟨g,cap,cur,k1,Nat.le_trans hz k2,k3⟩
 generalize strOfNums ts=SS at *
 unfold rxV at hW1 HC HF b3 ⊢
 obtain ⟨p0,p1,p2,p3,p4⟩:=cells5 b3
 clear hR hIn hN hB b3 hts hz1
 go_enter Tryd.func14,Tryd.ntmps14
 go_wp2_with fail
 (try rw [hW1])
 clear hW1
 refine HC.out.mono ?_
 rintro e w2 ⟨rfl,g1⟩
 obtain ⟨k1,k2⟩:=HF.out w2 g1
 obtain ⟨r0,r1,r2,r3,r4⟩:=cells5 k1
 have H2:=hide k2
 clear g1 HC HF k1 k2 p0 p1 p2 p3 p4
 go_wp2_with fail
 refine H2.out.mono ?_
 rintro e w3 ⟨v,rs,rfl,m1,m2⟩
 have HE:=hide (And.intro m1 m2)
 clear m1 m2 H2
 go_wp2
 refine bodyPost_ret (v:=.tuple #[v,.int .i64 0]) (by simp [results,Tryd.results14,go_sem]) rfl ?_
 exact ⟨v,rs,rfl,HE.out.1,HE.out.2⟩
theorem Spn.at_ {w:World} {g:Nat} {out:List Int} (h:Spn w g out) {i:Nat} (hi:i<out.length):w.cell? ⟨g,i,none⟩=some (.int .i64 (out.getD i 0)):=by
 obtain ⟨cur,h1,h2⟩:=h
 have:=h2 i (out.getD i 0) (by rw [List.getD_eq_getElem?_getD,List.getElem?_eq_getElem hi];rfl)
 simp [World.cell?,h1,this]
set_option maxRecDepth 20000 in
set_option maxHeartbeats 4000000 in
theorem same_any (w:World) (g1 g2 c1 c2:Nat) (out:List Int) (h1:Spn w g1 out) (h2:Spn w g2 out) (hn:out.length≤100) :
  Calls Tryd.prog 11 #[.slice (some ⟨g1,0,none⟩) out.length c1,.slice (some ⟨g2,0,none⟩) out.length c2] w fun e w'=>e=.returned (.bool true)∧Below w.heap.size w w':=by
 have HC:Hid (∀ (W:World) (i:Nat),i<out.length→Below w.heap.size w W→W.cell? ⟨g1,i,none⟩=some (.int .i64 (out.getD i 0))∧W.cell? ⟨g2,i,none⟩=some (.int .i64 (out.getD i 0))):=hide fun W i hi hb=>⟨(h1.of_block (hb.block _ h1.lt)).at_ hi,(h2.of_block (hb.block _ h2.lt)).at_ hi⟩
 generalize out.length=n at *
 clear h1 h2
 go_enter Tryd.func11,Tryd.ntmps11
 go_wp2
 go_loopw [5] (fun v5 wr=>∃ i:Nat,i≤n∧v5=.int .i64 (i:Int)∧Hid (Below w.heap.size w wr)) (fun v5 _=>n-(intOf v5).toNat)
 case atStart=>exact ⟨0,by omega,rfl,hide (Below.refl _ _)⟩
 case round =>
  obtain ⟨i,hi,rfl,HX⟩:=hrel
  by_cases hin:i<n
  ·have hti:(i:Int)<(n:Int):=by omega
   have htw:IntKind.i64.wrap ((i:Int)+1)=((i+1:Nat):Int):=by rw [IntKind.wrap_i64];omega
   obtain ⟨x1,x2⟩:=HC.out wr i hin HX.out
   generalize out.getD i 0=V at x1 x2
   go_wp2
   go_quiet (fail)
   go_wp2
   go_roundw
   case rel=>exact ⟨i+1,by omega,by simp,hide (below_drewN HX.out _)⟩
   case measure=>simp [intOf];omega
  ·obtain rfl:i=n:=by omega
   have hnl:¬ (i:Int)<(i:Int):=by omega
   go_wp2
   go_ret
   exact ⟨rfl,HX.out⟩
theorem same_nil (w:World) (g2:Nat):Calls Tryd.prog 11 #[.slice none 0 0,.slice (some ⟨g2,0,none⟩) 0 0] w fun e w'=>e=.returned (.bool true)∧Below w.heap.size w w':=by
 go_enter Tryd.func11,Tryd.ntmps11
 go_wp2
 go_loopw [5] (fun v5 wr=>v5=.int .i64 0∧Hid (Below w.heap.size w wr)) (fun _ _=>0)
 case atStart=>exact ⟨rfl,hide (Below.refl _ _)⟩
 case round =>
  obtain ⟨rfl,HX⟩:=hrel
  go_wp2
  go_ret
  exact ⟨rfl,HX.out⟩
end Go.Proofs.YtfhimmnoipfiaaaDoor.eng
namespace Go.Proofs.YtfhimmnoipfiaaaDoor.eng
open bytes places sets tz rex
def Drawn (w W:World):Prop:=∃ n,W=w.drewN n
set_option maxRecDepth 20000 in
set_option maxHeartbeats 4000000 in
theorem same_quiet (w:World) (g1 g2 c1 c2 n:Nat) (out:List Int) (h1:Spn w g1 out) (h2:Spn w g2 out) (hl:out.length=n) (hn:n≤100) :
  Calls Tryd.prog 11 #[.slice (some ⟨g1,0,none⟩) n c1,.slice (some ⟨g2,0,none⟩) n c2] w fun e w'=>e=.returned (.bool true)∧Drawn w w':=by
 subst hl
 have HC:Hid (∀ (W:World) (i:Nat),i<out.length→Drawn w W→W.cell? ⟨g1,i,none⟩=some (.int .i64 (out.getD i 0))∧W.cell? ⟨g2,i,none⟩=some (.int .i64 (out.getD i 0))):=hide fun W i hi hb=>by
  obtain ⟨k,rfl⟩:=hb
  have hb:=below_drewN (Below.refl w.heap.size w) k
  exact ⟨(h1.of_block (hb.block _ h1.lt)).at_ hi,(h2.of_block (hb.block _ h2.lt)).at_ hi⟩
 have HD:Hid (∀ (W:World) (k:Nat),Drawn w W→Drawn w (W.drewN k)):=hide fun W k h=>by
  obtain ⟨j,rfl⟩:=h
  exact ⟨j+k,by simp [World.drewN,Nat.add_assoc]⟩
 generalize out.length=n at *
 clear h1 h2
 go_enter Tryd.func11,Tryd.ntmps11
 go_wp2
 go_loopw [5] (fun v5 wr=>∃ i:Nat,i≤n∧v5=.int .i64 (i:Int)∧Hid (Drawn w wr)) (fun v5 _=>n-(intOf v5).toNat)
 case atStart=>exact ⟨0,by omega,rfl,hide ⟨0,rfl⟩⟩
 case round =>
  obtain ⟨i,hi,rfl,HX⟩:=hrel
  by_cases hin:i<n
  ·have hti:(i:Int)<(n:Int):=by omega
   have htw:IntKind.i64.wrap ((i:Int)+1)=((i+1:Nat):Int):=by rw [IntKind.wrap_i64];omega
   obtain ⟨x1,x2⟩:=HC.out wr i hin HX.out
   generalize out.getD i 0=V at x1 x2
   go_wp2
   go_quiet (fail)
   go_wp2
   go_roundw
   case rel=>exact ⟨i+1,by omega,by simp,hide (HD.out _ _ HX.out)⟩
   case measure=>simp [intOf];omega
  ·obtain rfl:i=n:=by omega
   have hnl:¬ (i:Int)<(i:Int):=by omega
   go_wp2
   go_ret
   exact ⟨rfl,HX.out⟩
end Go.Proofs.YtfhimmnoipfiaaaDoor.eng
namespace Go.Proofs.YtfhimmnoipfiaaaDoor.eng
open bytes places sets tz rex
theorem PB.drawn {p:Pq} {b:Nat} {W W':World} (h:PB p b W) (hd:Drawn W W'):PB p b W':=by
 obtain ⟨n,rfl⟩:=hd
 exact h
theorem Drawn.trans {W W' W'':World} (h:Drawn W W') (g:Drawn W' W''):Drawn W W'':=by
 obtain ⟨n,rfl⟩:=h
 obtain ⟨k,rfl⟩:=g
 exact ⟨n+k,by rw [World.drewN_drewN]⟩
set_option maxRecDepth 10000 in
set_option maxHeartbeats 8000000 in
theorem ends_any (p:Pq) (b:Nat) (W:World) (h:PB p b W) (hL:p.ts.length≤1000) (ha:p.at_≤2000) :
  Calls Tryd.prog 82 #[.pointer (some ⟨b,0,none⟩)] W fun e w'=>∃ r:Bool,e=.returned (.bool r)∧(r=false→p.code=0∧p.at_<p.ts.length)∧Drawn W w':=by
 obtain ⟨c0,c1,c2,c3,c4,c5,c6⟩:=h.cells
 have hT:=strOfNums_size p.ts
 have HI:Hid (∀ (W':World) (S:ByteArray),S.size≤10→Drawn W W'→W'.cell? ⟨b,6,none⟩=some (.int .i64 (p.open_:Int))∧Calls Tryd.prog 61 #[.pointer (some ⟨b,0,none⟩),.string S] W' fun e w'=>e=.returned (.bool (p.is S))∧Drawn W w'):=hide fun W' S hS hd=>⟨(h.drawn hd).cells.2.2.2.2.2.2,(is_any p b W' (h.drawn hd) hL ha S hS).mono fun e w' ⟨h1,h2⟩=>⟨h1,hd.trans h2⟩⟩
 clear h c4 c5
 generalize strOfNums p.ts=T at *
 by_cases h0:p.code=0
 ·rw [h0] at c3
  by_cases hat:p.at_<p.ts.length
  ·have i1:¬ (T.size:Int)≤(p.at_:Int):=by omega
   have i2:decide ((T.size:Int)≤(p.at_:Int))=false:=decide_eq_false i1
   have HE:=hide (And.intro h0 hat)
   cases he:p.ere with
   | true =>
    rw [he] at c2
    cases hb:p.is ⟨#[124]⟩ with
    | true =>
     go_enter Tryd.func82,Tryd.ntmps82
     go_wp2
     go_quiet (fail)
     go_wp2_with fail
     refine (HI.out _ _ (by decide) ⟨_,rfl⟩).2.mono ?_
     rintro e w2 ⟨rfl,hd⟩
     rw [hb]
     have HD:=hide hd
     clear hd
     go_wp2
     go_ret
     exact ⟨_,rfl,fun _=>HE.out,HD.out⟩
    | false =>
     go_enter Tryd.func82,Tryd.ntmps82
     go_wp2
     go_quiet (fail)
     go_wp2_with fail
     refine (HI.out _ _ (by decide) ⟨_,rfl⟩).2.mono ?_
     rintro e w2 ⟨rfl,hd⟩
     rw [hb]
     obtain ⟨k6,hc⟩:=HI.out w2 ⟨#[41]⟩ (by decide) hd
     have HC:=hide hc
     generalize p.is ⟨#[41]⟩=r2 at HC
     clear hd hc k6
     cases r2 with
     | true =>
      go_wp2_with fail
      refine HC.out.mono ?_
      rintro e w3 ⟨rfl,hd⟩
      have k6:=(HI.out w3 ⟨#[]⟩ (by decide) hd).1
      have HD:=hide hd
      clear hd
      go_wp2
      go_ret
      exact ⟨_,rfl,fun _=>HE.out,HD.out⟩
     | false =>
      go_wp2_with fail
      refine HC.out.mono ?_
      rintro e w3 ⟨rfl,hd⟩
      have HD:=hide hd
      clear hd
      go_wp2
      go_ret
      exact ⟨_,rfl,fun _=>HE.out,HD.out⟩
   | false =>
    rw [he] at c2
    go_enter Tryd.func82,Tryd.ntmps82
    go_wp2
    go_quiet (fail)
    go_wp2_with fail
    refine (HI.out _ _ (by decide) ⟨_,rfl⟩).2.mono ?_
    rintro e w2 ⟨rfl,hd⟩
    have k6:=(HI.out w2 ⟨#[]⟩ (by decide) hd).1
    have HD:=hide hd
    clear hd
    generalize p.is ⟨#[92,41]⟩=r2
    cases r2 with
    | true =>
     go_wp2
     go_ret
     exact ⟨_,rfl,fun _=>HE.out,HD.out⟩
    | false =>
     go_wp2
     go_ret
     exact ⟨_,rfl,fun _=>HE.out,HD.out⟩
  ·have i1:(T.size:Int)≤(p.at_:Int):=by omega
   have i2:decide ((T.size:Int)≤(p.at_:Int))=true:=decide_eq_true i1
   go_enter Tryd.func82,Tryd.ntmps82
   go_wp2
   go_quiet (fail)
   go_wp2
   go_ret
   exact ⟨true,rfl,(fun h=>by cases h),_,rfl⟩
 ·have h1:(p.code == 0)=false:=by simpa using h0
  have h2:decide (p.code=0)=false:=by simpa using h0
  go_enter Tryd.func82,Tryd.ntmps82
  go_wp2
  go_quiet (fail)
  go_wp2
  go_ret
  exact ⟨true,rfl,(fun h=>by cases h),_,rfl⟩
end Go.Proofs.YtfhimmnoipfiaaaDoor.eng
namespace Go.Proofs.YtfhimmnoipfiaaaDoor.eng
open bytes places sets tz rex
abbrev PG (b:Nat) (W W':World):Prop:=W.grownBy W' (some b)
section
variable {p q:Pq} {b:Nat} {W W' W'':World}
theorem PG.refl:PG b W W:=⟨rfl,rfl,rfl,Nat.le_refl _,fun _ _ _=>rfl⟩
theorem PG.tr (h:PG b W W') (k:PG b W' W''):PG b W W'':=grown_trans h k
theorem PG.drawn (h:Drawn W W'):PG b W W':=by
 obtain ⟨n,rfl⟩:=h
 exact ⟨rfl,rfl,rfl,Nat.le_refl _,fun _ _ _=>rfl⟩
theorem PG.below (h:Below W.heap.size W W'):PG b W W':=grown_of_below h
theorem PG.alloc (o:Obj):PG b W (W.alloc o):=grown_of_below ((Below.refl _ _).alloc (Nat.le_refl _) o)
theorem PG.set (i:Nat) (v:Value):PG b W (W.setCell ⟨b,i,none⟩ v):=⟨rfl,rfl,rfl,by simp,fun k _ hk=>heap_setCell_other _ _ _ _ fun e=>hk (by rw [e])⟩
theorem PG.setNew (h:PG b W W') {c:Nat} (hc:W.heap.size≤c) (i:Nat) (v:Value):PG b W (W'.setCell ⟨c,i,none⟩ v) :=
 ⟨h.os,h.tape,h.output,by simpa using h.size,fun k hk hn=>(heap_setCell_other W' ⟨c,i,none⟩ k v (by show k≠c;omega)).trans (h.block k hk hn)⟩
theorem PB.setAt (h:PB p b W) (n:Nat):PB { p with at_:=n } b (W.setCell ⟨b,1,none⟩ (.int .i64 (n:Int))):=by
 have e:=heap_setCell_same W b 1 _ 84 (.int .i64 (n:Int)) h
 unfold PB
 simpa using e
theorem PB.setGroups (h:PB p b W) (n:Nat):PB { p with groups:=n } b (W.setCell ⟨b,5,none⟩ (.int .i64 (n:Int))):=by
 have e:=heap_setCell_same W b 5 _ 84 (.int .i64 (n:Int)) h
 unfold PB
 simpa using e
theorem PB.setOpen (h:PB p b W) (n:Nat):PB { p with open_:=n } b (W.setCell ⟨b,6,none⟩ (.int .i64 (n:Int))):=by
 have e:=heap_setCell_same W b 6 _ 84 (.int .i64 (n:Int)) h
 unfold PB
 simpa using e
theorem PB.below (h:PB p b W) (hb:Below W.heap.size W W'):PB p b W':=(hb.block b h.lt).trans h
theorem PB.setNew (h:PB p b W) {c:Nat} (hc:b≠c) (i:Nat) (v:Value):PB p b (W.setCell ⟨c,i,none⟩ v):=(heap_setCell_other W ⟨c,i,none⟩ b v hc).trans h
theorem failed_code (p:Pq) (c q:Int) (hc:c≠0):(p.failed c q).code≠0:=by
 unfold Pq.failed
 split
 ·exact hc
 ·assumption
theorem failed_rest (p:Pq) (c q:Int):(p.failed c q).ts=p.ts∧(p.failed c q).at_=p.at_∧(p.failed c q).ere=p.ere∧(p.failed c q).groups=p.groups∧(p.failed c q).open_=p.open_:=by
 unfold Pq.failed
 split <;> exact ⟨rfl,rfl,rfl,rfl,rfl⟩
theorem is_true {S:ByteArray} (h:p.is S=true):p.code=0∧p.at_+S.size≤p.ts.length:=by
 unfold Pq.is at h
 simp only [Bool.and_eq_true,decide_eq_true_eq] at h
 first
  | exact ⟨h.1.1,h.1.2⟩
  | exact ⟨h.1,h.2.1⟩
  | (simp at h;exact ⟨by omega,by omega⟩)
end
def TreeAt (lo:Nat) (W:World) (cs:Array Value) (g0 g1 n:Nat):Prop:=∃ (T:Tr) (M:Fz),RxAt M T cs∧In M W∧(∀ x o,M x=some o→lo≤x)∧NumT g0 T∧g1=g0+ngT T∧OkT 20 T∧szT T≤n
section
variable {lo lo' b g0 g1 g2 n n':Nat} {W W':World} {cs:Array Value}
theorem TreeAt.keep (h:TreeAt lo W cs g0 g1 n) (hb:b<lo) (hg:PG b W W'):TreeAt lo W' cs g0 g1 n:=by
 obtain ⟨T,M,h1,h2,h3,h4⟩:=h
 refine ⟨T,M,h1,fun x o hx => ?_,h3,h4⟩
 have hl:=h3 x o hx
 exact (hg.block x (Array.getElem?_eq_some_iff.1 (h2 x o hx)).1 (by simp;omega)).trans (h2 x o hx)
theorem TreeAt.block (h:TreeAt lo W cs g0 g1 n) (hb:∀ x,lo≤x→x<W.heap.size→W'.heap[x]?=W.heap[x]?):TreeAt lo W' cs g0 g1 n:=by
 obtain ⟨T,M,h1,h2,h3,h4⟩:=h
 exact ⟨T,M,h1,fun x o hx=>(hb x (h3 x o hx) (Array.getElem?_eq_some_iff.1 (h2 x o hx)).1).trans (h2 x o hx),h3,h4⟩
theorem TreeAt.mono (h:TreeAt lo W cs g0 g1 n) (hl:lo'≤lo):TreeAt lo' W cs g0 g1 n:=by
 obtain ⟨T,M,h1,h2,h3,h4⟩:=h
 exact ⟨T,M,h1,h2,fun x o hx=>Nat.le_trans hl (h3 x o hx),h4⟩
theorem TreeAt.le (h:TreeAt lo W cs g0 g1 n) (hn:n≤n'):TreeAt lo W cs g0 g1 n':=by
 obtain ⟨T,M,h1,h2,h3,h4,h5,h6,h7⟩:=h
 exact ⟨T,M,h1,h2,h3,h4,h5,h6,Nat.le_trans h7 hn⟩
theorem TreeAt.leaf (lo:Nat) (W:World) (g:Nat) {T:Tr} (h1:∀ M,RxAt M T cs) (h2:NumT g T) (h3:ngT T=0) (h4:OkT 20 T) (h5:szT T≤1):TreeAt lo W cs g g 1 :=
 ⟨T,fun _=>none,h1 _,(fun x o hx=>by cases hx),(fun x o hx=>by cases hx),h2,by omega,h4,h5⟩
theorem TreeAt.char (lo:Nat) (W:World) (g:Nat) {c:Int} (h0:0≤c) (h1:c≤255):TreeAt lo W (rxV 1 c 0 mt0 nilV) g g 1 :=
 TreeAt.leaf lo W g (T:=.char c) (fun M=>by rw [RxAt]) (by rw [NumT];trivial;all_goals simp) (by simp [ngT]) (by rw [OkT];exact ⟨h0,h1⟩) (by simp [szT])
theorem TreeAt.any (lo:Nat) (W:World) (g:Nat):TreeAt lo W (rxV 2 0 0 mt0 nilV) g g 1 :=
 TreeAt.leaf lo W g (T:=.any) (fun M=>by rw [RxAt]) (by simp [NumT]) (by simp [ngT]) (by simp [OkT]) (by simp [szT])
theorem TreeAt.beg (lo:Nat) (W:World) (g:Nat):TreeAt lo W (rxV 4 0 0 mt0 nilV) g g 1 :=
 TreeAt.leaf lo W g (T:=.beg) (fun M=>by rw [RxAt]) (by simp [NumT]) (by simp [ngT]) (by simp [OkT]) (by simp [szT])
theorem TreeAt.fin (lo:Nat) (W:World) (g:Nat):TreeAt lo W (rxV 5 0 0 mt0 nilV) g g 1 :=
 TreeAt.leaf lo W g (T:=.fin) (fun M=>by rw [RxAt]) (by simp [NumT]) (by simp [ngT]) (by simp [OkT]) (by simp [szT])
theorem TreeAt.set (lo:Nat) (W:World) (g:Nat) {s:List Int} (h1:s≠[]) (h2:∀ x∈s,0≤x∧x≤255) (h3:s.Pairwise (· < ·)):TreeAt lo W (rxV 3 0 0 (strOfNums s) nilV) g g 1 :=
 TreeAt.leaf lo W g (T:=.set s) (fun M=>by rw [RxAt]) (by simp [NumT]) (by simp [ngT]) (by rw [OkT];exact ⟨h1,h2,h3⟩) (by simp [szT])
def Fz.add (M:Fz) (g:Nat) (o:Obj):Fz:=fun x=>if x=g then some o else M x
theorem Fz.le_add {M:Fz} {g:Nat} (o:Obj) (h:M g=none):FLe M (M.add g o):=fun x o' hx=>by
 unfold Fz.add
 split
 ·rename_i e;rw [e,h] at hx;cases hx
 ·exact hx
theorem Fz.add_in {M:Fz} {g:Nat} {o:Obj} (h:In M W) (hg:W.heap[g]?=some o):In (M.add g o) W:=fun x o' hx=>by
 unfold Fz.add at hx
 split at hx
 ·rename_i e;rw [e,hg,hx]
 ·exact h x o' hx
theorem Fz.add_lo {M:Fz} {g:Nat} {o:Obj} (h:∀ x o,M x=some o→lo≤x) (hg:lo≤g):∀ x o',(M.add g o) x=some o'→lo≤x:=fun x o' hx=>by
 unfold Fz.add at hx
 split at hx
 ·rename_i e;rw [e];exact hg
 ·exact h x o' hx
theorem TreeAt.group (h:TreeAt lo W cs (g0+1) g1 n) (hs:cs.size=5) {g:Nat} (hg:W.heap[g]?=some (.cells cs 25 (0,0))) (hlo:lo≤g) (cap:Nat) (hm:g0+1≤9):TreeAt lo W (rxV 6 ((g0+1:Nat):Int) 0 mt0 (.slice (some ⟨g,0,none⟩) 1 cap)) g0 g1 (n+1):=by
 obtain ⟨T,M,h1,h2,h3,h4,h5,h6,h7⟩:=h
 have key:∃ M':Fz,In M' W∧(∀ x o,M' x=some o→lo≤x)∧M' g=some (.cells cs 25 (0,0))∧RxAt M' T cs:=by
  by_cases hM:M g=none
  ·exact ⟨M.add g _,Fz.add_in h2 hg,Fz.add_lo h3 hlo,by unfold Fz.add;rw [if_pos rfl],RxAt.up (Fz.le_add _ hM) T cs h1⟩
  ·obtain ⟨o,ho⟩:∃ o,M g=some o:=by
    cases e:M g with
    | none=>exact absurd e hM
    | some o=>exact ⟨o,rfl⟩
   have:=h2 g o ho
   rw [hg] at this
   exact ⟨M,h2,h3,by rw [ho,←this],h1⟩
 obtain ⟨M',k1,k2,k3,k4⟩:=key
 exact ⟨.group (g0+1) T,M',by rw [RxAt];exact ⟨g,cap,_,rfl,k3,cs,hs,fun j _=>by simp,k4⟩,k1,k2,by rw [NumT];exact ⟨rfl,h4⟩,by rw [ngT];omega,by rw [OkT];exact ⟨by omega,by omega,hm,h6⟩,by rw [szT];omega⟩
end
theorem KAt.prefix {M:Fz}:∀ {ks:List Tr} {cur cur':Array Value} {i:Nat},KAt M ks cur i→(∀ x,x<(i+ks.length)*5→cur'[x]?=cur[x]?)→KAt M ks cur' i
 | [],cur,cur',i,h,he=>by rw [KAt];trivial
 | k::ks,cur,cur',i,h,he=>by
  rw [KAt] at h ⊢
  obtain ⟨⟨cc,h1,h2,h3⟩,h4⟩:=h
  refine ⟨⟨cc,h1,fun j hj=>(he _ (by rw [List.length_cons];omega)).trans (h2 j hj),h3⟩,KAt.prefix h4 fun x hx=>he x (by rw [List.length_cons];omega)⟩
theorem KAt.snoc {M:Fz}:∀ {ks:List Tr} {cur:Array Value} {i:Nat} {T:Tr} {cc:Array Value},KAt M ks cur i→cc.size=5→(∀ j,j<5→cur[(i+ks.length)*5+j]?=cc[j]?)→RxAt M T cc→KAt M (ks++[T]) cur i
 | [],cur,i,T,cc,h,h1,h2,h3=>by
  rw [List.nil_append,KAt]
  exact ⟨⟨cc,h1,fun j hj=>by simpa using h2 j hj,h3⟩,by rw [KAt];trivial⟩
 | k::ks,cur,i,T,cc,h,h1,h2,h3=>by
  rw [KAt] at h
  rw [List.cons_append,KAt]
  exact ⟨h.1,KAt.snoc h.2 h1 (fun j hj=>by rw [←h2 j hj,List.length_cons,show i+1+ks.length=i+(ks.length+1) by omega]) h3⟩
theorem NumK.snoc:∀ {ks:List Tr} {g:Nat} {T:Tr},NumK g ks→NumT (g+ngK ks) T→NumK g (ks++[T])
 | [],g,T,h,h1=>by
  rw [List.nil_append,NumK]
  exact ⟨by simpa [ngK] using h1,by rw [NumK];trivial⟩
 | k::ks,g,T,h,h1=>by
  rw [NumK] at h
  rw [List.cons_append,NumK]
  exact ⟨h.1,NumK.snoc h.2 (by rw [ngK] at h1;rw [Nat.add_assoc];exact h1)⟩
theorem szK_snoc:∀ (ks:List Tr) (T:Tr),szK (ks++[T])=szK ks+szT T
 | [],T=>by simp [szK]
 | k::ks,T=>by rw [List.cons_append,szK,szK,szK_snoc ks T,Nat.add_assoc]
theorem ngK_snoc:∀ (ks:List Tr) (T:Tr),ngK (ks++[T])=ngK ks+ngT T
 | [],T=>by simp [ngK]
 | k::ks,T=>by rw [List.cons_append,ngK,ngK,ngK_snoc ks T,Nat.add_assoc]
theorem OkK.snoc {N:Nat}:∀ {ks:List Tr} {T:Tr},OkK N ks→OkT N T→OkK N (ks++[T])
 | [],T,h,h1=>by
  rw [List.nil_append,OkK]
  exact ⟨h1,by rw [OkK];trivial⟩
 | k::ks,T,h,h1=>by
  rw [OkK] at h
  rw [List.cons_append,OkK]
  exact ⟨h.1,OkK.snoc h.2 h1⟩
end Go.Proofs.YtfhimmnoipfiaaaDoor.eng
