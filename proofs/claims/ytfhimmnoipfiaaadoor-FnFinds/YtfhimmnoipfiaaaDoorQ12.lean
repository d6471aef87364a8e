import Derived.Test.YtfhimmnoipfiaaaDoorQ11
import Derived.Deep.QuietTactic
import Derived.BigQuiet
import Derived.Deep.AppendLies
set_option linter.unusedVariables false
open Go.ChangeShapes Go.WideShapes Go.ChangeAt Go.RowKit
namespace Go.Proofs.YtfhimmnoipfiaaaDoor.eng
open bytes places sets tz rex
structure Nx (p q:Pq):Prop where
 ts:q.ts=p.ts
 ere:q.ere=p.ere
 op:q.open_=p.open_
 at_:p.at_≤q.at_
 gr:p.groups≤q.groups
 code:q.code=0→p.code=0
theorem Nx.refl (p:Pq):Nx p p:=⟨rfl,rfl,rfl,Nat.le_refl _,Nat.le_refl _,id⟩
theorem Nx.tr {p q r:Pq} (h:Nx p q) (k:Nx q r):Nx p r:=⟨k.ts.trans h.ts,k.ere.trans h.ere,k.op.trans h.op,Nat.le_trans h.at_ k.at_,Nat.le_trans h.gr k.gr,fun e=>h.code (k.code e)⟩
theorem Nx.at (p:Pq) {n:Nat} (h:p.at_≤n):Nx p { p with at_:=n }:=⟨rfl,rfl,rfl,h,Nat.le_refl _,id⟩
theorem Nx.failed (p:Pq) {c q:Int} (hc:c≠0):Nx p (p.failed c q) :=
 ⟨(failed_rest p c q).1,(failed_rest p c q).2.2.1,(failed_rest p c q).2.2.2.2,Nat.le_of_eq (failed_rest p c q).2.1.symm,Nat.le_of_eq (failed_rest p c q).2.2.2.1.symm,fun e=>absurd e (failed_code p c q hc)⟩
def NumR (p:Pq) (b:Nat) (W:World) (e:Ending) (w':World):Prop:=∃ (n:Int) (q:Pq),e=.returned (.int .i64 n)∧PB q b w'∧PG b W w'∧Nx p q∧q.groups=p.groups∧q.at_≤max p.at_ p.ts.length∧(q.code=0→0≤n∧n≤20)
theorem numR_fail {p:Pq} {b k:Nat} {W w2:World} {n c q:Int} (hk:p.at_≤k) (hk2:k≤max p.at_ p.ts.length) (hc:c≠0) (h1:PB (({ p with at_:=k }:Pq).failed c q) b w2) (h2:PG b W w2):NumR p b W (.returned (.int .i64 n)) w2 :=
 ⟨n,_,rfl,h1,h2,(Nx.at p hk).tr (Nx.failed _ hc),(failed_rest _ c q).2.2.2.1,by rw [(failed_rest _ c q).2.1];exact hk2,fun e=>absurd e (failed_code _ c q hc)⟩
theorem numR_ok {p:Pq} {b k:Nat} {W w2:World} {n:Int} (hk:p.at_≤k) (hk2:k≤max p.at_ p.ts.length) (h0:0≤n) (h9:n≤20) (h1:PB { p with at_:=k } b w2) (h2:PG b W w2):NumR p b W (.returned (.int .i64 n)) w2 :=
 ⟨n,_,rfl,h1,h2,Nx.at p hk,rfl,hk2,fun _=>⟨h0,h9⟩⟩
def meaP (b F:Nat) (w:World):Nat:=F+3-(match w.cell? ⟨b,1,none⟩ with | some (.int _ x)=>x.toNat | _=>0)
theorem meaP_eq {p:Pq} {b F k:Nat} {w:World} (h:PB { p with at_:=k } b w):meaP b F w=F+3-k:=by
 unfold meaP
 rw [h.cells.2.1]
 simp
set_option maxRecDepth 10000 in
set_option maxHeartbeats 8000000 in
theorem number_any (p:Pq) (b:Nat) (W:World) (h:PB p b W) (hL:p.ts.length≤1000) (ha:p.at_≤2000) (hts:∀ t∈p.ts,0≤t∧t≤255) :
  Calls Tryd.prog 103 #[.pointer (some ⟨b,0,none⟩)] W (NumR p b W):=by
 obtain ⟨c0,c1,c2,c3,c4,c5,c6⟩:=h.cells
 obtain ⟨F,hF⟩:∃ F,F=p.at_:=⟨_,rfl⟩
 rw [←hF] at c1 ha
 have hS:=strOfNums_size p.ts
 have hix:=hide fun (k:Nat) (hlt:k<p.ts.length) (W:World)=>index_text p.ts hts k hlt W
 have hbyte:=hide fun (k:Nat) (hlt:k<p.ts.length)=>getD_bd hts k
 have HP:=hide h
 have HF:=hide hF
 have HC:Hid (∀ (W':World) (k:Nat),PB { p with at_:=k } b W'→W'.cell? ⟨b,0,none⟩=some (.string (strOfNums p.ts))∧W'.cell? ⟨b,1,none⟩=some (.int .i64 (k:Int))∧W'.frozen? ⟨b,1,none⟩=false):=hide fun W' k hb=>⟨hb.cells.1,hb.cells.2.1,hb.fz 1⟩
 have HF40:Hid (∀ (W':World) (k:Nat) (c q:Int),PB { p with at_:=k } b W'→Calls Tryd.prog 40 #[.pointer (some ⟨b,0,none⟩),.int .i64 c,.int .i64 q] W' fun e w'=>e=.returned (.tuple #[])∧PB (({ p with at_:=k }:Pq).failed c q) b w'∧W'.grownBy w' (some b)):=hide fun W' k c q hb=>fail_any _ b W' hb c q
 generalize strOfNums p.ts=T at *
 clear h hts c0 c2 c3 c4 c5 c6 hF
 go_enter Tryd.func103,Tryd.ntmps103
 go_wp2
 go_loopw [4] (fun v4 wr=>∃ (d:Nat) (n:Int),v4=.int .i64 n∧d≤3∧0≤n∧n≤999∧(d=0→n=0)∧(d=1→n≤9)∧(d=2→n≤99)∧Hid (PB { p with at_:=F+d } b wr∧PG b W wr∧F+d≤max F p.ts.length)) (fun v4 wr=>meaP b F wr)
 case atStart=>exact ⟨0,0,rfl,by omega,by omega,by omega,by omega,by omega,by omega,hide ⟨by rw [Nat.add_zero,HF.out];exact HP.out,PG.refl,by omega⟩⟩
 case round =>
  obtain ⟨d,n,rfl,hd,hn0,hn9,hd0,hd1,hd2,HX⟩:=hrel
  obtain ⟨k,hk⟩:∃ k,k=F+d:=⟨_,rfl⟩
  rw [←hk] at HX
  obtain ⟨x0,x1,x2⟩:=HC.out wr k HX.out.1
  have HK:Hid (p.at_≤k∧k≤max p.at_ p.ts.length):=hide (by rw [←HF.out];exact ⟨by omega,HX.out.2.2⟩)
  have HPB:Hid (∀ m,PB { p with at_:=k } b (wr.drewN m)):=hide fun m=>HX.out.1
  have HG:Hid (∀ m,PG b W (wr.drewN m)):=hide fun m=>HX.out.2.1.tr (PG.drawn ⟨m,rfl⟩)
  have hw0:IntKind.i64.wrap ((k:Int)-(F:Int))=(d:Int):=by rw [IntKind.wrap_i64];omega
  have hk1:IntKind.i64.wrap ((k:Int)+1)=((k+1:Nat):Int):=by rw [IntKind.wrap_i64];omega
  have HKK:=hide hk
  clear hk
  by_cases hat:k<p.ts.length
  ·have i1:(k:Int)<(p.ts.length:Int):=by omega
   have i2:=hix.out k hat
   have hb:=hbyte.out k hat
   generalize p.ts.getD k 0=c at i2 hb
   by_cases hdig:48≤c∧c≤57
   ·have HD:Hid (∀ m,Calls Tryd.prog 106 #[.int .u8 c] (wr.drewN m) fun e w'=>e=.returned (.bool true)∧w'=wr.drewN m):=hide fun m=>(digit_any (wr.drewN m) c).mono fun e w' ⟨h1,h2⟩=>⟨by rw [h1];simp [hdig.1,hdig.2],h2⟩
    by_cases hd3:d<3
    ·have j1:(d:Int)<3:=by omega
     have hw1:IntKind.i64.wrap (n*10)=n*10:=by rw [IntKind.wrap_i64];omega
     have hw2:IntKind.i64.wrap c=c:=by rw [IntKind.wrap_i64];omega
     have hw3:IntKind.i64.wrap (n*10+c)=n*10+c:=by rw [IntKind.wrap_i64];omega
     have hw4:IntKind.i64.wrap (n*10+c-48)=n*10+c-48:=by rw [IntKind.wrap_i64];omega
     have HN:Hid (∀ m,PB { p with at_:=F+(d+1) } b ((wr.drewN m).setCell ⟨b,1,none⟩ (.int .i64 ((k:Int)+1)))∧PG b W ((wr.drewN m).setCell ⟨b,1,none⟩ (.int .i64 ((k:Int)+1)))∧F+(d+1)≤max F p.ts.length∧meaP b F ((wr.drewN m).setCell ⟨b,1,none⟩ (.int .i64 ((k:Int)+1)))<meaP b F wr):=hide fun m=>by
      have h1:PB { p with at_:=k } b (wr.drewN m):=HX.out.1
      rw [show ((k:Int)+1)=((k+1:Nat):Int) by omega]
      have h2:=h1.setAt (k+1)
      have hk:=HKK.out
      refine ⟨by rw [show F+(d+1)=k+1 by omega];exact h2,(HX.out.2.1.tr (PG.drawn ⟨m,rfl⟩)).tr (PG.set 1 _),by omega,?_⟩
      rw [meaP_eq (p:=p) h2,meaP_eq HX.out.1]
      omega
     go_wp2
     go_quiet ((go_at_call 106;exact Calls.quiet_of_same (HD.out _)))
     go_wp2
     go_quiet (fail)
     go_wp2
     go_roundw
     case rel=>exact ⟨d+1,n*10+c-48,rfl,by omega,by omega,by omega,by omega,by omega,by omega,hide ⟨(HN.out _).1,(HN.out _).2.1,(HN.out 0).2.2.1⟩⟩
     case measure=>exact (HN.out _).2.2.2
    ·have j1:decide ((d:Int)<3)=false:=by simp;omega
     have he:((k:Int) == (F:Int))=false:=by have:=HKK.out;simp;omega
     by_cases hn2:(20:Int)<n
     ·go_wp2
      go_quiet ((go_at_call 106;exact Calls.quiet_of_same (HD.out _)))
      go_wp2_with fail
      refine (HF40.out _ k 5 (F:Int) (HPB.out _)).mono ?_
      rintro e w2 ⟨rfl,f1,f2⟩
      have HE:=hide (numR_fail (n:=n) (W:=W) HK.out.1 HK.out.2 (by decide) f1 ((HG.out _).tr f2))
      clear f1 f2
      go_wp2
      go_ret
      exact HE.out
     ·have HE:Hid (∀ m,NumR p b W (.returned (.int .i64 n)) (wr.drewN m)):=hide fun m=>numR_ok HK.out.1 HK.out.2 hn0 (by omega) (HPB.out m) (HG.out m)
      go_wp2
      go_quiet ((go_at_call 106;exact Calls.quiet_of_same (HD.out _)))
      go_wp2
      go_ret
      exact HE.out _
   ·have HD:Hid (∀ m,Calls Tryd.prog 106 #[.int .u8 c] (wr.drewN m) fun e w'=>e=.returned (.bool false)∧w'=wr.drewN m):=hide fun m=>(digit_any (wr.drewN m) c).mono fun e w' ⟨h1,h2⟩=>⟨by rw [h1];congr 2;simp;omega,h2⟩
    by_cases hd00:d=0
    ·obtain rfl:n=0:=hd0 hd00
     have he:((k:Int) == (F:Int))=true:=by have:=HKK.out;simp;omega
     go_wp2
     go_quiet ((go_at_call 106;exact Calls.quiet_of_same (HD.out _)))
     go_wp2_with fail
     refine (HF40.out _ k 4 (k:Int) (HPB.out _)).mono ?_
     rintro e w2 ⟨rfl,f1,f2⟩
     have HE:=hide (numR_fail (n:=0) (W:=W) HK.out.1 HK.out.2 (by decide) f1 ((HG.out _).tr f2))
     clear f1 f2
     go_wp2
     go_ret
     exact HE.out
    ·have he:((k:Int) == (F:Int))=false:=by have:=HKK.out;simp;omega
     by_cases hn2:(20:Int)<n
     ·go_wp2
      go_quiet ((go_at_call 106;exact Calls.quiet_of_same (HD.out _)))
      go_wp2_with fail
      refine (HF40.out _ k 5 (F:Int) (HPB.out _)).mono ?_
      rintro e w2 ⟨rfl,f1,f2⟩
      have HE:=hide (numR_fail (n:=n) (W:=W) HK.out.1 HK.out.2 (by decide) f1 ((HG.out _).tr f2))
      clear f1 f2
      go_wp2
      go_ret
      exact HE.out
     ·have HE:Hid (∀ m,NumR p b W (.returned (.int .i64 n)) (wr.drewN m)):=hide fun m=>numR_ok HK.out.1 HK.out.2 hn0 (by omega) (HPB.out m) (HG.out m)
      go_wp2
      go_quiet ((go_at_call 106;exact Calls.quiet_of_same (HD.out _)))
      go_wp2
      go_ret
      exact HE.out _
  ·have i1:decide ((k:Int)<(p.ts.length:Int))=false:=by simp;omega
   by_cases hd00:d=0
   ·obtain rfl:n=0:=hd0 hd00
    have he:((k:Int) == (F:Int))=true:=by have:=HKK.out;simp;omega
    go_wp2
    go_quiet (fail)
    go_wp2_with fail
    refine (HF40.out _ k 4 (k:Int) (HPB.out _)).mono ?_
    rintro e w2 ⟨rfl,f1,f2⟩
    have HE:=hide (numR_fail (n:=0) (W:=W) HK.out.1 HK.out.2 (by decide) f1 ((HG.out _).tr f2))
    clear f1 f2
    go_wp2
    go_ret
    exact HE.out
   ·have he:((k:Int) == (F:Int))=false:=by have:=HKK.out;simp;omega
    by_cases hn2:(20:Int)<n
    ·go_wp2
     go_quiet (fail)
     go_wp2_with fail
     refine (HF40.out _ k 5 (F:Int) (HPB.out _)).mono ?_
     rintro e w2 ⟨rfl,f1,f2⟩
     have HE:=hide (numR_fail (n:=n) (W:=W) HK.out.1 HK.out.2 (by decide) f1 ((HG.out _).tr f2))
     clear f1 f2
     go_wp2
     go_ret
     exact HE.out
    ·have HE:Hid (∀ m,NumR p b W (.returned (.int .i64 n)) (wr.drewN m)):=hide fun m=>numR_ok HK.out.1 HK.out.2 hn0 (by omega) (HPB.out m) (HG.out m)
     go_wp2
     go_quiet (fail)
     go_wp2
     go_ret
     exact HE.out _
end Go.Proofs.YtfhimmnoipfiaaaDoor.eng
namespace Go.Proofs.YtfhimmnoipfiaaaDoor.eng
open bytes places sets tz rex
structure Go1 (p:Pq) (b:Nat) (W:World) (q:Pq) (w:World):Prop where
 pb:PB q b w
 pg:PG b W w
 nx:Nx p q
 gr:q.groups=p.groups
section
variable {p q:Pq} {b:Nat} {W w w':World}
theorem Go1.cells (h:Go1 p b W q w):w.cell? ⟨b,0,none⟩=some (.string (strOfNums q.ts))∧w.cell? ⟨b,1,none⟩=some (.int .i64 (q.at_:Int))∧w.cell? ⟨b,2,none⟩=some (.bool q.ere)∧w.cell? ⟨b,3,none⟩=some (.int .i64 q.code)∧w.cell? ⟨b,5,none⟩=some (.int .i64 (q.groups:Int))∧w.cell? ⟨b,6,none⟩=some (.int .i64 (q.open_:Int)):=⟨h.pb.cells.1,h.pb.cells.2.1,h.pb.cells.2.2.1,h.pb.cells.2.2.2.1,h.pb.cells.2.2.2.2.2.1,h.pb.cells.2.2.2.2.2.2⟩
theorem Go1.drawn (h:Go1 p b W q w) (hd:Drawn w w'):Go1 p b W q w':=⟨h.pb.drawn hd,h.pg.tr (PG.drawn hd),h.nx,h.gr⟩
theorem Go1.setAt (h:Go1 p b W q w) {n:Nat} (hn:q.at_≤n):Go1 p b W { q with at_:=n } (w.setCell ⟨b,1,none⟩ (.int .i64 (n:Int))):=⟨h.pb.setAt n,h.pg.tr (PG.set 1 _),h.nx.tr (Nx.at q hn),h.gr⟩
theorem Go1.tr {r:Pq} (h:Go1 p b W q w) (k:Go1 q b w r w'):Go1 p b W r w':=⟨k.pb,h.pg.tr k.pg,h.nx.tr k.nx,k.gr.trans h.gr⟩
theorem Go1.below (h:Go1 p b W q w) (hb:Below w.heap.size w w'):Go1 p b W q w':=⟨h.pb.below hb,h.pg.tr (PG.below hb),h.nx,h.gr⟩
theorem Go1.refl (h:PB p b W):Go1 p b W p W:=⟨h,PG.refl,Nx.refl p,rfl⟩
structure Can1 (q:Pq) (b:Nat) (w:World):Prop where
 c1:w.cell? ⟨b,1,none⟩=some (.int .i64 (q.at_:Int))
 c2:w.cell? ⟨b,2,none⟩=some (.bool q.ere)
 c3:w.cell? ⟨b,3,none⟩=some (.int .i64 q.code)
 f1:w.frozen? ⟨b,1,none⟩=false
theorem Go1.can (h:Go1 p b W q w):Can1 q b w:=⟨h.cells.2.1,h.cells.2.2.1,h.cells.2.2.2.1,h.pb.fz 1⟩
theorem Go1.is (h:Go1 p b W q w) (hL:q.ts.length≤1000) (ha:q.at_≤2000) (S:ByteArray) (hS:S.size≤10):Calls Tryd.prog 61 #[.pointer (some ⟨b,0,none⟩),.string S] w fun e w'=>e=.returned (.bool (q.is S))∧Go1 p b W q w' :=
 (is_any q b w h.pb hL ha S hS).mono fun e w' ⟨h1,h2⟩=>⟨h1,h.drawn h2⟩
theorem Go1.fail (h:Go1 p b W q w) {c:Int} (hc:c≠0) (x:Int):Calls Tryd.prog 40 #[.pointer (some ⟨b,0,none⟩),.int .i64 c,.int .i64 x] w fun e w'=>e=.returned (.tuple #[])∧Go1 p b W (q.failed c x) w' :=
 (fail_any q b w h.pb c x).mono fun e w' ⟨h1,h2,h3⟩=>⟨h1,h2,h.pg.tr h3,h.nx.tr (Nx.failed q hc),(failed_rest q c x).2.2.2.1.trans h.gr⟩
theorem Go1.number (h:Go1 p b W q w) (hL:q.ts.length≤1000) (ha:q.at_≤2000) (hts:∀ t∈q.ts,0≤t∧t≤255):Calls Tryd.prog 103 #[.pointer (some ⟨b,0,none⟩)] w fun e w'=>∃ (n:Int) (r:Pq),e=.returned (.int .i64 n)∧Go1 p b W r w'∧r.ts=q.ts∧r.at_≤max q.at_ q.ts.length∧q.at_≤r.at_∧(r.code=0→0≤n∧n≤20) :=
 (number_any q b w h.pb hL ha hts).mono fun e w' ⟨n,r,h1,h2,h3,h4,h5,h6,h7⟩=>⟨n,r,h1,⟨h2,h.pg.tr h3,h.nx.tr h4,h5.trans h.gr⟩,h4.ts,h6,h4.at_,h7⟩
end
end Go.Proofs.YtfhimmnoipfiaaaDoor.eng
namespace Go.Proofs.YtfhimmnoipfiaaaDoor.eng
open bytes places sets tz rex
theorem Go1.step1 {p q:Pq} {b:Nat} {W w:World} (h:Go1 p b W q w) (hq:q.at_≤10000):∃ r w',w.setCell ⟨b,1,none⟩ (.int .i64 (r.at_:Int))=w'∧IntKind.i64.wrap ((q.at_:Int)+1)=(r.at_:Int)∧r={ q with at_:=q.at_+1 }∧Go1 p b W r w' :=
 ⟨_,_,rfl,by rw [IntKind.wrap_i64];show _=((q.at_+1:Nat):Int);omega,rfl,h.setAt (Nat.le_succ _)⟩
theorem Go1.stepn {p q:Pq} {b:Nat} {W w:World} (h:Go1 p b W q w) (hq:q.at_≤10000) (d:Nat) (D:Int) (hD:D=(d:Int)) (hd:d≤1000):∃ r w',w.setCell ⟨b,1,none⟩ (.int .i64 (r.at_:Int))=w'∧IntKind.i64.wrap ((q.at_:Int)+D)=(r.at_:Int)∧r={ q with at_:=q.at_+d }∧Go1 p b W r w' :=
 ⟨_,_,rfl,by rw [IntKind.wrap_i64];show _=((q.at_+d:Nat):Int);omega,rfl,h.setAt (Nat.le_add_right _ _)⟩
def IvR (p:Pq) (b:Nat) (W:World) (e:Ending) (w':World):Prop:=∃ (low high:Int) (r:Pq),e=.returned (.tuple #[.int .i64 low,.int .i64 high])∧Go1 p b W r w'∧p.at_<r.at_∧r.at_≤p.ts.length+2∧(r.code=0→r.at_≤p.ts.length∧0≤low∧low≤20∧(high = -1∨(low≤high∧high≤20)))
theorem iv_bad {p q r:Pq} {b:Nat} {W w:World} {low high:Int} (h:Go1 p b W r w) (hc:r.code≠0) (h1:p.at_<r.at_) (h2:r.at_≤p.ts.length+2):IvR p b W (.returned (.tuple #[.int .i64 low,.int .i64 high])) w :=
 ⟨low,high,r,rfl,h,h1,h2,fun e=>absurd e hc⟩
theorem iv_good {p r:Pq} {b:Nat} {W w:World} {low high:Int} (h:Go1 p b W r w) (h1:p.at_<r.at_) (h2:r.at_≤p.ts.length) (h3:0≤low∧low≤20∧(high = -1∨(low≤high∧high≤20))):IvR p b W (.returned (.tuple #[.int .i64 low,.int .i64 high])) w :=
 ⟨low,high,r,rfl,h,h1,by omega,fun _=>⟨h2,h3⟩⟩
set_option maxRecDepth 10000 in
set_option maxHeartbeats 8000000 in
theorem interval_ere (p:Pq) (b:Nat) (W:World) (h:PB p b W) (hL:p.ts.length≤1000) (hts:∀ t∈p.ts,0≤t∧t≤255) (he:p.ere=true) (hlen:p.at_+1≤p.ts.length) :
  Calls Tryd.prog 96 #[.pointer (some ⟨b,0,none⟩)] W (IvR p b W):=by
 obtain ⟨c0,c1,c2,c3,c4,c5,c6⟩:=h.cells
 have hf1:=h.fz 1
 have HTS:=hide hts
 rw [he] at c2
 clear c0 c4 c5 c6
 obtain ⟨q1,w1,e1,hw1,rq1,g1'⟩:=(Go1.refl h).step1 (by omega)
 obtain ⟨x1,x2,x3,xf⟩:=g1'.can
 have hr1:q1.at_=p.at_+1:=by rw [rq1]
 have ht1:q1.ts=p.ts:=by rw [rq1]
 have he1:q1.ere=p.ere:=by rw [rq1]
 rw [he1,he] at x2
 have HN:=hide (g1'.number (by rw [ht1];exact hL) (by rw [hr1];omega) (by rw [ht1];exact hts))
 have hB1:p.at_+1≤p.ts.length:=hlen
 have HQ:Hid (q1.at_=p.at_+1∧q1.ts=p.ts):=hide ⟨hr1,ht1⟩
 clear g1' rq1 hr1 ht1 he1  h hts
 go_enter Tryd.func96,Tryd.ntmps96
 go_wp2_with fail
 refine HN.out.mono ?_
 rintro e w3 ⟨n,r,rfl,g3',rt,ra,rl,rb⟩
 have g3:=hide g3'
 have HT:Hid (r.groups=p.groups∧r.ts=p.ts):=hide ⟨g3'.gr,rt.trans HQ.out.2⟩
 have HA:Hid (p.at_<r.at_∧r.at_≤p.ts.length):=hide ⟨by have:=rl;have:=HQ.out;omega,by have:=HQ.out;rw [HQ.out.2] at ra;omega⟩
 have HV0:=hide rb
 have HIc:=hide (g3'.is (by rw [HT.out.2];exact hL) (by have:=HA.out;omega) ⟨#[44]⟩ (by decide))
 clear g3' rt ra rl rb HN x1 x2 x3 xf
 cases hcm:r.is ⟨#[44]⟩ with
 | false =>
  rw [hcm] at HIc
  clear hcm
  go_wp2_with fail
  refine HIc.out.mono ?_
  rintro e w4 ⟨rfl,g4'⟩
  have g4:=hide g4'
  clear g4' HIc
  have HV:Hid (r.code=0→0≤n∧n≤20∧(n = -1∨(0≤n∧n≤20))):=hide fun e=>by have:=HV0.out e;omega
  obtain ⟨y1,y2,y3,yf⟩:=g4.out.can
  by_cases h0:r.code=0
  ·have HI:=hide (g4.out.is (by rw [HT.out.2];exact hL) (by have:=HA.out;omega) ⟨#[125]⟩ (by decide))
   have HC0:=hide h0
   rw [h0] at y3
   cases hB:r.is ⟨#[125]⟩ with
   | true =>
    rw [hB] at HI
    have HB:=hide (is_true hB).2
    clear hB h0
    go_wp2_with fail
    refine HI.out.mono ?_
    rintro e w8 ⟨rfl,g8'⟩
    have g8:=hide g8'
    obtain ⟨z1,z2,z3,zf⟩:=g8'.can
    rw [HC0.out] at z3
    clear HI y1 y2 y3 yf g8'
    by_cases hh:(0:Int)≤n∧n<n
    ·obtain ⟨hh1,hh2⟩:=hh
     omega
    ·have HLH:Hid (0≤n∧n≤20∧(n = -1∨(n≤n∧n≤20))):=hide (by have:=HV.out HC0.out;omega)
     have HA2:Hid (r.at_+1≤p.ts.length):=hide (by rw [←HT.out.2];exact HB.out)
     by_cases hh1:(0:Int)≤n
     ·have hh2:¬ n<n:=by omega
      have hh3:decide (n<n)=false:=decide_eq_false hh2
      obtain ⟨qZ,wZ,eZ,hwZ,rZ,gZ⟩:=g8.out.stepn (by have:=HA.out;omega) 1 1 rfl (by omega)
      have HE:Hid (IvR p b W (.returned (.tuple #[.int .i64 n,.int .i64 n])) wZ):=hide (iv_good (low:=n) (high:=n) gZ (by rw [rZ];show _<_+_;have:=HA.out;omega) (by rw [rZ];exact HA2.out) HLH.out)
      clear gZ rZ
      go_wp2
      go_ret2
      exact HE.out
     ·have hh3:decide ((0:Int)≤n)=false:=decide_eq_false hh1
      obtain ⟨qZ,wZ,eZ,hwZ,rZ,gZ⟩:=g8.out.stepn (by have:=HA.out;omega) 1 1 rfl (by omega)
      have HE:Hid (IvR p b W (.returned (.tuple #[.int .i64 n,.int .i64 n])) wZ):=hide (iv_good (low:=n) (high:=n) gZ (by rw [rZ];show _<_+_;have:=HA.out;omega) (by rw [rZ];exact HA2.out) HLH.out)
      clear gZ rZ
      go_wp2
      go_ret2
      exact HE.out
   | false =>
    rw [hB] at HI
    have HFl:Hid (∀ w',Go1 p b W r w'→Calls Tryd.prog 40 #[.pointer (some ⟨b,0,none⟩),.int .i64 4,.int .i64 (r.at_:Int)] w' fun e w'=>e=.returned (.tuple #[])∧Go1 p b W (r.failed 4 (r.at_:Int)) w'):=hide fun w' h=>h.fail (c:=4) (by decide) (r.at_:Int)
    have HCd:=hide (failed_code r 4 (r.at_:Int) (by decide))
    have HFt:=hide (failed_rest r 4 (r.at_:Int)).2.1
    clear hB h0
    go_wp2_with fail
    refine HI.out.mono ?_
    rintro e w8 ⟨rfl,g8'⟩
    have g8:=hide g8'
    obtain ⟨z1,z2,z3,zf⟩:=g8'.can
    clear HI y1 y2 y3 yf g8'
    go_wp2_with fail
    refine (HFl.out _ g8.out).mono ?_
    rintro e w9 ⟨rfl,g9'⟩
    have g9:=hide g9'
    obtain ⟨u1,u2,u3,uf⟩:=g9'.can
    clear HFl g9' z1 z2 z3 zf g8
    obtain ⟨qf,hqf⟩:∃ qf,qf=r.failed 4 (r.at_:Int):=⟨_,rfl⟩
    rw [←hqf] at g9 HCd HFt u1 u2 u3
    have HA:Hid (p.at_<qf.at_∧qf.at_≤p.ts.length):=hide (by rw [HFt.out];exact HA.out)
    have k1:(qf.code == 0)=false:=by simpa using HCd.out
    have k2:decide (qf.code=0)=false:=by simpa using HCd.out
    clear hqf
    obtain ⟨qZ,wZ,eZ,hwZ,rZ,gZ⟩:=g9.out.stepn (by have:=HA.out;omega) 1 1 rfl (by omega)
    have HE:Hid (IvR p b W (.returned (.tuple #[.int .i64 n,.int .i64 n])) wZ):=hide (iv_bad (q:=p) (low:=n) (high:=n) gZ (by rw [rZ];exact HCd.out) (by rw [rZ];show _<_+_;have:=HA.out;omega) (by rw [rZ];show _+_≤_;have:=HA.out;omega))
    clear gZ rZ
    go_wp2
    go_ret2
    exact HE.out
  ·have k1:(r.code == 0)=false:=by simpa using h0
   have k2:decide (r.code=0)=false:=by simpa using h0
   have HCd:=hide h0
   clear h0
   obtain ⟨qZ,wZ,eZ,hwZ,rZ,gZ⟩:=g4.out.stepn (by have:=HA.out;omega) 1 1 rfl (by omega)
   have HE:Hid (IvR p b W (.returned (.tuple #[.int .i64 n,.int .i64 n])) wZ):=hide (iv_bad (q:=p) (low:=n) (high:=n) gZ (by rw [rZ];exact HCd.out) (by rw [rZ];show _<_+_;have:=HA.out;omega) (by rw [rZ];show _+_≤_;have:=HA.out;omega))
   clear gZ rZ
   go_wp2
   go_ret2
   exact HE.out
 | true =>
  rw [hcm] at HIc
  have HK:=hide (is_true hcm)
  clear hcm
  go_wp2_with fail
  refine HIc.out.mono ?_
  rintro e w4 ⟨rfl,g4'⟩
  obtain ⟨q5,w5,e5,hw5,rq5,g5'⟩:=g4'.step1 (by have:=HA.out;omega)
  obtain ⟨x1,x2,x3,xf⟩:=g4'.can
  have HQ5:Hid (q5.at_=r.at_+1∧q5.ts=p.ts∧q5.code=0):=hide ⟨by rw [rq5],by rw [rq5];exact HT.out.2,by rw [rq5];exact HK.out.1⟩
  have HA5:Hid (p.at_<q5.at_∧q5.at_≤p.ts.length):=hide (by have:=HQ5.out.1;have h:=HK.out.2;rw [HT.out.2] at h;have:=HA.out;exact ⟨by omega,by have:((⟨#[44]⟩:ByteArray)).size=1:=rfl;omega⟩)
  have HI5:=hide (g5'.is (by rw [HQ5.out.2.1];exact hL) (by have:=HA5.out;omega) ⟨#[125]⟩ (by decide))
  have g5:=hide g5'
  clear g4' g5' HIc rq5
  cases hen:q5.is ⟨#[125]⟩ with
  | true =>
   rw [hen] at HI5
   clear hen
   go_wp2_with fail
   refine HI5.out.mono ?_
   rintro e w6 ⟨rfl,g6'⟩
   have g6:=hide g6'
   have HT:Hid (q5.groups=p.groups∧q5.ts=p.ts):=hide ⟨g6'.gr,HQ5.out.2.1⟩
   have HV:Hid (q5.code=0→0≤n∧n≤20∧((-1:Int) = -1∨(0≤(-1:Int)∧(-1:Int)≤20))):=hide fun e=>by have:=HV0.out HK.out.1;omega
   clear g6' HI5 g5 x1 x2 x3 xf HA
   have HA:=HA5
   obtain ⟨y1,y2,y3,yf⟩:=g6.out.can
   by_cases h0:q5.code=0
   ·have HI:=hide (g6.out.is (by rw [HT.out.2];exact hL) (by have:=HA.out;omega) ⟨#[125]⟩ (by decide))
    have HC0:=hide h0
    rw [h0] at y3
    cases hB:q5.is ⟨#[125]⟩ with
    | true =>
     rw [hB] at HI
     have HB:=hide (is_true hB).2
     clear hB h0
     go_wp2_with fail
     refine HI.out.mono ?_
     rintro e w8 ⟨rfl,g8'⟩
     have g8:=hide g8'
     obtain ⟨z1,z2,z3,zf⟩:=g8'.can
     rw [HC0.out] at z3
     clear HI y1 y2 y3 yf g8'
     by_cases hh:(0:Int)≤(-1)∧(-1)<n
     ·obtain ⟨hh1,hh2⟩:=hh
      omega
     ·have HLH:Hid (0≤n∧n≤20∧((-1) = -1∨(n≤(-1)∧(-1)≤20))):=hide (by have:=HV.out HC0.out;omega)
      have HA2:Hid (q5.at_+1≤p.ts.length):=hide (by rw [←HT.out.2];exact HB.out)
      have hh3:decide ((0:Int)≤(-1))=false:=by decide
      obtain ⟨qZ,wZ,eZ,hwZ,rZ,gZ⟩:=g8.out.stepn (by have:=HA.out;omega) 1 1 rfl (by omega)
      have HE:Hid (IvR p b W (.returned (.tuple #[.int .i64 n,.int .i64 (-1)])) wZ):=hide (iv_good (low:=n) (high:=(-1)) gZ (by rw [rZ];show _<_+_;have:=HA.out;omega) (by rw [rZ];exact HA2.out) HLH.out)
      clear gZ rZ
      go_wp2
      go_ret2
      exact HE.out
    | false =>
     rw [hB] at HI
     have HFl:Hid (∀ w',Go1 p b W q5 w'→Calls Tryd.prog 40 #[.pointer (some ⟨b,0,none⟩),.int .i64 4,.int .i64 (q5.at_:Int)] w' fun e w'=>e=.returned (.tuple #[])∧Go1 p b W (q5.failed 4 (q5.at_:Int)) w'):=hide fun w' h=>h.fail (c:=4) (by decide) (q5.at_:Int)
     have HCd:=hide (failed_code q5 4 (q5.at_:Int) (by decide))
     have HFt:=hide (failed_rest q5 4 (q5.at_:Int)).2.1
     clear hB h0
     go_wp2_with fail
     refine HI.out.mono ?_
     rintro e w8 ⟨rfl,g8'⟩
     have g8:=hide g8'
     obtain ⟨z1,z2,z3,zf⟩:=g8'.can
     clear HI y1 y2 y3 yf g8'
     go_wp2_with fail
     refine (HFl.out _ g8.out).mono ?_
     rintro e w9 ⟨rfl,g9'⟩
     have g9:=hide g9'
     obtain ⟨u1,u2,u3,uf⟩:=g9'.can
     clear HFl g9' z1 z2 z3 zf g8
     obtain ⟨qf,hqf⟩:∃ qf,qf=q5.failed 4 (q5.at_:Int):=⟨_,rfl⟩
     rw [←hqf] at g9 HCd HFt u1 u2 u3
     have HA:Hid (p.at_<qf.at_∧qf.at_≤p.ts.length):=hide (by rw [HFt.out];exact HA.out)
     have k1:(qf.code == 0)=false:=by simpa using HCd.out
     have k2:decide (qf.code=0)=false:=by simpa using HCd.out
     clear hqf
     obtain ⟨qZ,wZ,eZ,hwZ,rZ,gZ⟩:=g9.out.stepn (by have:=HA.out;omega) 1 1 rfl (by omega)
     have HE:Hid (IvR p b W (.returned (.tuple #[.int .i64 n,.int .i64 (-1)])) wZ):=hide (iv_bad (q:=p) (low:=n) (high:=(-1)) gZ (by rw [rZ];exact HCd.out) (by rw [rZ];show _<_+_;have:=HA.out;omega) (by rw [rZ];show _+_≤_;have:=HA.out;omega))
     clear gZ rZ
     go_wp2
     go_ret2
     exact HE.out
   ·have k1:(q5.code == 0)=false:=by simpa using h0
    have k2:decide (q5.code=0)=false:=by simpa using h0
    have HCd:=hide h0
    clear h0
    obtain ⟨qZ,wZ,eZ,hwZ,rZ,gZ⟩:=g6.out.stepn (by have:=HA.out;omega) 1 1 rfl (by omega)
    have HE:Hid (IvR p b W (.returned (.tuple #[.int .i64 n,.int .i64 (-1)])) wZ):=hide (iv_bad (q:=p) (low:=n) (high:=(-1)) gZ (by rw [rZ];exact HCd.out) (by rw [rZ];show _<_+_;have:=HA.out;omega) (by rw [rZ];show _+_≤_;have:=HA.out;omega))
    clear gZ rZ
    go_wp2
    go_ret2
    exact HE.out
  | false =>
   rw [hen] at HI5
   clear hen
   go_wp2_with fail
   refine HI5.out.mono ?_
   rintro e w6 ⟨rfl,g6'⟩
   have HN6:=hide (g6'.number (by rw [HQ5.out.2.1];exact hL) (by have:=HA5.out;omega) (by rw [HQ5.out.2.1];exact HTS.out))
   clear g6' HI5 g5 x1 x2 x3 xf
   go_wp2_with fail
   refine HN6.out.mono ?_
   rintro e w7 ⟨n2,r2,rfl,g7',rt,ra,rl,rb⟩
   have g7:=hide g7'
   have HT:Hid (r2.groups=p.groups∧r2.ts=p.ts):=hide ⟨g7'.gr,rt.trans HQ5.out.2.1⟩
   have HV:Hid (r2.code=0→0≤n∧n≤20∧(n2 = -1∨(0≤n2∧n2≤20))):=hide fun e=>by have:=HV0.out HK.out.1;have:=rb e;omega
   have HAA:Hid (p.at_<r2.at_∧r2.at_≤p.ts.length):=hide ⟨by have:=rl;have:=HA5.out;omega,by have:=HA5.out;rw [HQ5.out.2.1] at ra;omega⟩
   clear g7' rt ra rl rb HN6 HA
   have HA:=HAA
   clear HAA
   obtain ⟨y1,y2,y3,yf⟩:=g7.out.can
   by_cases h0:r2.code=0
   ·have HI:=hide (g7.out.is (by rw [HT.out.2];exact hL) (by have:=HA.out;omega) ⟨#[125]⟩ (by decide))
    have HC0:=hide h0
    rw [h0] at y3
    cases hB:r2.is ⟨#[125]⟩ with
    | true =>
     rw [hB] at HI
     have HB:=hide (is_true hB).2
     clear hB h0
     go_wp2_with fail
     refine HI.out.mono ?_
     rintro e w8 ⟨rfl,g8'⟩
     have g8:=hide g8'
     obtain ⟨z1,z2,z3,zf⟩:=g8'.can
     rw [HC0.out] at z3
     clear HI y1 y2 y3 yf g8'
     by_cases hh:(0:Int)≤n2∧n2<n
     ·obtain ⟨hh1,hh2⟩:=hh
      have HFl:=hide (g8.out.fail (c:=5) (by decide) (p.at_:Int))
      have HCd:=hide (failed_code r2 5 (p.at_:Int) (by decide))
      have HFt:=hide (failed_rest r2 5 (p.at_:Int)).2.1
      go_wp2_with fail
      refine HFl.out.mono ?_
      rintro e w9 ⟨rfl,g9'⟩
      have g9:=hide g9'
      obtain ⟨u1,u2,u3,uf⟩:=g9'.can
      rw [HFt.out] at u1
      clear HFl g9' z1 z2 z3 zf
      obtain ⟨qf,hqf⟩:∃ qf,qf=r2.failed 5 (p.at_:Int):=⟨_,rfl⟩
      rw [←hqf] at g9 HCd HFt u2 u3
      rw [←HFt.out] at u1
      have HA:Hid (p.at_<qf.at_∧qf.at_≤p.ts.length):=hide (by rw [HFt.out];exact HA.out)
      clear hqf
      obtain ⟨qZ,wZ,eZ,hwZ,rZ,gZ⟩:=g9.out.stepn (by have:=HA.out;omega) 1 1 rfl (by omega)
      have HE:Hid (IvR p b W (.returned (.tuple #[.int .i64 n,.int .i64 n2])) wZ):=hide (iv_bad (q:=p) (low:=n) (high:=n2) gZ (by rw [rZ];exact HCd.out) (by rw [rZ];show _<_+_;have:=HA.out;omega) (by rw [rZ];show _+_≤_;have:=HA.out;omega))
      clear gZ rZ
      go_wp2
      go_ret2
      exact HE.out
     ·have HLH:Hid (0≤n∧n≤20∧(n2 = -1∨(n≤n2∧n2≤20))):=hide (by have:=HV.out HC0.out;omega)
      have HA2:Hid (r2.at_+1≤p.ts.length):=hide (by rw [←HT.out.2];exact HB.out)
      by_cases hh1:(0:Int)≤n2
      ·have hh2:¬ n2<n:=by omega
       have hh3:decide (n2<n)=false:=decide_eq_false hh2
       obtain ⟨qZ,wZ,eZ,hwZ,rZ,gZ⟩:=g8.out.stepn (by have:=HA.out;omega) 1 1 rfl (by omega)
       have HE:Hid (IvR p b W (.returned (.tuple #[.int .i64 n,.int .i64 n2])) wZ):=hide (iv_good (low:=n) (high:=n2) gZ (by rw [rZ];show _<_+_;have:=HA.out;omega) (by rw [rZ];exact HA2.out) HLH.out)
       clear gZ rZ
       go_wp2
       go_ret2
       exact HE.out
      ·have hh3:decide ((0:Int)≤n2)=false:=decide_eq_false hh1
       obtain ⟨qZ,wZ,eZ,hwZ,rZ,gZ⟩:=g8.out.stepn (by have:=HA.out;omega) 1 1 rfl (by omega)
       have HE:Hid (IvR p b W (.returned (.tuple #[.int .i64 n,.int .i64 n2])) wZ):=hide (iv_good (low:=n) (high:=n2) gZ (by rw [rZ];show _<_+_;have:=HA.out;omega) (by rw [rZ];exact HA2.out) HLH.out)
       clear gZ rZ
       go_wp2
       go_ret2
       exact HE.out
    | false =>
     rw [hB] at HI
     have HFl:Hid (∀ w',Go1 p b W r2 w'→Calls Tryd.prog 40 #[.pointer (some ⟨b,0,none⟩),.int .i64 4,.int .i64 (r2.at_:Int)] w' fun e w'=>e=.returned (.tuple #[])∧Go1 p b W (r2.failed 4 (r2.at_:Int)) w'):=hide fun w' h=>h.fail (c:=4) (by decide) (r2.at_:Int)
     have HCd:=hide (failed_code r2 4 (r2.at_:Int) (by decide))
     have HFt:=hide (failed_rest r2 4 (r2.at_:Int)).2.1
     clear hB h0
     go_wp2_with fail
     refine HI.out.mono ?_
     rintro e w8 ⟨rfl,g8'⟩
     have g8:=hide g8'
     obtain ⟨z1,z2,z3,zf⟩:=g8'.can
     clear HI y1 y2 y3 yf g8'
     go_wp2_with fail
     refine (HFl.out _ g8.out).mono ?_
     rintro e w9 ⟨rfl,g9'⟩
     have g9:=hide g9'
     obtain ⟨u1,u2,u3,uf⟩:=g9'.can
     clear HFl g9' z1 z2 z3 zf g8
     obtain ⟨qf,hqf⟩:∃ qf,qf=r2.failed 4 (r2.at_:Int):=⟨_,rfl⟩
     rw [←hqf] at g9 HCd HFt u1 u2 u3
     have HA:Hid (p.at_<qf.at_∧qf.at_≤p.ts.length):=hide (by rw [HFt.out];exact HA.out)
     have k1:(qf.code == 0)=false:=by simpa using HCd.out
     have k2:decide (qf.code=0)=false:=by simpa using HCd.out
     clear hqf
     obtain ⟨qZ,wZ,eZ,hwZ,rZ,gZ⟩:=g9.out.stepn (by have:=HA.out;omega) 1 1 rfl (by omega)
     have HE:Hid (IvR p b W (.returned (.tuple #[.int .i64 n,.int .i64 n2])) wZ):=hide (iv_bad (q:=p) (low:=n) (high:=n2) gZ (by rw [rZ];exact HCd.out) (by rw [rZ];show _<_+_;have:=HA.out;omega) (by rw [rZ];show _+_≤_;have:=HA.out;omega))
     clear gZ rZ
     go_wp2
     go_ret2
     exact HE.out
   ·have k1:(r2.code == 0)=false:=by simpa using h0
    have k2:decide (r2.code=0)=false:=by simpa using h0
    have HCd:=hide h0
    clear h0
    obtain ⟨qZ,wZ,eZ,hwZ,rZ,gZ⟩:=g7.out.stepn (by have:=HA.out;omega) 1 1 rfl (by omega)
    have HE:Hid (IvR p b W (.returned (.tuple #[.int .i64 n,.int .i64 n2])) wZ):=hide (iv_bad (q:=p) (low:=n) (high:=n2) gZ (by rw [rZ];exact HCd.out) (by rw [rZ];show _<_+_;have:=HA.out;omega) (by rw [rZ];show _+_≤_;have:=HA.out;omega))
    clear gZ rZ
    go_wp2
    go_ret2
    exact HE.out
set_option maxRecDepth 10000 in
set_option maxHeartbeats 8000000 in
theorem interval_bre (p:Pq) (b:Nat) (W:World) (h:PB p b W) (hL:p.ts.length≤1000) (hts:∀ t∈p.ts,0≤t∧t≤255) (he:p.ere=false) (hlen:p.at_+2≤p.ts.length) :
  Calls Tryd.prog 96 #[.pointer (some ⟨b,0,none⟩)] W (IvR p b W):=by
 obtain ⟨c0,c1,c2,c3,c4,c5,c6⟩:=h.cells
 have hf1:=h.fz 1
 have HTS:=hide hts
 rw [he] at c2
 clear c0 c4 c5 c6
 obtain ⟨q1,w1,e1,hw1,rq1,g1'⟩:=(Go1.refl h).step1 (by omega)
 obtain ⟨x1,x2,x3,xf⟩:=g1'.can
 have hr1:q1.at_=p.at_+1:=by rw [rq1]
 have ht1:q1.ts=p.ts:=by rw [rq1]
 have he1:q1.ere=p.ere:=by rw [rq1]
 obtain ⟨q2,w2,e2,hw2,rq2,g2'⟩:=g1'.step1 (by omega)
 have ht2:q2.ts=p.ts:=by rw [rq2];exact ht1
 have hr2:q2.at_=p.at_+2:=by rw [rq2];show q1.at_+1=_;omega
 have he2:q2.ere=p.ere:=by rw [rq2];exact he1
 rw [he1,he] at x2
 have HN:=hide (g2'.number (by rw [ht2];exact hL) (by rw [hr2];omega) (by rw [ht2];exact hts))
 have hB2:p.at_+2≤p.ts.length:=hlen
 have HQ:Hid (q2.at_=p.at_+2∧q2.ts=p.ts):=hide ⟨hr2,ht2⟩
 clear g1' rq1 hr1 ht1 he1 g2' rq2 hr2 ht2 he2 h hts
 go_enter Tryd.func96,Tryd.ntmps96
 go_wp2_with fail
 refine HN.out.mono ?_
 rintro e w3 ⟨n,r,rfl,g3',rt,ra,rl,rb⟩
 have g3:=hide g3'
 have HT:Hid (r.groups=p.groups∧r.ts=p.ts):=hide ⟨g3'.gr,rt.trans HQ.out.2⟩
 have HA:Hid (p.at_<r.at_∧r.at_≤p.ts.length):=hide ⟨by have:=rl;have:=HQ.out;omega,by have:=HQ.out;rw [HQ.out.2] at ra;omega⟩
 have HV0:=hide rb
 have HIc:=hide (g3'.is (by rw [HT.out.2];exact hL) (by have:=HA.out;omega) ⟨#[44]⟩ (by decide))
 clear g3' rt ra rl rb HN x1 x2 x3 xf
 cases hcm:r.is ⟨#[44]⟩ with
 | false =>
  rw [hcm] at HIc
  clear hcm
  go_wp2_with fail
  refine HIc.out.mono ?_
  rintro e w4 ⟨rfl,g4'⟩
  have g4:=hide g4'
  clear g4' HIc
  have HV:Hid (r.code=0→0≤n∧n≤20∧(n = -1∨(0≤n∧n≤20))):=hide fun e=>by have:=HV0.out e;omega
  obtain ⟨y1,y2,y3,yf⟩:=g4.out.can
  by_cases h0:r.code=0
  ·have HI:=hide (g4.out.is (by rw [HT.out.2];exact hL) (by have:=HA.out;omega) ⟨#[92,125]⟩ (by decide))
   have HC0:=hide h0
   rw [h0] at y3
   cases hB:r.is ⟨#[92,125]⟩ with
   | true =>
    rw [hB] at HI
    have HB:=hide (is_true hB).2
    clear hB h0
    go_wp2_with fail
    refine HI.out.mono ?_
    rintro e w8 ⟨rfl,g8'⟩
    have g8:=hide g8'
    obtain ⟨z1,z2,z3,zf⟩:=g8'.can
    rw [HC0.out] at z3
    clear HI y1 y2 y3 yf g8'
    by_cases hh:(0:Int)≤n∧n<n
    ·obtain ⟨hh1,hh2⟩:=hh
     omega
    ·have HLH:Hid (0≤n∧n≤20∧(n = -1∨(n≤n∧n≤20))):=hide (by have:=HV.out HC0.out;omega)
     have HA2:Hid (r.at_+2≤p.ts.length):=hide (by rw [←HT.out.2];exact HB.out)
     by_cases hh1:(0:Int)≤n
     ·have hh2:¬ n<n:=by omega
      have hh3:decide (n<n)=false:=decide_eq_false hh2
      obtain ⟨qZ,wZ,eZ,hwZ,rZ,gZ⟩:=g8.out.stepn (by have:=HA.out;omega) 2 2 rfl (by omega)
      have HE:Hid (IvR p b W (.returned (.tuple #[.int .i64 n,.int .i64 n])) wZ):=hide (iv_good (low:=n) (high:=n) gZ (by rw [rZ];show _<_+_;have:=HA.out;omega) (by rw [rZ];exact HA2.out) HLH.out)
      clear gZ rZ
      go_wp2
      go_ret2
      exact HE.out
     ·have hh3:decide ((0:Int)≤n)=false:=decide_eq_false hh1
      obtain ⟨qZ,wZ,eZ,hwZ,rZ,gZ⟩:=g8.out.stepn (by have:=HA.out;omega) 2 2 rfl (by omega)
      have HE:Hid (IvR p b W (.returned (.tuple #[.int .i64 n,.int .i64 n])) wZ):=hide (iv_good (low:=n) (high:=n) gZ (by rw [rZ];show _<_+_;have:=HA.out;omega) (by rw [rZ];exact HA2.out) HLH.out)
      clear gZ rZ
      go_wp2
      go_ret2
      exact HE.out
   | false =>
    rw [hB] at HI
    have HFl:Hid (∀ w',Go1 p b W r w'→Calls Tryd.prog 40 #[.pointer (some ⟨b,0,none⟩),.int .i64 4,.int .i64 (r.at_:Int)] w' fun e w'=>e=.returned (.tuple #[])∧Go1 p b W (r.failed 4 (r.at_:Int)) w'):=hide fun w' h=>h.fail (c:=4) (by decide) (r.at_:Int)
    have HCd:=hide (failed_code r 4 (r.at_:Int) (by decide))
    have HFt:=hide (failed_rest r 4 (r.at_:Int)).2.1
    clear hB h0
    go_wp2_with fail
    refine HI.out.mono ?_
    rintro e w8 ⟨rfl,g8'⟩
    have g8:=hide g8'
    obtain ⟨z1,z2,z3,zf⟩:=g8'.can
    clear HI y1 y2 y3 yf g8'
    go_wp2_with fail
    refine (HFl.out _ g8.out).mono ?_
    rintro e w9 ⟨rfl,g9'⟩
    have g9:=hide g9'
    obtain ⟨u1,u2,u3,uf⟩:=g9'.can
    clear HFl g9' z1 z2 z3 zf g8
    obtain ⟨qf,hqf⟩:∃ qf,qf=r.failed 4 (r.at_:Int):=⟨_,rfl⟩
    rw [←hqf] at g9 HCd HFt u1 u2 u3
    have HA:Hid (p.at_<qf.at_∧qf.at_≤p.ts.length):=hide (by rw [HFt.out];exact HA.out)
    have k1:(qf.code == 0)=false:=by simpa using HCd.out
    have k2:decide (qf.code=0)=false:=by simpa using HCd.out
    clear hqf
    obtain ⟨qZ,wZ,eZ,hwZ,rZ,gZ⟩:=g9.out.stepn (by have:=HA.out;omega) 2 2 rfl (by omega)
    have HE:Hid (IvR p b W (.returned (.tuple #[.int .i64 n,.int .i64 n])) wZ):=hide (iv_bad (q:=p) (low:=n) (high:=n) gZ (by rw [rZ];exact HCd.out) (by rw [rZ];show _<_+_;have:=HA.out;omega) (by rw [rZ];show _+_≤_;have:=HA.out;omega))
    clear gZ rZ
    go_wp2
    go_ret2
    exact HE.out
  ·have k1:(r.code == 0)=false:=by simpa using h0
   have k2:decide (r.code=0)=false:=by simpa using h0
   have HCd:=hide h0
   clear h0
   obtain ⟨qZ,wZ,eZ,hwZ,rZ,gZ⟩:=g4.out.stepn (by have:=HA.out;omega) 2 2 rfl (by omega)
   have HE:Hid (IvR p b W (.returned (.tuple #[.int .i64 n,.int .i64 n])) wZ):=hide (iv_bad (q:=p) (low:=n) (high:=n) gZ (by rw [rZ];exact HCd.out) (by rw [rZ];show _<_+_;have:=HA.out;omega) (by rw [rZ];show _+_≤_;have:=HA.out;omega))
   clear gZ rZ
   go_wp2
   go_ret2
   exact HE.out
 | true =>
  rw [hcm] at HIc
  have HK:=hide (is_true hcm)
  clear hcm
  go_wp2_with fail
  refine HIc.out.mono ?_
  rintro e w4 ⟨rfl,g4'⟩
  obtain ⟨q5,w5,e5,hw5,rq5,g5'⟩:=g4'.step1 (by have:=HA.out;omega)
  obtain ⟨x1,x2,x3,xf⟩:=g4'.can
  have HQ5:Hid (q5.at_=r.at_+1∧q5.ts=p.ts∧q5.code=0):=hide ⟨by rw [rq5],by rw [rq5];exact HT.out.2,by rw [rq5];exact HK.out.1⟩
  have HA5:Hid (p.at_<q5.at_∧q5.at_≤p.ts.length):=hide (by have:=HQ5.out.1;have h:=HK.out.2;rw [HT.out.2] at h;have:=HA.out;exact ⟨by omega,by have:((⟨#[44]⟩:ByteArray)).size=1:=rfl;omega⟩)
  have HI5:=hide (g5'.is (by rw [HQ5.out.2.1];exact hL) (by have:=HA5.out;omega) ⟨#[92,125]⟩ (by decide))
  have g5:=hide g5'
  clear g4' g5' HIc rq5
  cases hen:q5.is ⟨#[92,125]⟩ with
  | true =>
   rw [hen] at HI5
   clear hen
   go_wp2_with fail
   refine HI5.out.mono ?_
   rintro e w6 ⟨rfl,g6'⟩
   have g6:=hide g6'
   have HT:Hid (q5.groups=p.groups∧q5.ts=p.ts):=hide ⟨g6'.gr,HQ5.out.2.1⟩
   have HV:Hid (q5.code=0→0≤n∧n≤20∧((-1:Int) = -1∨(0≤(-1:Int)∧(-1:Int)≤20))):=hide fun e=>by have:=HV0.out HK.out.1;omega
   clear g6' HI5 g5 x1 x2 x3 xf HA
   have HA:=HA5
   obtain ⟨y1,y2,y3,yf⟩:=g6.out.can
   by_cases h0:q5.code=0
   ·have HI:=hide (g6.out.is (by rw [HT.out.2];exact hL) (by have:=HA.out;omega) ⟨#[92,125]⟩ (by decide))
    have HC0:=hide h0
    rw [h0] at y3
    cases hB:q5.is ⟨#[92,125]⟩ with
    | true =>
     rw [hB] at HI
     have HB:=hide (is_true hB).2
     clear hB h0
     go_wp2_with fail
     refine HI.out.mono ?_
     rintro e w8 ⟨rfl,g8'⟩
     have g8:=hide g8'
     obtain ⟨z1,z2,z3,zf⟩:=g8'.can
     rw [HC0.out] at z3
     clear HI y1 y2 y3 yf g8'
     by_cases hh:(0:Int)≤(-1)∧(-1)<n
     ·obtain ⟨hh1,hh2⟩:=hh
      omega
     ·have HLH:Hid (0≤n∧n≤20∧((-1) = -1∨(n≤(-1)∧(-1)≤20))):=hide (by have:=HV.out HC0.out;omega)
      have HA2:Hid (q5.at_+2≤p.ts.length):=hide (by rw [←HT.out.2];exact HB.out)
      have hh3:decide ((0:Int)≤(-1))=false:=by decide
      obtain ⟨qZ,wZ,eZ,hwZ,rZ,gZ⟩:=g8.out.stepn (by have:=HA.out;omega) 2 2 rfl (by omega)
      have HE:Hid (IvR p b W (.returned (.tuple #[.int .i64 n,.int .i64 (-1)])) wZ):=hide (iv_good (low:=n) (high:=(-1)) gZ (by rw [rZ];show _<_+_;have:=HA.out;omega) (by rw [rZ];exact HA2.out) HLH.out)
      clear gZ rZ
      go_wp2
      go_ret2
      exact HE.out
    | false =>
     rw [hB] at HI
     have HFl:Hid (∀ w',Go1 p b W q5 w'→Calls Tryd.prog 40 #[.pointer (some ⟨b,0,none⟩),.int .i64 4,.int .i64 (q5.at_:Int)] w' fun e w'=>e=.returned (.tuple #[])∧Go1 p b W (q5.failed 4 (q5.at_:Int)) w'):=hide fun w' h=>h.fail (c:=4) (by decide) (q5.at_:Int)
     have HCd:=hide (failed_code q5 4 (q5.at_:Int) (by decide))
     have HFt:=hide (failed_rest q5 4 (q5.at_:Int)).2.1
     clear hB h0
     go_wp2_with fail
     refine HI.out.mono ?_
     rintro e w8 ⟨rfl,g8'⟩
     have g8:=hide g8'
     obtain ⟨z1,z2,z3,zf⟩:=g8'.can
     clear HI y1 y2 y3 yf g8'
     go_wp2_with fail
     refine (HFl.out _ g8.out).mono ?_
     rintro e w9 ⟨rfl,g9'⟩
     have g9:=hide g9'
     obtain ⟨u1,u2,u3,uf⟩:=g9'.can
     clear HFl g9' z1 z2 z3 zf g8
     obtain ⟨qf,hqf⟩:∃ qf,qf=q5.failed 4 (q5.at_:Int):=⟨_,rfl⟩
     rw [←hqf] at g9 HCd HFt u1 u2 u3
     have HA:Hid (p.at_<qf.at_∧qf.at_≤p.ts.length):=hide (by rw [HFt.out];exact HA.out)
     have k1:(qf.code == 0)=false:=by simpa using HCd.out
     have k2:decide (qf.code=0)=false:=by simpa using HCd.out
     clear hqf
     obtain ⟨qZ,wZ,eZ,hwZ,rZ,gZ⟩:=g9.out.stepn (by have:=HA.out;omega) 2 2 rfl (by omega)
     have HE:Hid (IvR p b W (.returned (.tuple #[.int .i64 n,.int .i64 (-1)])) wZ):=hide (iv_bad (q:=p) (low:=n) (high:=(-1)) gZ (by rw [rZ];exact HCd.out) (by rw [rZ];show _<_+_;have:=HA.out;omega) (by rw [rZ];show _+_≤_;have:=HA.out;omega))
     clear gZ rZ
     go_wp2
     go_ret2
     exact HE.out
   ·have k1:(q5.code == 0)=false:=by simpa using h0
    have k2:decide (q5.code=0)=false:=by simpa using h0
    have HCd:=hide h0
    clear h0
    obtain ⟨qZ,wZ,eZ,hwZ,rZ,gZ⟩:=g6.out.stepn (by have:=HA.out;omega) 2 2 rfl (by omega)
    have HE:Hid (IvR p b W (.returned (.tuple #[.int .i64 n,.int .i64 (-1)])) wZ):=hide (iv_bad (q:=p) (low:=n) (high:=(-1)) gZ (by rw [rZ];exact HCd.out) (by rw [rZ];show _<_+_;have:=HA.out;omega) (by rw [rZ];show _+_≤_;have:=HA.out;omega))
    clear gZ rZ
    go_wp2
    go_ret2
    exact HE.out
  | false =>
   rw [hen] at HI5
   clear hen
   go_wp2_with fail
   refine HI5.out.mono ?_
   rintro e w6 ⟨rfl,g6'⟩
   have HN6:=hide (g6'.number (by rw [HQ5.out.2.1];exact hL) (by have:=HA5.out;omega) (by rw [HQ5.out.2.1];exact HTS.out))
   clear g6' HI5 g5 x1 x2 x3 xf
   go_wp2_with fail
   refine HN6.out.mono ?_
   rintro e w7 ⟨n2,r2,rfl,g7',rt,ra,rl,rb⟩
   have g7:=hide g7'
   have HT:Hid (r2.groups=p.groups∧r2.ts=p.ts):=hide ⟨g7'.gr,rt.trans HQ5.out.2.1⟩
   have HV:Hid (r2.code=0→0≤n∧n≤20∧(n2 = -1∨(0≤n2∧n2≤20))):=hide fun e=>by have:=HV0.out HK.out.1;have:=rb e;omega
   have HAA:Hid (p.at_<r2.at_∧r2.at_≤p.ts.length):=hide ⟨by have:=rl;have:=HA5.out;omega,by have:=HA5.out;rw [HQ5.out.2.1] at ra;omega⟩
   clear g7' rt ra rl rb HN6 HA
   have HA:=HAA
   clear HAA
   obtain ⟨y1,y2,y3,yf⟩:=g7.out.can
   by_cases h0:r2.code=0
   ·have HI:=hide (g7.out.is (by rw [HT.out.2];exact hL) (by have:=HA.out;omega) ⟨#[92,125]⟩ (by decide))
    have HC0:=hide h0
    rw [h0] at y3
    cases hB:r2.is ⟨#[92,125]⟩ with
    | true =>
     rw [hB] at HI
     have HB:=hide (is_true hB).2
     clear hB h0
     go_wp2_with fail
     refine HI.out.mono ?_
     rintro e w8 ⟨rfl,g8'⟩
     have g8:=hide g8'
     obtain ⟨z1,z2,z3,zf⟩:=g8'.can
     rw [HC0.out] at z3
     clear HI y1 y2 y3 yf g8'
     by_cases hh:(0:Int)≤n2∧n2<n
     ·obtain ⟨hh1,hh2⟩:=hh
      have HFl:=hide (g8.out.fail (c:=5) (by decide) (p.at_:Int))
      have HCd:=hide (failed_code r2 5 (p.at_:Int) (by decide))
      have HFt:=hide (failed_rest r2 5 (p.at_:Int)).2.1
      go_wp2_with fail
      refine HFl.out.mono ?_
      rintro e w9 ⟨rfl,g9'⟩
      have g9:=hide g9'
      obtain ⟨u1,u2,u3,uf⟩:=g9'.can
      rw [HFt.out] at u1
      clear HFl g9' z1 z2 z3 zf
      obtain ⟨qf,hqf⟩:∃ qf,qf=r2.failed 5 (p.at_:Int):=⟨_,rfl⟩
      rw [←hqf] at g9 HCd HFt u2 u3
      rw [←HFt.out] at u1
      have HA:Hid (p.at_<qf.at_∧qf.at_≤p.ts.length):=hide (by rw [HFt.out];exact HA.out)
      clear hqf
      obtain ⟨qZ,wZ,eZ,hwZ,rZ,gZ⟩:=g9.out.stepn (by have:=HA.out;omega) 2 2 rfl (by omega)
      have HE:Hid (IvR p b W (.returned (.tuple #[.int .i64 n,.int .i64 n2])) wZ):=hide (iv_bad (q:=p) (low:=n) (high:=n2) gZ (by rw [rZ];exact HCd.out) (by rw [rZ];show _<_+_;have:=HA.out;omega) (by rw [rZ];show _+_≤_;have:=HA.out;omega))
      clear gZ rZ
      go_wp2
      go_ret2
      exact HE.out
     ·have HLH:Hid (0≤n∧n≤20∧(n2 = -1∨(n≤n2∧n2≤20))):=hide (by have:=HV.out HC0.out;omega)
      have HA2:Hid (r2.at_+2≤p.ts.length):=hide (by rw [←HT.out.2];exact HB.out)
      by_cases hh1:(0:Int)≤n2
      ·have hh2:¬ n2<n:=by omega
       have hh3:decide (n2<n)=false:=decide_eq_false hh2
       obtain ⟨qZ,wZ,eZ,hwZ,rZ,gZ⟩:=g8.out.stepn (by have:=HA.out;omega) 2 2 rfl (by omega)
       have HE:Hid (IvR p b W (.returned (.tuple #[.int .i64 n,.int .i64 n2])) wZ):=hide (iv_good (low:=n) (high:=n2) gZ (by rw [rZ];show _<_+_;have:=HA.out;omega) (by rw [rZ];exact HA2.out) HLH.out)
       clear gZ rZ
       go_wp2
       go_ret2
       exact HE.out
      ·have hh3:decide ((0:Int)≤n2)=false:=decide_eq_false hh1
       obtain ⟨qZ,wZ,eZ,hwZ,rZ,gZ⟩:=g8.out.stepn (by have:=HA.out;omega) 2 2 rfl (by omega)
       have HE:Hid (IvR p b W (.returned (.tuple #[.int .i64 n,.int .i64 n2])) wZ):=hide (iv_good (low:=n) (high:=n2) gZ (by rw [rZ];show _<_+_;have:=HA.out;omega) (by rw [rZ];exact HA2.out) HLH.out)
       clear gZ rZ
       go_wp2
       go_ret2
       exact HE.out
    | false =>
     rw [hB] at HI
     have HFl:Hid (∀ w',Go1 p b W r2 w'→Calls Tryd.prog 40 #[.pointer (some ⟨b,0,none⟩),.int .i64 4,.int .i64 (r2.at_:Int)] w' fun e w'=>e=.returned (.tuple #[])∧Go1 p b W (r2.failed 4 (r2.at_:Int)) w'):=hide fun w' h=>h.fail (c:=4) (by decide) (r2.at_:Int)
     have HCd:=hide (failed_code r2 4 (r2.at_:Int) (by decide))
     have HFt:=hide (failed_rest r2 4 (r2.at_:Int)).2.1
     clear hB h0
     go_wp2_with fail
     refine HI.out.mono ?_
     rintro e w8 ⟨rfl,g8'⟩
     have g8:=hide g8'
     obtain ⟨z1,z2,z3,zf⟩:=g8'.can
     clear HI y1 y2 y3 yf g8'
     go_wp2_with fail
     refine (HFl.out _ g8.out).mono ?_
     rintro e w9 ⟨rfl,g9'⟩
     have g9:=hide g9'
     obtain ⟨u1,u2,u3,uf⟩:=g9'.can
     clear HFl g9' z1 z2 z3 zf g8
     obtain ⟨qf,hqf⟩:∃ qf,qf=r2.failed 4 (r2.at_:Int):=⟨_,rfl⟩
     rw [←hqf] at g9 HCd HFt u1 u2 u3
     have HA:Hid (p.at_<qf.at_∧qf.at_≤p.ts.length):=hide (by rw [HFt.out];exact HA.out)
     have k1:(qf.code == 0)=false:=by simpa using HCd.out
     have k2:decide (qf.code=0)=false:=by simpa using HCd.out
     clear hqf
     obtain ⟨qZ,wZ,eZ,hwZ,rZ,gZ⟩:=g9.out.stepn (by have:=HA.out;omega) 2 2 rfl (by omega)
     have HE:Hid (IvR p b W (.returned (.tuple #[.int .i64 n,.int .i64 n2])) wZ):=hide (iv_bad (q:=p) (low:=n) (high:=n2) gZ (by rw [rZ];exact HCd.out) (by rw [rZ];show _<_+_;have:=HA.out;omega) (by rw [rZ];show _+_≤_;have:=HA.out;omega))
     clear gZ rZ
     go_wp2
     go_ret2
     exact HE.out
   ·have k1:(r2.code == 0)=false:=by simpa using h0
    have k2:decide (r2.code=0)=false:=by simpa using h0
    have HCd:=hide h0
    clear h0
    obtain ⟨qZ,wZ,eZ,hwZ,rZ,gZ⟩:=g7.out.stepn (by have:=HA.out;omega) 2 2 rfl (by omega)
    have HE:Hid (IvR p b W (.returned (.tuple #[.int .i64 n,.int .i64 n2])) wZ):=hide (iv_bad (q:=p) (low:=n) (high:=n2) gZ (by rw [rZ];exact HCd.out) (by rw [rZ];show _<_+_;have:=HA.out;omega) (by rw [rZ];show _+_≤_;have:=HA.out;omega))
    clear gZ rZ
    go_wp2
    go_ret2
    exact HE.out
end Go.Proofs.YtfhimmnoipfiaaaDoor.eng
namespace Go.Proofs.YtfhimmnoipfiaaaDoor.eng
open bytes places sets tz rex
theorem cells5c {W:World} {d:Nat} {v0 v1 v2 v3 v4:Value} (h:W.heap[d]?=some (.cells #[v0,v1,v2,v3,v4] 25 (0,0))):W.cell? ⟨d,0,none⟩=some v0∧W.cell? ⟨d,1,none⟩=some v1∧W.cell? ⟨d,2,none⟩=some v2∧W.cell? ⟨d,3,none⟩=some v3∧W.cell? ⟨d,4,none⟩=some v4:=by
 refine ⟨?_,?_,?_,?_,?_⟩ <;> simp [World.cell?,h]
theorem fz5c {W:World} {d:Nat} {c:Array Value} (h:W.heap[d]?=some (.cells c 25 (0,0))) (i:Nat):W.frozen? ⟨d,i,none⟩=false:=by simp [World.frozen?,h]
def set5 (W:World) (R:Nat) (v0 v1 v2 v3 v4:Value):World:=((((W.setCell ⟨R,0,none⟩ v0).setCell ⟨R,1,none⟩ v1).setCell ⟨R,2,none⟩ v2).setCell ⟨R,3,none⟩ v3).setCell ⟨R,4,none⟩ v4
theorem set5_at {W:World} {R:Nat} {c0 c1 c2 c3 c4:Value} (h:W.heap[R]?=some (.cells #[c0,c1,c2,c3,c4] 25 (0,0))) (_:True) (v0 v1 v2 v3 v4:Value):(set5 W R v0 v1 v2 v3 v4).heap[R]?=some (.cells #[v0,v1,v2,v3,v4] 25 (0,0)):=by
 have e1:=heap_setCell_same W R 0 _ 25 v0 h
 have e2:=heap_setCell_same _ R 1 _ 25 v1 e1
 have e3:=heap_setCell_same _ R 2 _ 25 v2 e2
 have e4:=heap_setCell_same _ R 3 _ 25 v3 e3
 have e5:=heap_setCell_same _ R 4 _ 25 v4 e4
 unfold set5
 simpa using e5
theorem set5_other (W:World) (R k:Nat) (v0 v1 v2 v3 v4:Value) (h:k≠R):(set5 W R v0 v1 v2 v3 v4).heap[k]?=W.heap[k]? := by
 unfold set5
 rw [heap_setCell_other _ ⟨R,4,none⟩ k _ h,heap_setCell_other _ ⟨R,3,none⟩ k _ h,heap_setCell_other _ ⟨R,2,none⟩ k _ h,heap_setCell_other _ ⟨R,1,none⟩ k _ h,heap_setCell_other _ ⟨R,0,none⟩ k _ h]
theorem PG.set5 {b:Nat} {W W':World} (h:PG b W W') {R:Nat} (hR:W.heap.size≤R) (v0 v1 v2 v3 v4:Value):PG b W (eng.set5 W' R v0 v1 v2 v3 v4) :=
 ((((h.setNew hR 0 v0).setNew hR 1 v1).setNew hR 2 v2).setNew hR 3 v3).setNew hR 4 v4
theorem PB.set5 {p:Pq} {b:Nat} {W:World} (h:PB p b W) {R:Nat} (hR:b≠R) (v0 v1 v2 v3 v4:Value):PB p b (eng.set5 W R v0 v1 v2 v3 v4):=(set5_other W R b v0 v1 v2 v3 v4 hR).trans h
def BQ (p q:Pq) (low high:Int):Prop:=p.at_<q.at_∧q.at_≤p.ts.length+2∧(q.code=0→q.at_≤p.ts.length∧0≤low∧low≤20∧(high = -1∨(low≤high∧high≤20)))
def TmR (p:Pq) (b:Nat) (W:World) (cs:Array Value) (e:Ending) (w':World):Prop :=
 (e=.returned (.tuple #[.agg cs,.bool false])∧Go1 p b W p w')∨∃ (low high:Int) (q:Pq) (g:Nat),e=.returned (.tuple #[.agg (rxV 9 low high mt0 (.slice (some ⟨g,0,none⟩) 1 1)),.bool true])∧Go1 p b W q w'∧W.heap.size≤g∧w'.heap[g]?=some (.cells cs 25 (0,0))∧BQ p q low high
set_option maxRecDepth 10000 in
set_option maxHeartbeats 8000000 in
theorem times_ere (p:Pq) (b:Nat) (W:World) (h:PB p b W) (hL:p.ts.length≤1000) (ha:p.at_≤2000) (hts:∀ t∈p.ts,0≤t∧t≤255) (he:p.ere=true) (kind n9 m9:Int) (ss:ByteArray) (o:Option Addr) (ln cp:Nat) :
  Calls Tryd.prog 84 #[.pointer (some ⟨b,0,none⟩),.agg #[.int .i64 kind,.int .i64 n9,.int .i64 m9,.string ss,.slice o ln cp]] W (TmR p b W #[.int .i64 kind,.int .i64 n9,.int .i64 m9,.string ss,.slice o ln cp]):=by
 obtain ⟨W1,hW1⟩:∃ W1,W.alloc (.cells #[.int .i64 kind,.int .i64 n9,.int .i64 m9,.string ss,.slice o ln cp] 25)=W1:=⟨_,rfl⟩
 obtain ⟨W2,hW2⟩:∃ W2,W1.alloc (.cells #[.int .i64 0,.int .i64 0,.int .i64 0,.string ⟨#[]⟩,.slice none 0 0] 25)=W2:=⟨_,rfl⟩
 have hz1:W1.heap.size=W.heap.size+1:=by rw [←hW1];simp
 have hz2:W2.heap.size=W1.heap.size+1:=by rw [←hW2];simp
 have hb1:Below W.heap.size W W1:=by rw [←hW1];exact (Below.refl _ _).alloc (Nat.le_refl _) _
 have hb2:Below W1.heap.size W1 W2:=by rw [←hW2];exact (Below.refl _ _).alloc (Nat.le_refl _) _
 have hb:Below W.heap.size W W2:=hb1.trans (hb2.mono hb1.size)
 have xA:W2.heap[W.heap.size]?=some (.cells #[.int .i64 kind,.int .i64 n9,.int .i64 m9,.string ss,.slice o ln cp] 25 (0,0)):=(hb2.block _ (by omega)).trans (by rw [←hW1];exact heap_alloc_new W _)
 have xR:W2.heap[W1.heap.size]?=some (.cells #[.int .i64 0,.int .i64 0,.int .i64 0,.string ⟨#[]⟩,.slice none 0 0] 25 (0,0)):=by rw [←hW2];exact heap_alloc_new W1 _
 have hbl:=h.lt
 have HX:Hid (∀ W',PG b W2 W'→W'.heap[W.heap.size]?=some (.cells #[.int .i64 kind,.int .i64 n9,.int .i64 m9,.string ss,.slice o ln cp] 25 (0,0))∧W'.heap[W1.heap.size]?=some (.cells #[.int .i64 0,.int .i64 0,.int .i64 0,.string ⟨#[]⟩,.slice none 0 0] 25 (0,0))):=hide fun W' hg=>⟨(hg.block W.heap.size (by omega) (by simp;omega)).trans xA,(hg.block W1.heap.size (by omega) (by simp;omega)).trans xR⟩
 have g0:Hid (Go1 p b W2 p W2):=hide (Go1.refl (h.below hb))
 have HNo:Hid (∀ (q:Pq) (w:World),Go1 p b W2 q w→∀ v0 v1 v2 v3 v4,Go1 p b W q (set5 w W1.heap.size v0 v1 v2 v3 v4)):=hide fun q w hg v0 v1 v2 v3 v4=>⟨hg.pb.set5 (by omega) v0 v1 v2 v3 v4,((PG.below hb).tr hg.pg).set5 (by omega) v0 v1 v2 v3 v4,hg.nx,hg.gr⟩
 have HYes:Hid (∀ (q:Pq) (w:World) (_:Unit),Go1 p b W2 q w→∀ (low high:Int) (G:Nat),W2.heap.size≤G→w.heap[G]?=some (.cells #[.int .i64 kind,.int .i64 n9,.int .i64 m9,.string ss,.slice o ln cp] 25 (0,0))→BQ p q low high→TmR p b W #[.int .i64 kind,.int .i64 n9,.int .i64 m9,.string ss,.slice o ln cp] (.returned (.tuple #[.agg (rxV 9 low high mt0 (.slice (some ⟨G,0,none⟩) 1 1)),.bool true])) (set5 w W1.heap.size (.int .i64 9) (.int .i64 low) (.int .i64 high) (.string mt0) (.slice (some ⟨G,0,none⟩) 1 1))):=hide fun q w _ hg low high G h1 h2 h3=>.inr ⟨low,high,q,G,rfl,⟨hg.pb.set5 (by omega) _ _ _ _ _,((PG.below hb).tr hg.pg).set5 (by omega) _ _ _ _ _,hg.nx,hg.gr⟩,by omega,(set5_other w W1.heap.size G _ _ _ _ _ (by omega)).trans h2,h3⟩
 have HTS:=hide hts
 have HER:=hide he
 obtain ⟨y1,y2,y3,yf⟩:=g0.out.can
 rw [he] at y2
 clear xA xR hb hb1 hb2 hz1 hz2 h hts he hbl
 go_enter Tryd.func84,Tryd.ntmps84
 (try rw [hW1])
 (try rw [hW2])
 have HI1:=hide (g0.out.is hL (by omega) ⟨#[42]⟩ (by decide))
 cases hB1:p.is ⟨#[42]⟩ with
 | true =>
  rw [hB1] at HI1
  have HB1:=hide (is_true hB1)
  clear hB1
  go_wp2_with fail
  refine HI1.out.mono ?_
  rintro e v1 ⟨rfl,g1'⟩
  have g1:=hide g1'
  obtain ⟨y1,y2,y3,yf⟩:=g1'.can
  (try rw [HER.out] at y2)
  clear g1' HI1
  obtain ⟨qq,ww,ee,hww,rqq,gg'⟩:=g1.out.step1 (by omega)
  have gg:=hide gg'
  have HQ:Hid (BQ p qq 0 (-1)):=hide (by
   have h2:p.at_+1≤p.ts.length:=HB1.out.2
   have h1:qq.at_=p.at_+1:=by rw [rqq]
   exact ⟨by omega,by omega,fun _=>⟨by omega,by decide,by decide,by decide⟩⟩)
  clear gg' rqq
  obtain ⟨xa,xr⟩:=HX.out _ gg.out.pg
  obtain ⟨t0,t1,t2,t3,t4⟩:=cells5c xa
  obtain ⟨V1,hV1⟩:∃ V1,ww.alloc (.cells #[.int .i64 kind,.int .i64 n9,.int .i64 m9,.string ss,.slice o ln cp] 25)=V1:=⟨_,rfl⟩
  have hbV:Below ww.heap.size ww V1:=by rw [←hV1];exact (Below.refl _ _).alloc (Nat.le_refl _) _
  have xg:V1.heap[ww.heap.size]?=some (.cells #[.int .i64 kind,.int .i64 n9,.int .i64 m9,.string ss,.slice o ln cp] 25 (0,0)):=by rw [←hV1];exact heap_alloc_new ww _
  obtain ⟨G,hG⟩:∃ G,G=ww.heap.size:=⟨_,rfl⟩
  rw [←hG] at xg
  have HN:=hide (node_any V1 9 0 (-1) (some ⟨G,0,none⟩) 1 1)
  have HGG:=hide (And.intro xg (And.intro hG hbV))
  have g9:=hide (gg.out.below hbV)
  clear xa xr xg hbV
  go_wp2_with fail
  (try simp only [←hG])
  clear hV1 hG t0 t1 t2 t3 t4
  refine HN.out.mono ?_
  rintro e v9 ⟨rfl,b9⟩
  have g10:=hide (g9.out.below b9)
  have HG9:Hid (v9.heap[G]?=some (.cells #[.int .i64 kind,.int .i64 n9,.int .i64 m9,.string ss,.slice o ln cp] 25 (0,0))∧W2.heap.size≤G):=hide ⟨(b9.block _ (Array.getElem?_eq_some_iff.1 HGG.out.1).1).trans HGG.out.1,by rw [HGG.out.2.1];exact gg.out.pg.size⟩
  obtain ⟨xa,xr⟩:=HX.out _ g10.out.pg
  obtain ⟨r0,r1,r2,r3,r4⟩:=cells5c xr
  have z0:=fz5c xr 0
  have z1:=fz5c xr 1
  have z2:=fz5c xr 2
  have z3:=fz5c xr 3
  have z4:=fz5c xr 4
  have HE:=hide (And.intro (set5_at xr trivial (.int .i64 9) (.int .i64 0) (.int .i64 (-1)) (.string mt0) (.slice (some ⟨G,0,none⟩) 1 1)) (HYes.out _ _ () g10.out 0 (-1) G HG9.out.2 HG9.out.1 HQ.out))
  unfold set5 at HE
  unfold rxV
  clear xa xr b9 HN HGG g9
  go_wp2
  generalize (((((v9.setCell ⟨W1.heap.size,0,none⟩ (.int .i64 9)).setCell ⟨W1.heap.size,1,none⟩ (.int .i64 0)).setCell ⟨W1.heap.size,2,none⟩ (.int .i64 (-1))).setCell ⟨W1.heap.size,3,none⟩ (.string mt0)).setCell ⟨W1.heap.size,4,none⟩ (.slice (some ⟨G,0,none⟩) 1 1))=Wf at HE ⊢
  obtain ⟨u0,u1,u2,u3,u4⟩:=cells5c HE.out.1
  refine bodyPost_ret (v:=.tuple #[.agg (rxV 9 0 (-1) mt0 (.slice (some ⟨G,0,none⟩) 1 1)),.bool true]) ?_ rfl HE.out.2
  simp [results,Tryd.results84,go_sem,u0,u1,u2,u3,u4,rxV]
 | false =>
  rw [hB1] at HI1
  clear hB1
  go_wp2_with fail
  refine HI1.out.mono ?_
  rintro e v1 ⟨rfl,g1'⟩
  have g1:=hide g1'
  obtain ⟨y1,y2,y3,yf⟩:=g1'.can
  (try rw [HER.out] at y2)
  clear g1' HI1
  have HI2:=hide (g1.out.is hL (by omega) ⟨#[43]⟩ (by decide))
  cases hB2:p.is ⟨#[43]⟩ with
  | true =>
   rw [hB2] at HI2
   have HB2:=hide (is_true hB2)
   clear hB2
   go_wp2_with fail
   refine HI2.out.mono ?_
   rintro e v2 ⟨rfl,g2'⟩
   have g2:=hide g2'
   obtain ⟨y1,y2,y3,yf⟩:=g2'.can
   (try rw [HER.out] at y2)
   clear g2' HI2
   obtain ⟨qq,ww,ee,hww,rqq,gg'⟩:=g2.out.step1 (by omega)
   have gg:=hide gg'
   have HQ:Hid (BQ p qq 1 (-1)):=hide (by
    have h2:p.at_+1≤p.ts.length:=HB2.out.2
    have h1:qq.at_=p.at_+1:=by rw [rqq]
    exact ⟨by omega,by omega,fun _=>⟨by omega,by decide,by decide,by decide⟩⟩)
   clear gg' rqq
   obtain ⟨xa,xr⟩:=HX.out _ gg.out.pg
   obtain ⟨t0,t1,t2,t3,t4⟩:=cells5c xa
   obtain ⟨V1,hV1⟩:∃ V1,ww.alloc (.cells #[.int .i64 kind,.int .i64 n9,.int .i64 m9,.string ss,.slice o ln cp] 25)=V1:=⟨_,rfl⟩
   have hbV:Below ww.heap.size ww V1:=by rw [←hV1];exact (Below.refl _ _).alloc (Nat.le_refl _) _
   have xg:V1.heap[ww.heap.size]?=some (.cells #[.int .i64 kind,.int .i64 n9,.int .i64 m9,.string ss,.slice o ln cp] 25 (0,0)):=by rw [←hV1];exact heap_alloc_new ww _
   obtain ⟨G,hG⟩:∃ G,G=ww.heap.size:=⟨_,rfl⟩
   rw [←hG] at xg
   have HN:=hide (node_any V1 9 1 (-1) (some ⟨G,0,none⟩) 1 1)
   have HGG:=hide (And.intro xg (And.intro hG hbV))
   have g9:=hide (gg.out.below hbV)
   clear xa xr xg hbV
   go_wp2_with fail
   (try simp only [←hG])
   clear hV1 hG t0 t1 t2 t3 t4
   refine HN.out.mono ?_
   rintro e v9 ⟨rfl,b9⟩
   have g10:=hide (g9.out.below b9)
   have HG9:Hid (v9.heap[G]?=some (.cells #[.int .i64 kind,.int .i64 n9,.int .i64 m9,.string ss,.slice o ln cp] 25 (0,0))∧W2.heap.size≤G):=hide ⟨(b9.block _ (Array.getElem?_eq_some_iff.1 HGG.out.1).1).trans HGG.out.1,by rw [HGG.out.2.1];exact gg.out.pg.size⟩
   obtain ⟨xa,xr⟩:=HX.out _ g10.out.pg
   obtain ⟨r0,r1,r2,r3,r4⟩:=cells5c xr
   have z0:=fz5c xr 0
   have z1:=fz5c xr 1
   have z2:=fz5c xr 2
   have z3:=fz5c xr 3
   have z4:=fz5c xr 4
   have HE:=hide (And.intro (set5_at xr trivial (.int .i64 9) (.int .i64 1) (.int .i64 (-1)) (.string mt0) (.slice (some ⟨G,0,none⟩) 1 1)) (HYes.out _ _ () g10.out 1 (-1) G HG9.out.2 HG9.out.1 HQ.out))
   unfold set5 at HE
   unfold rxV
   clear xa xr b9 HN HGG g9
   go_wp2
   generalize (((((v9.setCell ⟨W1.heap.size,0,none⟩ (.int .i64 9)).setCell ⟨W1.heap.size,1,none⟩ (.int .i64 1)).setCell ⟨W1.heap.size,2,none⟩ (.int .i64 (-1))).setCell ⟨W1.heap.size,3,none⟩ (.string mt0)).setCell ⟨W1.heap.size,4,none⟩ (.slice (some ⟨G,0,none⟩) 1 1))=Wf at HE ⊢
   obtain ⟨u0,u1,u2,u3,u4⟩:=cells5c HE.out.1
   refine bodyPost_ret (v:=.tuple #[.agg (rxV 9 1 (-1) mt0 (.slice (some ⟨G,0,none⟩) 1 1)),.bool true]) ?_ rfl HE.out.2
   simp [results,Tryd.results84,go_sem,u0,u1,u2,u3,u4,rxV]
  | false =>
   rw [hB2] at HI2
   clear hB2
   go_wp2_with fail
   refine HI2.out.mono ?_
   rintro e v2 ⟨rfl,g2'⟩
   have g2:=hide g2'
   obtain ⟨y1,y2,y3,yf⟩:=g2'.can
   (try rw [HER.out] at y2)
   clear g2' HI2
   have HI3:=hide (g2.out.is hL (by omega) ⟨#[63]⟩ (by decide))
   cases hB3:p.is ⟨#[63]⟩ with
   | true =>
    rw [hB3] at HI3
    have HB3:=hide (is_true hB3)
    clear hB3
    go_wp2_with fail
    refine HI3.out.mono ?_
    rintro e v3 ⟨rfl,g3'⟩
    have g3:=hide g3'
    obtain ⟨y1,y2,y3,yf⟩:=g3'.can
    (try rw [HER.out] at y2)
    clear g3' HI3
    obtain ⟨qq,ww,ee,hww,rqq,gg'⟩:=g3.out.step1 (by omega)
    have gg:=hide gg'
    have HQ:Hid (BQ p qq 0 1):=hide (by
     have h2:p.at_+1≤p.ts.length:=HB3.out.2
     have h1:qq.at_=p.at_+1:=by rw [rqq]
     exact ⟨by omega,by omega,fun _=>⟨by omega,by decide,by decide,by decide⟩⟩)
    clear gg' rqq
    obtain ⟨xa,xr⟩:=HX.out _ gg.out.pg
    obtain ⟨t0,t1,t2,t3,t4⟩:=cells5c xa
    obtain ⟨V1,hV1⟩:∃ V1,ww.alloc (.cells #[.int .i64 kind,.int .i64 n9,.int .i64 m9,.string ss,.slice o ln cp] 25)=V1:=⟨_,rfl⟩
    have hbV:Below ww.heap.size ww V1:=by rw [←hV1];exact (Below.refl _ _).alloc (Nat.le_refl _) _
    have xg:V1.heap[ww.heap.size]?=some (.cells #[.int .i64 kind,.int .i64 n9,.int .i64 m9,.string ss,.slice o ln cp] 25 (0,0)):=by rw [←hV1];exact heap_alloc_new ww _
    obtain ⟨G,hG⟩:∃ G,G=ww.heap.size:=⟨_,rfl⟩
    rw [←hG] at xg
    have HN:=hide (node_any V1 9 0 1 (some ⟨G,0,none⟩) 1 1)
    have HGG:=hide (And.intro xg (And.intro hG hbV))
    have g9:=hide (gg.out.below hbV)
    clear xa xr xg hbV
    go_wp2_with fail
    (try simp only [←hG])
    clear hV1 hG t0 t1 t2 t3 t4
    refine HN.out.mono ?_
    rintro e v9 ⟨rfl,b9⟩
    have g10:=hide (g9.out.below b9)
    have HG9:Hid (v9.heap[G]?=some (.cells #[.int .i64 kind,.int .i64 n9,.int .i64 m9,.string ss,.slice o ln cp] 25 (0,0))∧W2.heap.size≤G):=hide ⟨(b9.block _ (Array.getElem?_eq_some_iff.1 HGG.out.1).1).trans HGG.out.1,by rw [HGG.out.2.1];exact gg.out.pg.size⟩
    obtain ⟨xa,xr⟩:=HX.out _ g10.out.pg
    obtain ⟨r0,r1,r2,r3,r4⟩:=cells5c xr
    have z0:=fz5c xr 0
    have z1:=fz5c xr 1
    have z2:=fz5c xr 2
    have z3:=fz5c xr 3
    have z4:=fz5c xr 4
    have HE:=hide (And.intro (set5_at xr trivial (.int .i64 9) (.int .i64 0) (.int .i64 1) (.string mt0) (.slice (some ⟨G,0,none⟩) 1 1)) (HYes.out _ _ () g10.out 0 1 G HG9.out.2 HG9.out.1 HQ.out))
    unfold set5 at HE
    unfold rxV
    clear xa xr b9 HN HGG g9
    go_wp2
    generalize (((((v9.setCell ⟨W1.heap.size,0,none⟩ (.int .i64 9)).setCell ⟨W1.heap.size,1,none⟩ (.int .i64 0)).setCell ⟨W1.heap.size,2,none⟩ (.int .i64 1)).setCell ⟨W1.heap.size,3,none⟩ (.string mt0)).setCell ⟨W1.heap.size,4,none⟩ (.slice (some ⟨G,0,none⟩) 1 1))=Wf at HE ⊢
    obtain ⟨u0,u1,u2,u3,u4⟩:=cells5c HE.out.1
    refine bodyPost_ret (v:=.tuple #[.agg (rxV 9 0 1 mt0 (.slice (some ⟨G,0,none⟩) 1 1)),.bool true]) ?_ rfl HE.out.2
    simp [results,Tryd.results84,go_sem,u0,u1,u2,u3,u4,rxV]
   | false =>
    rw [hB3] at HI3
    clear hB3
    go_wp2_with fail
    refine HI3.out.mono ?_
    rintro e v3 ⟨rfl,g3'⟩
    have g3:=hide g3'
    obtain ⟨y1,y2,y3,yf⟩:=g3'.can
    (try rw [HER.out] at y2)
    clear g3' HI3
    have HI4:=hide (g3.out.is hL (by omega) ⟨#[123]⟩ (by decide))
    cases hB4:p.is ⟨#[123]⟩ with
    | true =>
     rw [hB4] at HI4
     have HB4:=hide (is_true hB4)
     clear hB4
     go_wp2_with fail
     refine HI4.out.mono ?_
     rintro e v4 ⟨rfl,g4'⟩
     have g4:=hide g4'
     obtain ⟨y1,y2,y3,yf⟩:=g4'.can
     (try rw [HER.out] at y2)
     clear g4' HI4
     have HIV:=hide (interval_ere p b v4 g4.out.pb hL HTS.out HER.out HB4.out.2)
     go_wp2_with fail
     refine HIV.out.mono ?_
     rintro e ww ⟨low,high,qq,rfl,gi,i1,i2,i3⟩
     have gg:=hide (Go1.tr g4.out gi)
     have HQ:Hid (BQ p qq low high):=hide (And.intro i1 (And.intro i2 i3))
     clear gi i1 i2 i3 HIV y1 y2 y3 yf
     obtain ⟨xa,xr⟩:=HX.out _ gg.out.pg
     obtain ⟨t0,t1,t2,t3,t4⟩:=cells5c xa
     obtain ⟨V1,hV1⟩:∃ V1,ww.alloc (.cells #[.int .i64 kind,.int .i64 n9,.int .i64 m9,.string ss,.slice o ln cp] 25)=V1:=⟨_,rfl⟩
     have hbV:Below ww.heap.size ww V1:=by rw [←hV1];exact (Below.refl _ _).alloc (Nat.le_refl _) _
     have xg:V1.heap[ww.heap.size]?=some (.cells #[.int .i64 kind,.int .i64 n9,.int .i64 m9,.string ss,.slice o ln cp] 25 (0,0)):=by rw [←hV1];exact heap_alloc_new ww _
     obtain ⟨G,hG⟩:∃ G,G=ww.heap.size:=⟨_,rfl⟩
     rw [←hG] at xg
     have HN:=hide (node_any V1 9 low high (some ⟨G,0,none⟩) 1 1)
     have HGG:=hide (And.intro xg (And.intro hG hbV))
     have g9:=hide (gg.out.below hbV)
     clear xa xr xg hbV
     go_wp2_with fail
     (try simp only [←hG])
     clear hV1 hG t0 t1 t2 t3 t4
     refine HN.out.mono ?_
     rintro e v9 ⟨rfl,b9⟩
     have g10:=hide (g9.out.below b9)
     have HG9:Hid (v9.heap[G]?=some (.cells #[.int .i64 kind,.int .i64 n9,.int .i64 m9,.string ss,.slice o ln cp] 25 (0,0))∧W2.heap.size≤G):=hide ⟨(b9.block _ (Array.getElem?_eq_some_iff.1 HGG.out.1).1).trans HGG.out.1,by rw [HGG.out.2.1];exact gg.out.pg.size⟩
     obtain ⟨xa,xr⟩:=HX.out _ g10.out.pg
     obtain ⟨r0,r1,r2,r3,r4⟩:=cells5c xr
     have z0:=fz5c xr 0
     have z1:=fz5c xr 1
     have z2:=fz5c xr 2
     have z3:=fz5c xr 3
     have z4:=fz5c xr 4
     have HE:=hide (And.intro (set5_at xr trivial (.int .i64 9) (.int .i64 low) (.int .i64 high) (.string mt0) (.slice (some ⟨G,0,none⟩) 1 1)) (HYes.out _ _ () g10.out low high G HG9.out.2 HG9.out.1 HQ.out))
     unfold set5 at HE
     unfold rxV
     clear xa xr b9 HN HGG g9
     go_wp2
     generalize (((((v9.setCell ⟨W1.heap.size,0,none⟩ (.int .i64 9)).setCell ⟨W1.heap.size,1,none⟩ (.int .i64 low)).setCell ⟨W1.heap.size,2,none⟩ (.int .i64 high)).setCell ⟨W1.heap.size,3,none⟩ (.string mt0)).setCell ⟨W1.heap.size,4,none⟩ (.slice (some ⟨G,0,none⟩) 1 1))=Wf at HE ⊢
     obtain ⟨u0,u1,u2,u3,u4⟩:=cells5c HE.out.1
     refine bodyPost_ret (v:=.tuple #[.agg (rxV 9 low high mt0 (.slice (some ⟨G,0,none⟩) 1 1)),.bool true]) ?_ rfl HE.out.2
     simp [results,Tryd.results84,go_sem,u0,u1,u2,u3,u4,rxV]
    | false =>
     rw [hB4] at HI4
     clear hB4
     go_wp2_with fail
     refine HI4.out.mono ?_
     rintro e v4 ⟨rfl,g4'⟩
     have g4:=hide g4'
     obtain ⟨y1,y2,y3,yf⟩:=g4'.can
     (try rw [HER.out] at y2)
     clear g4' HI4
     obtain ⟨xa,xr⟩:=HX.out _ g4.out.pg
     obtain ⟨t0,t1,t2,t3,t4⟩:=cells5c xa
     obtain ⟨r0,r1,r2,r3,r4⟩:=cells5c xr
     have z0:=fz5c xr 0
     have z1:=fz5c xr 1
     have z2:=fz5c xr 2
     have z3:=fz5c xr 3
     have z4:=fz5c xr 4
     have HE:=hide (And.intro (set5_at xr trivial (.int .i64 kind) (.int .i64 n9) (.int .i64 m9) (.string ss) (.slice o ln cp)) (HNo.out _ _ g4.out (.int .i64 kind) (.int .i64 n9) (.int .i64 m9) (.string ss) (.slice o ln cp)))
     unfold set5 at HE
     clear xa xr
     go_wp2
     generalize (((((v4.setCell ⟨W1.heap.size,0,none⟩ (.int .i64 kind)).setCell ⟨W1.heap.size,1,none⟩ (.int .i64 n9)).setCell ⟨W1.heap.size,2,none⟩ (.int .i64 m9)).setCell ⟨W1.heap.size,3,none⟩ (.string ss)).setCell ⟨W1.heap.size,4,none⟩ (.slice o ln cp))=Wf at HE ⊢
     obtain ⟨u0,u1,u2,u3,u4⟩:=cells5c HE.out.1
     refine bodyPost_ret (v:=.tuple #[.agg #[.int .i64 kind,.int .i64 n9,.int .i64 m9,.string ss,.slice o ln cp],.bool false]) ?_ rfl (Or.inl ⟨rfl,HE.out.2⟩)
     simp [results,Tryd.results84,go_sem,u0,u1,u2,u3,u4]
set_option maxRecDepth 10000 in
set_option maxHeartbeats 8000000 in
theorem times_bre (p:Pq) (b:Nat) (W:World) (h:PB p b W) (hL:p.ts.length≤1000) (ha:p.at_≤2000) (hts:∀ t∈p.ts,0≤t∧t≤255) (he:p.ere=false) (kind n9 m9:Int) (ss:ByteArray) (o:Option Addr) (ln cp:Nat) :
  Calls Tryd.prog 84 #[.pointer (some ⟨b,0,none⟩),.agg #[.int .i64 kind,.int .i64 n9,.int .i64 m9,.string ss,.slice o ln cp]] W (TmR p b W #[.int .i64 kind,.int .i64 n9,.int .i64 m9,.string ss,.slice o ln cp]):=by
 obtain ⟨W1,hW1⟩:∃ W1,W.alloc (.cells #[.int .i64 kind,.int .i64 n9,.int .i64 m9,.string ss,.slice o ln cp] 25)=W1:=⟨_,rfl⟩
 obtain ⟨W2,hW2⟩:∃ W2,W1.alloc (.cells #[.int .i64 0,.int .i64 0,.int .i64 0,.string ⟨#[]⟩,.slice none 0 0] 25)=W2:=⟨_,rfl⟩
 have hz1:W1.heap.size=W.heap.size+1:=by rw [←hW1];simp
 have hz2:W2.heap.size=W1.heap.size+1:=by rw [←hW2];simp
 have hb1:Below W.heap.size W W1:=by rw [←hW1];exact (Below.refl _ _).alloc (Nat.le_refl _) _
 have hb2:Below W1.heap.size W1 W2:=by rw [←hW2];exact (Below.refl _ _).alloc (Nat.le_refl _) _
 have hb:Below W.heap.size W W2:=hb1.trans (hb2.mono hb1.size)
 have xA:W2.heap[W.heap.size]?=some (.cells #[.int .i64 kind,.int .i64 n9,.int .i64 m9,.string ss,.slice o ln cp] 25 (0,0)):=(hb2.block _ (by omega)).trans (by rw [←hW1];exact heap_alloc_new W _)
 have xR:W2.heap[W1.heap.size]?=some (.cells #[.int .i64 0,.int .i64 0,.int .i64 0,.string ⟨#[]⟩,.slice none 0 0] 25 (0,0)):=by rw [←hW2];exact heap_alloc_new W1 _
 have hbl:=h.lt
 have HX:Hid (∀ W',PG b W2 W'→W'.heap[W.heap.size]?=some (.cells #[.int .i64 kind,.int .i64 n9,.int .i64 m9,.string ss,.slice o ln cp] 25 (0,0))∧W'.heap[W1.heap.size]?=some (.cells #[.int .i64 0,.int .i64 0,.int .i64 0,.string ⟨#[]⟩,.slice none 0 0] 25 (0,0))):=hide fun W' hg=>⟨(hg.block W.heap.size (by omega) (by simp;omega)).trans xA,(hg.block W1.heap.size (by omega) (by simp;omega)).trans xR⟩
 have g0:Hid (Go1 p b W2 p W2):=hide (Go1.refl (h.below hb))
 have HNo:Hid (∀ (q:Pq) (w:World),Go1 p b W2 q w→∀ v0 v1 v2 v3 v4,Go1 p b W q (set5 w W1.heap.size v0 v1 v2 v3 v4)):=hide fun q w hg v0 v1 v2 v3 v4=>⟨hg.pb.set5 (by omega) v0 v1 v2 v3 v4,((PG.below hb).tr hg.pg).set5 (by omega) v0 v1 v2 v3 v4,hg.nx,hg.gr⟩
 have HYes:Hid (∀ (q:Pq) (w:World) (_:Unit),Go1 p b W2 q w→∀ (low high:Int) (G:Nat),W2.heap.size≤G→w.heap[G]?=some (.cells #[.int .i64 kind,.int .i64 n9,.int .i64 m9,.string ss,.slice o ln cp] 25 (0,0))→BQ p q low high→TmR p b W #[.int .i64 kind,.int .i64 n9,.int .i64 m9,.string ss,.slice o ln cp] (.returned (.tuple #[.agg (rxV 9 low high mt0 (.slice (some ⟨G,0,none⟩) 1 1)),.bool true])) (set5 w W1.heap.size (.int .i64 9) (.int .i64 low) (.int .i64 high) (.string mt0) (.slice (some ⟨G,0,none⟩) 1 1))):=hide fun q w _ hg low high G h1 h2 h3=>.inr ⟨low,high,q,G,rfl,⟨hg.pb.set5 (by omega) _ _ _ _ _,((PG.below hb).tr hg.pg).set5 (by omega) _ _ _ _ _,hg.nx,hg.gr⟩,by omega,(set5_other w W1.heap.size G _ _ _ _ _ (by omega)).trans h2,h3⟩
 have HTS:=hide hts
 have HER:=hide he
 obtain ⟨y1,y2,y3,yf⟩:=g0.out.can
 rw [he] at y2
 clear xA xR hb hb1 hb2 hz1 hz2 h hts he hbl
 go_enter Tryd.func84,Tryd.ntmps84
 (try rw [hW1])
 (try rw [hW2])
 have HI1:=hide (g0.out.is hL (by omega) ⟨#[42]⟩ (by decide))
 cases hB1:p.is ⟨#[42]⟩ with
 | true =>
  rw [hB1] at HI1
  have HB1:=hide (is_true hB1)
  clear hB1
  go_wp2_with fail
  refine HI1.out.mono ?_
  rintro e v1 ⟨rfl,g1'⟩
  have g1:=hide g1'
  obtain ⟨y1,y2,y3,yf⟩:=g1'.can
  (try rw [HER.out] at y2)
  clear g1' HI1
  obtain ⟨qq,ww,ee,hww,rqq,gg'⟩:=g1.out.step1 (by omega)
  have gg:=hide gg'
  have HQ:Hid (BQ p qq 0 (-1)):=hide (by
   have h2:p.at_+1≤p.ts.length:=HB1.out.2
   have h1:qq.at_=p.at_+1:=by rw [rqq]
   exact ⟨by omega,by omega,fun _=>⟨by omega,by decide,by decide,by decide⟩⟩)
  clear gg' rqq
  obtain ⟨xa,xr⟩:=HX.out _ gg.out.pg
  obtain ⟨t0,t1,t2,t3,t4⟩:=cells5c xa
  obtain ⟨V1,hV1⟩:∃ V1,ww.alloc (.cells #[.int .i64 kind,.int .i64 n9,.int .i64 m9,.string ss,.slice o ln cp] 25)=V1:=⟨_,rfl⟩
  have hbV:Below ww.heap.size ww V1:=by rw [←hV1];exact (Below.refl _ _).alloc (Nat.le_refl _) _
  have xg:V1.heap[ww.heap.size]?=some (.cells #[.int .i64 kind,.int .i64 n9,.int .i64 m9,.string ss,.slice o ln cp] 25 (0,0)):=by rw [←hV1];exact heap_alloc_new ww _
  obtain ⟨G,hG⟩:∃ G,G=ww.heap.size:=⟨_,rfl⟩
  rw [←hG] at xg
  have HN:=hide (node_any V1 9 0 (-1) (some ⟨G,0,none⟩) 1 1)
  have HGG:=hide (And.intro xg (And.intro hG hbV))
  have g9:=hide (gg.out.below hbV)
  clear xa xr xg hbV
  go_wp2_with fail
  (try simp only [←hG])
  clear hV1 hG t0 t1 t2 t3 t4
  refine HN.out.mono ?_
  rintro e v9 ⟨rfl,b9⟩
  have g10:=hide (g9.out.below b9)
  have HG9:Hid (v9.heap[G]?=some (.cells #[.int .i64 kind,.int .i64 n9,.int .i64 m9,.string ss,.slice o ln cp] 25 (0,0))∧W2.heap.size≤G):=hide ⟨(b9.block _ (Array.getElem?_eq_some_iff.1 HGG.out.1).1).trans HGG.out.1,by rw [HGG.out.2.1];exact gg.out.pg.size⟩
  obtain ⟨xa,xr⟩:=HX.out _ g10.out.pg
  obtain ⟨r0,r1,r2,r3,r4⟩:=cells5c xr
  have z0:=fz5c xr 0
  have z1:=fz5c xr 1
  have z2:=fz5c xr 2
  have z3:=fz5c xr 3
  have z4:=fz5c xr 4
  have HE:=hide (And.intro (set5_at xr trivial (.int .i64 9) (.int .i64 0) (.int .i64 (-1)) (.string mt0) (.slice (some ⟨G,0,none⟩) 1 1)) (HYes.out _ _ () g10.out 0 (-1) G HG9.out.2 HG9.out.1 HQ.out))
  unfold set5 at HE
  unfold rxV
  clear xa xr b9 HN HGG g9
  go_wp2
  generalize (((((v9.setCell ⟨W1.heap.size,0,none⟩ (.int .i64 9)).setCell ⟨W1.heap.size,1,none⟩ (.int .i64 0)).setCell ⟨W1.heap.size,2,none⟩ (.int .i64 (-1))).setCell ⟨W1.heap.size,3,none⟩ (.string mt0)).setCell ⟨W1.heap.size,4,none⟩ (.slice (some ⟨G,0,none⟩) 1 1))=Wf at HE ⊢
  obtain ⟨u0,u1,u2,u3,u4⟩:=cells5c HE.out.1
  refine bodyPost_ret (v:=.tuple #[.agg (rxV 9 0 (-1) mt0 (.slice (some ⟨G,0,none⟩) 1 1)),.bool true]) ?_ rfl HE.out.2
  simp [results,Tryd.results84,go_sem,u0,u1,u2,u3,u4,rxV]
 | false =>
  rw [hB1] at HI1
  clear hB1
  go_wp2_with fail
  refine HI1.out.mono ?_
  rintro e v1 ⟨rfl,g1'⟩
  have g1:=hide g1'
  obtain ⟨y1,y2,y3,yf⟩:=g1'.can
  (try rw [HER.out] at y2)
  clear g1' HI1
  have HI2:=hide (g1.out.is hL (by omega) ⟨#[92,123]⟩ (by decide))
  cases hB2:p.is ⟨#[92,123]⟩ with
  | true =>
   rw [hB2] at HI2
   have HB2:=hide (is_true hB2)
   clear hB2
   go_wp2_with fail
   refine HI2.out.mono ?_
   rintro e v2 ⟨rfl,g2'⟩
   have g2:=hide g2'
   obtain ⟨y1,y2,y3,yf⟩:=g2'.can
   (try rw [HER.out] at y2)
   clear g2' HI2
   have HIV:=hide (interval_bre p b v2 g2.out.pb hL HTS.out HER.out HB2.out.2)
   go_wp2_with fail
   refine HIV.out.mono ?_
   rintro e ww ⟨low,high,qq,rfl,gi,i1,i2,i3⟩
   have gg:=hide (Go1.tr g2.out gi)
   have HQ:Hid (BQ p qq low high):=hide (And.intro i1 (And.intro i2 i3))
   clear gi i1 i2 i3 HIV y1 y2 y3 yf
   obtain ⟨xa,xr⟩:=HX.out _ gg.out.pg
   obtain ⟨t0,t1,t2,t3,t4⟩:=cells5c xa
   obtain ⟨V1,hV1⟩:∃ V1,ww.alloc (.cells #[.int .i64 kind,.int .i64 n9,.int .i64 m9,.string ss,.slice o ln cp] 25)=V1:=⟨_,rfl⟩
   have hbV:Below ww.heap.size ww V1:=by rw [←hV1];exact (Below.refl _ _).alloc (Nat.le_refl _) _
   have xg:V1.heap[ww.heap.size]?=some (.cells #[.int .i64 kind,.int .i64 n9,.int .i64 m9,.string ss,.slice o ln cp] 25 (0,0)):=by rw [←hV1];exact heap_alloc_new ww _
   obtain ⟨G,hG⟩:∃ G,G=ww.heap.size:=⟨_,rfl⟩
   rw [←hG] at xg
   have HN:=hide (node_any V1 9 low high (some ⟨G,0,none⟩) 1 1)
   have HGG:=hide (And.intro xg (And.intro hG hbV))
   have g9:=hide (gg.out.below hbV)
   clear xa xr xg hbV
   go_wp2_with fail
   (try simp only [←hG])
   clear hV1 hG t0 t1 t2 t3 t4
   refine HN.out.mono ?_
   rintro e v9 ⟨rfl,b9⟩
   have g10:=hide (g9.out.below b9)
   have HG9:Hid (v9.heap[G]?=some (.cells #[.int .i64 kind,.int .i64 n9,.int .i64 m9,.string ss,.slice o ln cp] 25 (0,0))∧W2.heap.size≤G):=hide ⟨(b9.block _ (Array.getElem?_eq_some_iff.1 HGG.out.1).1).trans HGG.out.1,by rw [HGG.out.2.1];exact gg.out.pg.size⟩
   obtain ⟨xa,xr⟩:=HX.out _ g10.out.pg
   obtain ⟨r0,r1,r2,r3,r4⟩:=cells5c xr
   have z0:=fz5c xr 0
   have z1:=fz5c xr 1
   have z2:=fz5c xr 2
   have z3:=fz5c xr 3
   have z4:=fz5c xr 4
   have HE:=hide (And.intro (set5_at xr trivial (.int .i64 9) (.int .i64 low) (.int .i64 high) (.string mt0) (.slice (some ⟨G,0,none⟩) 1 1)) (HYes.out _ _ () g10.out low high G HG9.out.2 HG9.out.1 HQ.out))
   unfold set5 at HE
   unfold rxV
   clear xa xr b9 HN HGG g9
   go_wp2
   generalize (((((v9.setCell ⟨W1.heap.size,0,none⟩ (.int .i64 9)).setCell ⟨W1.heap.size,1,none⟩ (.int .i64 low)).setCell ⟨W1.heap.size,2,none⟩ (.int .i64 high)).setCell ⟨W1.heap.size,3,none⟩ (.string mt0)).setCell ⟨W1.heap.size,4,none⟩ (.slice (some ⟨G,0,none⟩) 1 1))=Wf at HE ⊢
   obtain ⟨u0,u1,u2,u3,u4⟩:=cells5c HE.out.1
   refine bodyPost_ret (v:=.tuple #[.agg (rxV 9 low high mt0 (.slice (some ⟨G,0,none⟩) 1 1)),.bool true]) ?_ rfl HE.out.2
   simp [results,Tryd.results84,go_sem,u0,u1,u2,u3,u4,rxV]
  | false =>
   rw [hB2] at HI2
   clear hB2
   go_wp2_with fail
   refine HI2.out.mono ?_
   rintro e v2 ⟨rfl,g2'⟩
   have g2:=hide g2'
   obtain ⟨y1,y2,y3,yf⟩:=g2'.can
   (try rw [HER.out] at y2)
   clear g2' HI2
   obtain ⟨xa,xr⟩:=HX.out _ g2.out.pg
   obtain ⟨t0,t1,t2,t3,t4⟩:=cells5c xa
   obtain ⟨r0,r1,r2,r3,r4⟩:=cells5c xr
   have z0:=fz5c xr 0
   have z1:=fz5c xr 1
   have z2:=fz5c xr 2
   have z3:=fz5c xr 3
   have z4:=fz5c xr 4
   have HE:=hide (And.intro (set5_at xr trivial (.int .i64 kind) (.int .i64 n9) (.int .i64 m9) (.string ss) (.slice o ln cp)) (HNo.out _ _ g2.out (.int .i64 kind) (.int .i64 n9) (.int .i64 m9) (.string ss) (.slice o ln cp)))
   unfold set5 at HE
   clear xa xr
   go_wp2
   generalize (((((v2.setCell ⟨W1.heap.size,0,none⟩ (.int .i64 kind)).setCell ⟨W1.heap.size,1,none⟩ (.int .i64 n9)).setCell ⟨W1.heap.size,2,none⟩ (.int .i64 m9)).setCell ⟨W1.heap.size,3,none⟩ (.string ss)).setCell ⟨W1.heap.size,4,none⟩ (.slice o ln cp))=Wf at HE ⊢
   obtain ⟨u0,u1,u2,u3,u4⟩:=cells5c HE.out.1
   refine bodyPost_ret (v:=.tuple #[.agg #[.int .i64 kind,.int .i64 n9,.int .i64 m9,.string ss,.slice o ln cp],.bool false]) ?_ rfl (Or.inl ⟨rfl,HE.out.2⟩)
   simp [results,Tryd.results84,go_sem,u0,u1,u2,u3,u4]
end Go.Proofs.YtfhimmnoipfiaaaDoor.eng
namespace Go.Proofs.YtfhimmnoipfiaaaDoor.eng
open bytes places sets tz rex
structure Rd (b:Nat) (W:World) (q:Pq) (w:World):Prop where
 pb:PB q b w
 pg:PG b W w
section
variable {p q:Pq} {b:Nat} {W w w':World}
theorem Rd.refl (h:PB p b W):Rd b W p W:=⟨h,PG.refl⟩
theorem Rd.of1 (h:Go1 p b W q w):Rd b W q w:=⟨h.pb,h.pg⟩
theorem Rd.tr {r:Pq} (h:Rd b W q w) (k:Rd b w r w'):Rd b W r w':=⟨k.pb,h.pg.tr k.pg⟩
theorem Rd.below (h:Rd b W q w) (hb:Below w.heap.size w w'):Rd b W q w':=⟨h.pb.below hb,h.pg.tr (PG.below hb)⟩
theorem Rd.alloc (h:Rd b W q w) (o:Obj):Rd b W q (w.alloc o):=h.below ((Below.refl _ _).alloc (Nat.le_refl _) o)
theorem Rd.drawn (h:Rd b W q w) (hd:Drawn w w'):Rd b W q w':=⟨h.pb.drawn hd,h.pg.tr (PG.drawn hd)⟩
theorem Rd.setNew (h:Rd b W q w) {c:Nat} (hb:b≠c) (hc:W.heap.size≤c) (i:Nat) (v:Value):Rd b W q (w.setCell ⟨c,i,none⟩ v):=⟨h.pb.setNew hb i v,h.pg.setNew hc i v⟩
theorem Rd.set5 (h:Rd b W q w) {c:Nat} (hb:b≠c) (hc:W.heap.size≤c) (v0 v1 v2 v3 v4:Value):Rd b W q (eng.set5 w c v0 v1 v2 v3 v4):=⟨h.pb.set5 hb v0 v1 v2 v3 v4,h.pg.set5 hc v0 v1 v2 v3 v4⟩
structure Can2 (q:Pq) (b:Nat) (w:World):Prop where
 c0:w.cell? ⟨b,0,none⟩=some (.string (strOfNums q.ts))
 c1:w.cell? ⟨b,1,none⟩=some (.int .i64 (q.at_:Int))
 c2:w.cell? ⟨b,2,none⟩=some (.bool q.ere)
 c3:w.cell? ⟨b,3,none⟩=some (.int .i64 q.code)
 c5:w.cell? ⟨b,5,none⟩=some (.int .i64 (q.groups:Int))
 c6:w.cell? ⟨b,6,none⟩=some (.int .i64 (q.open_:Int))
 f1:w.frozen? ⟨b,1,none⟩=false
 f5:w.frozen? ⟨b,5,none⟩=false
 f6:w.frozen? ⟨b,6,none⟩=false
theorem Rd.can (h:Rd b W q w):Can2 q b w:=⟨h.pb.cells.1,h.pb.cells.2.1,h.pb.cells.2.2.1,h.pb.cells.2.2.2.1,h.pb.cells.2.2.2.2.2.1,h.pb.cells.2.2.2.2.2.2,h.pb.fz 1,h.pb.fz 5,h.pb.fz 6⟩
theorem Rd.is (h:Rd b W q w) (hL:q.ts.length≤1000) (ha:q.at_≤2000) (S:ByteArray) (hS:S.size≤10):Calls Tryd.prog 61 #[.pointer (some ⟨b,0,none⟩),.string S] w fun e w'=>e=.returned (.bool (q.is S))∧Rd b W q w' :=
 (is_any q b w h.pb hL ha S hS).mono fun e w' ⟨h1,h2⟩=>⟨h1,h.drawn h2⟩
theorem Rd.ends (h:Rd b W q w) (hL:q.ts.length≤1000) (ha:q.at_≤2000):Calls Tryd.prog 82 #[.pointer (some ⟨b,0,none⟩)] w fun e w'=>∃ r:Bool,e=.returned (.bool r)∧(r=false→q.code=0∧q.at_<q.ts.length)∧Rd b W q w' :=
 (ends_any q b w h.pb hL ha).mono fun e w' ⟨r,h1,h2,h3⟩=>⟨r,h1,h2,h.drawn h3⟩
theorem Rd.fail (h:Rd b W q w) (c x:Int):Calls Tryd.prog 40 #[.pointer (some ⟨b,0,none⟩),.int .i64 c,.int .i64 x] w fun e w'=>e=.returned (.tuple #[])∧Rd b W (q.failed c x) w' :=
 (fail_any q b w h.pb c x).mono fun e w' ⟨h1,h2,h3⟩=>⟨h1,h2,h.pg.tr h3⟩
theorem Rd.failx (h:Rd b W q w) {c:Int} (hc:c≠0) (x:Int):Calls Tryd.prog 40 #[.pointer (some ⟨b,0,none⟩),.int .i64 c,.int .i64 x] w fun e w'=>∃ r:Pq,e=.returned (.tuple #[])∧Rd b W r w'∧r.code≠0∧r.ts=q.ts∧r.at_=q.at_∧r.ere=q.ere∧r.groups=q.groups∧r.open_=q.open_ :=
 (h.fail c x).mono fun e w' ⟨h1,h2⟩=>⟨_,h1,h2,failed_code q c x hc,failed_rest q c x⟩
theorem Rd.stepn (h:Rd b W q w) (hq:q.at_≤10000) (d:Nat) (D:Int) (hD:D=(d:Int)) (hd:d≤1000):∃ r w',w.setCell ⟨b,1,none⟩ (.int .i64 (r.at_:Int))=w'∧IntKind.i64.wrap ((q.at_:Int)+D)=(r.at_:Int)∧r={ q with at_:=q.at_+d }∧Rd b W r w' :=
 ⟨_,_,rfl,by rw [IntKind.wrap_i64];show _=((q.at_+d:Nat):Int);omega,rfl,h.pb.setAt _,h.pg.tr (PG.set 1 _)⟩
theorem Rd.groups1 (h:Rd b W q w) (hq:q.groups≤10000):∃ r w',w.setCell ⟨b,5,none⟩ (.int .i64 (r.groups:Int))=w'∧IntKind.i64.wrap ((q.groups:Int)+1)=(r.groups:Int)∧r={ q with groups:=q.groups+1 }∧Rd b W r w' :=
 ⟨_,_,rfl,by rw [IntKind.wrap_i64];show _=((q.groups+1:Nat):Int);omega,rfl,h.pb.setGroups _,h.pg.tr (PG.set 5 _)⟩
theorem Rd.open1 (h:Rd b W q w) (hq:q.open_≤10000):∃ r w',w.setCell ⟨b,6,none⟩ (.int .i64 (r.open_:Int))=w'∧IntKind.i64.wrap ((q.open_:Int)+1)=(r.open_:Int)∧r={ q with open_:=q.open_+1 }∧Rd b W r w' :=
 ⟨_,_,rfl,by rw [IntKind.wrap_i64];show _=((q.open_+1:Nat):Int);omega,rfl,h.pb.setOpen _,h.pg.tr (PG.set 6 _)⟩
theorem Rd.close1 (h:Rd b W q w) {k:Nat} (hk:q.open_=k+1) (hq:k≤10000):∃ r w',w.setCell ⟨b,6,none⟩ (.int .i64 (r.open_:Int))=w'∧IntKind.i64.wrap ((q.open_:Int)-1)=(r.open_:Int)∧r={ q with open_:=k }∧Rd b W r w' :=
 ⟨_,_,rfl,by rw [IntKind.wrap_i64];show _=((k:Nat):Int);omega,rfl,h.pb.setOpen _,h.pg.tr (PG.set 6 _)⟩
end
structure Okp (p:Pq):Prop where
 len:p.ts.length≤200
 bytes:∀ t∈p.ts,0≤t∧t≤255
 at_:p.at_≤p.ts.length
 op:p.open_≤p.at_
 gr:p.groups≤p.at_
 g9:p.code=0→p.groups≤9
structure TrP (s:Nat) (p:Pq) (b:Nat) (W:World) (cs:Array Value) (q:Pq) (w':World):Prop where
 rd:Rd b W q w'
 nx:Nx p q
 far:p.at_+s≤q.at_
 lim:q.at_+2*p.open_≤3*p.ts.length+10
 gr:q.groups≤q.at_
 good:q.code=0→q.at_≤p.ts.length∧q.groups≤9∧TreeAt W.heap.size w' cs p.groups q.groups (3*(q.at_-p.at_)+1-2*s)
def TrR (s:Nat) (p:Pq) (b:Nat) (W:World) (e:Ending) (w':World):Prop:=∃ (kind n9 m9:Int) (ss:ByteArray) (o:Option Addr) (ln cp:Nat) (q:Pq),e=.returned (.agg #[.int .i64 kind,.int .i64 n9,.int .i64 m9,.string ss,.slice o ln cp])∧TrP s p b W #[.int .i64 kind,.int .i64 n9,.int .i64 m9,.string ss,.slice o ln cp] q w'
def WholeOf (n:Nat):Prop:=∀ (p:Pq) (b:Nat) (W:World),PB p b W→Okp p→p.ts.length-p.at_≤n→Calls Tryd.prog 39 #[.pointer (some ⟨b,0,none⟩)] W (TrR 0 p b W)
theorem TrP.mono {s s':Nat} {p q:Pq} {b:Nat} {W w':World} {cs:Array Value} (h:TrP s p b W cs q w') (hs:s'≤s):TrP s' p b W cs q w':=⟨h.rd,h.nx,by have:=h.far;omega,h.lim,h.gr,fun e=>⟨(h.good e).1,(h.good e).2.1,(h.good e).2.2.le (by omega)⟩⟩
end Go.Proofs.YtfhimmnoipfiaaaDoor.eng
namespace Go.Proofs.YtfhimmnoipfiaaaDoor.eng
open bytes places sets tz rex
section
variable {s b R:Nat} {p q:Pq} {W W1 W' w:World} {cs:Array Value}
theorem TrP.from_ (h:TrP s p b W' cs q w) (hr:Rd b W1 p W'):TrP s p b W1 cs q w :=
 ⟨hr.tr h.rd,h.nx,h.far,h.lim,h.gr,fun e=>⟨(h.good e).1,(h.good e).2.1,(h.good e).2.2.mono hr.pg.size⟩⟩
structure Bx (b R:Nat) (W W1:World):Prop where
 bel:Below W.heap.size W W1
 lo:W.heap.size≤R
 hi:R<W1.heap.size
 b:b<W.heap.size
theorem Rd.up (h:Rd b W1 q w) (k:Bx b R W W1) (v0 v1 v2 v3 v4:Value):Rd b W q (eng.set5 w R v0 v1 v2 v3 v4) :=
 ⟨h.pb.set5 (by have:=k.lo;have:=k.b;omega) v0 v1 v2 v3 v4,((PG.below k.bel).tr h.pg).set5 k.lo v0 v1 v2 v3 v4⟩
theorem TrP.up (h:TrP s p b W1 cs q w) (k:Bx b R W W1) (v0 v1 v2 v3 v4:Value):TrP s p b W cs q (eng.set5 w R v0 v1 v2 v3 v4) :=
 ⟨h.rd.up k v0 v1 v2 v3 v4,h.nx,h.far,h.lim,h.gr,fun e=>⟨(h.good e).1,(h.good e).2.1,((h.good e).2.2.block fun x hx _=>set5_other w R x v0 v1 v2 v3 v4 (by have:=k.hi;omega)).mono k.bel.size⟩⟩
theorem TrP.bad (h:Rd b W q w) (hn:Nx p q) (hc:q.code≠0) (h1:p.at_+s≤q.at_) (h2:q.at_+2*p.open_≤3*p.ts.length+10) (h3:q.groups≤q.at_):TrP s p b W cs q w :=
 ⟨h,hn,h1,h2,h3,fun e=>absurd e hc⟩
theorem TrP.leaf (h:Rd b W q w) (hn:Nx p q) (hg:q.groups=p.groups) (h1:p.at_+s≤q.at_) (h2:q.at_≤p.ts.length) (hk:Okp p) (ht:TreeAt W.heap.size w cs p.groups p.groups 1) (hs:s≤1:=by decide):TrP s p b W cs q w :=
 ⟨h,hn,h1,by have:=hk.op;have:=hk.at_;omega,by have:=hk.gr;have:=hn.at_;omega,fun e=>⟨h2,by rw [hg];exact hk.g9 (hn.code e),by rw [hg];exact ht.le (by omega)⟩⟩
end
theorem box_new (W:World):∃ W1,W.alloc (.cells #[.int .i64 0,.int .i64 0,.int .i64 0,.string ⟨#[]⟩,.slice none 0 0] 25)=W1∧∀ b,b<W.heap.size→Bx b W.heap.size W W1∧(∀ w,PG b W1 w→w.heap[W.heap.size]?=some (.cells #[.int .i64 0,.int .i64 0,.int .i64 0,.string ⟨#[]⟩,.slice none 0 0] 25 (0,0))):=by
 refine ⟨_,rfl,fun b hb=>⟨⟨(Below.refl _ _).alloc (Nat.le_refl _) _,Nat.le_refl _,by simp,hb⟩,fun w hg => ?_⟩⟩
 exact (hg.block _ (by simp) (by simp;omega)).trans (heap_alloc_new W _)
theorem Pq.next_at (p:Pq) (d:Nat):({ p with at_:=p.at_+d }:Pq).at_=p.at_+d∧({ p with at_:=p.at_+d }:Pq).code=p.code∧({ p with at_:=p.at_+d }:Pq).groups=p.groups:=⟨rfl,rfl,rfl⟩
end Go.Proofs.YtfhimmnoipfiaaaDoor.eng
namespace Go.Proofs.YtfhimmnoipfiaaaDoor.eng
open bytes places sets tz rex
theorem info25:(Tryd.prog.info? 25).map (fun i=>(i.zero,i.size,i.bytes))=some (some (.agg #[.int .i64 0,.int .i64 0,.int .i64 0,.string ⟨#[]⟩,.slice none 0 0]),5,64):=by kernel_rfl
def TreeP (P:Nat→Prop) (W:World) (cs:Array Value) (g0 g1 n:Nat):Prop:=∃ (T:Tr) (M:Fz),RxAt M T cs∧In M W∧(∀ x o,M x=some o→P x)∧NumT g0 T∧g1=g0+ngT T∧OkT 20 T∧szT T≤n
def KRowP (P:Nat→Prop) (W:World) (v:Value) (k g0 g1 n:Nat):Prop:=∃ (ks:List Tr) (M:Fz) (xs:List Value),ks.length=k∧W.ownsRow 0 25 5 v k xs∧(∀ g,v.ownBlock=some g→P g)∧KAt M ks xs.toArray 0∧In M W∧(∀ x o,M x=some o→P x∧v.ownBlock≠some x)∧NumK g0 ks∧g1=g0+ngK ks∧OkK 20 ks∧szK ks≤n
section
variable {P P':Nat→Prop} {W W' w:World} {cs:Array Value} {lo g0 g1 g2 k n n1 n2:Nat} {v:Value}
theorem TreeAt.p (h:TreeAt lo W cs g0 g1 n) (hP:∀ x,lo≤x→x<W.heap.size→P x):TreeP P W cs g0 g1 n:=by
 obtain ⟨T,M,h1,h2,h3,h4⟩:=h
 exact ⟨T,M,h1,h2,fun x o hx=>hP x (h3 x o hx) (Array.getElem?_eq_some_iff.1 (h2 x o hx)).1,h4⟩
theorem TreeP.at_ (h:TreeP P W cs g0 g1 n) (hP:∀ x,P x→lo≤x):TreeAt lo W cs g0 g1 n:=by
 obtain ⟨T,M,h1,h2,h3,h4⟩:=h
 exact ⟨T,M,h1,h2,fun x o hx=>hP x (h3 x o hx),h4⟩
theorem TreeP.le (h:TreeP P W cs g0 g1 n1) (hn:n1≤n2):TreeP P W cs g0 g1 n2:=by
 obtain ⟨T,M,h1,h2,h3,h4,h5,h6,h7⟩:=h
 exact ⟨T,M,h1,h2,h3,h4,h5,h6,Nat.le_trans h7 hn⟩
theorem KRowP.le (h:KRowP P W v k g0 g1 n1) (hn:n1≤n2):KRowP P W v k g0 g1 n2:=by
 obtain ⟨ks,M,xs,h1,h2,h3,h4,h5,h6,h7,h8,h9,h10⟩:=h
 exact ⟨ks,M,xs,h1,h2,h3,h4,h5,h6,h7,h8,h9,Nat.le_trans h10 hn⟩
theorem TreeP.block (h:TreeP P W cs g0 g1 n) (hb:∀ x,P x→x<W.heap.size→W'.heap[x]?=W.heap[x]?):TreeP P W' cs g0 g1 n:=by
 obtain ⟨T,M,h1,h2,h3,h4⟩:=h
 exact ⟨T,M,h1,fun x o hx=>(hb x (h3 x o hx) (Array.getElem?_eq_some_iff.1 (h2 x o hx)).1).trans (h2 x o hx),h3,h4⟩
theorem TreeP.mono (h:TreeP P W cs g0 g1 n) (hP:∀ x,P x→x<W.heap.size→P' x):TreeP P' W cs g0 g1 n:=by
 obtain ⟨T,M,h1,h2,h3,h4⟩:=h
 exact ⟨T,M,h1,h2,fun x o hx=>hP x (h3 x o hx) (Array.getElem?_eq_some_iff.1 (h2 x o hx)).1,h4⟩
theorem Fz.add_p {M:Fz} {g:Nat} {o:Obj} (h:∀ x o,M x=some o→P x) (hg:P g):∀ x o',(M.add g o) x=some o'→P x:=fun x o' hx=>by
 unfold Fz.add at hx
 split at hx
 ·rename_i e;rw [e];exact hg
 ·exact h x o' hx
theorem TreeP.rep (h:TreeP P W cs g0 g1 n) (hs:cs.size=5) {g:Nat} (hg:W.heap[g]?=some (.cells cs 25 (0,0))) (hP:P g) (cap:Nat) {low high:Int} (hl0:0≤low) (hl:low≤20) (hh:high = -1∨(low≤high∧high≤20)):TreeP P W (rxV 9 low high mt0 (.slice (some ⟨g,0,none⟩) 1 cap)) g0 g1 (n+1):=by
 obtain ⟨T,M,h1,h2,h3,h4,h5,h6,h7⟩:=h
 obtain ⟨n3,rfl⟩:=Int.eq_ofNat_of_zero_le hl0
 have key:∃ M':Fz,In M' W∧(∀ x o,M' x=some o→P x)∧M' g=some (.cells cs 25 (0,0))∧RxAt M' T cs:=by
  by_cases hM:M g=none
  ·exact ⟨M.add g _,Fz.add_in h2 hg,Fz.add_p h3 hP,by unfold Fz.add;rw [if_pos rfl],RxAt.up (Fz.le_add _ hM) T cs h1⟩
  ·obtain ⟨o,ho⟩:∃ o,M g=some o:=by
    cases e:M g with
    | none=>exact absurd e hM
    | some o=>exact ⟨o,rfl⟩
   have:=h2 g o ho
   rw [hg] at this
   exact ⟨M,h2,h3,by rw [ho,←this],h1⟩
 obtain ⟨M',k1,k2,k3,k4⟩:=key
 have k7:∃ cc:Array Value,cc.size=5∧(∀ j,j<5→cs[0*5+j]?=cc[j]?)∧RxAt M' T cc:=⟨cs,hs,fun j _=>by simp,k4⟩
 rcases hh with rfl | ⟨hh1,hh2⟩
 ·refine ⟨.rep n3 none T,M',by rw [RxAt];exact ⟨g,cap,_,rfl,k3,k7⟩,k1,k2,by rw [NumT];exact h4,by rw [ngT];exact h5,by rw [OkT];exact ⟨by omega,fun m hm=>(by cases hm),h6⟩,by rw [szT];omega⟩
 ·obtain ⟨m,rfl⟩:=Int.eq_ofNat_of_zero_le (Int.le_trans hl0 hh1)
  refine ⟨.rep n3 (some m) T,M',by rw [RxAt];exact ⟨g,cap,_,rfl,k3,k7⟩,k1,k2,by rw [NumT];exact h4,by rw [ngT];exact h5,by rw [OkT];exact ⟨by omega,fun m' hm=>(by cases hm;exact ⟨by omega,by omega⟩),h6⟩,by rw [szT];omega⟩
theorem KRowP.nil (P:Nat→Prop) (W:World) (g:Nat):KRowP P W (.slice none 0 0) 0 g g 0 :=
 ⟨[],fun _=>none,[],rfl,⟨rfl,.inl ⟨rfl,rfl⟩⟩,fun g h=>(by simp [Value.ownBlock] at h),by rw [KAt];trivial,fun x o h=>(by cases h),fun x o h=>(by cases h),by rw [NumK];trivial,by simp [ngK],by rw [OkK];trivial,by simp [szK]⟩
theorem KRowP.own (h:KRowP P W v k g0 g1 n):∃ xs,W.ownsRow 0 25 5 v k xs:=by
 obtain ⟨ks,M,xs,h1,h2,_⟩:=h
 exact ⟨xs,h2⟩
theorem KRowP.ownP (h:KRowP P W v k g0 g1 n):∀ g,v.ownBlock=some g→P g∧g<W.heap.size:=by
 obtain ⟨ks,M,xs,h1,h2,h3,_⟩:=h
 exact fun g hg=>⟨h3 g hg,(World.ownsRow.lt h2 g hg).2⟩
theorem KRowP.block (h:KRowP P W v k g0 g1 n) (hb:∀ x,P x→x<W.heap.size→W'.heap[x]?=W.heap[x]?):KRowP P W' v k g0 g1 n:=by
 obtain ⟨ks,M,xs,h1,h2,h3,h4,h5,h6,h7⟩:=h
 refine ⟨ks,M,xs,h1,⟨h2.1,?_⟩,h3,h4,fun x o hx=>(hb x (h6 x o hx).1 (Array.getElem?_eq_some_iff.1 (h5 x o hx)).1).trans (h5 x o hx),h6,h7⟩
 rcases h2.2 with k0 | ⟨g,cap,cur,k1,k2,k3,k4⟩
 ·exact .inl k0
 ·exact .inr ⟨g,cap,cur,k1,k2,(hb g (h3 g (by rw [k1];rfl)) (Array.getElem?_eq_some_iff.1 k3).1).trans k3,k4⟩
theorem KRowP.mono (h:KRowP P W v k g0 g1 n) (hP:∀ x,P x→x<W.heap.size→P' x):KRowP P' W v k g0 g1 n:=by
 obtain ⟨ks,M,xs,h1,h2,h3,h4,h5,h6,h7⟩:=h
 exact ⟨ks,M,xs,h1,h2,fun g hg=>hP g (h3 g hg) (World.ownsRow.lt h2 g hg).2,h4,h5,fun x o hx=>⟨hP x (h6 x o hx).1 (Array.getElem?_eq_some_iff.1 (h5 x o hx)).1,(h6 x o hx).2⟩,h7⟩
theorem KRowP.push (h:KRowP P W v k g0 g1 n1) (ht:TreeP P' W cs g1 g2 n2) (hs:cs.size=5) (hP:∀ x,P' x→P x) (hv:∀ g,v.ownBlock=some g→¬ P' g) {W3:World} {g cap:Nat} {xs:List Value}
  (hx:W.ownsRow 0 25 5 v k xs) (ho:W3.ownsRow 0 25 5 (.slice (some ⟨g,0,none⟩) (k+1) cap) (k+1) (xs++cs.toList)) (hg:W.grownBy W3 v.ownBlock) (hgg:v.ownBlock=some g∨W.heap.size≤g) (hPg:W.heap.size≤g→P g):KRowP P W3 (.slice (some ⟨g,0,none⟩) (k+1) cap) (k+1) g0 g2 (n1+n2):=by
 obtain ⟨ks,M,xs',h1,h2,hown,h3,h4,h5,h6,h7,h8,h9⟩:=h
 obtain ⟨T,N,t1,t2,t3,t4,t5,t6,t7⟩:=ht
 have exs:xs'=xs:=by
  rcases h2.2 with ⟨a1,a2⟩|⟨q,c,cur,a1,a2,a3,a4,a5,a6,a7⟩
  ·have z1:=h2.1
   have z2:=hx.1
   rw [a2] at z1 z2
   simp only [Nat.zero_mul,List.length_eq_zero_iff] at z1 z2
   rw [z1,z2]
  ·rcases hx.2 with ⟨b1,b2⟩|⟨q',c',cur',b1,b2,b3,b4,b5,b6,b7⟩
   ·rw [a1] at b1;cases b1
   ·rw [a1] at b1
    cases b1
    rw [a3] at b3
    cases b3
    rw [←a7,←b7]
 subst exs
 have hlen:xs'.length=ks.length*5:=by rw [h1];exact h2.1
 have hdis:∀ x o,M x=some o→W3.heap[x]?=some o:=fun x o hx=>(hg.block x (Array.getElem?_eq_some_iff.1 (h4 x o hx)).1 (fun e=>(h5 x o hx).2 e.symm)).trans (h4 x o hx)
 have hdis2:∀ x o,N x=some o→W3.heap[x]?=some o:=fun x o hx=>(hg.block x (Array.getElem?_eq_some_iff.1 (t2 x o hx)).1 (fun e=>hv x e.symm (t3 x o hx))).trans (t2 x o hx)
 let U:Fz:=fun x=>match M x with | some o=>some o | none=>N x
 have hU1:FLe M U:=fun x o hx=>by show (match M x with | some o=>some o | none=>N x)=some o;rw [hx]
 have hU2:FLe N U:=fun x o hx=>by
  show (match M x with | some o=>some o | none=>N x)=some o
  cases e:M x with
  | none=>exact hx
  | some o' =>
   have a:=h4 x o' e
   have b:=t2 x o hx
   rw [a] at b
   simpa using b
 have hU3:∀ x o,U x=some o→M x=some o∨N x=some o:=fun x o hx=>by
  have hx:(match M x with | some o=>some o | none=>N x)=some o:=hx
  cases e:M x with
  | none=>rw [e] at hx;exact .inr hx
  | some o'=>rw [e] at hx;exact .inl hx
 refine ⟨ks++[T],U,xs'++cs.toList,by rw [List.length_append,h1];rfl,ho,?_,?_,?_,?_,NumK.snoc h6 (by rw [←h7];exact t4),by rw [ngK_snoc];omega,OkK.snoc h8 t6,by rw [szK_snoc];omega⟩
 ·intro g' hg'
  have:g'=g:=by simpa [Value.ownBlock] using hg'.symm
  subst this
  rcases hgg with h' | h'
  ·exact hown _ h'
  ·exact hPg h'
 ·refine KAt.snoc (KAt.prefix (KAt.up hU1 _ _ _ h3) fun x hx => ?_) hs (fun j hj => ?_) (RxAt.up hU2 _ _ t1)
  ·rw [List.getElem?_toArray,List.getElem?_toArray,List.getElem?_append_left (by omega)]
  ·rw [List.getElem?_toArray,List.getElem?_append_right (by omega),show (0+ks.length)*5+j-xs'.length=j by omega,Array.getElem?_toList]
 ·intro x o hx
  rcases hU3 x o hx with h | h
  ·exact hdis x o h
  ·exact hdis2 x o h
 ·intro x o hx
  rcases hU3 x o hx with h | h
  ·refine ⟨(h5 x o h).1,?_⟩
   show some g≠some x
   intro e
   rw [Option.some.injEq] at e
   subst e
   rcases hgg with h' | h'
   ·exact (h5 g o h).2 h'
   ·have:=(Array.getElem?_eq_some_iff.1 (h4 g o h)).1;omega
  ·refine ⟨hP x (t3 x o h),?_⟩
   show some g≠some x
   intro e
   rw [Option.some.injEq] at e
   subst e
   rcases hgg with h' | h'
   ·exact hv g h' (t3 g o h)
   ·have:=(Array.getElem?_eq_some_iff.1 (t2 g o h)).1;omega
theorem KRowP.froze (h:KRowP P W v k g0 g1 n):(k=0∧v=nilV∧g1=g0)∨∃ (ks:List Tr) (M:Fz) (g cap:Nat) (cur:Array Value),ks.length=k∧v=.slice (some ⟨g,0,none⟩) ks.length cap∧M g=some (.cells cur 25 (0,0))∧KAt M ks cur 0∧In M W∧(∀ x o,M x=some o→P x)∧NumK g0 ks∧g1=g0+ngK ks∧OkK 20 ks∧szK ks≤n:=by
 obtain ⟨ks,M,xs,h1,h2,hown,h3,h4,h5,h6,h7,h8,h9⟩:=h
 rcases h2.2 with ⟨a1,a2⟩|⟨q,c,cur,a1,a2,a3,a4,a5,a6,a7⟩
 ·subst a2
  rw [List.length_eq_zero_iff] at h1
  subst h1
  exact .inl ⟨rfl,a1,by rw [h7];simp [ngK]⟩
 ·have hM:M q=none:=by
   cases e:M q with
   | none=>rfl
   | some o=>exact absurd (by rw [a1];rfl) (h5 q o e).2
  refine .inr ⟨ks,M.add q _,q,c,cur,h1,by rw [a1,h1],by unfold Fz.add;rw [if_pos rfl],KAt.prefix (KAt.up (Fz.le_add _ hM) _ _ _ h3) fun x hx => ?_,Fz.add_in h4 a3,Fz.add_p (fun x o hx=>(h5 x o hx).1) (hown q (by rw [a1];rfl)),h6,h7,h8,h9⟩
  have e:xs.toArray[x]?=xs[x]? := by simp
  rw [e,←a7,List.getElem?_take,if_pos (by omega),Array.getElem?_toList]
theorem KRowP.cat (h:KRowP P W v k g0 g1 n) (hk:k≤300) (hP:∀ x,P x→lo≤x):TreeAt lo W (rxV 7 0 0 mt0 v) g0 g1 (n+1):=by
 rcases h.froze with ⟨rfl,rfl,rfl⟩|⟨ks,M,g,cap,cur,h1,rfl,h3,h4,h5,h6,h7,h8,h9,h10⟩
 ·exact ⟨.cat [],fun _=>none,by rw [RxAt];exact .inl ⟨rfl,rfl⟩,fun x o h=>(by cases h),fun x o h=>(by cases h),by simp [NumT,NumK],by simp [ngT,ngK],by simp [OkT,OkK],by simp [szT,szK]⟩
 ·exact ⟨.cat ks,M,by rw [RxAt];exact .inr ⟨g,cap,cur,rfl,h3,h4⟩,h5,fun x o hx=>hP x (h6 x o hx),by rw [NumT];exact h7,by rw [ngT];exact h8,by rw [OkT];exact ⟨by omega,h9⟩,by rw [szT];omega⟩
theorem KRowP.alt (h:KRowP P W v k g0 g1 n) (hk:k≤300) (h2:2≤k) (hP:∀ x,P x→lo≤x):TreeAt lo W (rxV 8 0 0 mt0 v) g0 g1 (n+1):=by
 rcases h.froze with ⟨rfl,rfl,rfl⟩|⟨ks,M,g,cap,cur,h1,rfl,h3,h4,h5,h6,h7,h8,h9,h10⟩
 ·omega
 ·exact ⟨.alt ks,M,by rw [RxAt];exact ⟨g,cap,cur,rfl,h3,h4⟩,h5,fun x o hx=>hP x (h6 x o hx),by rw [NumT];exact h7,by rw [ngT];exact h8,by rw [OkT];exact ⟨by omega,by omega,h9⟩,by rw [szT];omega⟩
theorem KRowP.shape (h:KRowP P W v k g0 g1 n):∃ o c,v=.slice o k c:=by
 obtain ⟨ks,M,xs,h1,h2,_⟩:=h
 rcases h2.2 with ⟨a1,a2⟩|⟨g,cap,cur,a1,_⟩
 ·exact ⟨none,0,by rw [a1,a2]⟩
 ·exact ⟨_,_,a1⟩
end
end Go.Proofs.YtfhimmnoipfiaaaDoor.eng
