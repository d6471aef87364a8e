import Derived.Test.YtfhimmnoipfiaaaDoorQ01
import Derived.Lib.Bytealg
import Derived.Laws.Externs
import Derived.BigQuiet
import Derived.Laws.EntriesVeiled
import Derived.Deep.RegionLaw
import Derived.Test.YtfhimmnoipfiaaaDoorQ02
import Derived.RangeFuncNested
import Derived.RangeFuncBound
import Derived.RangeFuncCalls
import Derived.RangeFuncLeaves
import Derived.Shelf.Abstract
import Derived.Shelf.RegionOpen
import Derived.WalkKit
import Derived.OwnWalkIn
import Derived.TacticsInMore
import Derived.LoopNIn
import Derived.LoopIn
import Derived.WalkMore
import Derived.Deep.CutRange
import Derived.Deep.CutBlock
import Derived.Deep.DeepCutAuto
set_option linter.unusedVariables false
namespace Go.Proofs.YtfhimmnoipfiaaaDoor.eng
open Go.ChangeShapes Go.WideShapes Go.ChangeAt Go.RowKit
open bytes places sets tz rex
def Tk (M:Fz) (f:Nat) (cs:Array Value) (t:Int→Bool):Prop:=∀ (w:World) (c:Int),In M w→0≤c→c≤255→Calls Tryd.prog f (#[.int .u8 c]++cs) w fun e w'=>e=.returned (.bool (t c))∧w'=w
theorem OkF.of {f : Nat} (fn : Func) (h1 : Tryd.prog.funcs[f]? = some fn) (h2 : (fn.name == "runtime.NumGoroutine") = false) (h3 : fn.body.isNone = false) : OkF f := ⟨fn, h1, h2, h3⟩
set_option maxHeartbeats 2000000 in
theorem take_char (M:Fz) (rb:Nat) (y:Int) (cs:Array Value) (m:M rb=some (.cells cs 25 (0,0))) (h1:cs[1]?=some (.int .i64 y)):Tk M 75 #[.pointer (some ⟨rb,0,none⟩)] (fun c=>c == y):=by
 intro w c hM h0 h9
 have k1:w.cell? ⟨rb,1,none⟩=some (.int .i64 y):=hM.at m h1
 go_enter Tryd.func75,Tryd.ntmps75
 go_wp2
 go_ret
 exact ⟨rfl,rfl⟩
theorem ix_mem (l:List UInt8) (c:UInt8):(decide (Lib.indexByte l c≥0))=l.contains c:=by
 induction l with
 | nil=>rfl
 | cons b l ih =>
  unfold Lib.indexByte
  have hge:=Lib.indexByte_ge l c
  rw [List.contains_cons]
  by_cases h:b=c
  ·subst h;simp
  ·have h2:(b == c)=false:=by simp [h]
   have h3:(c == b)=false:=by simp;exact fun e=>h e.symm
   rw [h2,h3,←ih]
   simp only [Bool.false_or]
   by_cases h4:Lib.indexByte l c = -1
   ·simp [h4]
   ·have:(Lib.indexByte l c == -1)=false:=by simp [h4]
    rw [this]
    simp
    omega
theorem set_mem (s:List Int) (hs:∀ x∈s,0≤x∧x≤255) (c:Int) (h0:0≤c) (h1:c≤255):(strOfNums s).data.toList.contains c.toNat.toUInt8=s.contains c:=by
 have e:(strOfNums s).data.toList=s.map fun n=>UInt8.ofNat n.toNat:=by simp [strOfNums]
 rw [e]
 clear e
 induction s with
 | nil=>rfl
 | cons x s ih =>
  rw [List.map_cons,List.contains_cons,List.contains_cons,ih (fun y hy=>hs y (by simp [hy]))]
  congr 1
  have hx:=hs x (by simp)
  rw [Bool.eq_iff_iff,beq_iff_eq,beq_iff_eq]
  constructor
  ·intro h
   have:=congrArg UInt8.toNat h
   simp [Nat.toUInt8,UInt8.toNat_ofNat'] at this
   omega
  ·rintro rfl;rfl
set_option maxRecDepth 100000 in
set_option maxHeartbeats 2000000 in
theorem index_any (w:World) (S:ByteArray) (c:Int):Calls Tryd.prog 77 #[.string S,.int .u8 c] w fun e w'=>e=.returned (.int .i64 (Lib.indexByte S.data.toList c.toNat.toUInt8))∧w'=w:=by
 have h92:Hid (Calls Tryd.prog 92 #[.string S,.int .u8 c] w fun e w'=>e=.returned (.int .i64 (Lib.indexByte S.data.toList c.toNat.toUInt8))∧w'=w):=by
  refine hide ?_
  go_enter Tryd.func92,Tryd.ntmps92
  go_wp2
  rw [run_callFunc_extern Tryd.func101 (by kernel_rfl) (by kernel_rfl) (by kernel_rfl) (e:=Extern.BytealgIndexByte.indexByte) (by kernel_rfl),Lib.run_indexByteString]
  simp only [Result.andThen]
  rw [Oper.upon_value]
  go_wp2
  go_ret
  exact ⟨rfl,rfl⟩
 go_enter Tryd.func77,Tryd.ntmps77
 go_wp2_with fail
 refine h92.out.mono ?_
 rintro e w' ⟨rfl,rfl⟩
 go_wp2
 go_ret
 exact ⟨rfl,rfl⟩
set_option maxHeartbeats 2000000 in
theorem take_set (M:Fz) (rb:Nat) (s:List Int) (hs:∀ x∈s,0≤x∧x≤255) (cs:Array Value) (m:M rb=some (.cells cs 25 (0,0))) (h1:cs[3]?=some (.string (strOfNums s))):Tk M 76 #[.pointer (some ⟨rb,0,none⟩)] (fun c=>s.contains c):=by
 intro w c hM h0 h9
 have k1:w.cell? ⟨rb,3,none⟩=some (.string (strOfNums s)):=hM.at m h1
 have hi:=hide (index_any w (strOfNums s) c)
 have hq:=(ix_mem (strOfNums s).data.toList c.toNat.toUInt8).trans (set_mem s hs c h0 h9)
 generalize Lib.indexByte (strOfNums s).data.toList c.toNat.toUInt8=z at hi hq
 generalize strOfNums s=S at hi k1
 clear m h1
 show Calls Tryd.prog 76 _ w fun e w'=>e=.returned (.bool (s.contains c))∧w'=w
 rw [←hq]
 clear hq
 go_enter Tryd.func76,Tryd.ntmps76
 go_wp2_with fail
 refine hi.out.mono ?_
 rintro e w' ⟨rfl,rfl⟩
 go_wp2
 go_ret
 exact ⟨rfl,rfl⟩
set_option maxHeartbeats 2000000 in
theorem take_any (M:Fz):Tk M 78 #[] (fun c=>true):=by
 intro w c hM h0 h9
 go_enter Tryd.func78,Tryd.ntmps78
 go_wp2
 go_ret
 exact ⟨rfl,rfl⟩
def Qu (M:Fz) (f:Nat) (cs:Array Value) (p X:Nat):Prop:=∀ w,In M w→Calls Tryd.prog f (#[.int .i64 (p:Int)]++cs) w fun e w'=>e=.returned (psV X)∧Below w.heap.size w w'
theorem Qu.at {L:Nat} {M:Fz} {K:Ks} {f:Nat} {cs:Array Value} {p X:Nat} (h:Qu M f cs p X):At L M K f cs p X:=by
 intro M' K' R O w hM hK hI
 refine (h w fun b o hb=>hI.fz b o (hM b o hb)).mono ?_
 rintro e w' ⟨h1,h2⟩
 exact ⟨h1,R,O,(St.refl hI).below h2⟩
theorem two_below {w W:World} (h:Below w.heap.size w W) (x:Nat):Below w.heap.size w ((W.setCell ⟨w.heap.size,0,none⟩ (.int .u64 (x:Nat))).setCell ⟨w.heap.size,1,none⟩ (.int .u64 0)):=(h.setCell (p:=⟨w.heap.size,0,none⟩) (Nat.le_refl _) _).setCell (p:=⟨w.heap.size,1,none⟩) (Nat.le_refl _) _
theorem only_qu (M:Fz) (p:Nat) (hp:p≤22):Qu M 63 #[] p (2 ^ p):=fun w _=>only_any w p hp
theorem OkF63:OkF 63:=.of _ Tryd.func63 (by kernel_rfl) (by kernel_rfl)
set_option maxRecDepth 20000 in
set_option maxHeartbeats 4000000 in
theorem empty_qu (M:Fz) (b q p:Nat) (hp:p≤22) (m:M b=some (.cells #[.int .i64 (q:Int)] 3 (0,0))):Qu M 90 #[.pointer (some ⟨b,0,none⟩)] p (if p=q then 2 ^ p else 0):=by
 intro w hM
 have hb:=hM b _ m
 have hlt:b<w.heap.size:=(Array.getElem?_eq_some_iff.1 hb).1
 have c0:(w.alloc (.cells #[.int .u64 0,.int .u64 0] 62)).cell? ⟨b,0,none⟩=some (.int .i64 (q:Int)):=by
  have:(w.alloc (.cells #[.int .u64 0,.int .u64 0] 62)).heap[b]?=some (.cells #[.int .i64 (q:Int)] 3 (0,0)):=(Below.heap_alloc _ _ _ hlt).trans hb
  simp [World.cell?,this]
 have B1:=(Below.refl w.heap.size w).alloc (Nat.le_refl _) (.cells #[.int .u64 0,.int .u64 0] 62)
 have hz:(w.alloc (.cells #[.int .u64 0,.int .u64 0] 62)).heap.size=w.heap.size+1:=by simp
 have x0:C2 (w.alloc (.cells #[.int .u64 0,.int .u64 0] 62)) w.heap.size 0:=heap_alloc_new w _
 clear hb hlt m hM
 by_cases h:p=q
 ·subst h
  rw [if_pos rfl]
  have HO:=hide (only_any (w.alloc (.cells #[.int .u64 0,.int .u64 0] 62)) p hp)
  obtain ⟨X,hX⟩:∃ X,X=2 ^ p:=⟨_,rfl⟩
  rw [←hX] at HO ⊢
  clear hX
  have HB:=hide (And.intro B1 (And.intro hz x0))
  clear B1 hz x0
  unfold psV at HO ⊢
  go_enter Tryd.func90,Tryd.ntmps90
  go_wp2_with fail
  refine HO.out.mono ?_
  rintro e w1 ⟨rfl,B2⟩
  have x1:C2 w1 w.heap.size 0:=(B2.block _ (by have:=HB.out.2.1;omega)).trans HB.out.2.2
  have r0:=x1.c0
  have r1:=x1.c1
  have s0:=x1.fz 0
  have s1:=x1.fz 1
  have HE:=hide (And.intro (two_end x1 X) (two_below (HB.out.1.trans (B2.mono HB.out.1.size)) X))
  clear HO HB x1 B2 c0
  go_wp2
  exact bodyPost_ret (results_cell_row rfl _ _ w.heap.size 62 _ (0,0) _ rfl HE.out.1 Tryd.underlying62 rfl (size62.trans (by simp))) rfl ⟨rfl,HE.out.2⟩
 ·rw [if_neg h]
  have hne:((p:Int) != (q:Int))=true:=by simp;omega
  have hne':¬ (p:Int)=(q:Int):=by omega
  have HE:Hid ((w.alloc (.cells #[.int .u64 0,.int .u64 0] 62)).heap[w.heap.size]?=some (.cells #[.int .u64 ((0:Nat):Int),.int .u64 0] 62 (0,0))∧Below w.heap.size w (w.alloc (.cells #[.int .u64 0,.int .u64 0] 62))):=hide (And.intro x0 B1)
  have r0:=x0.c0
  have r1:=x0.c1
  have s0:=x0.fz 0
  have s1:=x0.fz 1
  clear x0 B1 hz h
  unfold psV
  go_enter Tryd.func90,Tryd.ntmps90
  go_wp2
  exact bodyPost_ret (results_cell_row rfl _ _ w.heap.size 62 _ (0,0) _ rfl HE.out.1 Tryd.underlying62 rfl (size62.trans (by simp))) rfl ⟨rfl,HE.out.2⟩
theorem index_text (ts:List Int) (hts:∀ t∈ts,0≤t∧t≤255) (p:Nat) (hlt:p<ts.length) (W:World):(Instr.index 9 (.string (strOfNums ts)) (.int .i64 (p:Int))).run Tryd.prog W=.ok (.int .u8 (ts.getD p 0)) W:=by
 have hs:(strOfNums ts).size=ts.length:=strOfNums_size _
 have hb:=hts (ts.getD p 0) (by rw [List.getD_eq_getElem?_getD,List.getElem?_eq_getElem hlt];exact List.getElem_mem hlt)
 have hlt':p<(strOfNums ts).size:=by rw [hs];exact hlt
 rw [run_index_string W 9 _ _ _ Tryd.underlying9,dif_pos ⟨by omega,by omega⟩]
 have hq:(strOfNums ts)[p]'hlt'=UInt8.ofNat (ts.getD p 0).toNat:=by
  rw [List.getD_eq_getElem?_getD,List.getElem?_eq_getElem hlt]
  show (strOfNums ts).data[p]'hlt'=_
  simp [strOfNums]
 have hr1:(UInt8.ofNat (ts.getD p 0).toNat).toNat=(ts.getD p 0).toNat:=by
  rw [UInt8.toNat_ofNat']
  omega
 have hz:((ts.getD p 0).toNat:Int)=ts.getD p 0:=by omega
 have e:((p:Int)).toNat=p:=by omega
 simp only [e]
 rw [hq,hr1,hz]
set_option maxRecDepth 20000 in
set_option maxHeartbeats 4000000 in
theorem byte_qu (M:Fz) (tb fb:Nat) (ts:List Int) (f:Nat) (cs:Array Value) (t:Int→Bool) (p:Nat) (hl:ts.length≤22) (hp:p≤ts.length) (hts:∀ t∈ts,0≤t∧t≤255)
  (m1:M tb=some (.cells #[.string (strOfNums ts)] 9 (0,0))) (m2:M fb=some (.cells #[.func (.func f) #[] cs] 113 (0,0))) (hf:OkF f) (ht:Tk M f cs t) :
  Qu M 91 #[.pointer (some ⟨tb,0,none⟩),.pointer (some ⟨fb,0,none⟩)] p (if p<ts.length∧t (ts.getD p 0)=true then 2 ^ (p+1) else 0):=by
 intro w hM
 have hcf:=callF hf
 have k1:w.cell? ⟨tb,0,none⟩=some (.string (strOfNums ts)):=hM.at m1 rfl
 have k2:w.cell? ⟨fb,0,none⟩=some (.func (.func f) #[] cs):=hM.at m2 rfl
 have htl:tb<w.heap.size:=cell_lt k1
 have hfl:fb<w.heap.size:=cell_lt k2
 have hs:(strOfNums ts).size=ts.length:=strOfNums_size _
 have HZ:Hid (∀ n,((((w.alloc (.cells #[.int .u64 0,.int .u64 0] 62)).drewN n).setCell ⟨w.heap.size,0,none⟩ (.int .u64 ((0:Nat):Int))).setCell ⟨w.heap.size,1,none⟩ (.int .u64 0)).heap[w.heap.size]?=some (.cells #[.int .u64 ((0:Nat):Int),.int .u64 0] 62 (0,0))∧Below w.heap.size w ((((w.alloc (.cells #[.int .u64 0,.int .u64 0] 62)).drewN n).setCell ⟨w.heap.size,0,none⟩ (.int .u64 ((0:Nat):Int))).setCell ⟨w.heap.size,1,none⟩ (.int .u64 0))):=by
  refine hide (fun n=>⟨two_end (a:=0) (heap_alloc_new w _) 0,two_below ?_ 0⟩)
  exact ((Below.refl _ _).alloc (Nat.le_refl _) _).trans ⟨rfl,rfl,rfl,Nat.le_refl _,fun _ _=>rfl⟩
 by_cases he:p=ts.length
 ·rw [if_neg (by omega)]
  have hI:(p:Int)=(ts.length:Int):=by omega
  have hb:((p:Int) == (ts.length:Int))=true:=by simp [hI]
  clear he hts ht m1 m2 hM
  generalize strOfNums ts=S at k1 hs
  unfold psV
  go_enter Tryd.func91,Tryd.ntmps91
  go_wp2
  go_quiet (fail)
  go_wp2
  exact bodyPost_ret (results_cell_row rfl _ _ w.heap.size 62 _ (0,0) _ rfl (HZ.out nq).1 Tryd.underlying62 rfl (size62.trans (by simp))) rfl ⟨rfl,(HZ.out nq).2⟩
 ·have hlt:p<ts.length:=by omega
  have hbf:((p:Int) == (ts.length:Int))=false:=by simp;omega
  have hd9:¬ (p:Int)=(ts.length:Int):=by omega
  have hb:=hts (ts.getD p 0) (by rw [List.getD_eq_getElem?_getD,List.getElem?_eq_getElem hlt];exact List.getElem_mem hlt)
  have hix:=index_text ts hts p hlt
  obtain ⟨c,hc⟩:∃ c,c=ts.getD p 0:=⟨_,rfl⟩
  rw [←hc] at hix hb ⊢
  clear hc hts
  have HC:Hid (∀ n,Calls Tryd.prog f (#[.int .u8 c]++cs) ((w.alloc (.cells #[.int .u64 0,.int .u64 0] 62)).drewN n) fun e w'=>e=.returned (.bool (t c))∧w'=(w.alloc (.cells #[.int .u64 0,.int .u64 0] 62)).drewN n):=hide (fun n=>ht _ c (fun b o hb=>(Below.heap_alloc _ _ _ (Array.getElem?_eq_some_iff.1 (hM b o hb)).1).trans (hM b o hb)) hb.1 hb.2)
  have HO:Hid (∀ W,Calls Tryd.prog 63 #[.int .i64 ((p:Int)+1)] W fun r w'=>r=.returned (psV (2 ^ (p+1)))∧Below W.heap.size W w'):=by
   refine hide (fun W => ?_)
   have h:=only_any W (p+1) (by omega)
   rw [show (((p+1:Nat):Nat):Int)=(p:Int)+1 by omega] at h
   exact h
  generalize strOfNums ts=S at k1 hs hix m1
  clear ht m1 m2 hM
  by_cases hcy:t c=true
  ·rw [if_pos ⟨hlt,hcy⟩]
   rw [hcy] at HC
   clear hcy
   obtain ⟨X,hX⟩:∃ X,X=2 ^ (p+1):=⟨_,rfl⟩
   rw [←hX] at HO ⊢
   clear hX
   unfold psV at HO ⊢
   go_enter Tryd.func91,Tryd.ntmps91
   go_wp2
   go_quiet (first | (go_simp;with_reducible (refine Calls.quiet_of_same (HC.out _))) | (with_reducible (refine Calls.quiet_of_same (HC.out _))))
   go_wp2_with fail
   refine (HO.out _).mono ?_
   rintro e w5 ⟨rfl,B5⟩
   have hs5:=B5.size
   simp at hs5
   have h5:C2 w5 w.heap.size 0:=(B5.block _ (by simp)).trans (heap_alloc_new w _)
   have hw0:Below w.heap.size w ((w.alloc (.cells #[.int .u64 0,.int .u64 0] 62)).drewN nq):=Below.trans ((Below.refl w.heap.size w).alloc (Nat.le_refl _) (.cells #[.int .u64 0,.int .u64 0] 62)) ⟨rfl,rfl,rfl,Nat.le_refl _,fun _ _=>rfl⟩
   have b5:Below w.heap.size w w5:=hw0.trans (B5.mono hw0.size)
   have r0:=h5.c0
   have r1:=h5.c1
   have s0:=h5.fz 0
   have s1:=h5.fz 1
   have HE:=hide (And.intro (two_end h5 X) (two_below b5 X))
   clear HC HO HZ h5 b5 B5
   go_wp2
   exact bodyPost_ret (results_cell_row rfl _ _ w.heap.size 62 _ (0,0) _ rfl HE.out.1 Tryd.underlying62 rfl (size62.trans (by simp))) rfl ⟨rfl,HE.out.2⟩
  ·rw [if_neg (fun h=>hcy h.2)]
   have hcy2:t c=false:=by simpa using hcy
   rw [hcy2] at HC
   clear hcy hcy2
   unfold psV
   go_enter Tryd.func91,Tryd.ntmps91
   go_wp2
   go_quiet (first | (go_simp;with_reducible (refine Calls.quiet_of_same (HC.out _))) | (with_reducible (refine Calls.quiet_of_same (HC.out _))))
   go_wp2
   exact bodyPost_ret (results_cell_row rfl _ _ w.heap.size 62 _ (0,0) _ rfl (HZ.out nq).1 Tryd.underlying62 rfl (size62.trans (by simp))) rfl ⟨rfl,(HZ.out nq).2⟩
theorem OkF90:OkF 90:=.of _ Tryd.func90 (by kernel_rfl) (by kernel_rfl)
theorem OkF91:OkF 91:=.of _ Tryd.func91 (by kernel_rfl) (by kernel_rfl)
theorem OkF51:OkF 51:=.of _ Tryd.func51 (by kernel_rfl) (by kernel_rfl)
theorem OkF75:OkF 75:=.of _ Tryd.func75 (by kernel_rfl) (by kernel_rfl)
theorem OkF76:OkF 76:=.of _ Tryd.func76 (by kernel_rfl) (by kernel_rfl)
theorem OkF78:OkF 78:=.of _ Tryd.func78 (by kernel_rfl) (by kernel_rfl)
set_option maxHeartbeats 2000000 in
theorem none_pt (L:Nat) (M:Fz) (K:Ks) (a:B2) (N:Nat):Pt L M K 51 #[] a idS N:=by
 intro M' K' R O w hM hK hI i j g n c out hij hj hm hg hs hn hN hc h100
 have H:=hide (And.intro hs (And.intro hn (Sx.start (P:=fun _=>False) hI hg hs.lt (Below.refl _ _) (fun b h=>h.elim))))
 clear hs hn hI hg hm
 go_enter Tryd.func51,Tryd.ntmps51
 go_wp2
 go_end0
 exact ⟨rfl,H.out.1,H.out.2.1,H.out.2.2⟩
theorem pl_step {L:Nat} (f:Nat→Bool) (a:B2) (p:Nat) (h:∀ i j,a i j=(decide (j=i+1) && f i)):pl L a p=if p+1≤L∧f p=true then 2 ^ (p+1) else 0:=by
 refine Nat.eq_of_testBit_eq fun j => ?_
 rw [bit_pl,h]
 by_cases c:p+1≤L∧f p=true
 ·rw [if_pos c,Nat.testBit_two_pow,c.2]
  by_cases e:j=p+1
  ·subst e;simp [c.1]
  ·have e2:¬ p+1=j:=fun x=>e x.symm
   simp [e,e2]
 ·rw [if_neg c,Nat.zero_testBit]
  by_cases e:j=p+1
  ·subst e
   by_cases d:p+1≤L
   ·have:f p=false:=by
     cases hf:f p with
     | false=>rfl
     | true=>exact absurd ⟨d,hf⟩ c
    simp [this]
   ·simp [d]
  ·simp [e]
theorem get_some {ts:List Int} {p:Nat} (h:p<ts.length):ts[p]?=some (ts.getD p 0):=by rw [List.getD_eq_getElem?_getD,List.getElem?_eq_getElem h];rfl
theorem ite_congr2 {P Q:Prop} [Decidable P] [Decidable Q] (h:P↔Q) (x y:Nat):(if P then x else y)=(if Q then x else y):=by
 by_cases c:P
 ·rw [if_pos c,if_pos (h.1 c)]
 ·rw [if_neg c,if_neg (fun q=>c (h.2 q))]
theorem pl_char (ts:List Int) (b:Int) (p:Nat):pl ts.length (mt ts (.char b)) p=if p<ts.length∧(ts.getD p 0 == b)=true then 2 ^ (p+1) else 0:=by
 rw [pl_step (fun i=>decide (ts[i]?=some b)) _ p (fun i j=>by simp only [rex.mt])]
 refine ite_congr2 (and_congr_right fun h => ?_) _ _
 rw [get_some (by omega)]
 simp
theorem pl_any (ts:List Int) (p:Nat):pl ts.length (mt ts .any) p=if p<ts.length∧(true:Bool)=true then 2 ^ (p+1) else 0:=by
 rw [pl_step (fun i=>decide (i<ts.length)) _ p (fun i j=>by simp only [rex.mt])]
 refine ite_congr2 ?_ _ _
 simp
 omega
theorem pl_set (ts:List Int) (s:List Int) (p:Nat):pl ts.length (mt ts (.set s)) p=if p<ts.length∧(s.contains (ts.getD p 0))=true then 2 ^ (p+1) else 0:=by
 rw [pl_step (fun i=>match ts[i]? with | some c=>s.contains c | none=>false) _ p (fun i j=>by simp only [rex.mt];cases ts[i]? <;> rfl)]
 refine ite_congr2 (and_congr_right fun h => ?_) _ _
 rw [get_some (by omega)]
theorem pl_beg (ts:List Int) (p:Nat):pl ts.length (mt ts .beg) p=if p=0 then 2 ^ p else 0:=by
 refine Nat.eq_of_testBit_eq fun j => ?_
 rw [bit_pl]
 simp only [rex.mt]
 by_cases c:p=0
 ·subst c
  rw [if_pos rfl,Nat.testBit_two_pow]
  by_cases e:j=0
  ·subst e;simp
  ·have:¬ 0=j:=fun x=>e x.symm
   simp [e,this]
 ·simp [c]
theorem pl_fin (ts:List Int) (p:Nat):pl ts.length (mt ts .fin) p=if p=ts.length then 2 ^ p else 0:=by
 refine Nat.eq_of_testBit_eq fun j => ?_
 rw [bit_pl]
 simp only [rex.mt]
 by_cases c:p=ts.length
 ·subst c
  rw [if_pos rfl,Nat.testBit_two_pow]
  by_cases e:j=ts.length
  ·subst e;simp
  ·have:¬ ts.length=j:=fun x=>e x.symm
   simp [e,this]
 ·simp [c]
end Go.Proofs.YtfhimmnoipfiaaaDoor.eng
namespace Go.Proofs.YtfhimmnoipfiaaaDoor.eng
open Go.ChangeShapes Go.WideShapes Go.ChangeAt Go.RowKit
open bytes places sets tz rex
theorem orL_snoc (b:B2):∀ l:List B2,orL (l++[b])=fun i j=>orL l i j || b i j
 | []=>by funext i j;simp [orL]
 | a::l=>by funext i j;simp [orL,orL_snoc b l,Bool.or_assoc]
def upA (L:Nat) (ks:List Kd) (p i:Nat):Nat:=pl L (orL ((ks.take i).map (·.a))) p
theorem upA_zero (L:Nat) (ks:List Kd) (p:Nat):upA L ks p 0=0:=by
 refine Nat.eq_of_testBit_eq fun j => ?_
 simp [upA,orL,bit_pl]
theorem upA_succ {L:Nat} {ks:List Kd} {p i:Nat} {k:Kd} (h:ks[i]?=some k):upA L ks p (i+1)=upA L ks p i ||| pl L k.a p:=by
 unfold upA
 rw [←pl_or,←orL_snoc]
 congr 1
 rw [List.take_add_one,h]
 simp
theorem upA_all (L:Nat) (ks:List Kd) (p:Nat):upA L ks p ks.length=pl L (orL (ks.map (·.a))) p:=by simp [upA]
theorem way_set {W:World} {b:Nat} {z0 z1:Value} (h:W.heap[b]?=some (.cells #[z0,z1] 49 (0,0))) (v0 v1:Value):((W.setCell ⟨b,0,none⟩ v0).setCell ⟨b,1,none⟩ v1).heap[b]?=some (.cells #[v0,v1] 49 (0,0)):=by
 have h0:=heap_setCell_same W b 0 _ 49 v0 h
 have h1:=heap_setCell_same _ b 1 _ 49 v1 h0
 simp at h1
 exact h1
structure VL (L:Nat) (M:Fz) (K:Ks) (R0:Rs) (O0:Lb) (w0:World) (g:Nat) (vs:Array Value) (x:Nat) (W:World):Prop where
 sq:Sq L M K R0 O0 w0 (fun b=>b=w0.heap.size∨b=w0.heap.size+1∨b=g) W
 res:C2 W w0.heap.size 0
 out:C2 W (w0.heap.size+1) x
 kid:W.heap[g]?=some (.cells vs 49 (0,0))
section
variable {L:Nat} {M:Fz} {K:Ks} {R0:Rs} {O0:Lb} {w0 W W':World} {g x:Nat} {vs:Array Value}
theorem VL.below (h:VL L M K R0 O0 w0 g vs x W) (hb:Below W.heap.size W W'):VL L M K R0 O0 w0 g vs x W' :=
 ⟨h.sq.below hb,(hb.block _ (h.sq.lt (.inl rfl)).2).trans h.res,(hb.block _ (h.sq.lt (.inr (.inl rfl))).2).trans h.out,(hb.block _ (h.sq.lt (.inr (.inr rfl))).2).trans h.kid⟩
theorem VL.drew (h:VL L M K R0 O0 w0 g vs x W):VL L M K R0 O0 w0 g vs x W.drew:=h.below (Below.refl _ _).drew
theorem VL.ask (h:VL L M K R0 O0 w0 g vs x W) {M0:Fz} {K0:Ks} {f:Nat} {cs:Array Value} {p X:Nat} (ha:At L M0 K0 f cs p X) (hM:FLe M0 M) (hK:KLe K0 K) :
  Calls Tryd.prog f (#[.int .i64 (p:Int)]++cs) W fun e w'=>e=.returned (psV X)∧VL L M K R0 O0 w0 g vs x w':=by
 refine (h.sq.ask ha hM hK).mono ?_
 rintro e w' ⟨h1,h2,h3,h4⟩
 exact ⟨h1,h2,(h3 _ (.inl rfl)).trans h.res,(h3 _ (.inr (.inl rfl))).trans h.out,(h3 _ (.inr (.inr rfl))).trans h.kid⟩
theorem VL.put (h:VL L M K R0 O0 w0 g vs x W) (hg:w0.heap.size+2≤g) (X:Nat):Sq L M K R0 O0 w0 (fun b=>b=w0.heap.size∨b=w0.heap.size+1) ((W.setCell ⟨w0.heap.size+1,0,none⟩ (.int .u64 (X:Nat))).setCell ⟨w0.heap.size+1,1,none⟩ (.int .u64 0))∧C2 ((W.setCell ⟨w0.heap.size+1,0,none⟩ (.int .u64 (X:Nat))).setCell ⟨w0.heap.size+1,1,none⟩ (.int .u64 0)) w0.heap.size 0∧C2 ((W.setCell ⟨w0.heap.size+1,0,none⟩ (.int .u64 (X:Nat))).setCell ⟨w0.heap.size+1,1,none⟩ (.int .u64 0)) (w0.heap.size+1) X:=by
 refine ⟨((h.sq.set (.inr (.inl rfl)) _).set (.inr (.inl rfl)) _).less (fun b hb=>by omega),?_,two_end h.out X⟩
 unfold C2
 rw [Below.heap_setCell _ _ _ _ (by simp),Below.heap_setCell _ _ _ _ (by simp)]
 exact h.res
end
set_option maxRecDepth 20000 in
set_option maxHeartbeats 8000000 in
theorem alt_any (L:Nat) (M:Fz) (K:Ks) (N kb kr:Nat) (n c:Nat) (ks:List Kd) (cs:Array Value) (p:Nat) (hn:ks.length=n) (hn1:n≤1000) (hL:L≤22) (hp:p≤L)
  (m1:M kb=some (.cells #[.slice (some ⟨kr,0,none⟩) n c] 88 (0,0))) (m2:M kr=some (.cells cs 49 (0,0))) (hc:∀ (i:Nat) (v:Value),(rowOf ks)[i]?=some v→cs[i]?=some v) (hk:∀ k∈ks,KdOK L M K N k) :
  At L M K 69 #[.pointer (some ⟨kb,0,none⟩)] p (pl L (orL (ks.map (·.a))) p):=by
 intro M' K' R O w hM hK hI
 rw [←upA_all L ks p,hn]
 obtain ⟨U,hU⟩:∃ U,U=upA L ks p:=⟨_,rfl⟩
 rw [←hU]
 have hU0:U 0=0:=by rw [hU];exact upA_zero L ks p
 have hUlt:∀ i,U i<18446744073709551616:=fun i=>by rw [hU];exact Nat.lt_of_lt_of_le (pl_lt L _ p) (Nat.pow_le_pow_right (n:=2) (by decide) (show L+1≤64 by omega))
 have hpl:∀ a:B2,pl L a p<18446744073709551616:=fun a=>Nat.lt_of_lt_of_le (pl_lt L a p) (Nat.pow_le_pow_right (n:=2) (by decide) (show L+1≤64 by omega))
 obtain ⟨W0,hW0⟩:∃ W0,(w.alloc (.cells #[.int .u64 0,.int .u64 0] 62)).alloc (.cells #[.int .u64 0,.int .u64 0] 62)=W0:=⟨_,rfl⟩
 have HS:Hid (Sq L M' K' R O w (fun b=>b=w.heap.size∨b=w.heap.size+1) W0∧C2 W0 w.heap.size 0∧C2 W0 (w.heap.size+1) 0):=by
  rw [←hW0]
  refine ⟨Sq.start hI (((Below.refl _ _).alloc (Nat.le_refl _) _).alloc (by simp) _) (fun b hb=>by simp;omega),?_,?_⟩
  ·exact (Below.heap_alloc _ _ _ (by simp)).trans (heap_alloc_new w _)
  ·have h:=heap_alloc_new (w.alloc (.cells #[.int .u64 0,.int .u64 0] 62)) (.cells #[.int .u64 0,.int .u64 0] 62)
   rw [World.size_alloc] at h
   exact h
 have m1w:W0.cell? ⟨kb,0,none⟩=some (.slice (some ⟨kr,0,none⟩) n c):=HS.out.1.fz.at (hM _ _ m1) rfl
 have HR:Hid (∀ i k,ks[i]?=some k→∀ W,In M' W→W.cell? ⟨kr,i*2,none⟩=some k.ve∧W.cell? ⟨kr,i*2+1,none⟩=some k.vp):=fun i k hi W hF=>⟨hF.at (hM _ _ m2) (hc _ _ (rowOf_get ks i k hi).1),hF.at (hM _ _ m2) (hc _ _ (rowOf_get ks i k hi).2)⟩
 have HK:=hide (And.intro hk (And.intro hM hK))
 have HU:=hide (And.intro hU (And.intro hUlt (And.intro hpl (And.intro hn hp))))
 clear hk hM hK hI m1 m2 hc hU hUlt hpl hn hp hL
 unfold psV
 go_enter Tryd.func69,Tryd.ntmps69
 go_wp2
 (try rw [hW0])
 clear hW0
 go_loopw [9] (fun v9 wr=>∃ i:Nat,i≤n∧v9=.int .i64 (i:Int)∧Hid (Sq L M' K' R O w (fun b=>b=w.heap.size∨b=w.heap.size+1) wr∧C2 wr w.heap.size 0∧C2 wr (w.heap.size+1) (U i))) (fun v9 _=>n-(intOf v9).toNat)
 case atStart=>exact ⟨0,Nat.zero_le _,rfl,by rw [hU0];exact HS⟩
 case round =>
  obtain ⟨i,hi,rfl,HX⟩:=hrel
  clear HS m1w
  by_cases hin:i<n
  ·have hiI:(i:Int)<(n:Int):=by omega
   have hiw:IntKind.i64.wrap ((i:Int)+1)=((i+1:Nat):Int):=by rw [IntKind.wrap_i64];omega
   obtain ⟨k,hk⟩:∃ k,ks[i]?=some k:=⟨_,List.getElem?_eq_getElem (by have:=HU.out.2.2.2.1;omega)⟩
   obtain ⟨f,cf,he,hof,hAt⟩:=(HK.out.1 k (List.mem_of_getElem? hk)).e
   obtain ⟨fp,cfp,hep,_,_⟩:=(HK.out.1 k (List.mem_of_getElem? hk)).p
   have hcf:=callF hof
   obtain ⟨q0,q1⟩:=HR.out i k hk wr HX.out.1.fz
   rw [he] at q0
   rw [hep] at q1
   have hAp:=hide (hAt p HU.out.2.2.2.2)
   have hs:=hide (upA_succ (L:=L) (p:=p) hk)
   obtain ⟨y,hy⟩:∃ y,y=pl L k.a p:=⟨_,rfl⟩
   have hyl:y<18446744073709551616:=by rw [hy];exact HU.out.2.2.1 _
   have hsu:U (i+1)=U i ||| y:=by rw [HU.out.1,hy];exact hs.out
   have hbg:=(HX.out.1.lt (.inr rfl)).2
   have HV:Hid (VL L M' K' R O w wr.heap.size #[.func (.func f) #[] cf,.func (.func fp) #[] cfp] (U i) (wr.alloc (.cells #[.func (.func f) #[] cf,.func (.func fp) #[] cfp] 49))) :=
    ⟨HX.out.1.join ((Below.refl _ _).alloc (Nat.le_refl _) _) (fun b hb=>by simp;omega),(Below.heap_alloc _ _ _ (by omega)).trans HX.out.2.1,(Below.heap_alloc _ _ _ hbg).trans HX.out.2.2,heap_alloc_new wr _⟩
   have HA:Hid (∀ W,VL L M' K' R O w wr.heap.size #[.func (.func f) #[] cf,.func (.func fp) #[] cfp] (U i) W→Calls Tryd.prog f (#[.int .i64 (p:Int)]++cf) W fun e w'=>e=.returned (psV y)∧VL L M' K' R O w wr.heap.size #[.func (.func f) #[] cf,.func (.func fp) #[] cfp] (U i) w'):=fun W h=>by rw [hy];exact h.ask hAp.out HK.out.2.1 HK.out.2.2
   have HW:Hid (∀ W,VL L M' K' R O w wr.heap.size #[.func (.func f) #[] cf,.func (.func fp) #[] cfp] (U i) W→Calls Tryd.prog 70 #[psV (U i),psV y] W fun e w'=>e=.returned (psV (U (i+1)))∧VL L M' K' R O w wr.heap.size #[.func (.func f) #[] cf,.func (.func fp) #[] cfp] (U i) w'):=fun W h=>by
    rw [hsu]
    exact (with_any W (U i) y (HU.out.2.1 i) hyl).mono (by rintro r w' ⟨h1,h2⟩;exact ⟨h1,h.below h2⟩)
   have HP:Hid (∀ W,VL L M' K' R O w wr.heap.size #[.func (.func f) #[] cf,.func (.func fp) #[] cfp] (U i) W→Hid (Sq L M' K' R O w (fun b=>b=w.heap.size∨b=w.heap.size+1) ((W.setCell ⟨w.heap.size+1,0,none⟩ (.int .u64 (U (i+1):Nat))).setCell ⟨w.heap.size+1,1,none⟩ (.int .u64 0))∧C2 ((W.setCell ⟨w.heap.size+1,0,none⟩ (.int .u64 (U (i+1):Nat))).setCell ⟨w.heap.size+1,1,none⟩ (.int .u64 0)) w.heap.size 0∧C2 ((W.setCell ⟨w.heap.size+1,0,none⟩ (.int .u64 (U (i+1):Nat))).setCell ⟨w.heap.size+1,1,none⟩ (.int .u64 0)) (w.heap.size+1) (U (i+1)))):=fun W h=>h.put (by have:=HX.out.1.lt (b:=w.heap.size+1) (.inr rfl);omega) _
   have HD:Hid (∀ W,VL L M' K' R O w wr.heap.size #[.func (.func f) #[] cf,.func (.func fp) #[] cfp] (U i) W→VL L M' K' R O w wr.heap.size #[.func (.func f) #[] cf,.func (.func fp) #[] cfp] (U i) W.drew):=fun W h=>h.drew
   clear he hep hk hi hs hsu hy hyl hbg HX hAp
   unfold psV at HA HW
   obtain ⟨u2,hu2⟩:∃ x,x=U (i+1):=⟨_,rfl⟩
   rw [←hu2] at HW HP
   have hu2:=hide hu2
   generalize U i=u1 at *
   go_wp2
   have hS0:=HV.out
   clear HV
   obtain ⟨G,hG⟩:∃ G,wr.heap.size=G:=⟨_,rfl⟩
   obtain ⟨W1,hW1⟩:∃ W1,wr.alloc (.cells #[.func (.func f) #[] cf,.func (.func fp) #[] cfp] 49)=W1:=⟨_,rfl⟩
   rw [hW1] at hS0 ⊢
   rw [hG] at HA HW HP HD hS0 ⊢
   clear hG hW1
   have a0:=hS0.out.c0
   have a1:=hS0.out.c1
   have b0:=hS0.out.fz 0
   have b1:=hS0.out.fz 1
   have k0:W1.cell? ⟨G,0,none⟩=some (.func (.func f) #[] cf):=by simp [World.cell?,hS0.kid]
   go_region_law (first | (go_simp;go_at_call 70;with_reducible (refine (HW.out _ ?_).mono ?_);(first | exact hS1 | exact HD.out _ hS1 | assumption);rintro v w3 ⟨rfl,hS3⟩;have e0:=hS3.out.c0;have e1:=hS3.out.c1;have h0:=hS3.out.fz 0;have h1:=hS3.out.fz 1) | (go_simp;with_reducible (refine (HA.out _ ?_).mono ?_);(first | exact hS0 | exact HD.out _ hS0 | assumption);rintro v w2 ⟨rfl,hS1⟩;have c0:=hS1.out.c0;have c1:=hS1.out.c1;have d0:=hS1.out.fz 0;have d1:=hS1.out.fz 1))
   all_goals
    have hS4:=HP.out w3 hS3
    clear hS3 hS1 hS0 HA HW HP HD
    go_wp2
    go_roundw
    case rel=>exact ⟨i+1,by omega,by simp,by rw [←hu2.out];exact hS4⟩
    case measure=>simp [intOf];omega
  ·obtain rfl:i=n:=by omega
   have hlt:¬ (i:Int)<(i:Int):=by omega
   have o0:=HX.out.2.2.c0
   have o1:=HX.out.2.2.c1
   have f0:=HX.out.2.1.fz 0
   have f1:=HX.out.2.1.fz 1
   have g0:=HX.out.2.1.c0
   have g1:=HX.out.2.1.c1
   have HE:Hid (((wr.setCell ⟨w.heap.size,0,none⟩ (.int .u64 (U i:Nat))).setCell ⟨w.heap.size,1,none⟩ (.int .u64 0)).heap[w.heap.size]?=some (.cells #[.int .u64 (U i:Nat),.int .u64 0] 62 (0,0))∧∃ R' O',St L M' K' R O w R' O' ((wr.setCell ⟨w.heap.size,0,none⟩ (.int .u64 (U i:Nat))).setCell ⟨w.heap.size,1,none⟩ (.int .u64 0))):=⟨two_end HX.out.2.1 _,((HX.out.1.set (.inl rfl) _).set (.inl rfl) _).st⟩
   clear HX
   go_wp2
   exact bodyPost_ret (results_cell_row rfl _ _ w.heap.size 62 _ (0,0) _ rfl HE.out.1 Tryd.underlying62 rfl (size62.trans (by simp))) rfl ⟨rfl,HE.out.2⟩
end Go.Proofs.YtfhimmnoipfiaaaDoor.eng
namespace Go.Proofs.YtfhimmnoipfiaaaDoor.eng
open Go.ChangeShapes Go.WideShapes Go.ChangeAt Go.RowKit
open bytes places sets tz rex
theorem Sx.fresh0 {L:Nat} {M:Fz} {K:Ks} {R0:Rs} {O0:Lb} {w0 W:World} {g:Nat} {P:Nat→Prop} (h:Sx L M K R0 O0 w0 g P W):Sx L M K R0 O0 w0 g (fun _=>False) W:=h.less fun b hb=>hb.elim
theorem OkF62:OkF 62:=⟨_,Tryd.func62,by kernel_rfl,by kernel_rfl⟩
theorem OkF71:OkF 71:=⟨_,Tryd.func71,by kernel_rfl,by kernel_rfl⟩
set_option maxRecDepth 20000 in
set_option maxHeartbeats 4000000 in
theorem group_pt (L:Nat) (M:Fz) (K:Ks) (nb kb n:Nat) (N:Nat) (f:Nat) (cs:Array Value) (ve:Value) (a:B2) (s:Sp) (hn1:2*n+2≤N) (hn9:n≤100) (ho:OkF f) (h:Pt L M K f cs a s N)
  (m1:M nb=some (.cells #[.int .i64 (n:Int)] 3 (0,0))) (m2:M kb=some (.cells #[ve,.func (.func f) #[] cs] 49 (0,0))) :
  Pt L M K 62 #[.pointer (some ⟨nb,0,none⟩),.pointer (some ⟨kb,0,none⟩)] a (fun i j out=>s i j ((out.set (2*n) i).set (2*n+1) j)) N:=by
 intro M' K' R O w hM hK hI i j g l c out hij hj hm hg hs hl hN hc h100
 have hcf:=callF ho
 have hS0:Sx L M' K' R O w g (fun _=>False) w:=Sx.start hI hg hs.lt (Below.refl _ _) (fun b h=>h.elim)
 have c1:w.cell? ⟨nb,0,none⟩=some (.int .i64 (n:Int)):=hI.fz.at (hM _ _ m1) rfl
 have n1:nb≠g:=by intro e;have:=hI.mem (hM _ _ m1);rw [e,hg] at this;cases this
 have n2:kb≠g:=by intro e;have:=hI.mem (hM _ _ m2);rw [e,hg] at this;cases this
 obtain ⟨v0,hv0⟩:∃ v,out[2*n]?=some v:=⟨_,List.getElem?_eq_getElem (by omega)⟩
 obtain ⟨v1,hv1⟩:∃ v,out[2*n+1]?=some v:=⟨_,List.getElem?_eq_getElem (by omega)⟩
 have hs1:=hs.set (2*n) (by omega) (i:Int)
 have hs2:=hs1.set (2*n+1) (by simp;omega) (j:Int)
 have hS2:=(hS0.set (a:=⟨g,2*n,none⟩) (.inr rfl) (.int .i64 (i:Int))).set (a:=⟨g,2*n+1,none⟩) (.inr rfl) (.int .i64 (j:Int))
 have x0:=hs.cell hv0
 have x1:=hs.cell hv1
 have y0:=hs.fr (2*n)
 have y1:=hs.fr (2*n+1)
 obtain ⟨p0,hp0⟩:∃ p,p=2*n:=⟨_,rfl⟩
 obtain ⟨p1,hp1⟩:∃ p,p=2*n+1:=⟨_,rfl⟩
 have w0:IntKind.i64.wrap (2*(n:Int))=(p0:Int):=by rw [IntKind.wrap_i64];omega
 have w1:IntKind.i64.wrap ((p0:Int)+1)=(p1:Int):=by rw [IntKind.wrap_i64];omega
 have l0:(p0:Int)<(l:Int):=by omega
 have l1:(p1:Int)<(l:Int):=by omega
 have hne:p0≠p1:=by omega
 have HS:Hid (∀ W,W=((w.setCell ⟨g,p0,none⟩ (.int .i64 (i:Int))).setCell ⟨g,p1,none⟩ (.int .i64 (j:Int))).drew→W.cell? ⟨kb,1,none⟩=some (.func (.func f) #[] cs)∧Calls Tryd.prog f (#[.int .i64 (i:Int),.int .i64 (j:Int),.slice (some ⟨g,0,none⟩) l c]++cs) W fun e w'=>e=.returned (.tuple #[])∧Spn w' g (s i j ((out.set (2*n) i).set (2*n+1) j))∧(s i j ((out.set (2*n) i).set (2*n+1) j)).length=l∧Sx L M' K' R O w g (fun _=>False) w'):=by
  refine hide (fun W hW => ?_)
  subst hp0 hp1
  have hSW:Sx L M' K' R O w g (fun _=>False) W:=by rw [hW];exact hS2.below (by simp;exact hs.lt) (Below.refl _ _).drew
  refine ⟨hSW.fz.at (hM _ _ m2) rfl,?_⟩
  refine (hSW.part h hM hK hij hj hm (by rw [hW];exact hs2.same rfl) (by simp;exact hl) hN hc h100).mono ?_
  rintro e w' ⟨h1,h2,h3,h4,_⟩
  exact ⟨h1,h2,h3,h4⟩
 rw [←hp0] at x0 y0
 rw [←hp1] at x1 y1
 clear hS0 hS2 hs1 hs2 hs hp0 hp1 h hI hM hK m1 m2 hv0 hv1 hm
 go_enter Tryd.func62,Tryd.ntmps62
 go_wp2
 go_region
 obtain ⟨W,hW⟩:∃ W,W=((w.setCell ⟨g,p0,none⟩ (.int .i64 (i:Int))).setCell ⟨g,p1,none⟩ (.int .i64 (j:Int))).drew:=⟨_,rfl⟩
 obtain ⟨c2,HC⟩:=HS.out W hW
 have HC:=hide HC
 rw [←hW]
 clear hW HS x0 x1 y0 y1 c1
 go_wp2_with fail
 refine HC.out.mono ?_
 rintro e w' ⟨rfl,h2,h3,h4⟩
 have HE:=hide (And.intro h2 (And.intro h3 h4))
 clear h2 h3 h4 HC
 go_wp2
 go_end0
 exact ⟨rfl,HE.out.1,HE.out.2.1,HE.out.2.2⟩
end Go.Proofs.YtfhimmnoipfiaaaDoor.eng
namespace Go.Proofs.YtfhimmnoipfiaaaDoor.eng
open Go.ChangeShapes Go.WideShapes Go.ChangeAt Go.RowKit
open bytes places sets tz rex
attribute [local go_sem] Oper.semAt_some
theorem size49:(Tryd.prog.info? 49).map (·.size)=some 2:=by kernel_rfl
theorem mf (fn:Fn) (first cap:Array Value) (w:World):(Instr.makeFunc fn first cap).run Tryd.prog w=.ok (.func fn first cap) w:=rfl
def knW (W:World) (S:ByteArray) (fn:Fn) (cp:Array Value):World:=(((W.alloc (.cells #[.string S] 9)).alloc (.cells #[.func fn #[] cp] 46)).alloc (.cells #[.slice none 0 0] 124)).alloc (.cells #[.slice none 0 0] 125)
theorem knW_facts (W:World) (S:ByteArray) (fn:Fn) (cp:Array Value) :
  (∀ b,b<W.heap.size→(knW W S fn cp).heap[b]?=W.heap[b]?)∧(knW W S fn cp).heap.size=W.heap.size+4∧(knW W S fn cp).heap[W.heap.size]?=some (.cells #[.string S] 9 (0,0))∧(knW W S fn cp).heap[W.heap.size+1]?=some (.cells #[.func fn #[] cp] 46 (0,0))∧C1 (knW W S fn cp) (W.heap.size+2) (.slice none 0 0) 124∧C1 (knW W S fn cp) (W.heap.size+3) (.slice none 0 0) 125:=by
 unfold knW
 refine ⟨fun b hb => ?_,by simp,?_,?_,?_,?_⟩
 ·rw [Below.heap_alloc _ _ _ (by simp;omega),Below.heap_alloc _ _ _ (by simp;omega),Below.heap_alloc _ _ _ (by simp;omega),Below.heap_alloc _ _ _ hb]
 ·rw [Below.heap_alloc _ _ _ (by simp;omega),Below.heap_alloc _ _ _ (by simp;omega),Below.heap_alloc _ _ _ (by simp)]
  exact heap_alloc_new W _
 ·rw [Below.heap_alloc _ _ _ (by simp),Below.heap_alloc _ _ _ (by simp)]
  have h:=heap_alloc_new (W.alloc (.cells #[.string S] 9)) (.cells #[.func fn #[] cp] 46)
  rw [show (W.alloc (.cells #[.string S] 9)).heap.size=W.heap.size+1 by simp] at h
  exact h
 ·unfold C1
  rw [Below.heap_alloc _ _ _ (by simp)]
  have h:=heap_alloc_new ((W.alloc (.cells #[.string S] 9)).alloc (.cells #[.func fn #[] cp] 46)) (.cells #[.slice none 0 0] 124)
  rw [show ((W.alloc (.cells #[.string S] 9)).alloc (.cells #[.func fn #[] cp] 46)).heap.size=W.heap.size+2 by simp] at h
  exact h
 ·have h:=heap_alloc_new (((W.alloc (.cells #[.string S] 9)).alloc (.cells #[.func fn #[] cp] 46)).alloc (.cells #[.slice none 0 0] 124)) (.cells #[.slice none 0 0] 125)
  rw [show (((W.alloc (.cells #[.string S] 9)).alloc (.cells #[.func fn #[] cp] 46)).alloc (.cells #[.slice none 0 0] 124)).heap.size=W.heap.size+3 by simp] at h
  exact h
theorem knW_below (W:World) (S:ByteArray) (fn:Fn) (cp:Array Value):Below W.heap.size W (knW W S fn cp):=by
 unfold knW
 exact ((((Below.refl _ _).alloc (Nat.le_refl _) _).alloc (by simp) _).alloc (by simp;omega) _).alloc (by simp;omega) _
def knV (n:Nat):Value:=.func (.func 86) #[] #[.pointer (some ⟨n+2,0,none⟩),.pointer (some ⟨n,0,none⟩),.pointer (some ⟨n+3,0,none⟩),.pointer (some ⟨n+1,0,none⟩)]
set_option maxHeartbeats 1000000 in
theorem known_call (w:World) (S:ByteArray) (fn:Fn) (cp:Array Value) :
  Calls Tryd.prog 65 #[.string S,.func fn #[] cp] w fun e w'=>e=.returned (knV w.heap.size)∧w'=knW w S fn cp:=by
 have hmf:=mf
 unfold knV
 go_enter Tryd.func65,Tryd.ntmps65
 go_wp2
 go_ret
 exact ⟨rfl,rfl⟩
section
variable {L:Nat} {M:Fz} {K:Ks} {R:Rs} {O:Lb} {w W:World}
theorem St.known {R0:Rs} {O0:Lb} {w0:World} (h:St L M K R0 O0 w0 R O w) (hf:Few K R) (S:ByteArray) (f:Nat) (cp:Array Value) (A:Nat→Nat) :
  ∃ M' K' O' k,FLe M M'∧KLe K K'∧St L M' K' R0 O0 w0 R O' (knW w S (.func f) cp)∧Few K' R∧M' w.heap.size=some (.cells #[.string S] 9 (0,0))∧M' (w.heap.size+1)=some (.cells #[.func (.func f) #[] cp] 46 (0,0))∧K' k=some ⟨w.heap.size+2,w.heap.size+3,A⟩∧(∀ b,b<w.heap.size→O' b=O b):=by
 obtain ⟨f1,f2,f3,f4,f5,f6⟩:=knW_facts w S (.func f) cp
 have h1:=h.below (knW_below w S (.func f) cp)
 have hs:=h.size
 have o:=fun (b:Nat) (hb:w.heap.size≤b)=>h.fresh hb
 obtain ⟨k0,hk0⟩:=hf
 have m0:M w.heap.size=none:=M_none h.inv (o _ (Nat.le_refl _))
 have m1:M (w.heap.size+1)=none:=M_none h.inv (o _ (by omega))
 have h2:=h1.freeze hs f3 (o _ (Nat.le_refl _))
 have h3:=h2.freeze (b:=w.heap.size+1) (by omega) f4 (by rw [up_ne _ _ (by omega)];exact o _ (by omega))
 have h4:=h3.memoed (k:=k0) (b:=w.heap.size+2) (d:=w.heap.size+3) A (by omega) (by omega) (hk0 _ (Nat.le_refl _)).1 (hk0 _ (Nat.le_refl _)).2 (by rw [up_ne _ _ (by omega),up_ne _ _ (by omega)];exact o _ (by omega)) (by rw [up_ne _ _ (by omega),up_ne _ _ (by omega)];exact o _ (by omega)) (by omega) f5 f6
 refine ⟨_,_,_,k0,(FLe.up m0 _).trans (FLe.up (by rw [up_ne _ _ (by omega)];exact m1) _),KLe.up (hk0 _ (Nat.le_refl _)).1 _,h4,Few.up ⟨k0,hk0⟩,?_,up_same _ _ _,up_same _ _ _,fun b hb => ?_⟩
 ·rw [up_ne _ _ (by omega),up_same]
 ·rw [up_ne _ _ (by omega),up_ne _ _ (by omega),up_ne _ _ (by omega),up_ne _ _ (by omega)]
theorem knV_at {S:ByteArray} {f:Nat} {cp:Array Value} {A:Nat→Nat} {n k p E:Nat} (hL:L≤22) (hp:p≤L) (hS:S.size=L) (m1:M n=some (.cells #[.string S] 9 (0,0))) (m2:M (n+1)=some (.cells #[.func (.func f) #[] cp] 46 (0,0))) (hk:K k=some ⟨n+2,n+3,A⟩) (ho:OkF f) (hE:E=A p) (ha:At L M K f cp p E) :
  At L M K 86 #[.pointer (some ⟨n+2,0,none⟩),.pointer (some ⟨n,0,none⟩),.pointer (some ⟨n+3,0,none⟩),.pointer (some ⟨n+1,0,none⟩)] p E :=
 known_any L M K k ⟨n+2,n+3,A⟩ n (n+1) S f cp p E hL hp hS hk hE m1 m2 ho ha
end
def WayMade (L:Nat) (M:Fz) (K:Ks) (R:Rs) (O:Lb) (w:World) (N:Nat) (a:B2) (s:Sp) (e:Ending) (w':World):Prop :=
 ∃ k:Kd,e=.returned (.agg #[k.ve,k.vp])∧k.a=a∧k.s=s∧Made L M K R O w w' fun M' K'=>KdOK L M' K' N k
theorem group_mk (L:Nat) (M:Fz) (K:Ks) (R:Rs) (O:Lb) (w:World) (N n:Nat) (k:Kd) (hI:Inv L M K R O w) (hf:Few K R) (hk:KdOK L M K N k) (hn:2*n+2≤N) (hn9:n≤100) :
  Calls Tryd.prog 46 #[.int .i64 (n:Int),.agg #[k.ve,k.vp]] w (WayMade L M K R O w N k.a (fun i j out=>k.s i j ((out.set (2*n) i).set (2*n+1) j))):=by
 have hmf:=mf
 obtain ⟨fe,cf,he,hof,hAt⟩:=hk.e
 obtain ⟨fp,cfp,hep,hop,hPt⟩:=hk.p
 have hz:w.heap.size+1+1=w.heap.size+2:=rfl
 obtain ⟨W,hW⟩:∃ W,((w.alloc (.cells #[.int .i64 (n:Int)] 3)).alloc (.cells #[k.ve,k.vp] 49)).alloc (.cells #[k.ve,.func (.func 62) #[] #[.pointer (some ⟨w.heap.size,0,none⟩),.pointer (some ⟨w.heap.size+1,0,none⟩)]] 49)=W:=⟨_,rfl⟩
 have b1:W.heap[w.heap.size]?=some (.cells #[.int .i64 (n:Int)] 3 (0,0)):=by
  rw [←hW,Below.heap_alloc _ _ _ (by simp;omega),Below.heap_alloc _ _ _ (by simp)]
  exact heap_alloc_new w _
 have b2:W.heap[w.heap.size+1]?=some (.cells #[k.ve,k.vp] 49 (0,0)):=by
  rw [←hW,Below.heap_alloc _ _ _ (by simp)]
  have h:=heap_alloc_new (w.alloc (.cells #[.int .i64 (n:Int)] 3)) (.cells #[k.ve,k.vp] 49)
  rw [World.size_alloc] at h
  exact h
 have b3:W.heap[w.heap.size+2]?=some (.cells #[k.ve,.func (.func 62) #[] #[.pointer (some ⟨w.heap.size,0,none⟩),.pointer (some ⟨w.heap.size+1,0,none⟩)]] 49 (0,0)):=by
  rw [←hW]
  have h:=heap_alloc_new ((w.alloc (.cells #[.int .i64 (n:Int)] 3)).alloc (.cells #[k.ve,k.vp] 49)) (.cells #[k.ve,.func (.func 62) #[] #[.pointer (some ⟨w.heap.size,0,none⟩),.pointer (some ⟨w.heap.size+1,0,none⟩)]] 49)
  rw [World.size_alloc,World.size_alloc] at h
  exact h
 have hB:Below w.heap.size w W:=by
  rw [←hW]
  exact (((Below.refl _ _).alloc (Nat.le_refl _) _).alloc (by simp) _).alloc (by simp;omega) _
 have HM:Hid (Made L M K R O w W fun M' K'=>KdOK L M' K' N ⟨k.ve,.func (.func 62) #[] #[.pointer (some ⟨w.heap.size,0,none⟩),.pointer (some ⟨w.heap.size+1,0,none⟩)],k.a,fun i j out=>k.s i j ((out.set (2*n) i).set (2*n+1) j)⟩):=by
  have h0:=(St.refl hI).below hB
  have o0:O w.heap.size=none:=hI.fresh (Nat.le_refl _)
  have o1:O (w.heap.size+1)=none:=hI.fresh (by omega)
  have h1:=h0.freeze (Nat.le_refl _) b1 o0
  have h2:=h1.freeze (b:=w.heap.size+1) (by omega) b2 (by rw [up_ne _ _ (by omega)];exact o1)
  have l1:FLe M (up (up M w.heap.size (some (.cells #[.int .i64 (n:Int)] 3 (0,0)))) (w.heap.size+1) (some (.cells #[k.ve,k.vp] 49 (0,0)))):=(FLe.up (M_none hI o0) _).trans (FLe.up (by rw [up_ne _ _ (by omega)];exact M_none hI o1) _)
  refine ⟨_,K,R,_,l1,KLe.refl _,h2,hf,⟨⟨fe,cf,he,hof,fun p hp=>(hAt p hp).up l1 (KLe.refl _)⟩,⟨62,_,rfl,OkF62,?_⟩,hk.mono⟩⟩
  exact group_pt L _ K _ _ n N fp cfp k.ve k.a k.s hn hn9 hop (hPt.up l1 (KLe.refl _)) (by rw [up_ne _ _ (by omega),up_same]) (by rw [up_same,hep])
 rw [he] at hW b3 HM ⊢
 rw [hep] at hW ⊢
 clear hI hf hk hAt hPt b1 b2 hB
 go_enter Tryd.func46,Tryd.ntmps46
 go_wp2
 (try rw [hW])
 exact bodyPost_ret (results_cell_row rfl _ _ (w.heap.size+1+1) 49 _ (0,0) _ rfl b3 Tryd.underlying49 rfl (size49.trans (by simp))) rfl ⟨⟨.func (.func fe) #[] cf,.func (.func 62) #[] #[.pointer (some ⟨w.heap.size,0,none⟩),.pointer (some ⟨w.heap.size+1,0,none⟩)],k.a,fun i j out=>k.s i j ((out.set (2*n) i).set (2*n+1) j)⟩,rfl,rfl,rfl,HM.out⟩
end Go.Proofs.YtfhimmnoipfiaaaDoor.eng
namespace Go.Proofs.YtfhimmnoipfiaaaDoor.bck
open Go.RowKit Go.Shelf bytes
attribute [local go_sem] Oper.semAt_some
def Kp (Bs kR:Nat) (W W':World):Prop:=W'.heap[Bs]?=W.heap[Bs]? ∧ W'.heap[kR]?=W.heap[kR]?
theorem Kp.refl (Bs kR:Nat) (W:World):Kp Bs kR W W:=⟨rfl,rfl⟩
theorem Kp.trans {Bs kR:Nat} {A B C:World} (h:Kp Bs kR A B) (k:Kp Bs kR B C):Kp Bs kR A C:=⟨k.1.trans h.1,k.2.trans h.2⟩
def dn (n m:Nat):List Nat:=(List.range m).map fun j=>n-1-j
theorem dn_succ (n m:Nat):dn n (m+1)=dn n m++[n-1-m]:=by simp [dn,List.range_succ]
theorem dn_length (n m:Nat):(dn n m).length=m:=by simp [dn]
structure Fs where
 fe:Nat→Nat
 ce:Nat→Array Value
 fp:Nat→Nat
 cp:Nat→Array Value
def kidV (F:Fs) (k:Nat):Value:=.agg #[.func (.func (F.fe k)) #[] (F.ce k),.func (.func (F.fp k)) #[] (F.cp k)]
set_option maxRecDepth 100000 in
set_option maxHeartbeats 4000000 in
theorem back77 (F:Fence) (N:Nat) (h7:F.fn 85) (hro:F.round=none) (hN:1≤N) (l Bs kR n c:Nat) (G:Fs) (hn8:n≤1000) (J Jx:List { k:Nat // k<n }→World→Prop)
  (hY:∀ pre x W,J pre W→pre.length<n→YieldAt F (N-1) Tryd.prog l #[.int .i64 (x.1:Int),kidV G x.1] W fun e W' =>
   (e=.returned (.bool true)∧J (pre++[x]) W'∧Kp Bs kR W W')∨(e=.returned (.bool false)∧Jx (pre++[x]) W'))
  (W:World) (hBs:W.cell? ⟨Bs,0,none⟩=some (.slice (some ⟨kR,0,none⟩) n c))
  (hc:∀ k,k<n→W.cell? ⟨kR,k*2,none⟩=some (.func (.func (G.fe k)) #[] (G.ce k))∧W.cell? ⟨kR,k*2+1,none⟩=some (.func (.func (G.fp k)) #[] (G.cp k))) (h0:J [] W) :
  CallsIn F N Tryd.prog 85 #[.func (.yield l) #[] #[],.pointer (some ⟨Bs,0,none⟩)] W fun e W'=>(∃ v,e=.returned v) ∧
   ((∃ ys,ys.map (·.1)=dn n n∧J ys W')∨(∃ pre,True∧Jx pre W')):=by
 refine callsIn_of_wp Tryd.func85 rfl h7 ?_ hro
 simp only [Tryd.ntmps85,List.size_toArray,List.length_cons,List.length_nil,Nat.reduceAdd,Nat.reduceSub,Array.replicate_succ,Array.replicate_zero,List.push_toArray,List.append_toArray,List.nil_append,List.cons_append]
 gi_wp2
 gi_loopw [3] (fun i wr=>∃ (m:Nat) (pre:List { k:Nat // k<n }),m≤n∧i=.int .i64 ((n:Int)-1-(m:Int))∧pre.map (·.1)=dn n m∧J pre wr∧Kp Bs kR W wr)
  (fun i _=>(intOf i+1).toNat)
 case atStart=>exact ⟨0,[],Nat.zero_le _,by simp,rfl,h0,Kp.refl _ _ _⟩
 case round =>
  obtain ⟨m,pre,hm,rfl,hpre,hJs,hk⟩:=hrel
  have hBx:=(World.cell?_of_block (a:=⟨Bs,0,none⟩) hk.1).trans hBs
  by_cases hlt:m<n
  ·obtain ⟨k,hkm⟩:∃ k:Nat,k=n-1-m:=⟨_,rfl⟩
   have hkn:k<n:=by omega
   have hki:(n:Int)-1-(m:Int)=(k:Int):=by omega
   rw [hki]
   have hc1:=(World.cell?_of_block (a:=⟨kR,k*2,none⟩) hk.2).trans (hc k hkn).1
   have hc2:=(World.cell?_of_block (a:=⟨kR,k*2+1,none⟩) hk.2).trans (hc k hkn).2
   have hpl:pre.length=m:=by have:=congrArg List.length hpre;simpa [dn_length] using this
   obtain ⟨fn,tmps,assign,body,hy,hR⟩:=hY pre ⟨k,hkn⟩ wr hJs (by omega)
   dsimp only [kidV] at hy
   have hki2:(k:Int)<(n:Int):=by omega
   have HM:=hide (And.intro hki (And.intro hpre hkm))
   clear hki hpre hpl hkm
   gi_wp2
   refine hR.mono ?_
   rintro e W3 (⟨rfl,hJ3,hk3⟩|⟨rfl,hJx3⟩)
   ·gi_wp2
    go_roundw
    case rel=>exact ⟨m+1,pre++[⟨k,hkn⟩],by omega,congrArg (Value.int IntKind.i64) (by have:=HM.out.1;omega),by rw [List.map_append,HM.out.2.1,dn_succ,←HM.out.2.2];rfl,hJ3,hk.trans hk3⟩
    case measure=>simp [intOf]
   ·gi_wp2
    refine bodyPost_ret (results_none rfl _ _ _) rfl ?_
    exact ⟨⟨_,rfl⟩,.inr ⟨_,trivial,hJx3⟩⟩
  ·obtain rfl:m=n:=by omega
   have hneg:¬ (0:Int)≤(m:Int)-1-(m:Int):=by omega
   gi_wp2
   go_end0
   exact ⟨⟨_,rfl⟩,.inl ⟨_,hpre,hJs⟩⟩
set_option maxHeartbeats 1000000 in
theorem back57 (F:Fence) (N:Nat) (h57:F.fn 64) (hro:F.round=none) (a:Option Addr) (len cap:Nat) (w:World) :
  CallsIn F N Tryd.prog 64 #[.slice a len cap] w fun e w'=>e=.returned (.func (.func 85) #[] #[.pointer (some ⟨w.heap.size,0,none⟩)])∧w'=w.alloc (.cells #[.slice a len cap] 88):=by
 have hmf:∀ (fn:Fn) (first cap:Array Value) (w:World),(Instr.makeFunc fn first cap).run Tryd.prog w=.ok (.func fn first cap) w:=fun _ _ _ _=>rfl
 refine callsIn_of_wp Tryd.func64 rfl h57 ?_ hro
 simp only [Tryd.ntmps64,List.size_toArray,List.length_cons,List.length_nil,Nat.reduceAdd,Nat.reduceSub,Array.replicate_succ,Array.replicate_zero,List.push_toArray,List.append_toArray,List.nil_append,List.cons_append]
 gi_wp2
 go_ret
 exact ⟨rfl,rfl⟩
theorem back_stops (F:Fence) (N:Nat) (h7:F.fn 85) (hro:F.round=none) (hN:1≤N) (Bs kR n c:Nat) (G:Fs) (hn8:n≤1000) (w:World) (hBs:w.cell? ⟨Bs,0,none⟩=some (.slice (some ⟨kR,0,none⟩) n c)) (h1:Bs<w.heap.size) (h2:kR<w.heap.size)
  (hc:∀ k,k<n→w.cell? ⟨kR,k*2,none⟩=some (.func (.func (G.fe k)) #[] (G.ce k))∧w.cell? ⟨kR,k*2+1,none⟩=some (.func (.func (G.fp k)) #[] (G.cp k))) :
  SeqStopsK F N Tryd.prog 85 #[.pointer (some ⟨Bs,0,none⟩)] (fun x:{ k:Nat // k<n }=>#[Value.int .i64 (x.1:Int),kidV G x.1]) (Kp Bs kR) (fun ys=>ys.map (·.1)=dn n n) (fun _=>True) n w:=fun l J Jx W hW _ _ hY h0 =>
 back77 F N h7 hro hN l Bs kR n c G hn8 J Jx hY W ((hW.cell (p:=⟨Bs,0,none⟩) h1).trans hBs) (fun k hk=>⟨(hW.cell (p:=⟨kR,k*2,none⟩) h2).trans (hc k hk).1,(hW.cell (p:=⟨kR,k*2+1,none⟩) h2).trans (hc k hk).2⟩) h0
end Go.Proofs.YtfhimmnoipfiaaaDoor.bck
namespace Go.Proofs.YtfhimmnoipfiaaaDoor.eng
open Go.ChangeShapes Go.WideShapes Go.ChangeAt Go.RowKit
open bytes places sets tz rex
theorem pl_64 {L:Nat} (hL:L≤22) (a:B2) (p:Nat):pl L a p<18446744073709551616:=Nat.lt_of_lt_of_le (pl_lt L a p) (Nat.pow_le_pow_right (n:=2) (by decide) (show L+1≤64 by omega))
def prs (ks:List Kd):List (B2×Sp):=ks.map fun k=>(k.a,k.s)
def ends (ks:List Kd):List B2:=ks.map (·.a)
theorem prs_fst (ks:List Kd):(prs ks).map (·.1)=ends ks:=by simp [prs,ends]
theorem seqLS_cons (k:Kd) (ks:List Kd) (f j:Nat) (out:List Int) {y:Nat} (h:far f (fun x=>k.a f x && seqL (ends ks) x j) j=some y):seqLS (prs (k::ks)) f j out=seqLS (prs ks) y j (k.s f y out):=by
 have e:prs (k::ks)=(k.a,k.s)::prs ks:=rfl
 rw [e]
 simp only [seqLS,seqS,prs_fst,h]
theorem seqL_cons (k:Kd) (ks:List Kd) (f j:Nat) (h:seqL (ends (k::ks)) f j=true):∃ y,far f (fun x=>k.a f x && seqL (ends ks) x j) j=some y∧f≤y∧y≤j∧k.a f y=true∧seqL (ends ks) y j=true∧∀ x,y<x→x≤j→(k.a f x && seqL (ends ks) x j)=false:=by
 have h:exIn f j (fun x=>k.a f x && seqL (ends ks) x j)=true:=h
 obtain ⟨y,hy⟩:=far_exIn h
 have:=far_some hy
 simp only [Bool.and_eq_true] at this
 exact ⟨y,hy,this.1,this.2.1,this.2.2.1.1,this.2.2.1.2,fun x h1 h2=>this.2.2.2 x h1 h2⟩
structure RL (L:Nat) (M:Fz) (K:Ks) (R0:Rs) (O0:Lb) (w0:World) (g G B E:Nat) (vs:Array Value) (out:List Int) (W:World):Prop where
 sx:Sx L M K R0 O0 w0 g (fun b=>b=G∨b=B) W
 kid:W.heap[G]?=some (.cells vs 49 (0,0))
 ends:C2 W B E
 spn:Spn W g out
section
variable {L:Nat} {M:Fz} {K:Ks} {R0:Rs} {O0:Lb} {w0 W W':World} {g G B E:Nat} {vs:Array Value} {out:List Int}
theorem RL.below (h:RL L M K R0 O0 w0 g G B E vs out W) (hb:Below W.heap.size W W'):RL L M K R0 O0 w0 g G B E vs out W' :=
 ⟨h.sx.below h.spn.lt hb,(hb.block _ (h.sx.lt (.inl rfl)).2.1).trans h.kid,(hb.block _ (h.sx.lt (.inr rfl)).2.1).trans h.ends,h.spn.same (hb.block _ h.spn.lt)⟩
theorem RL.ask (h:RL L M K R0 O0 w0 g G B E vs out W) {M0:Fz} {K0:Ks} {f:Nat} {cs:Array Value} {p X:Nat} (ha:At L M0 K0 f cs p X) (hM:FLe M0 M) (hK:KLe K0 K) :
  Calls Tryd.prog f (#[.int .i64 (p:Int)]++cs) W fun e w'=>e=.returned (psV X)∧RL L M K R0 O0 w0 g G B E vs out w':=by
 refine (h.sx.ask h.spn.lt ha hM hK).mono ?_
 rintro e w' ⟨h1,h2,h3,h4⟩
 exact ⟨h1,h2,(h3 _ (.inl (.inl rfl))).trans h.kid,(h3 _ (.inl (.inr rfl))).trans h.ends,h.spn.same (h3 _ (.inr rfl))⟩
theorem RL.start (h:Sx L M K R0 O0 w0 g (fun _=>False) W) (hs:Spn W g out) (vs:Array Value) {M0:Fz} {K0:Ks} {f:Nat} {cs:Array Value} {p X:Nat} (ha:At L M0 K0 f cs p X) (hM:FLe M0 M) (hK:KLe K0 K) :
  Calls Tryd.prog f (#[.int .i64 (p:Int)]++cs) (W.alloc (.cells vs 49)) fun e w'=>e=.returned (psV X)∧W.heap.size<w'.heap.size∧RL L M K R0 O0 w0 g W.heap.size w'.heap.size X vs out (w'.alloc (.cells #[.int .u64 (X:Nat),.int .u64 0] 62)):=by
 have hlt:=hs.lt
 have hb:=(Below.refl W.heap.size W).alloc (Nat.le_refl _) (.cells vs 49)
 have h1:Sx L M K R0 O0 w0 g (fun b=>b=W.heap.size) (W.alloc (.cells vs 49)):=h.join hlt hb (fun b hb=>.inr (by simp;omega))
 refine (h1.ask (by simp;omega) ha hM hK).mono ?_
 rintro e w' ⟨k1,k2,k3,k4⟩
 simp at k4
 have hb2:=(Below.refl w'.heap.size w').alloc (Nat.le_refl _) (.cells #[.int .u64 (X:Nat),.int .u64 0] 62)
 refine ⟨k1,by omega,k2.join (by omega) hb2 (fun b hb => ?_),(hb2.block _ (by omega)).trans ((k3 _ (.inl rfl)).trans (heap_alloc_new W _)),heap_alloc_new w' _,hs.same ((hb2.block _ (by omega)).trans ((k3 _ (.inr rfl)).trans (hb.block _ hlt)))⟩
 rcases hb with hb | hb
 ·exact .inl hb
 ·exact .inr (by simp;omega)
theorem RL.part (h:RL L M K R0 O0 w0 g G B E vs out W) {M0:Fz} {K0:Ks} {f:Nat} {cs:Array Value} {a:B2} {s:Sp} {N:Nat} (ha:Pt L M0 K0 f cs a s N) (hM:FLe M0 M) (hK:KLe K0 K) {i j n c:Nat} (hij:i≤j) (hj:j≤L) (hm:a i j=true) (hn:out.length=n) (hN:N≤n) (hc:n≤c) (hn1:n≤100) :
  Calls Tryd.prog f (#[.int .i64 (i:Int),.int .i64 (j:Int),.slice (some ⟨g,0,none⟩) n c]++cs) W fun e w'=>e=.returned (.tuple #[])∧Spn w' g (s i j out)∧(s i j out).length=n∧Sx L M K R0 O0 w0 g (fun _=>False) w':=by
 refine (h.sx.part ha hM hK hij hj hm h.spn hn hN hc hn1).mono ?_
 rintro e w' ⟨h1,h2,h3,h4,_⟩
 exact ⟨h1,h2,h3,h4.fresh0⟩
end
theorem OkF68:OkF 68:=⟨_,Tryd.func68,by kernel_rfl,by kernel_rfl⟩
set_option maxRecDepth 20000 in
set_option maxHeartbeats 8000000 in
theorem cat_pt (L:Nat) (M:Fz) (K:Ks) (N kb kr rb rr n c:Nat) (ks:List Kd) (cs rs:Array Value) (hn:ks.length=n) (hn1:n≤1000) (hL:L≤22)
  (m1:M kb=some (.cells #[.slice (some ⟨kr,0,none⟩) n c] 88 (0,0))) (m2:M kr=some (.cells cs 49 (0,0))) (hc:∀ (i:Nat) (v:Value),(rowOf ks)[i]?=some v→cs[i]?=some v)
  (m3:M rb=some (.cells #[.slice (some ⟨rr,0,none⟩) (n+1) (n+1)] 104 (0,0))) (m4:M rr=some (.cells rs 46 (0,0)))
  (hr:∀ i,i≤n→∃ f cf,rs[i]?=some (.func (.func f) #[] cf)∧OkF f∧∀ q,q≤L→At L M K f cf q (pl L (seqL (ends (ks.drop i))) q)) (hk:∀ k∈ks,KdOK L M K N k) :
  Pt L M K 68 #[.pointer (some ⟨kb,0,none⟩),.pointer (some ⟨rb,0,none⟩)] (seqL (ends ks)) (seqLS (prs ks)) N:=by
 intro M' K' R O w hM hK hI from_ to_ g l c2 out hij hj hm hg hs hl hN hc2 h100
 have m1w:w.cell? ⟨kb,0,none⟩=some (.slice (some ⟨kr,0,none⟩) n c):=hI.fz.at (hM _ _ m1) rfl
 obtain ⟨T,hT⟩:∃ T,T=seqLS (prs ks) from_ to_ out:=⟨_,rfl⟩
 have HS:Hid (Sx L M' K' R O w g (fun _=>False) w∧Spn w g out∧out.length=l∧seqL (ends (ks.drop 0)) from_ to_=true∧seqLS (prs (ks.drop 0)) from_ to_ out=T):=⟨Sx.start hI hg hs.lt (Below.refl _ _) (fun b h=>h.elim),hs,hl,hm,hT.symm⟩
 have HR:Hid (∀ i k,ks[i]?=some k→∀ W,In M' W→W.cell? ⟨kr,i*2,none⟩=some k.ve∧W.cell? ⟨kr,i*2+1,none⟩=some k.vp):=fun i k hi W hF=>⟨hF.at (hM _ _ m2) (hc _ _ (rowOf_get ks i k hi).1),hF.at (hM _ _ m2) (hc _ _ (rowOf_get ks i k hi).2)⟩
 have HQ:Hid (∀ i W,In M' W→W.cell? ⟨rb,0,none⟩=some (.slice (some ⟨rr,0,none⟩) (n+1) (n+1))∧∀ v,rs[i]?=some v→W.cell? ⟨rr,i,none⟩=some v):=fun i W hF=>⟨hF.at (hM _ _ m3) rfl,fun v hv=>hF.at (hM _ _ m4) hv⟩
 have HK:=hide (And.intro hk (And.intro hM (And.intro hK (And.intro hr (And.intro hn (And.intro hj (And.intro hN (And.intro hc2 h100))))))))
 rw [←hT]
 clear hT hs hl hm hI hk hM hK hr hn hN hc2 h100 m1 m2 m3 m4 hc hg
 go_enter Tryd.func68,Tryd.ntmps68
 go_wp2
 go_step3
 go_wp2
 go_step3
 go_wp2
 go_loopw [0,8,9,10,11,14] (fun v0 v8 v9 v10 v11 iv wr=>∃ (i f:Nat) (out2:List Int),i≤n∧f≤to_∧iv=.int .i64 i∧v0=.int .i64 f∧Hid (Sx L M' K' R O w g (fun _=>False) wr∧Spn wr g out2∧out2.length=l∧seqL (ends (ks.drop i)) f to_=true∧seqLS (prs (ks.drop i)) f to_ out2=T)) (fun _ _ _ _ _ iv _=>n-(intOf iv).toNat)
 case atStart=>exact ⟨0,from_,out,by omega,hij,rfl,rfl,HS⟩
 case round =>
  obtain ⟨i,f,out2,hi,hf,rfl,rfl,HX⟩:=hrel
  clear HS m1w
  by_cases hin:i=n
  ·have HE:Hid (Spn wr g T∧T.length=l∧Sx L M' K' R O w g (fun _=>False) wr):=by
    have h1:=HX.out.2.2.2.2
    rw [List.drop_eq_nil_of_le (by have:=HK.out.2.2.2.2.1;omega)] at h1
    have h1:out2=T:=h1
    rw [←h1]
    exact ⟨HX.out.2.1,HX.out.2.2.1,HX.out.1⟩
   subst hin
   clear HX HR HQ HK
   go_wp2
   rw [Exit.noGoto_normal]
   go_end0
   exact ⟨rfl,HE.out⟩
  ·have hin':i<n:=by omega
   have hiI:(i:Int)<(n:Int):=by omega
   obtain ⟨k,hk⟩:∃ k,ks[i]?=some k:=⟨_,List.getElem?_eq_getElem (by have:=HK.out.2.2.2.2.1;omega)⟩
   obtain ⟨fe,cf,he,hof,hAt⟩:=(HK.out.1 k (List.mem_of_getElem? hk)).e
   obtain ⟨fp,cfp,hep,hop,hPt⟩:=(HK.out.1 k (List.mem_of_getElem? hk)).p
   have hcf:=callF hof
   obtain ⟨q0,q1⟩:=HR.out i k hk wr HX.out.1.fz
   rw [he] at q0
   rw [hep] at q1
   have hdr:ks.drop i=k::ks.drop (i+1):=by
    rw [List.drop_eq_getElem_cons (by have:=HK.out.2.2.2.2.1;omega)]
    congr 1
    have:=List.getElem?_eq_getElem (l:=ks) (i:=i) (by have:=HK.out.2.2.2.2.1;omega)
    rw [hk] at this
    exact (Option.some.inj this).symm
   obtain ⟨h1,h2,h3,h4,h5⟩:=HX.out
   rw [hdr] at h4 h5
   obtain ⟨y,hy,hy1,hy2,hy3,hy4,hy5⟩:=seqL_cons _ _ _ _ h4
   rw [seqLS_cons _ _ _ _ _ hy] at h5
   have HY:=hide (And.intro hy3 (And.intro hy4 (And.intro hy5 (And.intro h5 h3))))
   have HL:=hide (RL.start h1 h2 #[.func (.func fe) #[] cf,.func (.func fp) #[] cfp] (hAt f (by have:=HK.out.2.2.2.2.2.1;omega)) HK.out.2.1 HK.out.2.2.1)
   obtain ⟨E,hE⟩:∃ E,E=pl L k.a f:=⟨_,rfl⟩
   rw [←hE] at HL
   have HEE:=hide hE
   have HPt:=hide hPt
   clear hE he hep h1 h2 h3 h4 h5 hy hy3 hy4 hy5 hdr hAt hPt HX hk
   obtain ⟨W0,hW0⟩:∃ W,W=wr:=⟨_,rfl⟩
   subst hW0
   go_wp2_with fail
   refine HL.out.mono ?_
   rintro e w1 ⟨rfl,hz1,hRL⟩
   have HPL:=hide hRL
   have hGB:W0.heap.size≠w1.heap.size:=by omega
   clear hRL HL q0 q1 hz1 hcf
   unfold psV
   go_wp2
   generalize w1.alloc (.cells #[.int .u64 (E:Nat),.int .u64 0] 62)=W2 at HPL ⊢
   generalize w1.heap.size=B2 at HPL hGB ⊢
   generalize W0.heap.size=G at HPL hGB ⊢
   go_loopw [0,11] (fun v0 v11 wx=>∃ e:Nat,v0=.int .i64 f∧v11=.int .i64 e∧y≤e∧e≤to_∧Hid (RL L M' K' R O w g G B2 E #[.func (.func fe) #[] cf,.func (.func fp) #[] cfp] out2 wx)) (fun _ v _=>(intOf v).toNat)
   case atStart=>exact ⟨_,rfl,rfl,by omega,by omega,HPL⟩
   case round =>
    obtain ⟨en,rfl,rfl,he1,he2,HP2⟩:=hrel
    clear HPL
    have hge:(f:Int)≤(en:Int):=by omega
    have h2:=HP2.out
    have c0:=h2.ends.c0
    have c1:=h2.ends.c1
    obtain ⟨b,hb⟩:∃ b,b=(k.a f en && seqL (ends (ks.drop (i+1))) en to_):=⟨_,rfl⟩
    go_upto_region 7 with fail
    go_cut [42] from 29 to 41 (fun v wx=>v=.bool b∧Hid (RL L M' K' R O w g G B2 E #[.func (.func fe) #[] cf,.func (.func fp) #[] cfp] out2 wx))
    case first =>
     have hTo:to_≤22:=by have:=HK.out.2.2.2.2.2.1;omega
     have hEn:en≤22:=by omega
     obtain ⟨KK,hK9⟩:∃ KK,KK=i+1:=⟨_,rfl⟩
     obtain ⟨MM,hM9⟩:∃ MM,MM=n+1:=⟨_,rfl⟩
     have hwK:IntKind.i64.wrap ((i:Int)+1)=(KK:Int):=by rw [IntKind.wrap_i64];omega
     have hKM:(KK:Int)<(MM:Int):=by omega
     obtain ⟨f2,cf2,hv2,hof2,hAt2⟩:=HK.out.2.2.2.1 KK (by omega)
     have hcf2:=callF hof2
     have HF:Hid (∀ wx,RL L M' K' R O w g G B2 E #[.func (.func fe) #[] cf,.func (.func fp) #[] cfp] out2 wx→wx.cell? ⟨rb,0,none⟩=some (.slice (some ⟨rr,0,none⟩) MM MM)∧wx.cell? ⟨rr,KK,none⟩=some (.func (.func f2) #[] cf2)):=by
      refine hide (fun wx h => ?_)
      have h9:=HQ.out KK wx h.sx.fz
      rw [hM9]
      exact ⟨h9.1,h9.2 _ hv2⟩
     obtain ⟨X,hX⟩:∃ X,X=pl L (seqL (ends (ks.drop KK))) en:=⟨_,rfl⟩
     have hXlt:X<18446744073709551616:=by rw [hX];exact pl_64 hL _ _
     have hElt:E<18446744073709551616:=by rw [HEE.out];exact pl_64 hL _ _
     have hEb:E.testBit en=k.a f en:=by rw [HEE.out,bit_pl];simp;intro _;have:=HK.out.2.2.2.2.2.1;omega
     have hXb:X.testBit to_=seqL (ends (ks.drop (i+1))) en to_:=by rw [hX,bit_pl,hK9];simp;intro _;exact HK.out.2.2.2.2.2.1
     have HHt:Hid (∀ wx,RL L M' K' R O w g G B2 E #[.func (.func fe) #[] cf,.func (.func fp) #[] cfp] out2 wx→Calls Tryd.prog 23 #[.agg #[.int .u64 (X:Nat),.int .u64 0],.int .i64 (to_:Nat)] wx fun r w'=>r=.returned (.bool (X.testBit to_))∧RL L M' K' R O w g G B2 E #[.func (.func fe) #[] cf,.func (.func fp) #[] cfp] out2 w'):=hide (fun wx h=>(has_any wx X to_ hTo hXlt).mono (by rintro r w' ⟨h1,h2⟩;exact ⟨h1,h.below h2⟩))
     have HA:Hid (∀ wx,RL L M' K' R O w g G B2 E #[.func (.func fe) #[] cf,.func (.func fp) #[] cfp] out2 wx→Calls Tryd.prog f2 (#[.int .i64 (en:Nat)]++cf2) wx fun e w'=>e=.returned (.agg #[.int .u64 (X:Nat),.int .u64 0])∧RL L M' K' R O w g G B2 E #[.func (.func fe) #[] cf,.func (.func fp) #[] cfp] out2 w'):=hide (fun wx h=>by
      have h9:=h.ask (hAt2 en (by have:=HK.out.2.2.2.2.2.1;omega)) HK.out.2.1 HK.out.2.2.1
      rw [←hX] at h9
      exact h9)
     rw [hXb] at HHt
     have HHe:Hid (∀ wx,RL L M' K' R O w g G B2 E #[.func (.func fe) #[] cf,.func (.func fp) #[] cfp] out2 wx→Calls Tryd.prog 23 #[.agg #[.int .u64 (E:Nat),.int .u64 0],.int .i64 (en:Nat)] wx fun r w'=>r=.returned (.bool (k.a f en))∧RL L M' K' R O w g G B2 E #[.func (.func fe) #[] cf,.func (.func fp) #[] cfp] out2 w'):=hide (fun wx h=>(has_any wx E en hEn hElt).mono (by rintro r w' ⟨h1,h2⟩;rw [hEb] at h1;exact ⟨h1,h.below h2⟩))
     clear hX hEb hXb hK9 hM9 hv2 hof2 hAt2 HY HPt HQ HR HEE HK
     generalize k.a f en=b1 at hb HHe
     generalize seqL (ends (ks.drop (i+1))) en to_=b2 at hb HHt
     cases b1 with
     | false =>
      clear HA HHt
      go_wp2_with (go_at_call 23;with_reducible (refine (HHe.out _ ?_).mono ?_);exact h2;rintro e w3 ⟨rfl,h3⟩;have H3:=hide h3)
      go_meet
      exact ⟨by rw [hb];rfl,H3⟩
     | true =>
      rw [Bool.true_and] at hb
      go_wp2_with (first | (go_at_call 23;with_reducible (refine (HHt.out _ ?_).mono ?_);exact h4;rintro e w5 ⟨rfl,h5⟩;have H5:=hide h5) | (go_at_call 23;with_reducible (refine (HHe.out _ ?_).mono ?_);exact h2;rintro e w3 ⟨rfl,h3⟩;obtain ⟨r1,r2⟩:=HF.out _ h3) | (with_reducible (refine (HA.out _ ?_).mono ?_);exact h3;rintro e w4 ⟨rfl,h4⟩))
      go_meet
      exact ⟨by rw [hb],H5⟩
    case rest =>
     obtain ⟨rfl,HC⟩:=hcut
     clear HP2 h2 c0 c1
     by_cases hey:en=y
     ·subst hey
      have hb2:b=true:=by rw [hb,HY.out.1,HY.out.2.1];rfl
      subst hb2
      clear hb
      have k1:wc.cell? ⟨G,1,none⟩=some (.func (.func fp) #[] cfp):=by
       have h9:=HC.out.kid
       simp [World.cell?,h9]
      have hcp:=callF hop
      have HZ:=hide (HC.out.part HPt.out HK.out.2.1 HK.out.2.2.1 (by omega) (by have:=HK.out.2.2.2.2.2.1;omega) HY.out.1 HY.out.2.2.2.2 HK.out.2.2.2.2.2.2.1 HK.out.2.2.2.2.2.2.2.1 HK.out.2.2.2.2.2.2.2.2)
      go_wp2_with fail
      refine HZ.out.mono ?_
      rintro e w6 ⟨rfl,z1,z2,z3⟩
      have HN:Hid (Sx L M' K' R O w g (fun _=>False) w6∧Spn w6 g (k.s f en out2)∧(k.s f en out2).length=l∧seqL (ends (ks.drop (i+1))) en to_=true∧seqLS (prs (ks.drop (i+1))) en to_ (k.s f en out2)=T):=⟨z3,z1,z2,HY.out.2.1,HY.out.2.2.2.1⟩
      clear z1 z2 z3 HZ HC k1
      go_wp2
      exact ⟨⟨i+1,en,_,by omega,by omega,by go_num,rfl,HN⟩,by simp [intOf];omega⟩
     ·have hb2:b=false:=by rw [hb];exact HY.out.2.2.1 en (by omega) (by omega)
      subst hb2
      go_wp2
      go_roundw
      case rel=>exact ⟨en-1,rfl,by go_num,by omega,by omega,HC⟩
      case measure=>simp [intOf];omega
end Go.Proofs.YtfhimmnoipfiaaaDoor.eng
