import Derived.Test.YtfhimmnoipfiaaaDoorUSrc
import Derived.Laws.Tables
import Derived.Laws.Rows
namespace Go.Proofs.YtfhimmnoipfiaaaDoor.letters
open Go.ChangeShapes Go.WideShapes Go.ChangeAt Go.RowKit
open bytes pile src
set_option linter.unusedVariables false
theorem str_app (xs ys:List Int):strOfNums xs++strOfNums ys=strOfNums (xs++ys):=by
 unfold strOfNums
 apply ByteArray.ext
 simp
set_option maxHeartbeats 1000000 in
theorem source_any (w:World) (ao:Option Addr) (cap:Nat) (xs:List Int) (hl:xs.length≤1048576) (h:RdA w (.slice ao xs.length cap) xs) :
  Calls Tryd.prog 15 #[.slice ao xs.length cap] w fun e w'=>e=.returned (.pointer (some ⟨w.heap.size,0,none⟩))∧(∃ sd,SS w' w.heap.size ao cap xs 0 sd)∧Below w.heap.size w w':=by
 have HG:Hid (∀ s:Int,0≤s→s<2147483648→SS (w.alloc (.cells #[.slice ao xs.length cap,.int .i64 0,.int .i64 s] 66)) w.heap.size ao cap xs 0 s):=by
  refine hide (fun s h0 h1=>⟨heap_alloc_new w _,h.below ((Below.refl _ _).alloc (Nat.le_refl _) _) (Nat.le_refl _),fun hp x hx => ?_,h0,h1⟩)
  obtain ⟨ao',cap',e,_,_,_,hc⟩:=h.1
  simp only [Value.slice.injEq] at e
  obtain ⟨rfl,_,rfl⟩:=e
  obtain ⟨b,off,e2,hc⟩:=hc hp
  rw [hx] at e2
  simp only [Option.some.injEq] at e2
  subst e2
  have:=cell_lt (hc 0 hp)
  simp at this ⊢
  omega
 have HB:Hid (∀ s:Int,Below w.heap.size w (w.alloc (.cells #[.slice ao xs.length cap,.int .i64 0,.int .i64 s] 66))):=hide (fun s=>(Below.refl _ _).alloc (Nat.le_refl _) _)
 clear h
 go_enter Tryd.func15,Tryd.ntmps15
 go_wp2
 go_ret
 exact ⟨rfl,⟨_,HG.out _ (by omega) (by omega)⟩,HB.out _⟩
set_option maxHeartbeats 1000000 in
theorem pick_any (w:World) (d:Nat) (ao:Option Addr) (cap:Nat) (xs:List Int) (at_:Nat) (sd:Int) (h:SS w d ao cap xs at_ sd) (hat:at_≤1000000000) (b n:Nat) (ss:List ByteArray) (hn:ss.length=n) (h1:2≤n) (h2:n≤256) (hbd:b≠d) (hb:b<w.heap.size)
  (hc:∀ i,i<n→w.cell? ⟨b,i,none⟩=some (.string (ss.getD i ⟨#[]⟩))) :
  Calls Tryd.prog 30 #[.pointer (some ⟨d,0,none⟩),.slice (some ⟨b,0,none⟩) n n] w fun e w'=>∃ (i a:Nat) (sd':Int),i<n∧e=.returned (.string (ss.getD i ⟨#[]⟩))∧a≤at_+3∧SS w' d ao cap xs a sd'∧Kept d w w':=by
 have HN:=hide (next_any w d ao cap xs at_ sd n (by omega) h (by omega))
 have HC:=hide hc
 clear h hc
 go_enter Tryd.func30,Tryd.ntmps30
 go_wp2_with fail
 refine HN.out.mono ?_
 rintro e w1 ⟨r,rfl,a,sd',r0,r1,ha,S1,K1⟩
 obtain ⟨i,rfl⟩:∃ i:Nat,r=(i:Int):=⟨r.toNat,by omega⟩
 have hi:i<n:=by omega
 have ci:w1.cell? ⟨b,i,none⟩=some (.string (ss.getD i ⟨#[]⟩)):=(World.cell?_of_block (K1.block b hb (by simp;exact hbd))).trans (HC.out i hi)
 have HF:Hid (SS w1 d ao cap xs a sd'∧Kept d w w1):=hide ⟨S1,K1⟩
 obtain ⟨S,hS⟩:∃ S,S=ss.getD i ⟨#[]⟩:=⟨_,rfl⟩
 rw [←hS] at ci
 have HS:=hide hS
 clear S1 K1 HN HC r0 r1 hS
 go_wp2
 go_ret
 exact ⟨i,a,sd',hi,by rw [←HS.out];rfl,ha,HF.out.1,HF.out.2⟩
def letterS:List ByteArray:=[⟨#[97]⟩,⟨#[98]⟩,⟨#[99]⟩,⟨#[49]⟩,⟨#[120]⟩]
def Letter (c:Int):Prop:=c=97∨c=98∨c=99∨c=49∨c=120
theorem letter_of (i:Nat) (h:i<5):∃ c,Letter c∧letterS.getD i ⟨#[]⟩=strOfNums [c]:=by
 rcases (show i=0∨i=1∨i=2∨i=3∨i=4 by omega) with rfl | rfl | rfl | rfl | rfl
 ·exact ⟨97,by simp [Letter],rfl⟩
 ·exact ⟨98,by simp [Letter],rfl⟩
 ·exact ⟨99,by simp [Letter],rfl⟩
 ·exact ⟨49,by simp [Letter],rfl⟩
 ·exact ⟨120,by simp [Letter],rfl⟩
def wordS:List ByteArray:=[⟨#[97]⟩,⟨#[98]⟩,⟨#[97]⟩,⟨#[98]⟩,⟨#[99]⟩,⟨#[120]⟩,⟨#[32]⟩,⟨#[49]⟩,⟨#[95]⟩,⟨#[46]⟩]
def WordB (c:Int):Prop:=0≤c∧c≤255
theorem word_of (i:Nat) (h:i<10):∃ c,WordB c∧wordS.getD i ⟨#[]⟩=strOfNums [c]:=by
 rcases (show i=0∨i=1∨i=2∨i=3∨i=4∨i=5∨i=6∨i=7∨i=8∨i=9 by omega) with rfl | rfl | rfl | rfl | rfl | rfl | rfl | rfl | rfl | rfl
 ·exact ⟨97,by simp [WordB],rfl⟩
 ·exact ⟨98,by simp [WordB],rfl⟩
 ·exact ⟨97,by simp [WordB],rfl⟩
 ·exact ⟨98,by simp [WordB],rfl⟩
 ·exact ⟨99,by simp [WordB],rfl⟩
 ·exact ⟨120,by simp [WordB],rfl⟩
 ·exact ⟨32,by simp [WordB],rfl⟩
 ·exact ⟨49,by simp [WordB],rfl⟩
 ·exact ⟨95,by simp [WordB],rfl⟩
 ·exact ⟨46,by simp [WordB],rfl⟩
theorem kept_below {d:Nat} {a w w':World} (h:Below d a w) (k:Kept d w w') (hd:d≤w.heap.size):Below d a w':=h.grown k hd (fun j hj=>by simp at hj;omega)
theorem pick_new (P:Int→Prop) (ss:List ByteArray) (cs:Array Value) (hcs:cs.toList=ss.map Value.string) (n:Nat) (hn:ss.length=n) (h1:2≤n) (h2:n≤256) (hP:∀ i,i<n→∃ c,P c∧ss.getD i ⟨#[]⟩=strOfNums [c])
  (w:World) (d:Nat) (ao:Option Addr) (cap:Nat) (xs:List Int) (at_:Nat) (sd:Int) (h:SS w d ao cap xs at_ sd) (hat:at_≤1000000000) :
  Calls Tryd.prog 30 #[.pointer (some ⟨d,0,none⟩),.slice (some ⟨w.heap.size,0,none⟩) n n] (w.alloc (.cells cs 9)) fun e w'=>∃ (c:Int) (a:Nat) (sd':Int),P c∧e=.returned (.string (strOfNums [c]))∧a≤at_+3∧SS w' d ao cap xs a sd'∧Below d w w':=by
 have hd:=h.lt
 have hA:Below w.heap.size w (w.alloc (.cells cs 9)):=(Below.refl _ _).alloc (Nat.le_refl _) _
 refine (pick_any (w.alloc (.cells cs 9)) d ao cap xs at_ sd (h.below hA) hat w.heap.size n ss hn h1 h2 (by omega) (by simp) (fun i hi => ?_)).mono ?_
 ·have hb:(w.alloc (.cells cs 9)).heap[w.heap.size]?=some (.cells cs 9 (0,0)):=heap_alloc_new w _
  simp only [World.cell?,hb]
  have e:cs[i]?=some (.string (ss.getD i ⟨#[]⟩)):=by
   rw [←Array.getElem?_toList,hcs,List.getElem?_map,List.getD_eq_getElem?_getD,List.getElem?_eq_getElem (by omega:i<ss.length)]
   rfl
  simpa using e
 ·rintro e w' ⟨i,a,sd',hi,rfl,ha,S1,K1⟩
  obtain ⟨c,hc,e⟩:=hP i hi
  exact ⟨c,a,sd',hc,by rw [e],ha,S1,kept_below (hA.mono (by omega)) K1 (by simp;omega)⟩
set_option maxHeartbeats 2000000 in
theorem words_any (w:World) (d:Nat) (ao:Option Addr) (cap:Nat) (xs:List Int) (sd:Int) (h:SS w d ao cap xs 0 sd) :
  Calls Tryd.prog 17 #[.pointer (some ⟨d,0,none⟩),.int .i64 14] w fun e w'=>∃ ys:List Int,e=.returned (.string (strOfNums ys))∧ys.length≤14∧(∀ y∈ys,WordB y)∧Below d w w':=by
 have HN:=hide (next_any w d ao cap xs 0 sd 15 (by omega) h (by omega))
 have hdw:=h.lt
 clear h
 go_enter Tryd.func17,Tryd.ntmps17
 go_wp2_with fail
 refine HN.out.mono ?_
 rintro e w2 ⟨r,rfl,a,sd',r0,r1,ha,S2,K2⟩
 obtain ⟨i,rfl⟩:∃ i:Nat,r=(i:Int):=⟨r.toNat,by omega⟩
 have hi:i<15:=by omega
 have HR0:Hid (SS w2 d ao cap xs a sd'∧Below d w w2):=hide ⟨S2,kept_below (Below.refl _ _) K2 (by omega)⟩
 clear HN S2 K2 r0 r1
 go_wp2
 go_loopw [5,6] (fun tv iv wr=>∃ (j a:Nat) (sd:Int) (ys:List Int),j≤14∧iv=.int .i64 j∧tv=.string (strOfNums ys)∧Hid (ys.length+j≤14∧(∀ y∈ys,WordB y)∧a+3*j≤100∧SS wr d ao cap xs a sd∧Below d w wr)) (fun _ iv _=>(intOf iv).toNat)
 case atStart=>exact ⟨i,a,sd',[],by omega,rfl,rfl,hide ⟨by simp <;> omega,by simp,by omega,HR0.out.1,HR0.out.2⟩⟩
 case round =>
  obtain ⟨j,a,sd,ys,hj,rfl,rfl,HR⟩:=hrel
  clear HR0
  by_cases h0:0<j
  ·have HPk:=hide (pick_new WordB wordS #[.string ⟨#[97]⟩,.string ⟨#[98]⟩,.string ⟨#[97]⟩,.string ⟨#[98]⟩,.string ⟨#[99]⟩,.string ⟨#[120]⟩,.string ⟨#[32]⟩,.string ⟨#[49]⟩,.string ⟨#[95]⟩,.string ⟨#[46]⟩] rfl 10 rfl (by decide) (by decide) word_of wr d ao cap xs a sd HR.out.2.2.2.1 (by have:=HR.out.2.2.1;omega))
   go_wp2_with fail
   refine HPk.out.mono ?_
   rintro e w3 ⟨c,a3,sd3,hc,rfl,ha3,S3,B3⟩
   have HR3:Hid ((ys++[c]).length+(j-1)≤14∧(∀ y∈ys++[c],WordB y)∧a3+3*(j-1)≤100∧SS w3 d ao cap xs a3 sd3∧Below d w w3):=by
    have h1:=HR.out
    refine hide ⟨by simp;omega,fun y hy => ?_,by omega,S3,h1.2.2.2.2.trans B3⟩
    rcases List.mem_append.1 hy with hy | hy
    ·exact h1.2.1 y hy
    ·simp at hy
     rw [hy]
     exact hc
   have HA:=hide (str_app ys [c])
   have hs1:(strOfNums ys).size≤14:=by rw [strOfNums_size];have:=HR.out.1;omega
   have hs2:(strOfNums [c]).size=1:=by rw [strOfNums_size];rfl
   clear HPk S3 B3 HR hc
   go_wp2
   go_roundw
   case rel=>exact ⟨j-1,a3,sd3,ys++[c],by omega,by congr 1;omega,by rw [←HA.out],HR3⟩
   case measure=>simp [intOf];omega
  ·obtain rfl:j=0:=by omega
   go_wp2
   go_ret
   exact ⟨ys,rfl,by have:=HR.out.1;omega,HR.out.2.1,HR.out.2.2.2.2⟩
set_option maxHeartbeats 1000000 in
theorem wordsOf_any (w:World) (ao:Option Addr) (cap:Nat) (xs:List Int) (hl:xs.length≤1048576) (h:RdA w (.slice ao xs.length cap) xs) :
  Calls Tryd.prog 6 #[.slice ao xs.length cap] w fun e w'=>∃ ys:List Int,e=.returned (.string (strOfNums ys))∧ys.length≤14∧(∀ y∈ys,WordB y)∧Below w.heap.size w w':=by
 have HS:=hide (source_any w ao cap xs hl h)
 clear h
 go_enter Tryd.func6,Tryd.ntmps6
 go_wp2_with fail
 refine HS.out.mono ?_
 rintro e w1 ⟨rfl,⟨sd,S1⟩,B1⟩
 have HW:=hide (words_any w1 w.heap.size ao cap xs sd S1)
 have HB1:=hide B1
 clear HS S1 B1
 go_wp2_with fail
 refine HW.out.mono ?_
 rintro e w2 ⟨ys,rfl,h1,h2,B2⟩
 have HF:=hide (And.intro h2 (HB1.out.trans B2))
 clear HW h2 B2 HB1
 go_wp2
 go_ret
 exact ⟨ys,rfl,h1,HF.out.1,HF.out.2⟩
end Go.Proofs.YtfhimmnoipfiaaaDoor.letters
