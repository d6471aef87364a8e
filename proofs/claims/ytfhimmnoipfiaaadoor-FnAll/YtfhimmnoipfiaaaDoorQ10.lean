import Derived.Test.YtfhimmnoipfiaaaDoorQ09
import Derived.Deep.QuietTactic
import Derived.BigQuiet
set_option linter.unusedVariables false
namespace Go.Proofs.YtfhimmnoipfiaaaDoor.eng
open rex
def Keeps (Q:List Int→Prop) (lo hi:Nat) (s:Sp):Prop:=∀ i j out,lo≤i→i≤j→j≤hi→Q out→Q (s i j out)
theorem keeps_id (Q:List Int→Prop) (lo hi:Nat):Keeps Q lo hi idS:=fun i j out _ _ _ h=>h
theorem keeps_seq {Q:List Int→Prop} {lo hi:Nat} (a b:B2) {s t:Sp} (hs:Keeps Q lo hi s) (ht:Keeps Q lo hi t):Keeps Q lo hi (seqS a b s t):=by
 intro i j out h1 h2 h3 h
 unfold seqS
 split
 ·next k hk =>
  have:=far_some hk
  exact ht k j _ (by omega) this.2.1 h3 (hs i k out h1 this.1 (by omega) h)
 ·exact h
theorem keeps_upTo {Q:List Int→Prop} {lo hi:Nat} (a:B2) {s:Sp} (hs:Keeps Q lo hi s):∀ t,Keeps Q lo hi (upToS a s t)
 | 0=>keeps_id _ _ _
 | t+1=>by
  intro i j out h1 h2 h3 h
  show Q (if i<j then (match far (i+1) (fun x=>a i x && upTo a t x j) j with | some k=>upToS a s t k j (s i k out) | none=>out) else out)
  by_cases c:i<j
  ·rw [if_pos c]
   cases hk:far (i+1) (fun x=>a i x && upTo a t x j) j with
   | some k =>
    have:=far_some hk
    exact keeps_upTo a hs t k j _ (by omega) this.2.1 h3 (hs i k out h1 (by omega) (by omega) h)
   | none=>exact h
  ·rw [if_neg c];exact h
theorem keeps_pw {Q:List Int→Prop} {lo hi:Nat} (a b:B2) {s t:Sp} (hs:Keeps Q lo hi s) (ht:Keeps Q lo hi t):∀ n,Keeps Q lo hi (pwS a b s t n)
 | 0=>ht
 | n+1=>keeps_seq a _ hs (keeps_pw a b hs ht n)
mutual
theorem keeps_sp (ts:List Int) {Q:List Int→Prop} {lo hi g0:Nat} (hQ:∀ n i j out,g0<n→lo≤i→i≤j→j≤hi→Q out→Q ((out.set (2*n) (i:Int)).set (2*n+1) (j:Int))):∀ (T:Tr) (g:Nat),g0≤g→NumT g T→Keeps Q lo hi (sp ts T)
 | .char b,g,hg,h=>keeps_id _ _ _
 | .any,g,hg,h=>keeps_id _ _ _
 | .set s,g,hg,h=>keeps_id _ _ _
 | .beg,g,hg,h=>keeps_id _ _ _
 | .fin,g,hg,h=>keeps_id _ _ _
 | .group n k,g,hg,h=>by
  rw [NumT] at h
  obtain ⟨rfl,h⟩:=h
  intro i j out h1 h2 h3 hq
  show Q (sp ts k i j ((out.set (2*(g+1)) (i:Int)).set (2*(g+1)+1) (j:Int)))
  exact keeps_sp ts hQ k (g+1) (by omega) h i j _ h1 h2 h3 (hQ (g+1) i j out (by omega) h1 h2 h3 hq)
 | .cat ks,g,hg,h=>by
  rw [NumT] at h
  exact keeps_spC ts hQ ks g hg h
 | .alt ks,g,hg,h=>by
  rw [NumT] at h
  exact keeps_spA ts hQ ks g hg h
 | .rep n m k,g,hg,h=>by
  rw [NumT] at h
  have hk:=keeps_sp ts hQ k g hg h
  refine keeps_pw _ _ hk ?_ n
  unfold moreS
  cases m with
  | none=>exact keeps_upTo _ hk _
  | some m=>exact keeps_upTo _ hk _
theorem keeps_spC (ts:List Int) {Q:List Int→Prop} {lo hi g0:Nat} (hQ:∀ n i j out,g0<n→lo≤i→i≤j→j≤hi→Q out→Q ((out.set (2*n) (i:Int)).set (2*n+1) (j:Int))):∀ (ks:List Tr) (g:Nat),g0≤g→NumK g ks→Keeps Q lo hi (spC ts ks)
 | [],g,hg,h=>keeps_id _ _ _
 | k::ks,g,hg,h=>by
  rw [NumK] at h
  exact keeps_seq _ _ (keeps_sp ts hQ k g hg h.1) (keeps_spC ts hQ ks (g+ngT k) (by omega) h.2)
theorem keeps_spA (ts:List Int) {Q:List Int→Prop} {lo hi g0:Nat} (hQ:∀ n i j out,g0<n→lo≤i→i≤j→j≤hi→Q out→Q ((out.set (2*n) (i:Int)).set (2*n+1) (j:Int))):∀ (ks:List Tr) (g:Nat),g0≤g→NumK g ks→Keeps Q lo hi (spA ts ks)
 | [],g,hg,h=>keeps_id _ _ _
 | k::ks,g,hg,h=>by
  rw [NumK] at h
  have h1:=keeps_sp ts hQ k g hg h.1
  have h2:=keeps_spA ts hQ ks (g+ngT k) (by omega) h.2
  intro i j out g1 g2 g3 hq
  show Q (if mt ts k i j=true then sp ts k i j out else spA ts ks i j out)
  split
  ·exact h1 i j out g1 g2 g3 hq
  ·exact h2 i j out g1 g2 g3 hq
end
theorem sp_low (ts:List Int) {T:Tr} (h:NumT 0 T) {i j:Nat} (hij:i≤j) (out:List Int) {x:Nat} (hx:x<2):(sp ts T i j out)[x]?=out[x]? :=
 keeps_sp ts (Q:=fun o=>o[x]?=out[x]?) (lo:=i) (hi:=j) (g0:=0) (fun n a b o hn _ _ _ ho=>by
  show ((o.set (2*n) _).set (2*n+1) _)[x]?=out[x]?
  rw [List.getElem?_set_ne (by omega),List.getElem?_set_ne (by omega)];exact ho) T 0 (Nat.le_refl _) h i j out (Nat.le_refl _) hij (Nat.le_refl _) rfl
theorem sp_len (ts:List Int) {T:Tr} (h:NumT 0 T) {i j:Nat} (hij:i≤j) (out:List Int):(sp ts T i j out).length=out.length :=
 keeps_sp ts (Q:=fun o=>o.length=out.length) (lo:=i) (hi:=j) (g0:=0) (fun n a b o hn _ _ _ ho=>by
  show ((o.set (2*n) _).set (2*n+1) _).length=_
  rw [List.length_set,List.length_set];exact ho) T 0 (Nat.le_refl _) h i j out (Nat.le_refl _) hij (Nat.le_refl _) rfl
def Within (i j:Nat) (o:List Int):Prop:=∀ k a b,o[2*k]?=some a→o[2*k+1]?=some b→(a = -1∧b = -1)∨((i:Int)≤a∧a≤b∧b≤(j:Int))
theorem sp_within (ts:List Int) {T:Tr} (h:NumT 0 T) {i j n:Nat} (hij:i≤j):Within i j (sp ts T i j (outs0 i j n)):=by
 refine keeps_sp ts (Q:=Within i j) (lo:=i) (hi:=j) (g0:=0) (fun n a b o hn h1 h2 h3 ho => ?_) T 0 (Nat.le_refl _) h i j _ (Nat.le_refl _) hij (Nat.le_refl _) ?_
 ·intro k x y hx hy
  by_cases e:k=n
  ·subst e
   rw [List.getElem?_set_ne (by omega)] at hx
   have lx:2*k<o.length:=by
    have:=(List.getElem?_eq_some_iff.1 hx).1
    simpa using this
   have ly:2*k+1<o.length:=by
    have:=(List.getElem?_eq_some_iff.1 hy).1
    simpa using this
   rw [List.getElem?_set_self lx] at hx
   rw [List.getElem?_set_self (by simpa using ly)] at hy
   simp only [Option.some.injEq] at hx hy
   right;omega
  ·rw [List.getElem?_set_ne (by omega),List.getElem?_set_ne (by omega)] at hx hy
   exact ho k x y hx hy
 ·intro k x y hx hy
  unfold outs0 at hx hy
  by_cases e:k=0
  ·subst e
   simp at hx hy
   right;omega
  ·rw [List.getElem?_append_right (by simp;omega)] at hx hy
   have lx:=List.mem_of_getElem? hx
   have ly:=List.mem_of_getElem? hy
   left
   exact ⟨(List.mem_replicate.1 lx).2,(List.mem_replicate.1 ly).2⟩
def allM (a:B2) (L:Nat):Nat→Int→Nat→List (Nat×Nat)
 | 0,_,_=>[]
 | f+1,last,p=>match firstB a L p with
  | none=>[]
  | some (i,j)=>(if i=j∧(i:Int)=last then [] else [(i,j)])++allM a L f (j:Int) (if i=j then j+1 else j)
theorem firstB_some {a:B2} {L:Nat}:∀ {p i j:Nat},firstB a L p=some (i,j)→p≤i∧i≤j∧j≤L∧a i j=true∧(∀ y,j<y→y≤L→a i y=false)∧∀ x y,p≤x→x<i→x≤y→y≤L→a x y=false:=by
 intro p i j h
 by_cases hp:p≤L
 ·induction hd:L-p generalizing p with
  | zero =>
   obtain rfl:p=L:=by omega
   rw [firstB_step a hp] at h
   cases e:far p (a p) p with
   | none=>rw [e,firstB_end a (by omega)] at h;cases h
   | some k =>
    rw [e] at h
    simp only [Option.some.injEq,Prod.mk.injEq] at h
    obtain ⟨rfl,rfl⟩:=h
    obtain ⟨h1,h2,h3,h4⟩:=far_some e
    exact ⟨Nat.le_refl _,h1,h2,h3,h4,fun x y g1 g2=>by omega⟩
  | succ d ih =>
   rw [firstB_step a hp] at h
   cases e:far p (a p) L with
   | none =>
    rw [e] at h
    obtain ⟨h1,h2,h3,h4,h5,h6⟩:=ih h (by omega) (by omega)
    refine ⟨by omega,h2,h3,h4,h5,fun x y g1 g2 g3 g4 => ?_⟩
    by_cases c:x=p
    ·subst c;exact far_none e y g3 g4
    ·exact h6 x y (by omega) g2 g3 g4
   | some k =>
    rw [e] at h
    simp only [Option.some.injEq,Prod.mk.injEq] at h
    obtain ⟨rfl,rfl⟩:=h
    obtain ⟨h1,h2,h3,h4⟩:=far_some e
    exact ⟨Nat.le_refl _,h1,h2,h3,h4,fun x y g1 g2=>by omega⟩
 ·rw [firstB_end a (by omega)] at h;cases h
theorem firstB_none {a:B2} {L:Nat}:∀ {p:Nat},firstB a L p=none→∀ x y,p≤x→x≤y→y≤L→a x y=false:=by
 intro p h x y h1 h2 h3
 by_cases c:a x y=true
 ·exfalso
  unfold firstB at h
  rw [List.findSome?_eq_none_iff] at h
  have:=h x (by rw [List.mem_range'_1];omega)
  rw [Option.map_eq_none_iff] at this
  rw [far_none this y h2 h3] at c
  cases c
 ·simpa using c
end Go.Proofs.YtfhimmnoipfiaaaDoor.eng
namespace Go.Proofs.YtfhimmnoipfiaaaDoor.eng
open Go.ChangeShapes Go.WideShapes Go.ChangeAt Go.RowKit
open bytes places sets tz rex
def EqB (L:Nat) (a b:B2) (s t:Sp):Prop:=∀ i j,i≤j→j≤L→a i j=b i j∧(b i j=true→∀ out,s i j out=t i j out)
theorem EqB.refl (L:Nat) (a:B2) (s:Sp):EqB L a a s s:=fun i j _ _=>⟨rfl,fun _ _=>rfl⟩
theorem EqB.trans {L:Nat} {a b c:B2} {s t u:Sp} (h:EqB L a b s t) (g:EqB L b c t u):EqB L a c s u:=fun i j h1 h2=>⟨(h i j h1 h2).1.trans (g i j h1 h2).1,fun hc out=>((h i j h1 h2).2 (by rw [(g i j h1 h2).1];exact hc) out).trans ((g i j h1 h2).2 hc out)⟩
theorem eq_seq {L:Nat} {a a' b b':B2} {s s' t t':Sp} (h:EqB L a a' s s') (g:EqB L b b' t t'):EqB L (seqB a b) (seqB a' b') (seqS a b s t) (seqS a' b' s' t'):=by
 intro i j hij hj
 have hf:∀ x,i≤x→x≤j→(a i x && b x j)=(a' i x && b' x j):=fun x h1 h2=>by rw [(h i x h1 (by omega)).1,(g x j h2 hj).1]
 refine ⟨exIn_congr hf,fun hm out => ?_⟩
 obtain ⟨p,hp⟩:=far_exIn hm
 obtain ⟨h1,h2,h3,_⟩:=far_some hp
 simp only [Bool.and_eq_true] at h3
 unfold seqS
 rw [far_congr hf,hp]
 show t p j (s i p out)=t' p j (s' i p out)
 rw [(h i p h1 (by omega)).2 h3.1,(g p j h2 hj).2 h3.2]
theorem eq_or {L:Nat} {a a' b b':B2} {s s' t t':Sp} (h:EqB L a a' s s') (g:EqB L b b' t t'):EqB L (fun i j=>a i j || b i j) (fun i j=>a' i j || b' i j) (fun i j out=>if a i j=true then s i j out else t i j out) (fun i j out=>if a' i j=true then s' i j out else t' i j out):=by
 intro i j hij hj
 refine ⟨by show (a i j || b i j)=(a' i j || b' i j);rw [(h i j hij hj).1,(g i j hij hj).1],fun hm out => ?_⟩
 have hm:(a' i j || b' i j)=true:=hm
 show (if a i j=true then s i j out else t i j out)=(if a' i j=true then s' i j out else t' i j out)
 rw [(h i j hij hj).1]
 by_cases c:a' i j=true
 ·rw [if_pos c,if_pos c];exact (h i j hij hj).2 c out
 ·rw [if_neg c,if_neg c]
  have c2:a' i j=false:=by simpa using c
  rw [c2,Bool.false_or] at hm
  exact (g i j hij hj).2 hm out
theorem eq_upTo {L:Nat} {a a':B2} {s s':Sp} (h:EqB L a a' s s'):∀ t,EqB L (upTo a t) (upTo a' t) (upToS a s t) (upToS a' s' t)
 | 0=>EqB.refl _ _ _
 | t+1=>by
  intro i j hij hj
  have ih:=eq_upTo h t
  have hf:∀ x,i+1≤x→x≤j→(a i x && upTo a t x j)=(a' i x && upTo a' t x j):=fun x h1 h2=>by rw [(h i x (by omega) (by omega)).1,(ih x j h2 hj).1]
  have e1:upTo a (t+1) i j=upTo a' (t+1) i j:=by
   show (decide (i=j) || exIn (i+1) j fun x=>a i x && upTo a t x j)=(decide (i=j) || exIn (i+1) j fun x=>a' i x && upTo a' t x j)
   rw [exIn_congr hf]
  refine ⟨e1,fun hm out => ?_⟩
  show (if i<j then (match far (i+1) (fun x=>a i x && upTo a t x j) j with | some k=>upToS a s t k j (s i k out) | none=>out) else out)=(if i<j then (match far (i+1) (fun x=>a' i x && upTo a' t x j) j with | some k=>upToS a' s' t k j (s' i k out) | none=>out) else out)
  by_cases c:i<j
  ·rw [if_pos c,if_pos c,far_congr hf]
   cases hp:far (i+1) (fun x=>a' i x && upTo a' t x j) j with
   | none=>rfl
   | some p =>
    obtain ⟨h1,h2,h3,_⟩:=far_some hp
    simp only [Bool.and_eq_true] at h3
    show upToS a s t p j (s i p out)=upToS a' s' t p j (s' i p out)
    rw [(h i p (by omega) (by omega)).2 h3.1,(ih p j h2 hj).2 h3.2]
  ·rw [if_neg c,if_neg c]
theorem eq_may {L:Nat} {a a':B2} {s s':Sp} {b:B2} {t:Sp} {n:Nat} (h:EqB L a a' s s') (g:EqB L b (mayB a' n) t (mayS a' s' n)):EqB L (fun i j=>decide (i=j) || seqB a b i j) (mayB a' (n+1)) (fun i j out=>if i<j then seqS a b s t i j out else out) (mayS a' s' (n+1)):=by
 intro i j hij hj
 have e:=eq_seq h g i j hij hj
 refine ⟨?_,fun hm out => ?_⟩
 ·show (decide (i=j) || seqB a b i j)=(decide (i=j) || seqB a' (mayB a' n) i j)
  rw [e.1]
 ·have hm:(decide (i=j) || seqB a' (mayB a' n) i j)=true:=hm
  show (if i<j then seqS a b s t i j out else out)=(if i<j then seqS a' (mayB a' n) s' (mayS a' s' n) i j out else out)
  by_cases c:i<j
  ·rw [if_pos c,if_pos c]
   have:decide (i=j)=false:=by simp;omega
   rw [this,Bool.false_or] at hm
   exact e.2 hm out
  ·rw [if_neg c,if_neg c]
theorem eq_mayUp (L:Nat) (a:B2) (s:Sp) (n:Nat):EqB L (mayB a n) (upTo a n) (mayS a s n) (upToS a s n):=fun i j _ _=>⟨mayB_eq a n i j,fun hm out=>mayS_eq a s n i j out hm⟩
theorem eq_one (L:Nat) (a:B2) (s:Sp):EqB L a (seqB a emptyB) s (seqS a emptyB s idS):=fun i j hij _=>⟨(seqB_empty a hij).symm,fun hm out=>(seqS_empty a s out hij (by rw [seqB_empty a hij] at hm;exact hm)).symm⟩
theorem eq_last (L:Nat) (a:B2) (s:Sp):EqB L a (fun i j=>a i j || false) s (fun i j out=>if a i j=true then s i j out else idS i j out):=fun i j hij _=>⟨by simp,fun hm out=>by
 have:a i j=true:=by simpa using hm
 simp [this]⟩
set_option maxRecDepth 20000 in
set_option maxHeartbeats 4000000 in
theorem both_any (ts:List Int) (N mb lo:Nat) (q:List Nq) (v:Value) (W:World) (a b:Nat) (y z:Nq) (h:MkSt ts N mb lo v W q v W) (hy:q[a]?=some y) (hz:q[b]?=some z) (hq:q.length≤700) :
  Calls Tryd.prog 80 #[.pointer (some ⟨mb,0,none⟩),.int .i64 (a:Int),.int .i64 (b:Int)] W fun e w'=>e=.returned (.int .i64 (q.length:Int))∧∃ v',MkSt ts N mb lo v W (q++[⟨7,0,⟨#[]⟩,a,b,seqB y.A z.A,seqS y.A z.A y.s z.s⟩]) v' w':=by
 have ha:=(List.getElem?_eq_some_iff.1 hy).1
 have hb:=(List.getElem?_eq_some_iff.1 hz).1
 have HC:=hide (add_any ts N mb lo q v W ⟨7,0,⟨#[]⟩,a,b,seqB y.A z.A,seqS y.A z.A y.s z.s⟩ h (by
  unfold NodeLaw
  iterate 10 right
  exact ⟨y,z,rfl,ha,hb,hy,hz,rfl,rfl⟩) hq)
 unfold Nq.cells at HC
 clear h hy hz
 go_enter Tryd.func80,Tryd.ntmps80
 go_wp2_with fail
 refine HC.out.mono ?_
 rintro e w5 ⟨rfl,h5⟩
 have HE:=hide h5
 clear h5 HC
 go_wp2
 go_ret
 exact ⟨rfl,HE.out⟩
end Go.Proofs.YtfhimmnoipfiaaaDoor.eng
namespace Go.Proofs.YtfhimmnoipfiaaaDoor.eng
open Go.ChangeShapes Go.WideShapes Go.ChangeAt Go.RowKit
open bytes places sets tz rex
def CanOk (m:Mac) (u:Nat):Prop:=∀ (W0 W:World) (tab0:Tb) (k i j:Nat) (x:Nq) (v:Nat),m.q[k]?=some x→i≤j→j≤m.ts.length→m.mu k i j<v→v≤u→CW m v W0 tab0 W →
 Calls Tryd.prog 35 #[.pointer (some ⟨m.mb,0,none⟩),.int .i64 (k:Int),.int .i64 (i:Int),.int .i64 (j:Int)] W fun e w'=>e=.returned (.bool (x.A i j))∧CW m v W0 tab0 w'
def FindOk (m:Mac) (k i j:Nat) (x:Nq):Prop:=∀ (W0 W:World) (tab0:Tb),CW m (m.mu k i j) W0 tab0 W →
 Calls Tryd.prog 56 #[.pointer (some ⟨m.mb,0,none⟩),.agg x.cells,.int .i64 (k:Int),.int .i64 (i:Int),.int .i64 (j:Int)] W fun e w'=>e=.returned (.bool (x.A i j))∧CW m (m.mu k i j) W0 tab0 w'
section
variable {m:Mac} {tab:Tb} {u v:Nat} {W0 W W':World} {tab0:Tb}
theorem CW.entry (h:CW m u W0 tab0 W) {k i j:Nat} (hk:k<m.q.length) (hi:i≤m.ts.length) (hj:j≤m.ts.length):∃ t:Nat,W.cell? ⟨m.kb,m.at k i j,none⟩=some (.int .u8 (t:Int))∧W.frozen? ⟨m.kb,m.at k i j,none⟩=false∧(i≤j→m.mu k i j<u→t=0∨∃ x,m.q[k]?=some x∧((t=1∧x.A i j=false)∨(t=2∧x.A i j=true))):=by
 obtain ⟨tb,h1,h2,h3⟩:=h.ex
 obtain ⟨cur,k1,k2⟩:=h1.known
 exact ⟨tb k i j,by simp [World.cell?,k1,k2 k i j hk hi hj],by simp [World.frozen?,k1],fun hij hmu=>h2 k i j hk hij hj hmu⟩
theorem CW.begin (h:CW m v W0 tab0 W) {k i j:Nat} (hk:k<m.q.length) (hij:i≤j) (hj:j≤m.ts.length) (hu:m.mu k i j<v):∃ tab1,(∀ k' i' j',v≤m.mu k' i' j'→tab1 k' i' j'=tab0 k' i' j')∧tab1 k i j=1∧(∀ k' i' j',k'<m.q.length→i'≤j'→j'≤m.ts.length→m.mu k' i' j'<v→(k'=k∧i'=i∧j'=j)∨Right m tab1 k' i' j')∧CW m (m.mu k i j) (W.setCell ⟨m.kb,m.at k i j,none⟩ (.int .u8 1)) tab1 (W.setCell ⟨m.kb,m.at k i j,none⟩ (.int .u8 1))∧W0.grownBy (W.setCell ⟨m.kb,m.at k i j,none⟩ (.int .u8 1)) (some m.kb):=by
 obtain ⟨tb,h1,h2,h3⟩:=h.ex
 have hs:∀ k' i' j',(tset tb k i j 1) k' i' j'=if k'=k∧i'=i∧j'=j then 1 else tb k' i' j':=fun _ _ _=>rfl
 have hr:∀ k' i' j',k'<m.q.length→i'≤j'→j'≤m.ts.length→m.mu k' i' j'<v→(k'=k∧i'=i∧j'=j)∨Right m (tset tb k i j 1) k' i' j':=by
  intro k' i' j' a b c d
  by_cases e:k'=k∧i'=i∧j'=j
  ·exact .inl e
  ·right
   have:=h2 k' i' j' a b c d
   unfold Right at this ⊢
   rw [hs,if_neg e]
   exact this
 refine ⟨tset tb k i j 1,fun k' i' j' hv => ?_,by rw [hs,if_pos ⟨rfl,rfl,rfl⟩],hr,⟨⟨_,h1.put hk (by omega) hj 1,fun k' i' j' a b c d => ?_,fun _ _ _ _=>rfl⟩,grown_of_below (Below.refl _ _)⟩,?_⟩
 ·rw [hs,if_neg (fun e=>by rw [e.1,e.2.1,e.2.2] at hv;omega)]
  exact h3 _ _ _ hv
 ·rcases hr k' i' j' a b c (by omega) with e | e
  ·rw [e.1,e.2.1,e.2.2] at d;omega
  ·exact e
 ·exact grown_trans h.gr ⟨rfl,rfl,rfl,by simp,fun b hb hn=>heap_setCell_other _ ⟨m.kb,m.at k i j,none⟩ b _ (fun e=>hn (by rw [e]))⟩
theorem CW.close {k i j:Nat} {x:Nq} {tab1:Tb} {W1 W2:World} (hx:m.q[k]?=some x) (hij:i≤j) (hj:j≤m.ts.length) (hu:m.mu k i j<v) (h0:∀ k' i' j',v≤m.mu k' i' j'→tab1 k' i' j'=tab0 k' i' j') (h1:tab1 k i j=1) (hr:∀ k' i' j',k'<m.q.length→i'≤j'→j'≤m.ts.length→m.mu k' i' j'<v→(k'=k∧i'=i∧j'=j)∨Right m tab1 k' i' j')
  (hg:W0.grownBy W1 (some m.kb)) (h2:CW m (m.mu k i j) W1 tab1 W2):(x.A i j=false→CW m v W0 tab0 W2∧W2.cell? ⟨m.kb,m.at k i j,none⟩=some (.int .u8 1))∧(x.A i j=true→W2.frozen? ⟨m.kb,m.at k i j,none⟩=false∧(∃ z,W2.cell? ⟨m.kb,m.at k i j,none⟩=some z)∧CW m v W0 tab0 (W2.setCell ⟨m.kb,m.at k i j,none⟩ (.int .u8 2))∧(W2.setCell ⟨m.kb,m.at k i j,none⟩ (.int .u8 2)).cell? ⟨m.kb,m.at k i j,none⟩=some (.int .u8 2)):=by
 have hk:=(List.getElem?_eq_some_iff.1 hx).1
 obtain ⟨tb,g1,g2,g3⟩:=h2.ex
 obtain ⟨cur,c1,c2⟩:=g1.known
 have hc:=c2 k i j hk (by omega) hj
 have htb:tb k i j=1:=(g3 k i j (Nat.le_refl _)).trans h1
 rw [htb] at hc
 have hr2:∀ k' i' j',k'<m.q.length→i'≤j'→j'≤m.ts.length→m.mu k' i' j'<v→(k'=k∧i'=i∧j'=j)∨Right m tb k' i' j':=by
  intro k' i' j' a b c d
  by_cases e:m.mu k' i' j'<m.mu k i j
  ·exact .inr (g2 k' i' j' a b c e)
  ·rcases hr k' i' j' a b c d with f | f
   ·exact .inl f
   ·right
    unfold Right at f ⊢
    rw [g3 k' i' j' (by omega)]
    exact f
 refine ⟨fun hA=>⟨⟨⟨tb,g1,fun k' i' j' a b c d => ?_,fun k' i' j' hv => ?_⟩,grown_trans hg h2.gr⟩,by simp [World.cell?,c1,hc]⟩,fun hA=>⟨by simp [World.frozen?,c1],⟨.int .u8 1,by simp [World.cell?,c1,hc]⟩,⟨⟨tset tb k i j 2,g1.put hk (by omega) hj 2,fun k' i' j' a b c d => ?_,fun k' i' j' hv => ?_⟩,?_⟩,?_⟩⟩
 ·rcases hr2 k' i' j' a b c d with ⟨rfl,rfl,rfl⟩|f
  ·exact .inr ⟨x,hx,.inl ⟨htb,hA⟩⟩
  ·exact f
 ·exact (g3 _ _ _ (by omega)).trans (h0 _ _ _ hv)
 ·by_cases e:k'=k∧i'=i∧j'=j
  ·obtain ⟨rfl,rfl,rfl⟩:=e
   exact .inr ⟨x,hx,.inr ⟨if_pos ⟨rfl,rfl,rfl⟩,hA⟩⟩
  ·rcases hr2 k' i' j' a b c d with f | f
   ·exact absurd f e
   ·unfold Right at f ⊢
    rw [show tset tb k i j 2 k' i' j'=tb k' i' j' from if_neg e]
    exact f
 ·rw [show tset tb k i j 2 k' i' j'=tb k' i' j' from if_neg (fun e=>by rw [e.1,e.2.1,e.2.2] at hv;omega)]
  exact (g3 _ _ _ (by omega)).trans (h0 _ _ _ hv)
 ·exact grown_trans hg (grown_trans h2.gr ⟨rfl,rfl,rfl,by simp,fun b hb hn=>heap_setCell_other _ ⟨m.kb,m.at k i j,none⟩ b _ (fun e=>hn (by rw [e]))⟩)
 ·rw [World.cell?_setCell_same' _ _ _ (by simp [World.cell?,c1,hc])]
end
set_option maxRecDepth 20000 in
set_option maxHeartbeats 8000000 in
theorem can_walk (m:Mac) (hl:m.ts.length≤22) (hq:m.q.length≤700) (u:Nat) (hf:∀ k i j x,m.q[k]?=some x→i≤j→j≤m.ts.length→m.mu k i j<u→FindOk m k i j x):CanOk m u:=by
 intro W0 W tab0 k i j x v hx hij hj hmu hvu hC
 have hk:=(List.getElem?_eq_some_iff.1 hx).1
 obtain ⟨t,ht1,ht2,ht3⟩:=hC.entry hk (by omega:i≤m.ts.length) hj
 have ht4:=ht3 hij hmu
 obtain ⟨tab1,b1,b2,b3,b4,b5⟩:=hC.begin hk hij hj hmu
 obtain ⟨W1,hW1⟩:∃ W1,W.setCell ⟨m.kb,m.at k i j,none⟩ (.int .u8 1)=W1:=⟨_,rfl⟩
 rw [hW1] at b4 b5
 have HF:=hide (hf k i j x hx hij hj (by omega) W1 W1 tab1 b4)
 have HZ:=hide (fun W2 (h:CW m (m.mu k i j) W1 tab1 W2)=>CW.close hx hij hj hmu b1 b2 b3 b5 h)
 obtain ⟨x0,x1,x2⟩:=hC.box
 obtain ⟨y0,y1,y2⟩:=b4.box
 obtain ⟨n0,n1,n2,n3,n4⟩:=b4.node hx
 have hS:=strOfNums_size m.ts
 have hat:=at_lt m hk (by omega:i≤m.ts.length) hj
 obtain ⟨AT,hAT⟩:∃ AT,AT=m.at k i j:=⟨_,rfl⟩
 have hsz:m.q.length*(m.ts.length+1)*(m.ts.length+1)≤700*23*23:=Nat.mul_le_mul (Nat.mul_le_mul hq (by omega)) (by omega)
 rw [←hAT] at hat ht1 ht2 hW1 HZ
 unfold Mac.at at hAT
 obtain ⟨P1,hP1⟩:∃ P1,P1=k*(m.ts.length+1):=⟨_,rfl⟩
 obtain ⟨P2,hP2⟩:∃ P2,P2=(P1+i)*(m.ts.length+1):=⟨_,rfl⟩
 rw [←hP1,←hP2] at hAT
 obtain ⟨L1,hL1⟩:∃ L1,L1=m.ts.length+1:=⟨_,rfl⟩
 have e1:IntKind.i64.wrap ((m.ts.length:Int)+1)=(L1:Int):=by rw [IntKind.wrap_i64];omega
 rw [←hL1] at hP1 hP2
 have hPb:P2≤370300:=by omega
 have hP1b:P1≤370300:=by
  have:P1+i≤(P1+i)*L1:=Nat.le_mul_of_pos_right _ (by omega)
  omega
 have e2:(k:Int)*(L1:Int)=(P1:Int):=by rw [hP1];push_cast;rfl
 have e3:IntKind.i64.wrap (P1:Int)=(P1:Int):=by rw [IntKind.wrap_i64];omega
 obtain ⟨Q1,hQ1⟩:∃ Q1,Q1=P1+i:=⟨_,rfl⟩
 have e4:IntKind.i64.wrap ((P1:Int)+(i:Int))=(Q1:Int):=by rw [IntKind.wrap_i64];omega
 rw [←hQ1] at hP2
 have e5:(Q1:Int)*(L1:Int)=(P2:Int):=by rw [hP2];push_cast;rfl
 have e6:IntKind.i64.wrap (P2:Int)=(P2:Int):=by rw [IntKind.wrap_i64];omega
 have e7:IntKind.i64.wrap ((P2:Int)+(j:Int))=(AT:Int):=by rw [IntKind.wrap_i64];omega
 obtain ⟨KL,hKL⟩:∃ KL,KL=m.q.length*(m.ts.length+1)*(m.ts.length+1):=⟨_,rfl⟩
 rw [←hKL] at hat hsz x2 y2
 have HKL:=hide hKL
 clear hKL
 clear b1 b2 b3 b4 b5 hf hAT hP1 hP2 hL1 hQ1 hPb hP1b
 generalize strOfNums m.ts=S at *
 unfold Nq.cells at HF
 rcases ht4 with rfl | ⟨x',hx',ht5⟩
 ·have HX:=hide hmu
  clear hC hmu hij hj hx ht3
  go_enter Tryd.func35,Tryd.ntmps35
  go_wp2_with fail
  refine HF.out.mono ?_
  rintro e w5 ⟨rfl,h5⟩
  obtain ⟨z0,z1,z2⟩:=h5.box
  rw [←HKL.out] at z2
  obtain ⟨c1,c2⟩:=HZ.out w5 h5
  clear h5 HF y0 y1 y2 n0 n1 n2 n3 n4 ht1 ht2 x0 x1 x2
  cases hA:x.A i j with
  | false =>
   obtain ⟨d1,d2⟩:=c1 hA
   have HE:=hide d1
   clear c1 c2 d1 HZ
   go_wp2
   go_ret
   exact ⟨by rw [hA];rfl,HE.out⟩
  | true =>
   obtain ⟨d1,⟨d2,d3⟩,d4,d5⟩:=c2 hA
   obtain ⟨r0,r1,r2⟩:=d4.box
   rw [←HKL.out] at r2
   have HE:=hide d4
   clear c1 c2 d4 HZ
   obtain ⟨W6,hW6⟩:∃ W6,w5.setCell ⟨m.kb,AT,none⟩ (.int .u8 2)=W6:=⟨_,rfl⟩
   rw [hW6] at HE d5 r0 r1 r2
   go_wp2
   go_ret
   exact ⟨by rw [hA];rfl,HE.out⟩
 ·obtain rfl:x'=x:=by rw [hx] at hx';exact (Option.some.inj hx').symm
  have hC9:=hide hC
  clear hC HF HZ hmu hij hj hx hx' ht3 n0 n1 n2 n3 n4 y0 y1 y2 hW1
  rcases ht5 with ⟨rfl,hA⟩|⟨rfl,hA⟩
  ·rw [hA]
   go_enter Tryd.func35,Tryd.ntmps35
   go_wp2
   go_ret
   exact ⟨rfl,hC9.out⟩
  ·rw [hA]
   go_enter Tryd.func35,Tryd.ntmps35
   go_wp2
   go_ret
   exact ⟨rfl,hC9.out⟩
def splitV (least:Nat) (f:Nat→Bool) (j:Nat):Int:=match far least f j with
 | some k=>(k:Int)
 | none => -1
theorem far_drop {least:Nat} {f:Nat→Bool}:∀ {j:Nat},least≤j→far least f j=if f j=true then some j else if least<j then far least f (j-1) else none
 | 0,h=>by
  unfold far
  by_cases c:f 0=true <;> simp [c];omega
 | j+1,h=>by
  show (if j+1<least then none else if f (j+1)=true then some (j+1) else far least f j)=_
  rw [if_neg (by omega)]
  by_cases c:f (j+1)=true
  ·simp [c]
  ·simp only [c]
   by_cases d:least<j+1
   ·simp [d]
   ·rw [if_neg d]
    have:far least f j=none:=by
     cases hf:far least f j with
     | none=>rfl
     | some k=>have:=far_some hf;omega
    simp [this]
set_option maxRecDepth 20000 in
set_option maxHeartbeats 8000000 in
theorem split_any (m:Mac) (hl:m.ts.length≤22) (u v:Nat) (hc:CanOk m u) (W0 W:World) (tab0:Tb) (a b i j least:Nat) (y z:Nq) (hy:m.q[a]?=some y) (hz:m.q[b]?=some z) (hli:i≤least) (hlj:least≤j+1) (hj:j≤m.ts.length) (hv:v≤u) (hm1:∀ k,least≤k→k≤j→m.mu a i k<v) (hm2:∀ k,least≤k→k≤j→m.mu b k j<v) (hC:CW m v W0 tab0 W) :
  Calls Tryd.prog 57 #[.pointer (some ⟨m.mb,0,none⟩),.int .i64 (a:Int),.int .i64 (b:Int),.int .i64 (i:Int),.int .i64 (j:Int),.int .i64 (least:Int)] W fun e w'=>e=.returned (.int .i64 (splitV least (fun x=>y.A i x && z.A x j) j))∧CW m v W0 tab0 w':=by
 have HC1:Hid (∀ W k,least≤k→k≤j→CW m v W0 tab0 W→Calls Tryd.prog 35 #[.pointer (some ⟨m.mb,0,none⟩),.int .i64 (a:Int),.int .i64 (i:Int),.int .i64 (k:Int)] W fun e w'=>e=.returned (.bool (y.A i k))∧CW m v W0 tab0 w'):=hide fun W k h1 h2 h=>hc W0 W tab0 a i k y v hy (by omega) (by omega) (hm1 k h1 h2) hv h
 have HC2:Hid (∀ W k,least≤k→k≤j→CW m v W0 tab0 W→Calls Tryd.prog 35 #[.pointer (some ⟨m.mb,0,none⟩),.int .i64 (b:Int),.int .i64 (k:Int),.int .i64 (j:Int)] W fun e w'=>e=.returned (.bool (z.A k j))∧CW m v W0 tab0 w'):=hide fun W k h1 h2 h=>hc W0 W tab0 b k j z v hz (by omega) (by omega) (hm2 k h1 h2) hv h
 have HX0:=hide hC
 obtain ⟨f,hf⟩:∃ f:Nat→Bool,f=fun x=>y.A i x && z.A x j:=⟨_,rfl⟩
 rw [←hf]
 have hfx:∀ x,f x=(y.A i x && z.A x j):=fun x=>by rw [hf]
 obtain ⟨RES,hRES⟩:∃ RES,RES=splitV least f j:=⟨_,rfl⟩
 rw [←hRES]
 have HR:=hide hRES
 clear hc hy hz hm1 hm2 hC hf hRES
 go_enter Tryd.func57,Tryd.ntmps57
 go_wp2
 go_loopw [13] (fun v13 wr=>∃ k:Int,least≤k+1∧k≤j∧v13=.int .i64 k∧Hid (CW m v W0 tab0 wr∧((least:Int)≤k→RES=splitV least f k.toNat)∧(k<least→RES = -1))) (fun v13 _=>((intOf v13)+1).toNat)
 case atStart=>exact ⟨j,by omega,by omega,rfl,hide ⟨HX0.out,fun _=>HR.out,fun h=>by rw [HR.out];unfold splitV;cases hf:far least f j with | none=>rfl | some x=>(have:=far_some hf;omega)⟩⟩
 case round =>
  obtain ⟨k0,hk1,hk2,rfl,HX⟩:=hrel
  clear HX0 HR
  by_cases hk:(least:Int)≤k0
  ·obtain ⟨k,rfl⟩:∃ k:Nat,k0=(k:Int):=⟨k0.toNat,by omega⟩
   have hkn:least≤k:=by omega
   have hkj:k≤j:=by omega
   have hst:=far_drop (f:=f) hkn
   have hRES:RES=splitV least f k:=HX.out.2.1 hk
   have hkw:IntKind.i64.wrap ((k:Int)-1)=(k:Int)-1:=by rw [IntKind.wrap_i64];omega
   have H1:=hide (HC1.out wr k hkn hkj HX.out.1)
   have H2:=hide (fun W h=>HC2.out W k hkn hkj h)
   rw [hfx k] at hst
   unfold splitV at hRES
   rw [hst] at hRES
   clear HC1 HC2 hst hfx HX
   cases hA:y.A i k with
   | false =>
    rw [hA] at hRES H1
    have hRES2:RES=match (if least<k then far least f (k-1) else none) with | some x=>(x:Int) | none => -1:=hRES
    have HS:=hide hRES2
    clear hRES hRES2 hA H2
    go_wp2_with fail
    refine H1.out.mono ?_
    rintro e w5 ⟨rfl,h5⟩
    have HE:=hide h5
    clear h5 H1
    go_wp2
    go_roundw
    case rel=>exact ⟨(k:Int)-1,by omega,by omega,rfl,hide ⟨HE.out,fun h=>by rw [HS.out,if_pos (by omega),show ((k:Int)-1).toNat=k-1 by omega];rfl,fun h=>by rw [HS.out,if_neg (by omega)]⟩⟩
    case measure=>simp [intOf]
   | true =>
    rw [hA] at hRES H1
    cases hZ:z.A k j with
    | false =>
     rw [hZ] at hRES H2
     have hRES2:RES=match (if least<k then far least f (k-1) else none) with | some x=>(x:Int) | none => -1:=hRES
     have HS:=hide hRES2
     clear hRES hRES2 hA hZ
     go_wp2_with fail
     refine H1.out.mono ?_
     rintro e w5 ⟨rfl,h5⟩
     have HE:=hide (H2.out w5 h5)
     clear h5 H1 H2
     go_wp2_with fail
     refine HE.out.mono ?_
     rintro e w6 ⟨rfl,h6⟩
     have HE2:=hide h6
     clear h6 HE
     go_wp2
     go_roundw
     case rel=>exact ⟨(k:Int)-1,by omega,by omega,rfl,hide ⟨HE2.out,fun h=>by rw [HS.out,if_pos (by omega),show ((k:Int)-1).toNat=k-1 by omega];rfl,fun h=>by rw [HS.out,if_neg (by omega)]⟩⟩
     case measure=>simp [intOf]
    | true =>
     rw [hZ] at hRES H2
     have hRES2:RES=(k:Int):=hRES
     have HS:=hide hRES2
     clear hRES hRES2 hA hZ
     go_wp2_with fail
     refine H1.out.mono ?_
     rintro e w5 ⟨rfl,h5⟩
     have HE:=hide (H2.out w5 h5)
     clear h5 H1 H2
     go_wp2_with fail
     refine HE.out.mono ?_
     rintro e w6 ⟨rfl,h6⟩
     have HE2:=hide h6
     clear h6 HE
     go_wp2
     go_ret
     exact ⟨by rw [HS.out];rfl,HE2.out⟩
  ·have hRES:RES = -1:=HX.out.2.2 (by omega)
   have HE:=hide (And.intro HX.out.1 hRES)
   clear hRES HX HC1 HC2 hfx
   go_wp2
   go_ret
   exact ⟨by rw [HE.out.2];rfl,HE.out.1⟩
end Go.Proofs.YtfhimmnoipfiaaaDoor.eng
namespace Go.Proofs.YtfhimmnoipfiaaaDoor.eng
open Go.ChangeShapes Go.WideShapes Go.ChangeAt Go.RowKit
open bytes places sets tz rex
section
variable {m:Mac} {v:Nat} {W0 W:World} {tab0:Tb}
theorem CW.self (h:CW m v W0 tab0 W):∃ tab1,CW m v W tab1 W∧∀ w',CW m v W tab1 w'→CW m v W0 tab0 w':=by
 obtain ⟨tb,h1,h2,h3⟩:=h.ex
 refine ⟨tb,⟨⟨tb,h1,h2,fun _ _ _ _=>rfl⟩,grown_of_below (Below.refl _ _)⟩,fun w' h' => ?_⟩
 obtain ⟨tb',g1,g2,g3⟩:=h'.ex
 exact ⟨⟨tb',g1,g2,fun k i j hu=>(g3 k i j hu).trans (h3 k i j hu)⟩,grown_trans h.gr h'.gr⟩
theorem CW.own {tab1:Tb} {w':World} {b:Nat} {o:Obj} (hk:m.kb<b) (hb:W.heap[b]?=some o) (h:CW m v W tab1 w'):w'.heap[b]?=some o:=(h.gr.block b (Array.getElem?_eq_some_iff.1 hb).1 (by intro e;simp only [Option.some.injEq] at e;omega)).trans hb
end
set_option maxHeartbeats 4000000 in
theorem in_any (w:World) (l:List Int) (hs:∀ x∈l,0≤x∧x≤255) (hlen:l.length≤256) (c:Int) (hc:0≤c∧c≤255) :
  Calls Tryd.prog 81 #[.string (strOfNums l),.int .u8 c] w fun e w'=>e=.returned (.bool (l.contains c))∧w'=w:=by
 have hsz:(strOfNums l).size=l.length:=strOfNums_size _
 have hix:=fun (p:Nat) (hlt:p<l.length) (W:World)=>index_text l hs p hlt W
 obtain ⟨RES,hRES⟩:∃ RES,RES=l.contains c:=⟨_,rfl⟩
 rw [←hRES]
 have HR:Hid (RES=(l.drop 0).contains c):=by rw [List.drop_zero];exact hide hRES
 have HS:=hide hs
 generalize strOfNums l=S at hix hsz ⊢
 clear hs hRES
 go_enter Tryd.func81,Tryd.ntmps81
 go_wp2
 go_loopw [5] (fun v5 wr=>∃ i:Nat,i≤l.length∧v5=.int .i64 (i:Int)∧Hid (wr=w∧RES=(l.drop i).contains c)) (fun v5 _=>l.length-(intOf v5).toNat)
 case atStart=>exact ⟨0,by omega,rfl,hide ⟨rfl,HR.out⟩⟩
 case round =>
  obtain ⟨i,hi,rfl,HX⟩:=hrel
  clear HR
  by_cases hil:i<l.length
  ·have hti:(i:Int)<(l.length:Int):=by omega
   have hwi:IntKind.i64.wrap ((i:Int)+1)=((i+1:Nat):Int):=by rw [IntKind.wrap_i64];omega
   have i0:=hix i hil
   have hR:=HX.out.2
   rw [List.drop_eq_getElem_cons hil,List.contains_cons] at hR
   have hg:l.getD i 0=l[i]:=by rw [List.getD_eq_getElem?_getD,List.getElem?_eq_getElem hil];rfl
   rw [←hg] at hR
   obtain ⟨a,ha⟩:∃ a,a=l.getD i 0:=⟨_,rfl⟩
   rw [←ha] at i0 hR
   clear hix ha hg
   by_cases hac:a=c
   ·have hR1:RES=true:=by rw [hR,hac];simp
    have HE:=hide (And.intro HX.out.1 hR1)
    subst hac
    clear hR hR1 HX
    go_wp2
    go_ret
    exact ⟨by rw [HE.out.2];rfl,HE.out.1⟩
   ·have hR1:RES=(l.drop (i+1)).contains c:=by rw [hR];simp [show (c == a)=false by simp;omega]
    have HE:=hide (And.intro HX.out.1 hR1)
    clear hR hR1 HX
    go_wp2
    go_roundw
    case rel=>exact ⟨i+1,by omega,by simp,hide HE.out⟩
    case measure=>simp [intOf];omega
  ·obtain rfl:i=l.length:=by omega
   have hnl:¬ (l.length:Int)<(l.length:Int):=by omega
   have hR1:RES=false:=by rw [HX.out.2];simp
   have HE:=hide (And.intro HX.out.1 hR1)
   clear hix HX hR1
   go_wp2
   go_ret
   exact ⟨by rw [HE.out.2];rfl,HE.out.1⟩
end Go.Proofs.YtfhimmnoipfiaaaDoor.eng
namespace Go.Proofs.YtfhimmnoipfiaaaDoor.eng
open Go.ChangeShapes Go.WideShapes Go.ChangeAt Go.RowKit
open bytes places sets tz rex
theorem rep_step (a:B2) {L i j:Nat} (hij:i≤j) (hj:j≤L):upTo a L i j=(decide (i=j) || exIn (i+1) j fun x=>a i x && upTo a L x j):=by
 cases L with
 | zero =>
  have:i=j:=by omega
  subst this
  simp [upTo,emptyB]
 | succ L =>
  show (decide (i=j) || exIn (i+1) j fun x=>a i x && upTo a L x j)=_
  rw [exIn_congr (f:=fun x=>a i x && upTo a L x j) (g:=fun x=>a i x && upTo a (L+1) x j) fun x h1 h2=>by rw [upTo_same a (t:=L) (u:=L+1) (by omega) (by omega)]]
theorem split_ge (least:Nat) (f:Nat→Bool) (j:Nat):decide ((0:Int)≤splitV least f j)=exIn least j f:=by
 unfold splitV
 cases hf:far least f j with
 | none =>
  have:exIn least j f=false:=by
   rw [←Bool.not_eq_true,exIn_iff]
   rintro ⟨k,h1,h2,h3⟩
   rw [far_none hf k h1 h2] at h3;cases h3
  rw [this];decide
 | some k =>
  have h:=far_some hf
  have:exIn least j f=true:=exIn_iff.2 ⟨k,h.1,h.2.1,h.2.2.1⟩
  rw [this];simp
theorem CW.drewN {m:Mac} {v:Nat} {W0 W:World} {tab0:Tb} (h:CW m v W0 tab0 W) (n:Nat):CW m v W0 tab0 (W.drewN n):=h.below (below_drewN (Below.refl _ _) n)
theorem cells5 {W:World} {b:Nat} {a0 a1 a2 a3 a4:Value} {t:TypeId} (h:W.heap[b]?=some (.cells #[a0,a1,a2,a3,a4] t (0,0))):W.cell? ⟨b,0,none⟩=some a0∧W.cell? ⟨b,1,none⟩=some a1∧W.cell? ⟨b,2,none⟩=some a2∧W.cell? ⟨b,3,none⟩=some a3∧W.cell? ⟨b,4,none⟩=some a4:=by
 refine ⟨?_,?_,?_,?_,?_⟩ <;> simp [World.cell?,h]
theorem getD_byte {ts:List Int} (h:∀ t∈ts,0≤t∧t≤255) {i:Nat} (hi:i<ts.length):0≤ts.getD i 0∧ts.getD i 0≤255:=by
 rw [List.getD_eq_getElem?_getD,List.getElem?_eq_getElem hi]
 exact h _ (List.getElem_mem hi)
theorem mu_kid (m:Mac) {a k i j i' j':Nat} (ha:a<k) (hj':j'≤m.ts.length):m.mu a i' j'<m.mu k i j:=by
 unfold Mac.mu
 have h1:(a+1)*(m.ts.length+1)≤k*(m.ts.length+1):=Nat.mul_le_mul_right _ ha
 rw [Nat.add_mul] at h1
 omega
set_option maxRecDepth 20000 in
set_option maxHeartbeats 16000000 in
theorem find_walk (m:Mac) (N:Nat) (hl:m.ts.length≤22) (hts:∀ t∈m.ts,0≤t∧t≤255) (k i j:Nat) (x:Nq) (hx:m.q[k]?=some x) (hlaw:NodeLaw m.ts N m.q k x) (hij:i≤j) (hj:j≤m.ts.length) (hc:CanOk m (m.mu k i j)) (hqn:m.q.length≤700):FindOk m k i j x:=by
 intro W0 W tab0 hC
 obtain ⟨W1,hW1⟩:∃ W1,W.alloc (.cells x.cells 100)=W1:=⟨_,rfl⟩
 have hC1:CW m (m.mu k i j) W0 tab0 W1:=by rw [←hW1];exact hC.below ((Below.refl _ _).alloc (Nat.le_refl _) _)
 have hb1:W1.heap[W.heap.size]?=some (.cells x.cells 100 (0,0)):=by rw [←hW1];exact heap_alloc_new W _
 have hkb:m.kb<W.heap.size:=by obtain ⟨t,h1,_⟩:=hC.ex;exact h1.lts.2.2
 have hk:=(List.getElem?_eq_some_iff.1 hx).1
 have hS:=strOfNums_size m.ts
 have hix:=fun (p:Nat) (hlt:p<m.ts.length) (W:World)=>index_text m.ts hts p hlt W
 have HL:=hide hC1
 obtain ⟨x0,x1,x2⟩:=hC1.box
 have HQ:=hide hc
 obtain ⟨tab1,d1,d2⟩:=hC1.self
 have HD:=hide (And.intro d1 d2)
 have HB:=hide hb1
 have hts2:=hide hts
 clear hC hC1 hc d1 d2 hts
 obtain ⟨U,hU⟩:∃ U,U=m.mu k i j:=⟨_,rfl⟩
 rw [←hU] at HD HL HQ ⊢
 obtain ⟨SS,hSS⟩:∃ SS,SS=strOfNums m.ts:=⟨_,rfl⟩
 rw [←hSS] at hS hix x1
 unfold Nq.cells at HB hb1 hW1 ⊢
 have HK:=hide (And.intro hx hU)
 clear hx hSS hU
 rcases hlaw with ⟨hkd,hx2,hx3,hA,hs⟩|⟨hkd,hA,hs⟩|⟨l,hkd,hset,hlb,hll,hA,hs⟩|⟨hkd,hA,hs⟩|⟨hkd,hA,hs⟩|⟨hkd,hA,hs⟩|⟨mm,y,hkd,hn,hm1,hm2,hm3,hak,hy,hA,hs⟩|⟨y,z,hkd,hak,hbk,hy,hz,hA,hs⟩|⟨y,hkd,hak,hy,hA,hs⟩|⟨y,hkd,hak,hy,hA,hs⟩|⟨y,z,hkd,hak,hbk,hy,hz,hA,hs⟩
 ·rw [hkd] at hW1 hb1 HB ⊢
  obtain ⟨p0,p1,p2,p3,p4⟩:=cells5 hb1
  clear HB hkd
  by_cases hji:j=i+1
  ·have hil:i<m.ts.length:=by omega
   have i0:=hix i hil
   have hR:x.A i j=decide (m.ts.getD i 0=x.n):=by rw [hA];simp only [rex.mt,hji,decide_true,Bool.true_and];rw [List.getElem?_eq_getElem hil,List.getD_eq_getElem?_getD,List.getElem?_eq_getElem hil];simp
   have hvb:=getD_byte hts2.out hil
   obtain ⟨a,ha⟩:∃ a,a=m.ts.getD i 0:=⟨_,rfl⟩
   rw [←ha] at i0 hR hvb
   have hcv:IntKind.i64.wrap a=a:=by rw [IntKind.wrap_i64];omega
   have hiw:IntKind.i64.wrap ((i:Int)+1)=(j:Int):=by rw [IntKind.wrap_i64];omega
   have hii:(i:Int)<(m.ts.length:Int):=by omega
   have HR:=hide hR
   generalize m.ts.length=LL at *
   clear hix ha hR hA hs HQ HD HK hx2 hji
   go_enter Tryd.func56,Tryd.ntmps56
   go_wp2
   (try rw [hW1])
   clear hW1
   go_quiet (fail)
   go_wp2
   go_ret
   exact ⟨by rw [HR.out];rfl,HL.out.drewN _⟩
  ·obtain ⟨i1,hi1⟩:∃ i1,i1=i+1:=⟨_,rfl⟩
   have hja:decide ((j:Int)=(i1:Int))=false:=by simp;omega
   have hjb:((j:Int) == (i1:Int))=false:=by simp;omega
   have hiw:IntKind.i64.wrap ((i:Int)+1)=(i1:Int):=by rw [IntKind.wrap_i64];omega
   have hR:x.A i j=false:=by rw [hA];simp [rex.mt,hji]
   have HR:=hide hR
   clear hix hR hA hs HQ HD HK hi1 hji
   go_enter Tryd.func56,Tryd.ntmps56
   go_wp2
   (try rw [hW1])
   clear hW1
   go_quiet (fail)
   go_wp2
   go_ret
   exact ⟨by rw [HR.out];rfl,HL.out.drewN _⟩
 ·rw [hkd] at hW1 hb1 HB ⊢
  obtain ⟨p0,p1,p2,p3,p4⟩:=cells5 hb1
  clear HB hkd
  obtain ⟨i1,hi1⟩:∃ i1,i1=i+1:=⟨_,rfl⟩
  have hiw:IntKind.i64.wrap ((i:Int)+1)=(i1:Int):=by rw [IntKind.wrap_i64];omega
  have hR:x.A i j=((j:Int) == (i1:Int)):=by
   rw [hA,Bool.eq_iff_iff]
   simp [rex.mt]
   omega
  have HR:=hide hR
  clear hix hR hA hs HQ HD HK hi1
  go_enter Tryd.func56,Tryd.ntmps56
  go_wp2
  (try rw [hW1])
  clear hW1
  go_ret
  exact ⟨by rw [HR.out];simp,HL.out⟩
 ·rw [hkd] at hW1 hb1 HB ⊢
  obtain ⟨p0,p1,p2,p3,p4⟩:=cells5 hb1
  clear HB hkd
  have hls:=strOfNums_size l
  rw [hset] at hW1 hb1 p2 ⊢
  by_cases hji:j=i+1
  ·have hil:i<m.ts.length:=by omega
   have i0:=hix i hil
   have hR:x.A i j=l.contains (m.ts.getD i 0):=by rw [hA];simp only [rex.mt,hji,decide_true,Bool.true_and];rw [List.getElem?_eq_getElem hil,List.getD_eq_getElem?_getD,List.getElem?_eq_getElem hil];rfl
   have hvb:=getD_byte hts2.out hil
   obtain ⟨a,ha⟩:∃ a,a=m.ts.getD i 0:=⟨_,rfl⟩
   rw [←ha] at i0 hR hvb
   have hiw:IntKind.i64.wrap ((i:Int)+1)=(j:Int):=by rw [IntKind.wrap_i64];omega
   have hii:(i:Int)<(m.ts.length:Int):=by omega
   have HC:Hid (∀ n,Calls Tryd.prog 81 #[.string (strOfNums l),.int .u8 a] (W1.drewN n) fun e w'=>e=.returned (.bool (l.contains a))∧w'=W1.drewN n):=hide (fun n=>in_any _ l hlb hll a hvb)
   obtain ⟨bb,hbb⟩:∃ bb,bb=l.contains a:=⟨_,rfl⟩
   rw [←hbb] at HC hR
   have HR:=hide hR
   generalize m.ts.length=LL at *
   generalize strOfNums l=TT at *
   clear hbb
   clear hix ha hR hA hs HQ HD HK hji hset
   go_enter Tryd.func56,Tryd.ntmps56
   go_wp2
   (try rw [hW1])
   clear hW1
   go_quiet (first | (go_simp;with_reducible (refine Calls.quiet_of_same (HC.out _))) | (with_reducible (refine Calls.quiet_of_same (HC.out _))))
   go_wp2
   go_ret
   exact ⟨by rw [HR.out];rfl,HL.out.drewN _⟩
  ·obtain ⟨i1,hi1⟩:∃ i1,i1=i+1:=⟨_,rfl⟩
   have hja:decide ((j:Int)=(i1:Int))=false:=by simp;omega
   have hjb:((j:Int) == (i1:Int))=false:=by simp;omega
   have hiw:IntKind.i64.wrap ((i:Int)+1)=(i1:Int):=by rw [IntKind.wrap_i64];omega
   have hR:x.A i j=false:=by rw [hA];simp [rex.mt,hji]
   have HR:=hide hR
   clear hix hR hA hs HQ HD HK hi1 hji
   go_enter Tryd.func56,Tryd.ntmps56
   go_wp2
   (try rw [hW1])
   clear hW1
   go_quiet (fail)
   go_wp2
   go_ret
   exact ⟨by rw [HR.out];rfl,HL.out.drewN _⟩
 ·rw [hkd] at hW1 hb1 HB ⊢
  obtain ⟨p0,p1,p2,p3,p4⟩:=cells5 hb1
  clear HB hkd
  have hR:x.A i j=(((i:Int) == 0) && ((j:Int) == 0)):=by rw [hA,Bool.eq_iff_iff];simp [rex.mt]
  have HR:=hide hR
  clear hix hR hA hs HQ HD HK
  by_cases h0:i=0
  ·subst h0
   go_enter Tryd.func56,Tryd.ntmps56
   go_wp2
   (try rw [hW1])
   clear hW1
   go_ret
   exact ⟨by rw [HR.out];simp,HL.out⟩
  ·have h1:¬ (i:Int)=0:=by omega
   have h2:((i:Int) == 0)=false:=by simp;omega
   go_enter Tryd.func56,Tryd.ntmps56
   go_wp2
   (try rw [hW1])
   clear hW1
   go_ret
   exact ⟨by rw [HR.out];simp [h2],HL.out⟩
 ·rw [hkd] at hW1 hb1 HB ⊢
  obtain ⟨p0,p1,p2,p3,p4⟩:=cells5 hb1
  clear HB hkd
  have hR:x.A i j=(((i:Int) == (m.ts.length:Int)) && ((j:Int) == (i:Int))):=by
   rw [hA,Bool.eq_iff_iff];simp [rex.mt];omega
  have HR:=hide hR
  clear hix hR hA hs HQ HD HK
  by_cases h0:i=m.ts.length
  ·have h1:(i:Int)=(m.ts.length:Int):=by omega
   have h2:((i:Int) == (m.ts.length:Int))=true:=by simp;omega
   have hR2:=HR.out
   rw [h2,Bool.true_and,h1] at hR2
   have HR2:=hide hR2
   clear hR2
   go_enter Tryd.func56,Tryd.ntmps56
   go_wp2
   (try rw [hW1])
   clear hW1
   go_ret
   exact ⟨by rw [HR2.out];rfl,HL.out⟩
  ·have h1:¬ (i:Int)=(m.ts.length:Int):=by omega
   have h2:((i:Int) == (m.ts.length:Int))=false:=by simp;omega
   go_enter Tryd.func56,Tryd.ntmps56
   go_wp2
   (try rw [hW1])
   clear hW1
   go_ret
   exact ⟨by rw [HR.out];simp [h2],HL.out⟩
 ·rw [hkd] at hW1 hb1 HB ⊢
  obtain ⟨p0,p1,p2,p3,p4⟩:=cells5 hb1
  clear HB hkd
  have hR:x.A i j=((i:Int) == (j:Int)):=by
   rw [hA,Bool.eq_iff_iff];simp [emptyB];omega
  have HR:=hide hR
  clear hix hR hA hs HQ HD HK
  go_enter Tryd.func56,Tryd.ntmps56
  go_wp2
  (try rw [hW1])
  clear hW1
  go_ret
  exact ⟨by rw [HR.out];simp,HL.out⟩
 ·rw [hkd] at hW1 hb1 HB ⊢
  obtain ⟨p0,p1,p2,p3,p4⟩:=cells5 hb1
  clear HB hkd
  have H1:=hide (HQ.out W1 W1 tab1 x.a i j y U hy hij hj (by rw [HK.out.2];exact mu_kid m hak hj) (by rw [HK.out.2];exact Nat.le_refl _) HD.out.1)
  have HR:=hide hA
  clear hix hA hs HQ HK hn
  go_enter Tryd.func56,Tryd.ntmps56
  go_wp2_with fail
  (try rw [hW1])
  clear hW1
  refine H1.out.mono ?_
  rintro e w5 ⟨rfl,h5⟩
  have HE:=hide (HD.out.2 w5 h5)
  clear h5 H1
  go_wp2
  go_ret
  exact ⟨by rw [HR.out];rfl,HE.out⟩
 ·rw [hkd] at hW1 hb1 HB ⊢
  obtain ⟨p0,p1,p2,p3,p4⟩:=cells5 hb1
  clear HB hkd
  have H1:=hide (HQ.out W1 W1 tab1 x.a i j y U hy hij hj (by rw [HK.out.2];exact mu_kid m hak hj) (by rw [HK.out.2];exact Nat.le_refl _) HD.out.1)
  have H2:Hid (∀ w5,CW m U W1 tab1 w5→w5.heap[W.heap.size]?=W1.heap[W.heap.size]? ∧ Calls Tryd.prog 35 #[.pointer (some ⟨m.mb,0,none⟩),.int .i64 (x.b:Int),.int .i64 (i:Int),.int .i64 (j:Int)] w5 fun e w'=>e=.returned (.bool (z.A i j))∧CW m U W1 tab1 w'):=hide fun w5 h5=>⟨(CW.own hkb hb1 h5).trans hb1.symm,HQ.out W1 w5 tab1 x.b i j z U hz hij hj (by rw [HK.out.2];exact mu_kid m hbk hj) (by rw [HK.out.2];exact Nat.le_refl _) h5⟩
  have hR:x.A i j=(y.A i j || z.A i j):=by rw [hA]
  have HR:=hide hR
  have HB1:=hide hb1
  clear hix hA hs HQ HK hR hb1
  cases hyA:y.A i j with
  | true =>
   rw [hyA] at H1 HR
   clear H2
   go_enter Tryd.func56,Tryd.ntmps56
   go_wp2_with fail
   (try rw [hW1])
   clear hW1
   refine H1.out.mono ?_
   rintro e w5 ⟨rfl,h5⟩
   have HE:=hide (HD.out.2 w5 h5)
   clear h5 H1
   go_wp2
   go_ret
   exact ⟨by rw [HR.out];rfl,HE.out⟩
  | false =>
   rw [hyA] at H1 HR
   go_enter Tryd.func56,Tryd.ntmps56
   go_wp2_with fail
   (try rw [hW1])
   clear hW1
   refine H1.out.mono ?_
   rintro e w5 ⟨rfl,h5⟩
   obtain ⟨k1,k2⟩:=H2.out w5 h5
   obtain ⟨r0,r1,r2,r3,r4⟩:=cells5 (k1.trans HB1.out)
   have H3:=hide k2
   clear h5 H1 k1 k2 p0 p1 p2 p3 p4 H2
   go_wp2_with fail
   refine H3.out.mono ?_
   rintro e w6 ⟨rfl,h6⟩
   have HE:=hide (HD.out.2 w6 h6)
   clear h6 H3
   go_wp2
   go_ret
   exact ⟨by rw [HR.out];rfl,HE.out⟩
 ·rw [hkd] at hW1 hb1 HB ⊢
  obtain ⟨p0,p1,p2,p3,p4⟩:=cells5 hb1
  clear HB hkd
  have H1:=hide (HQ.out W1 W1 tab1 x.a i j y U hy hij hj (by rw [HK.out.2];exact mu_kid m hak hj) (by rw [HK.out.2];exact Nat.le_refl _) HD.out.1)
  have hR:x.A i j=(decide (i=j) || y.A i j):=by rw [hA]
  have HR:=hide hR
  clear hix hA hs HQ HK hR hb1
  by_cases h0:i=j
  ·subst h0
   clear H1
   go_enter Tryd.func56,Tryd.ntmps56
   go_wp2
   (try rw [hW1])
   clear hW1
   go_ret
   exact ⟨by rw [HR.out];simp,HL.out⟩
  ·have h1:¬ (i:Int)=(j:Int):=by omega
   have h2:((i:Int) == (j:Int))=false:=by simp;omega
   go_enter Tryd.func56,Tryd.ntmps56
   go_wp2_with fail
   (try rw [hW1])
   clear hW1
   refine H1.out.mono ?_
   rintro e w5 ⟨rfl,h5⟩
   have HE:=hide (HD.out.2 w5 h5)
   clear h5 H1
   go_wp2
   go_ret
   exact ⟨by rw [HR.out];simp [h0],HE.out⟩
 ·rw [hkd] at hW1 hb1 HB ⊢
  obtain ⟨p0,p1,p2,p3,p4⟩:=cells5 hb1
  clear HB hkd
  have hR:x.A i j=(decide (i=j) || exIn (i+1) j fun p=>y.A i p && x.A p j):=by
   rw [hA];exact rep_step y.A hij hj
  rw [←split_ge] at hR
  have HR:=hide hR
  by_cases h0:i=j
  ·subst h0
   clear hix hA hs HQ HK hR hb1
   go_enter Tryd.func56,Tryd.ntmps56
   go_wp2
   (try rw [hW1])
   clear hW1
   go_ret
   exact ⟨by rw [HR.out];simp,HL.out⟩
  ·have h1:¬ (i:Int)=(j:Int):=by omega
   have h2:((i:Int) == (j:Int))=false:=by simp;omega
   have hiw:IntKind.i64.wrap ((i:Int)+1)=(i:Int)+1:=by rw [IntKind.wrap_i64];omega
   have H1:=split_any m hl U U (by rw [HK.out.2];exact (by rw [←HK.out.2];exact HQ.out)) W1 W1 tab1 x.a k i j (i+1) y x hy HK.out.1 (by omega) (by omega) hj (Nat.le_refl _) (fun p g1 g2=>by rw [HK.out.2];exact mu_kid m hak (by omega)) (fun p g1 g2=>by rw [HK.out.2];unfold Mac.mu;omega) HD.out.1
   rw [show ((i+1:Nat):Int)=(i:Int)+1 by omega] at H1
   obtain ⟨SV,hSV⟩:∃ SV,SV=splitV (i+1) (fun p=>y.A i p && x.A p j) j:=⟨_,rfl⟩
   rw [←hSV] at H1 HR
   have H1:=hide H1
   clear hix hA hs HQ HK hR hb1 hSV
   go_enter Tryd.func56,Tryd.ntmps56
   go_wp2_with fail
   (try rw [hW1])
   clear hW1
   refine H1.out.mono ?_
   rintro e w5 ⟨rfl,h5⟩
   have HE:=hide (HD.out.2 w5 h5)
   clear h5 H1
   go_wp2
   go_ret
   exact ⟨by rw [HR.out];simp [h0],HE.out⟩
 ·rw [hkd] at hW1 hb1 HB ⊢
  obtain ⟨p0,p1,p2,p3,p4⟩:=cells5 hb1
  clear HB hkd
  have hR:x.A i j=exIn i j fun p=>y.A i p && z.A p j:=by rw [hA];rfl
  rw [←split_ge] at hR
  have HR:=hide hR
  have H1:=split_any m hl U U (by rw [HK.out.2];exact (by rw [←HK.out.2];exact HQ.out)) W1 W1 tab1 x.a x.b i j i y z hy hz (by omega) (by omega) hj (Nat.le_refl _) (fun p g1 g2=>by rw [HK.out.2];exact mu_kid m hak (by omega)) (fun p g1 g2=>by rw [HK.out.2];exact mu_kid m hbk (by omega)) HD.out.1
  obtain ⟨SV,hSV⟩:∃ SV,SV=splitV i (fun p=>y.A i p && z.A p j) j:=⟨_,rfl⟩
  rw [←hSV] at H1 HR
  have H1:=hide H1
  clear hix hA hs HQ HK hR hb1 hSV
  go_enter Tryd.func56,Tryd.ntmps56
  go_wp2_with fail
  (try rw [hW1])
  clear hW1
  refine H1.out.mono ?_
  rintro e w5 ⟨rfl,h5⟩
  have HE:=hide (HD.out.2 w5 h5)
  clear h5 H1
  go_wp2
  go_ret
  exact ⟨by rw [HR.out];simp,HE.out⟩
end Go.Proofs.YtfhimmnoipfiaaaDoor.eng
namespace Go.Proofs.YtfhimmnoipfiaaaDoor.eng
open Go.ChangeShapes Go.WideShapes Go.ChangeAt Go.RowKit
open bytes places sets tz rex
def MadeN (ts:List Int) (N mb lo:Nat) (v:Value) (W:World) (q:List Nq) (n:Nat) (A:B2) (S:Sp) (e:Ending) (w':World):Prop :=
 ∃ (r:List Nq) (v':Value) (k:Nat) (x:Nq),e=.returned (.int .i64 (k:Int))∧MkSt ts N mb lo v W (q++r) v' w'∧r.length≤n∧(q++r)[k]?=some x∧EqB ts.length x.A A x.s S
def MakeOf (T:Tr):Prop:=∀ (ts:List Int) (N mb lo:Nat) (M:Fz) (q:List Nq) (v:Value) (W:World) (cs:Array Value),OkT N T→In M W→(∀ b o,M b=some o→b<lo)→RxAt M T cs→MkSt ts N mb lo v W q v W→q.length+2*wtT T≤700 →
 Calls Tryd.prog 55 #[.pointer (some ⟨mb,0,none⟩),.agg cs] W (MadeN ts N mb lo v W q (2*wtT T-1) (rex.mt ts T) (sp ts T))
section
variable {ts:List Int} {N mb lo:Nat} {v v':Value} {W W1 w':World} {q q':List Nq} {M:Fz} {T:Tr}
theorem MkSt.tree (h:MkSt ts N mb lo v W q v W) (hIn:In M W) (hlo:∀ b o,M b=some o→b<lo) (h':MkSt ts N mb lo v W q' v' w'):In M w':=fun b o hb=>by
 have h1:=hlo b o hb
 refine (h'.same b (Array.getElem?_eq_some_iff.1 (hIn b o hb)).1 (by have:=h.low;omega) (fun e => ?_)).trans (hIn b o hb)
 have:=(h.lts.2 b e).2
 omega
theorem MkSt.own_ (h:MkSt ts N mb lo v W q v W) {o:Obj} (hW1:W.alloc o=W1) (h':MkSt ts N mb lo v W1 q' v' w'):w'.heap[W.heap.size]?=W1.heap[W.heap.size]? := by
 have hl:=h.lts
 refine h'.same _ (by rw [←hW1];simp) (by omega) (fun e => ?_)
 have:=(hl.2 _ e).1
 omega
theorem leaf_law (hok:OkT N T) {kind n9 m9:Int} {ss:ByteArray} {va:Value} (hR:RxAt M T (rxV kind n9 m9 ss va)) (hk:kidsOf T=[]) (hnc:∀ ks,T≠.cat ks):NodeLaw ts N q q.length ⟨kind,n9,ss,0,0,rex.mt ts T,sp ts T⟩∧kind≠6∧kind≠7∧kind≠8∧kind≠9:=by
 unfold NodeLaw
 cases T with
 | char b =>
  rw [RxAt] at hR;rw [OkT] at hok
  simp only [rxV,Array.mk.injEq,List.cons.injEq,Value.int.injEq,Value.string.injEq,true_and,and_true] at hR
  obtain ⟨rfl,rfl,rfl,rfl,rfl⟩:=hR
  exact ⟨.inl ⟨rfl,hok.1,hok.2,rfl,by simp only [sp]⟩,by decide⟩
 | any =>
  rw [RxAt] at hR
  simp only [rxV,Array.mk.injEq,List.cons.injEq,Value.int.injEq,Value.string.injEq,true_and,and_true] at hR
  obtain ⟨rfl,rfl,rfl,rfl,rfl⟩:=hR
  exact ⟨.inr (.inl ⟨rfl,rfl,by simp only [sp]⟩),by decide⟩
 | set s =>
  rw [RxAt] at hR;rw [OkT] at hok
  simp only [rxV,Array.mk.injEq,List.cons.injEq,Value.int.injEq,Value.string.injEq,true_and,and_true] at hR
  obtain ⟨rfl,rfl,rfl,rfl,rfl⟩:=hR
  exact ⟨.inr (.inr (.inl ⟨s,rfl,rfl,hok.2.1,set_len hok.2.1 hok.2.2,rfl,by simp only [sp]⟩)),by decide⟩
 | beg =>
  rw [RxAt] at hR
  simp only [rxV,Array.mk.injEq,List.cons.injEq,Value.int.injEq,Value.string.injEq,true_and,and_true] at hR
  obtain ⟨rfl,rfl,rfl,rfl,rfl⟩:=hR
  exact ⟨.inr (.inr (.inr (.inl ⟨rfl,rfl,by simp only [sp]⟩))),by decide⟩
 | fin =>
  rw [RxAt] at hR
  simp only [rxV,Array.mk.injEq,List.cons.injEq,Value.int.injEq,Value.string.injEq,true_and,and_true] at hR
  obtain ⟨rfl,rfl,rfl,rfl,rfl⟩:=hR
  exact ⟨.inr (.inr (.inr (.inr (.inl ⟨rfl,rfl,by simp only [sp]⟩)))),by decide⟩
 | group n k=>simp [kidsOf] at hk
 | cat ks=>exact absurd rfl (hnc ks)
 | alt ks =>
  rw [OkT] at hok
  simp only [kidsOf] at hk
  rw [hk] at hok
  simp at hok
 | rep n m k=>simp [kidsOf] at hk
end
set_option maxRecDepth 20000 in
set_option maxHeartbeats 4000000 in
theorem make_leaf (T:Tr) (hk:kidsOf T=[]) (hnc:∀ ks,T≠.cat ks):MakeOf T:=by
 intro ts N mb lo M q v W cs hok hIn hlo hR h hq
 obtain ⟨kind,n9,m9,ss,o,ln,cp,rfl,hN⟩:=nd_of hR
 obtain ⟨hlaw,k6,k7,k8,k9⟩:=leaf_law (ts:=ts) (q:=q) hok hR hk hnc
 have hp:=wt_pos T
 obtain ⟨W1,hW1⟩:∃ W1,W.alloc (.cells (rxV kind n9 m9 ss (.slice o ln cp)) 25)=W1:=⟨_,rfl⟩
 have h1:MkSt ts N mb lo v W q v W1:=by rw [←hW1];exact h.below ((Below.refl _ _).alloc (Nat.le_refl _) _)
 have hb1:W1.heap[W.heap.size]?=some (.cells (rxV kind n9 m9 ss (.slice o ln cp)) 25 (0,0)):=by rw [←hW1];exact heap_alloc_new W _
 have HC:Hid (Calls Tryd.prog 79 #[.pointer (some ⟨mb,0,none⟩),.agg #[.int .i64 kind,.int .i64 n9,.string ss,.int .i64 0,.int .i64 0]] W1 fun e w'=>e=.returned (.int .i64 (q.length:Int))∧MadeN ts N mb lo v W q (2*wtT T-1) (rex.mt ts T) (sp ts T) e w'):=by
  refine hide ((add_any ts N mb lo q v W1 ⟨kind,n9,ss,0,0,rex.mt ts T,sp ts T⟩ h1.self hlaw (by omega)).mono ?_)
  rintro e w' ⟨rfl,v',h2⟩
  exact ⟨rfl,[_],v',q.length,_,rfl,h1.then h2,by simp;omega,by rw [List.getElem?_append_right (Nat.le_refl _),Nat.sub_self];rfl,EqB.refl _ _ _⟩
 have j6:(kind == 6)=false:=by simp [k6]
 have j7:(kind == 7)=false:=by simp [k7]
 have j8:(kind == 8)=false:=by simp [k8]
 have j9:(kind == 9)=false:=by simp [k9]
 unfold rxV at hW1 hb1 ⊢
 obtain ⟨p0,p1,p2,p3,p4⟩:=cells5 hb1
 clear hok hIn hlo hR h hq hN hlaw h1 hb1 hk hnc
 go_enter Tryd.func55,Tryd.ntmps55
 go_wp2_with fail
 (try rw [hW1])
 refine HC.out.mono ?_
 rintro e w5 ⟨rfl,h5⟩
 have HE:=hide h5
 clear h5 HC
 go_wp2
 go_ret
 exact HE.out
end Go.Proofs.YtfhimmnoipfiaaaDoor.eng
namespace Go.Proofs.YtfhimmnoipfiaaaDoor.eng
open Go.ChangeShapes Go.WideShapes Go.ChangeAt Go.RowKit
open bytes places sets tz rex
set_option maxRecDepth 20000 in
set_option maxHeartbeats 8000000 in
theorem make_group (n:Nat) (kid:Tr) (ih:MakeOf kid):MakeOf (.group n kid):=by
 intro ts N mb lo M q v W cs hok hIn hlo hR h hq
 have hR0:=hR
 rw [RxAt] at hR
 obtain ⟨gg,cap,cur,rfl,hM,cc,hcc,hcur,hRk⟩:=hR
 rw [OkT] at hok
 obtain ⟨c0,c1,c2,c3,o4,n4,c4,rfl,hNk⟩:=nd_of hRk
 obtain ⟨W1,hW1⟩:∃ W1,W.alloc (.cells (rxV 6 n 0 mt0 (.slice (some ⟨gg,0,none⟩) 1 cap)) 25)=W1:=⟨_,rfl⟩
 have h1:MkSt ts N mb lo v W q v W1:=by rw [←hW1];exact h.below ((Below.refl _ _).alloc (Nat.le_refl _) _)
 have hb1:W1.heap[W.heap.size]?=some (.cells (rxV 6 n 0 mt0 (.slice (some ⟨gg,0,none⟩) 1 cap)) 25 (0,0)):=by rw [←hW1];exact heap_alloc_new W _
 have hIn1:=h.tree hIn hlo h1
 have g0:W1.cell? ⟨gg,0,none⟩=some (.int .i64 c0):=hIn1.at hM (hcur 0 (by omega))
 have g1:W1.cell? ⟨gg,1,none⟩=some (.int .i64 c1):=hIn1.at hM (hcur 1 (by omega))
 have g2:W1.cell? ⟨gg,2,none⟩=some (.int .i64 c2):=hIn1.at hM (hcur 2 (by omega))
 have g3:W1.cell? ⟨gg,3,none⟩=some (.string c3):=hIn1.at hM (hcur 3 (by omega))
 have g4:W1.cell? ⟨gg,4,none⟩=some (.slice o4 n4 c4):=hIn1.at hM (hcur 4 (by omega))
 have hwt:wtT (.group n kid)=1+wtT kid:=by simp [wtT]
 have HC:Hid (Calls Tryd.prog 55 #[.pointer (some ⟨mb,0,none⟩),.agg (rxV c0 c1 c2 c3 (.slice o4 n4 c4))] W1.drew fun e w5=>∃ (r:List Nq) (v5:Value) (kk:Nat) (x:Nq),e=.returned (.int .i64 (kk:Int))∧(MkSt ts N mb lo v W1 (q++r) v5 w5∧r.length≤2*wtT kid-1∧(q++r)[kk]?=some x∧EqB ts.length x.A (rex.mt ts kid) x.s (sp ts kid))∧w5.cell? ⟨W.heap.size,1,none⟩=some (.int .i64 (n:Int))):=by
  have hd:=h1.drew.self
  refine hide ((ih ts N mb lo M q v W1.drew _ hok.2.2.2 (hIn1.below (Below.refl _ _).drew) hlo hRk hd (by omega)).mono ?_)
  rintro e w5 ⟨r,v5,kk,x,he,k1,k2,k3,k4⟩
  have k5:MkSt ts N mb lo v W1 (q++r) v5 w5:=h1.self.drew.then k1
  refine ⟨r,v5,kk,x,he,⟨k5,k2,k3,k4⟩,?_⟩
  have:=(h.own_ hW1 k5).trans hb1
  simp [World.cell?,this,rxV]
 have HA:Hid (∀ (w5:World) (r:List Nq) (v5:Value) (kk:Nat) (x:Nq),(MkSt ts N mb lo v W1 (q++r) v5 w5∧r.length≤2*wtT kid-1∧(q++r)[kk]?=some x∧EqB ts.length x.A (rex.mt ts kid) x.s (sp ts kid))→Calls Tryd.prog 79 #[.pointer (some ⟨mb,0,none⟩),.agg #[.int .i64 6,.int .i64 (n:Int),.string ⟨#[]⟩,.int .i64 (kk:Int),.int .i64 0]] w5 fun e w'=>∃ z:Nat,e=.returned (.int .i64 (z:Int))∧MadeN ts N mb lo v W q (2*wtT (.group n kid)-1) (rex.mt ts (.group n kid)) (sp ts (.group n kid)) (.returned (.int .i64 (z:Int))) w'):=by
  refine hide fun w5 r v5 kk x ⟨k1,k2,k3,k4⟩ => ?_
  have hkk:=(List.getElem?_eq_some_iff.1 k3).1
  refine (add_any ts N mb lo (q++r) v5 w5 ⟨6,n,⟨#[]⟩,kk,0,x.A,fun i j out=>x.s i j ((out.set (2*n) (i:Int)).set (2*n+1) (j:Int))⟩ k1.self (by
   unfold NodeLaw
   iterate 6 right
   exact .inl ⟨n,x,rfl,rfl,hok.1,hok.2.2.1,hok.2.1,hkk,k3,rfl,rfl⟩) (by rw [List.length_append];omega)).mono ?_
  rintro e w' ⟨rfl,v',h2⟩
  refine ⟨_,rfl,r++[⟨6,n,⟨#[]⟩,kk,0,x.A,fun i j out=>x.s i j ((out.set (2*n) (i:Int)).set (2*n+1) (j:Int))⟩],v',(q++r).length,⟨6,n,⟨#[]⟩,kk,0,x.A,fun i j out=>x.s i j ((out.set (2*n) (i:Int)).set (2*n+1) (j:Int))⟩,rfl,?_,by rw [List.length_append,List.length_singleton];omega,by rw [←List.append_assoc,List.getElem?_append_right (Nat.le_refl _),Nat.sub_self];rfl,?_⟩
  ·have:=(h1.then (k1.then h2))
   rw [List.append_assoc] at this
   exact this
  ·intro i j hij hj
   exact ⟨(k4 i j hij hj).1,fun hm out=>(k4 i j hij hj).2 hm _⟩
 unfold rxV at hW1 hb1 HC ⊢
 obtain ⟨p0,p1,p2,p3,p4⟩:=cells5 hb1
 clear hok hIn hlo hR0 h hq hRk hNk h1 hb1 ih hIn1 hM hcur hcc
 go_enter Tryd.func55,Tryd.ntmps55
 go_wp2
 (try rw [hW1])
 clear hW1
 go_region_law (first | (go_simp;go_at_call 55;with_reducible (refine HC.out.mono ?_);rintro e w5 ⟨r,v5,kk,x,rfl,k1,k2⟩) | (go_simp;go_at_call 79;refine (HA.out _ r v5 kk x k1).mono ?_;rintro e w6 ⟨z,rfl,h6⟩))
 all_goals
  have HE:=hide h6
  clear h6 HC HA
  go_wp2
  go_ret
  exact HE.out
end Go.Proofs.YtfhimmnoipfiaaaDoor.eng
namespace Go.Proofs.YtfhimmnoipfiaaaDoor.eng
open Go.ChangeShapes Go.WideShapes Go.ChangeAt Go.RowKit
open bytes places sets tz rex
theorem make_none:MakeOf (.cat []):=by
 intro ts N mb lo M q v W cs hok hIn hlo hR h hq
 rw [RxAt] at hR
 have hR:cs=rxV 7 0 0 mt0 nilV∨∃ g cap cur,cs=rxV 7 0 0 mt0 (.slice (some ⟨g,0,none⟩) 0 cap)∧M g=some (.cells cur 25 (0,0)):=by
  rcases hR with ⟨_,hR⟩|⟨g,cap,cur,h1,h2,_⟩
  ·exact .inl hR
  ·exact .inr ⟨g,cap,cur,h1,h2⟩
 obtain ⟨o,cp,rfl⟩:∃ o cp,cs=rxV 7 0 0 mt0 (.slice o 0 cp):=by
  rcases hR with hR | ⟨g,cap,cur,h1,_⟩
  ·exact ⟨none,0,hR⟩
  ·exact ⟨_,cap,h1⟩
 have hwt:wtT (.cat [])=1:=by simp [wtT,wtK]
 obtain ⟨W1,hW1⟩:∃ W1,W.alloc (.cells (rxV 7 0 0 mt0 (.slice o 0 cp)) 25)=W1:=⟨_,rfl⟩
 have h1:MkSt ts N mb lo v W q v W1:=by rw [←hW1];exact h.below ((Below.refl _ _).alloc (Nat.le_refl _) _)
 have hb1:W1.heap[W.heap.size]?=some (.cells (rxV 7 0 0 mt0 (.slice o 0 cp)) 25 (0,0)):=by rw [←hW1];exact heap_alloc_new W _
 have HC:Hid (Calls Tryd.prog 79 #[.pointer (some ⟨mb,0,none⟩),.agg #[.int .i64 21,.int .i64 0,.string ⟨#[]⟩,.int .i64 0,.int .i64 0]] W1 fun e w'=>e=.returned (.int .i64 (q.length:Int))∧MadeN ts N mb lo v W q (2*wtT (.cat [])-1) (rex.mt ts (.cat [])) (sp ts (.cat [])) e w'):=by
  refine hide ((add_any ts N mb lo q v W1 ⟨21,0,⟨#[]⟩,0,0,emptyB,idS⟩ h1.self (by
   unfold NodeLaw
   exact .inr (.inr (.inr (.inr (.inr (.inl ⟨rfl,rfl,rfl⟩)))))) (by omega)).mono ?_)
  rintro e w' ⟨rfl,v',h2⟩
  exact ⟨rfl,[⟨21,0,⟨#[]⟩,0,0,emptyB,idS⟩],v',q.length,_,rfl,h1.then h2,by simp;omega,by rw [List.getElem?_append_right (Nat.le_refl _),Nat.sub_self];rfl,EqB.refl _ _ _⟩
 unfold rxV at hW1 hb1 ⊢
 obtain ⟨p0,p1,p2,p3,p4⟩:=cells5 hb1
 clear hok hIn hlo hR h hq h1 hb1
 go_enter Tryd.func55,Tryd.ntmps55
 go_wp2_with fail
 (try rw [hW1])
 refine HC.out.mono ?_
 rintro e w5 ⟨rfl,h5⟩
 have HE:=hide h5
 clear h5 HC
 go_wp2
 go_ret
 exact HE.out
theorem wtK_drop:∀ (ks:List Tr) (i:Nat) (k:Tr),ks[i]?=some k→ks.drop i=k::ks.drop (i+1)∧wtK (ks.drop i)=wtT k+wtK (ks.drop (i+1))∧wtK (ks.drop i)≤wtK ks
 | [],i,k,h=>by simp at h
 | a::ks,0,k,h=>by
  simp only [List.getElem?_cons_zero,Option.some.injEq] at h
  subst h
  simp [wtK]
 | a::ks,i+1,k,h=>by
  obtain ⟨h1,h2,h3⟩:=wtK_drop ks i k (by simpa using h)
  exact ⟨h1,h2,Nat.le_trans h3 (by simp only [wtK];omega)⟩
theorem kids_wt:∀ ks:List Tr,ks.length≤wtK ks
 | []=>by simp
 | k::ks=>by have:=kids_wt ks;have:=wt_pos k;simp only [wtK,List.length_cons];omega
theorem wtK_le:∀ (ks:List Tr) (i:Nat),wtK (ks.drop i)≤wtK ks
 | [],i=>by simp
 | k::ks,0=>by simp
 | k::ks,i+1=>by have:=wtK_le ks i;simp only [List.drop_succ_cons,wtK];omega
set_option maxRecDepth 20000 in
set_option maxHeartbeats 16000000 in
theorem make_cat (ks:List Tr) (hne:ks≠[]) (ih:∀ (j:Nat) (k:Tr),ks[j]?=some k→MakeOf k):MakeOf (.cat ks):=by
 intro ts N mb lo M q v W cs hok hIn hlo hR h hq
 obtain ⟨kind,n9,m9,ss,o,ln,cp,rfl,hN⟩:=nd_of hR
 obtain ⟨rfl,rfl,rfl,rfl⟩:kind=7∧n9=0∧m9=0∧ss=mt0:=by
  rw [RxAt] at hR
  rcases hR with ⟨_,hR⟩|⟨gg,cap,cur,hR,_⟩ <;> simp only [rxV,Array.mk.injEq,List.cons.injEq,Value.int.injEq,Value.string.injEq,true_and] at hR <;> exact ⟨hR.1,hR.2.1,hR.2.2.1,hR.2.2.2.1⟩
 have hln:ln=ks.length:=hN.len
 have hpos:0<ks.length:=List.length_pos_iff.2 hne
 have hwt:wtT (.cat ks)=1+wtK ks:=by simp [wtT]
 have hkw:=kids_wt ks
 obtain ⟨W1,hW1⟩:∃ W1,W.alloc (.cells (rxV 7 0 0 mt0 (.slice o ln cp)) 25)=W1:=⟨_,rfl⟩
 have h1:MkSt ts N mb lo v W q v W1:=by rw [←hW1];exact h.below ((Below.refl _ _).alloc (Nat.le_refl _) _)
 have hb1:W1.heap[W.heap.size]?=some (.cells (rxV 7 0 0 mt0 (.slice o ln cp)) 25 (0,0)):=by rw [←hW1];exact heap_alloc_new W _
 have hIn1:=h.tree hIn hlo h1
 have HBX:Hid (∀ (w5:World) (q':List Nq) (v':Value),MkSt ts N mb lo v W1 q' v' w5→w5.heap[W.heap.size]?=some (.cells #[.int .i64 7,.int .i64 0,.int .i64 0,.string mt0,.slice o ln cp] 25 (0,0))):=hide fun w5 q' v' k=>(h.own_ hW1 k).trans hb1
 have HK:Hid (∀ (i:Nat) (wr:World) (q':List Nq) (v':Value),i<ln→MkSt ts N mb lo v W1 q' v' wr→q'.length+2*wtK (ks.drop (i+1))≤q'.length+2*wtK ks→∃ (gg:Nat) (c0 c1 c2:Int) (c3:ByteArray) (o4:Option Addr) (n4 c4:Nat) (k:Tr),o=some ⟨gg,0,none⟩∧gg<wr.heap.size∧wr.cell? ⟨gg,i*5,none⟩=some (.int .i64 c0)∧wr.cell? ⟨gg,i*5+1,none⟩=some (.int .i64 c1)∧wr.cell? ⟨gg,i*5+2,none⟩=some (.int .i64 c2)∧wr.cell? ⟨gg,i*5+3,none⟩=some (.string c3)∧wr.cell? ⟨gg,i*5+4,none⟩=some (.slice o4 n4 c4)∧ks[i]?=some k ∧
   (∀ w4:World,Below wr.heap.size wr w4→q'.length+2*wtT k≤700→Calls Tryd.prog 55 #[.pointer (some ⟨mb,0,none⟩),.agg (rxV c0 c1 c2 c3 (.slice o4 n4 c4))] w4 fun e w5=>∃ (r:List Nq) (v5:Value) (kk:Nat) (x:Nq),e=.returned (.int .i64 (kk:Int))∧(MkSt ts N mb lo v W1 (q'++r) v5 w5∧r.length≤2*wtT k-1∧(q'++r)[kk]?=some x∧EqB ts.length x.A (rex.mt ts k) x.s (sp ts k)))):=by
  refine hide fun i wr q' v' hi hw _ => ?_
  have hInr:In M wr:=h1.self.tree hIn1 hlo hw
  obtain ⟨gg,c0,c1,c2,c3,o4,n4,c4,k,e0,e1,e2,e3,e4,e5,e6,e7,e8⟩:=hN.kid hi hInr
  refine ⟨gg,c0,c1,c2,c3,o4,n4,c4,k,e0,e1,e2,e3,e4,e5,e6,e7,fun w4 hb4 hq4 => ?_⟩
  have hd:=(hw.below hb4).self
  have hokk:=hok.kids.2 e7
  refine (ih i k e7 ts N mb lo M q' v' w4 _ hokk (hInr.below hb4) hlo e8 hd hq4).mono ?_
  rintro e w5 ⟨r,v5,kk,x,he,k1,k2,k3,k4⟩
  exact ⟨r,v5,kk,x,he,(hw.below hb4).then k1,k2,k3,k4⟩
 have HA:Hid (∀ (w5:World) (q':List Nq) (v5:Value) (a b:Nat) (x y:Nq),MkSt ts N mb lo v W1 q' v5 w5→q'[a]?=some x→q'[b]?=some y→q'.length≤700→Calls Tryd.prog 79 #[.pointer (some ⟨mb,0,none⟩),.agg #[.int .i64 7,.int .i64 0,.string ⟨#[]⟩,.int .i64 (a:Int),.int .i64 (b:Int)]] w5 fun e w'=>e=.returned (.int .i64 (q'.length:Int))∧∃ v':Value,MkSt ts N mb lo v W1 (q'++[⟨7,0,⟨#[]⟩,a,b,seqB x.A y.A,seqS x.A y.A x.s y.s⟩]) v' w'):=by
  refine hide fun w5 q' v5 a b x y k1 hx hy hq' => ?_
  refine (add_any ts N mb lo q' v5 w5 ⟨7,0,⟨#[]⟩,a,b,seqB x.A y.A,seqS x.A y.A x.s y.s⟩ k1.self (by
   unfold NodeLaw
   iterate 10 right
   exact ⟨x,y,rfl,(List.getElem?_eq_some_iff.1 hx).1,(List.getElem?_eq_some_iff.1 hy).1,hx,hy,rfl,rfl⟩) hq').mono ?_
  rintro e w' ⟨rfl,v',h2⟩
  exact ⟨rfl,v',k1.then h2⟩
 have HF:Hid (∀ (w':World) (r:List Nq) (v':Value) (kk:Nat) (x:Nq),MkSt ts N mb lo v W1 (q++r) v' w'→r.length+1≤2*wtK ks→(q++r)[kk]?=some x→EqB ts.length x.A (rex.mtC ts ks) x.s (spC ts ks)→MadeN ts N mb lo v W q (2*wtT (.cat ks)-1) (rex.mt ts (.cat ks)) (sp ts (.cat ks)) (.returned (.int .i64 (kk:Int))) w'):=hide fun w' r v' kk x k1 k2 k3 k4=>⟨r,v',kk,x,rfl,h1.then k1,by omega,k3,k4⟩
 have HS1:=hide h1.self
 obtain ⟨l1,hl1⟩:∃ l1,ln=l1+1:=⟨ln-1,by omega⟩
 have hw1:IntKind.i64.wrap ((ln:Int)-1)=(l1:Int):=by rw [IntKind.wrap_i64];omega
 have hw2:IntKind.i64.wrap ((ln:Int)-2)=(l1:Int)-1:=by rw [IntKind.wrap_i64];omega
 have hl2:(l1:Int)<(ln:Int):=by omega
 have hln0:¬ (ln:Int)=0:=by omega
 have hln1:((ln:Int) == 0)=false:=by simp;omega
 obtain ⟨gg,c0,c1,c2,c3,o4,n4,c4,k,rfl,hggl,g0,g1,g2,g3,g4,hkl,hcall⟩:=HK.out l1 W1 q v (by omega) h1.self (by rw [List.drop_eq_nil_of_le (by omega)];simp [wtK])
 obtain ⟨dr1,dr2,dr3⟩:=wtK_drop ks l1 k hkl
 rw [show ks.drop (l1+1)=[] from List.drop_eq_nil_of_le (by omega)] at dr1 dr2
 have hdw:wtK ([]:List Tr)=0:=by simp [wtK]
 have HC:Hid (Calls Tryd.prog 55 #[.pointer (some ⟨mb,0,none⟩),.agg (rxV c0 c1 c2 c3 (.slice o4 n4 c4))] W1 fun e w5=>∃ (r:List Nq) (v5:Value) (kk:Nat) (x:Nq),e=.returned (.int .i64 (kk:Int))∧(MkSt ts N mb lo v W1 (q++r) v5 w5∧r.length+1≤2*wtK (ks.drop l1)∧(q++r)[kk]?=some x∧EqB ts.length x.A (rex.mtC ts (ks.drop l1)) x.s (spC ts (ks.drop l1)))):=by
  refine hide ((hcall W1 (Below.refl _ _) (by omega)).mono ?_)
  rintro e w5 ⟨r,v5,kk,x,he,k1,k2,k3,k4⟩
  have hwp:=wt_pos k
  exact ⟨r,v5,kk,x,he,k1,by omega,k3,by rw [dr1];exact k4.trans (eq_one _ _ _)⟩
 have HQ:=hide (And.intro hq (And.intro hwt (And.intro hkw hln)))
 unfold rxV at hW1 hb1 HC ⊢
 obtain ⟨p0,p1,p2,p3,p4⟩:=cells5 hb1
 clear hok hIn hlo hR h hq hN h1 hb1 ih hIn1 hcall hkl dr1 dr2 dr3 hdw hwt hkw hln hpos hne hl1
 go_enter Tryd.func55,Tryd.ntmps55
 go_wp2_with fail
 (try rw [hW1])
 clear hW1
 refine HC.out.mono ?_
 rintro e w5 ⟨r,v5,kk,x,rfl,k1,k2,k3,k4⟩
 obtain ⟨s0,s1,s2,s3,s4⟩:=cells5 (HBX.out w5 _ _ k1)
 have HX0:=hide (And.intro k1 (And.intro k2 (And.intro k3 k4)))
 clear k1 k2 k3 k4 HC p0 p1 p2 p3 p4 g0 g1 g2 g3 g4
 go_wp2
 clear s0 s1 s2 s3 s4
 go_loopw [5,6] (fun v5 v6 wr=>∃ (z:Int) (t:Nat) (r:List Nq) (v':Value) (kk:Nat) (x:Nq),z+1=(t:Int)∧t≤l1∧v6=.int .i64 z∧v5=.int .i64 (kk:Int)∧Hid (MkSt ts N mb lo v W1 (q++r) v' wr∧r.length+1≤2*wtK (ks.drop t)∧(q++r)[kk]?=some x∧EqB ts.length x.A (rex.mtC ts (ks.drop t)) x.s (spC ts (ks.drop t)))) (fun _ v6 _=>(intOf v6+1).toNat)
 case atStart=>exact ⟨_,l1,r,v5,kk,x,by omega,Nat.le_refl _,rfl,rfl,HX0⟩
 case round =>
  obtain ⟨z,t,r,v',kk,x,hzt,ht,rfl,rfl,HX⟩:=hrel
  clear HX0
  obtain ⟨s0,s1,s2,s3,s4⟩:=cells5 (HBX.out wr _ _ HX.out.1)
  by_cases hz:0≤z
  ·obtain ⟨i,rfl⟩:∃ i:Nat,z=(i:Int):=⟨z.toNat,by omega⟩
   obtain rfl:t=i+1:=by omega
   obtain ⟨gg',c0,c1,c2,c3,o4,n4,c4,k,hgg,hggl,g0,g1,g2,g3,g4,hkl,hcall⟩:=HK.out i wr (q++r) v' (by omega) HX.out.1 (by have:=wtK_le ks (i+1);omega)
   simp only [Option.some.injEq,Addr.mk.injEq,and_true] at hgg
   subst hgg
   obtain ⟨dr1,dr2,dr3⟩:=wtK_drop ks i k hkl
   obtain ⟨hq,hwt,hkw,hln⟩:=HQ.out
   have hsz:=HX.out.2.1
   have hiw:IntKind.i64.wrap ((i:Int)-1)=(i:Int)-1:=by rw [IntKind.wrap_i64];omega
   have hii:(i:Int)<(ln:Int):=by omega
   have H1:Hid (Calls Tryd.prog 55 #[.pointer (some ⟨mb,0,none⟩),.agg (rxV c0 c1 c2 c3 (.slice o4 n4 c4))] wr.drew fun e w5=>∃ (r2:List Nq) (v5:Value) (k2:Nat) (y:Nq),e=.returned (.int .i64 (k2:Int))∧(MkSt ts N mb lo v W1 ((q++r)++r2) v5 w5∧r2.length≤2*wtT k-1∧((q++r)++r2)[k2]?=some y∧EqB ts.length y.A (rex.mt ts k) y.s (sp ts k))∧w5.cell? ⟨W.heap.size,0,none⟩=some (.int .i64 7)):=by
    refine hide ((hcall wr.drew (Below.refl _ _).drew (by rw [List.length_append];omega)).mono ?_)
    rintro e w5 ⟨r2,v5,k2,y,he,k1,k3,k4,k5⟩
    exact ⟨r2,v5,k2,y,he,⟨k1,k3,k4,k5⟩,(cells5 (HBX.out w5 _ _ k1)).1⟩
   have H2:Hid (∀ (w5:World) (r2:List Nq) (v5:Value) (k2:Nat) (y:Nq),(MkSt ts N mb lo v W1 ((q++r)++r2) v5 w5∧r2.length≤2*wtT k-1∧((q++r)++r2)[k2]?=some y∧EqB ts.length y.A (rex.mt ts k) y.s (sp ts k))→Calls Tryd.prog 79 #[.pointer (some ⟨mb,0,none⟩),.agg #[.int .i64 7,.int .i64 0,.string ⟨#[]⟩,.int .i64 (k2:Int),.int .i64 (kk:Int)]] w5 fun e w'=>∃ (r3:List Nq) (v3:Value) (k3:Nat) (z:Nq),e=.returned (.int .i64 (k3:Int))∧(MkSt ts N mb lo v W1 (q++r3) v3 w'∧r3.length+1≤2*wtK (ks.drop i)∧(q++r3)[k3]?=some z∧EqB ts.length z.A (rex.mtC ts (ks.drop i)) z.s (spC ts (ks.drop i)))):=by
    refine hide fun w5 r2 v5 k2 y ⟨k1,k3,k4,k5⟩ => ?_
    have hxx:=get_app (r:=r2) HX.out.2.2.1
    have hwp:=wt_pos k
    refine (HA.out w5 _ v5 k2 kk y x k1 k4 hxx (by rw [List.length_append,List.length_append];omega)).mono ?_
    rintro e w' ⟨rfl,v3,m1⟩
    have ek:q++(r++r2++[⟨7,0,⟨#[]⟩,k2,kk,seqB y.A x.A,seqS y.A x.A y.s x.s⟩])=q++r++r2++[⟨7,0,⟨#[]⟩,k2,kk,seqB y.A x.A,seqS y.A x.A y.s x.s⟩]:=by simp
    refine ⟨r++r2++[⟨7,0,⟨#[]⟩,k2,kk,seqB y.A x.A,seqS y.A x.A y.s x.s⟩],v3,(q++r++r2).length,⟨7,0,⟨#[]⟩,k2,kk,seqB y.A x.A,seqS y.A x.A y.s x.s⟩,rfl,by rw [ek];exact m1,?_,?_,?_⟩
    ·rw [List.length_append,List.length_append,List.length_singleton];omega
    ·rw [ek,List.getElem?_append_right (Nat.le_refl _),Nat.sub_self];rfl
    ·rw [dr1];exact eq_seq k5 HX.out.2.2.2
   unfold rxV at H1
   clear HX hcall hkl dr1 dr2 dr3 hq hwt hkw hln hsz
   go_wp2
   go_region_law (first | (go_simp;go_at_call 55;with_reducible (refine H1.out.mono ?_);rintro e w5 ⟨r2,v5,k2,y,rfl,k1,u0⟩) | (go_simp;go_at_call 79;refine (H2.out _ r2 v5 k2 y k1).mono ?_;rintro e w6 ⟨r3,v3,k3,z,rfl,h6⟩))
   all_goals
    have HE:=hide h6
    clear h6 H1 H2 k1 u0 g0 g1 g2 g3 g4 s0 s1 s2 s3 s4
    go_wp2
    go_roundw
    case rel=>exact ⟨_,i,r3,v3,k3,z,by omega,by omega,rfl,rfl,HE⟩
    case measure=>simp [intOf]
  ·obtain rfl:t=0:=by omega
   have HE:=hide (HF.out wr r v' kk x HX.out.1 HX.out.2.1 HX.out.2.2.1 HX.out.2.2.2)
   clear HX HK HA HF
   go_wp2
   go_ret
   exact HE.out
set_option maxRecDepth 20000 in
set_option maxHeartbeats 16000000 in
theorem make_alt (ks:List Tr) (hne:ks≠[]) (ih:∀ (j:Nat) (k:Tr),ks[j]?=some k→MakeOf k):MakeOf (.alt ks):=by
 intro ts N mb lo M q v W cs hok hIn hlo hR h hq
 obtain ⟨kind,n9,m9,ss,o,ln,cp,rfl,hN⟩:=nd_of hR
 obtain ⟨rfl,rfl,rfl,rfl⟩:kind=8∧n9=0∧m9=0∧ss=mt0:=by
  rw [RxAt] at hR
  obtain ⟨gg,cap,cur,hR,_⟩:=hR
  simp only [rxV,Array.mk.injEq,List.cons.injEq,Value.int.injEq,Value.string.injEq,true_and] at hR
  exact ⟨hR.1,hR.2.1,hR.2.2.1,hR.2.2.2.1⟩
 have hln:ln=ks.length:=hN.len
 have hpos:0<ks.length:=List.length_pos_iff.2 hne
 have hwt:wtT (.alt ks)=1+wtK ks:=by simp [wtT]
 have hkw:=kids_wt ks
 obtain ⟨W1,hW1⟩:∃ W1,W.alloc (.cells (rxV 8 0 0 mt0 (.slice o ln cp)) 25)=W1:=⟨_,rfl⟩
 have h1:MkSt ts N mb lo v W q v W1:=by rw [←hW1];exact h.below ((Below.refl _ _).alloc (Nat.le_refl _) _)
 have hb1:W1.heap[W.heap.size]?=some (.cells (rxV 8 0 0 mt0 (.slice o ln cp)) 25 (0,0)):=by rw [←hW1];exact heap_alloc_new W _
 have hIn1:=h.tree hIn hlo h1
 have HBX:Hid (∀ (w5:World) (q':List Nq) (v':Value),MkSt ts N mb lo v W1 q' v' w5→w5.heap[W.heap.size]?=some (.cells #[.int .i64 8,.int .i64 0,.int .i64 0,.string mt0,.slice o ln cp] 25 (0,0))):=hide fun w5 q' v' k=>(h.own_ hW1 k).trans hb1
 have HK:Hid (∀ (i:Nat) (wr:World) (q':List Nq) (v':Value),i<ln→MkSt ts N mb lo v W1 q' v' wr→q'.length+2*wtK (ks.drop (i+1))≤q'.length+2*wtK ks→∃ (gg:Nat) (c0 c1 c2:Int) (c3:ByteArray) (o4:Option Addr) (n4 c4:Nat) (k:Tr),o=some ⟨gg,0,none⟩∧gg<wr.heap.size∧wr.cell? ⟨gg,i*5,none⟩=some (.int .i64 c0)∧wr.cell? ⟨gg,i*5+1,none⟩=some (.int .i64 c1)∧wr.cell? ⟨gg,i*5+2,none⟩=some (.int .i64 c2)∧wr.cell? ⟨gg,i*5+3,none⟩=some (.string c3)∧wr.cell? ⟨gg,i*5+4,none⟩=some (.slice o4 n4 c4)∧ks[i]?=some k ∧
   (∀ w4:World,Below wr.heap.size wr w4→q'.length+2*wtT k≤700→Calls Tryd.prog 55 #[.pointer (some ⟨mb,0,none⟩),.agg (rxV c0 c1 c2 c3 (.slice o4 n4 c4))] w4 fun e w5=>∃ (r:List Nq) (v5:Value) (kk:Nat) (x:Nq),e=.returned (.int .i64 (kk:Int))∧(MkSt ts N mb lo v W1 (q'++r) v5 w5∧r.length≤2*wtT k-1∧(q'++r)[kk]?=some x∧EqB ts.length x.A (rex.mt ts k) x.s (sp ts k)))):=by
  refine hide fun i wr q' v' hi hw _ => ?_
  have hInr:In M wr:=h1.self.tree hIn1 hlo hw
  obtain ⟨gg,c0,c1,c2,c3,o4,n4,c4,k,e0,e1,e2,e3,e4,e5,e6,e7,e8⟩:=hN.kid hi hInr
  refine ⟨gg,c0,c1,c2,c3,o4,n4,c4,k,e0,e1,e2,e3,e4,e5,e6,e7,fun w4 hb4 hq4 => ?_⟩
  have hd:=(hw.below hb4).self
  have hokk:=hok.kids.2 e7
  refine (ih i k e7 ts N mb lo M q' v' w4 _ hokk (hInr.below hb4) hlo e8 hd hq4).mono ?_
  rintro e w5 ⟨r,v5,kk,x,he,k1,k2,k3,k4⟩
  exact ⟨r,v5,kk,x,he,(hw.below hb4).then k1,k2,k3,k4⟩
 have HA:Hid (∀ (w5:World) (q':List Nq) (v5:Value) (a b:Nat) (x y:Nq),MkSt ts N mb lo v W1 q' v5 w5→q'[a]?=some x→q'[b]?=some y→q'.length≤700→Calls Tryd.prog 79 #[.pointer (some ⟨mb,0,none⟩),.agg #[.int .i64 8,.int .i64 0,.string ⟨#[]⟩,.int .i64 (a:Int),.int .i64 (b:Int)]] w5 fun e w'=>e=.returned (.int .i64 (q'.length:Int))∧∃ v':Value,MkSt ts N mb lo v W1 (q'++[⟨8,0,⟨#[]⟩,a,b,fun i j=>x.A i j || y.A i j,fun i j out=>if x.A i j=true then x.s i j out else y.s i j out⟩]) v' w'):=by
  refine hide fun w5 q' v5 a b x y k1 hx hy hq' => ?_
  refine (add_any ts N mb lo q' v5 w5 ⟨8,0,⟨#[]⟩,a,b,fun i j=>x.A i j || y.A i j,fun i j out=>if x.A i j=true then x.s i j out else y.s i j out⟩ k1.self (by
   unfold NodeLaw
   iterate 7 right
   exact .inl ⟨x,y,rfl,(List.getElem?_eq_some_iff.1 hx).1,(List.getElem?_eq_some_iff.1 hy).1,hx,hy,rfl,rfl⟩) hq').mono ?_
  rintro e w' ⟨rfl,v',h2⟩
  exact ⟨rfl,v',k1.then h2⟩
 have HF:Hid (∀ (w':World) (r:List Nq) (v':Value) (kk:Nat) (x:Nq),MkSt ts N mb lo v W1 (q++r) v' w'→r.length+1≤2*wtK ks→(q++r)[kk]?=some x→EqB ts.length x.A (rex.mtA ts ks) x.s (spA ts ks)→MadeN ts N mb lo v W q (2*wtT (.alt ks)-1) (rex.mt ts (.alt ks)) (sp ts (.alt ks)) (.returned (.int .i64 (kk:Int))) w'):=hide fun w' r v' kk x k1 k2 k3 k4=>⟨r,v',kk,x,rfl,h1.then k1,by omega,k3,k4⟩
 have HS1:=hide h1.self
 obtain ⟨l1,hl1⟩:∃ l1,ln=l1+1:=⟨ln-1,by omega⟩
 have hw1:IntKind.i64.wrap ((ln:Int)-1)=(l1:Int):=by rw [IntKind.wrap_i64];omega
 have hw2:IntKind.i64.wrap ((ln:Int)-2)=(l1:Int)-1:=by rw [IntKind.wrap_i64];omega
 have hl2:(l1:Int)<(ln:Int):=by omega
 have hln0:¬ (ln:Int)=0:=by omega
 have hln1:((ln:Int) == 0)=false:=by simp;omega
 obtain ⟨gg,c0,c1,c2,c3,o4,n4,c4,k,rfl,hggl,g0,g1,g2,g3,g4,hkl,hcall⟩:=HK.out l1 W1 q v (by omega) h1.self (by rw [List.drop_eq_nil_of_le (by omega)];simp [wtK])
 obtain ⟨dr1,dr2,dr3⟩:=wtK_drop ks l1 k hkl
 rw [show ks.drop (l1+1)=[] from List.drop_eq_nil_of_le (by omega)] at dr1 dr2
 have hdw:wtK ([]:List Tr)=0:=by simp [wtK]
 have HC:Hid (Calls Tryd.prog 55 #[.pointer (some ⟨mb,0,none⟩),.agg (rxV c0 c1 c2 c3 (.slice o4 n4 c4))] W1 fun e w5=>∃ (r:List Nq) (v5:Value) (kk:Nat) (x:Nq),e=.returned (.int .i64 (kk:Int))∧(MkSt ts N mb lo v W1 (q++r) v5 w5∧r.length+1≤2*wtK (ks.drop l1)∧(q++r)[kk]?=some x∧EqB ts.length x.A (rex.mtA ts (ks.drop l1)) x.s (spA ts (ks.drop l1)))):=by
  refine hide ((hcall W1 (Below.refl _ _) (by omega)).mono ?_)
  rintro e w5 ⟨r,v5,kk,x,he,k1,k2,k3,k4⟩
  have hwp:=wt_pos k
  exact ⟨r,v5,kk,x,he,k1,by omega,k3,by rw [dr1];exact k4.trans (eq_last _ _ _)⟩
 have HQ:=hide (And.intro hq (And.intro hwt (And.intro hkw hln)))
 unfold rxV at hW1 hb1 HC ⊢
 obtain ⟨p0,p1,p2,p3,p4⟩:=cells5 hb1
 clear hok hIn hlo hR h hq hN h1 hb1 ih hIn1 hcall hkl dr1 dr2 dr3 hdw hwt hkw hln hpos hne hl1
 go_enter Tryd.func55,Tryd.ntmps55
 go_wp2_with fail
 (try rw [hW1])
 clear hW1
 refine HC.out.mono ?_
 rintro e w5 ⟨r,v5,kk,x,rfl,k1,k2,k3,k4⟩
 obtain ⟨s0,s1,s2,s3,s4⟩:=cells5 (HBX.out w5 _ _ k1)
 have HX0:=hide (And.intro k1 (And.intro k2 (And.intro k3 k4)))
 clear k1 k2 k3 k4 HC p0 p1 p2 p3 p4 g0 g1 g2 g3 g4
 go_wp2
 clear s0 s1 s2 s3 s4
 go_loopw [5,6] (fun v5 v6 wr=>∃ (z:Int) (t:Nat) (r:List Nq) (v':Value) (kk:Nat) (x:Nq),z+1=(t:Int)∧t≤l1∧v6=.int .i64 z∧v5=.int .i64 (kk:Int)∧Hid (MkSt ts N mb lo v W1 (q++r) v' wr∧r.length+1≤2*wtK (ks.drop t)∧(q++r)[kk]?=some x∧EqB ts.length x.A (rex.mtA ts (ks.drop t)) x.s (spA ts (ks.drop t)))) (fun _ v6 _=>(intOf v6+1).toNat)
 case atStart=>exact ⟨_,l1,r,v5,kk,x,by omega,Nat.le_refl _,rfl,rfl,HX0⟩
 case round =>
  obtain ⟨z,t,r,v',kk,x,hzt,ht,rfl,rfl,HX⟩:=hrel
  clear HX0
  obtain ⟨s0,s1,s2,s3,s4⟩:=cells5 (HBX.out wr _ _ HX.out.1)
  by_cases hz:0≤z
  ·obtain ⟨i,rfl⟩:∃ i:Nat,z=(i:Int):=⟨z.toNat,by omega⟩
   obtain rfl:t=i+1:=by omega
   obtain ⟨gg',c0,c1,c2,c3,o4,n4,c4,k,hgg,hggl,g0,g1,g2,g3,g4,hkl,hcall⟩:=HK.out i wr (q++r) v' (by omega) HX.out.1 (by have:=wtK_le ks (i+1);omega)
   simp only [Option.some.injEq,Addr.mk.injEq,and_true] at hgg
   subst hgg
   obtain ⟨dr1,dr2,dr3⟩:=wtK_drop ks i k hkl
   obtain ⟨hq,hwt,hkw,hln⟩:=HQ.out
   have hsz:=HX.out.2.1
   have hiw:IntKind.i64.wrap ((i:Int)-1)=(i:Int)-1:=by rw [IntKind.wrap_i64];omega
   have hii:(i:Int)<(ln:Int):=by omega
   have H1:Hid (Calls Tryd.prog 55 #[.pointer (some ⟨mb,0,none⟩),.agg (rxV c0 c1 c2 c3 (.slice o4 n4 c4))] wr.drew fun e w5=>∃ (r2:List Nq) (v5:Value) (k2:Nat) (y:Nq),e=.returned (.int .i64 (k2:Int))∧(MkSt ts N mb lo v W1 ((q++r)++r2) v5 w5∧r2.length≤2*wtT k-1∧((q++r)++r2)[k2]?=some y∧EqB ts.length y.A (rex.mt ts k) y.s (sp ts k))∧w5.cell? ⟨W.heap.size,0,none⟩=some (.int .i64 8)):=by
    refine hide ((hcall wr.drew (Below.refl _ _).drew (by rw [List.length_append];omega)).mono ?_)
    rintro e w5 ⟨r2,v5,k2,y,he,k1,k3,k4,k5⟩
    exact ⟨r2,v5,k2,y,he,⟨k1,k3,k4,k5⟩,(cells5 (HBX.out w5 _ _ k1)).1⟩
   have H2:Hid (∀ (w5:World) (r2:List Nq) (v5:Value) (k2:Nat) (y:Nq),(MkSt ts N mb lo v W1 ((q++r)++r2) v5 w5∧r2.length≤2*wtT k-1∧((q++r)++r2)[k2]?=some y∧EqB ts.length y.A (rex.mt ts k) y.s (sp ts k))→Calls Tryd.prog 79 #[.pointer (some ⟨mb,0,none⟩),.agg #[.int .i64 8,.int .i64 0,.string ⟨#[]⟩,.int .i64 (k2:Int),.int .i64 (kk:Int)]] w5 fun e w'=>∃ (r3:List Nq) (v3:Value) (k3:Nat) (z:Nq),e=.returned (.int .i64 (k3:Int))∧(MkSt ts N mb lo v W1 (q++r3) v3 w'∧r3.length+1≤2*wtK (ks.drop i)∧(q++r3)[k3]?=some z∧EqB ts.length z.A (rex.mtA ts (ks.drop i)) z.s (spA ts (ks.drop i)))):=by
    refine hide fun w5 r2 v5 k2 y ⟨k1,k3,k4,k5⟩ => ?_
    have hxx:=get_app (r:=r2) HX.out.2.2.1
    have hwp:=wt_pos k
    refine (HA.out w5 _ v5 k2 kk y x k1 k4 hxx (by rw [List.length_append,List.length_append];omega)).mono ?_
    rintro e w' ⟨rfl,v3,m1⟩
    have ek:q++(r++r2++[⟨8,0,⟨#[]⟩,k2,kk,fun i j=>y.A i j || x.A i j,fun i j out=>if y.A i j=true then y.s i j out else x.s i j out⟩])=q++r++r2++[⟨8,0,⟨#[]⟩,k2,kk,fun i j=>y.A i j || x.A i j,fun i j out=>if y.A i j=true then y.s i j out else x.s i j out⟩]:=by simp
    refine ⟨r++r2++[⟨8,0,⟨#[]⟩,k2,kk,fun i j=>y.A i j || x.A i j,fun i j out=>if y.A i j=true then y.s i j out else x.s i j out⟩],v3,(q++r++r2).length,⟨8,0,⟨#[]⟩,k2,kk,fun i j=>y.A i j || x.A i j,fun i j out=>if y.A i j=true then y.s i j out else x.s i j out⟩,rfl,by rw [ek];exact m1,?_,?_,?_⟩
    ·rw [List.length_append,List.length_append,List.length_singleton];omega
    ·rw [ek,List.getElem?_append_right (Nat.le_refl _),Nat.sub_self];rfl
    ·rw [dr1];exact eq_or k5 HX.out.2.2.2
   unfold rxV at H1
   clear HX hcall hkl dr1 dr2 dr3 hq hwt hkw hln hsz
   go_wp2
   go_region_law (first | (go_simp;go_at_call 55;with_reducible (refine H1.out.mono ?_);rintro e w5 ⟨r2,v5,k2,y,rfl,k1,u0⟩) | (go_simp;go_at_call 79;refine (H2.out _ r2 v5 k2 y k1).mono ?_;rintro e w6 ⟨r3,v3,k3,z,rfl,h6⟩))
   all_goals
    have HE:=hide h6
    clear h6 H1 H2 k1 u0 g0 g1 g2 g3 g4 s0 s1 s2 s3 s4
    go_wp2
    go_roundw
    case rel=>exact ⟨_,i,r3,v3,k3,z,by omega,by omega,rfl,rfl,HE⟩
    case measure=>simp [intOf]
  ·obtain rfl:t=0:=by omega
   have HE:=hide (HF.out wr r v' kk x HX.out.1 HX.out.2.1 HX.out.2.2.1 HX.out.2.2.2)
   clear HX HK HA HF
   go_wp2
   go_ret
   exact HE.out
end Go.Proofs.YtfhimmnoipfiaaaDoor.eng
