import Derived.Test.YtfhimmnoipfiaaaDoorQ03
import Derived.Test.YtfhimmnoipfiaaaDoorQ04
set_option linter.unusedVariables false
namespace Go.Proofs.YtfhimmnoipfiaaaDoor.eng
open Go.ChangeShapes Go.WideShapes Go.ChangeAt Go.RowKit Go.Shelf
open bytes places sets tz rex bck
def fnOf:Value→Nat×Array Value
 | .func (.func f) _ cs=>(f,cs)
 | _=>(0,#[])
def fsOf (ks:List Kd):Fs where
 fe:=fun j=>((ks[j]?.map fun k=>fnOf k.ve).getD (0,#[])).1
 ce:=fun j=>((ks[j]?.map fun k=>fnOf k.ve).getD (0,#[])).2
 fp:=fun j=>((ks[j]?.map fun k=>fnOf k.vp).getD (0,#[])).1
 cp:=fun j=>((ks[j]?.map fun k=>fnOf k.vp).getD (0,#[])).2
theorem fsOf_kid {L:Nat} {M:Fz} {K:Ks} {N:Nat} {ks:List Kd} {j:Nat} {k:Kd} (h:ks[j]?=some k) (hk:KdOK L M K N k) :
  k.ve=.func (.func ((fsOf ks).fe j)) #[] ((fsOf ks).ce j)∧k.vp=.func (.func ((fsOf ks).fp j)) #[] ((fsOf ks).cp j):=by
 obtain ⟨f,cs,e,_⟩:=hk.e
 obtain ⟨f2,cs2,e2,_⟩:=hk.p
 simp only [fsOf,h,Option.map_some,Option.getD_some,e,e2,fnOf]
 exact ⟨trivial,trivial⟩
structure LayAt (F:Fs) (rB:Nat) (S:ByteArray) (c x:Nat→Nat) (W:World) (lo k:Nat):Prop where
 a0:W.heap[x k]?=some (.cells #[.int .i64 (k:Int)] 3 (0,0))
 a1:W.heap[x k+1]?=some (.cells #[.func (.func (F.fe k)) #[] (F.ce k),.func (.func (F.fp k)) #[] (F.cp k)] 49 (0,0))
 a2:W.heap[c k]?=some (.cells #[.string S] 9 (0,0))
 a3:W.heap[c k+1]?=some (.cells #[.func (.func 66) #[] #[.pointer (some ⟨x k+1,0,none⟩),.pointer (some ⟨rB,0,none⟩),.pointer (some ⟨x k,0,none⟩)]] 46 (0,0))
 a4:C1 W (c k+2) (.slice none 0 0) 124
 a5:C1 W (c k+3) (.slice none 0 0) 125
 lo:lo≤x k∧lo≤c k
def Keep1 (A B:World):Prop:=∀ (b:Nat) (cs:Array Value) (t:TypeId) (f:Nat×Nat),A.heap[b]?=some (Obj.cells cs t f)→B.heap[b]?=some (Obj.cells cs t f)
theorem LayAt.keep {F:Fs} {rB:Nat} {S:ByteArray} {c x:Nat→Nat} {A B:World} {lo k:Nat} (h:LayAt F rB S c x A lo k) (hk:Keep1 A B):LayAt F rB S c x B lo k:=⟨hk _ _ _ _ h.a0,hk _ _ _ _ h.a1,hk _ _ _ _ h.a2,hk _ _ _ _ h.a3,hk _ _ _ _ h.a4,hk _ _ _ _ h.a5,h.lo⟩
theorem ne_tag {W:World} {b b':Nat} {u u':Array Value} {t t':TypeId} {f f':Nat×Nat} (h:W.heap[b]?=some (Obj.cells u t f)) (h':W.heap[b']?=some (Obj.cells u' t' f')) (hne:t≠t'):b≠b':=by
 intro e
 subst e
 rw [h] at h'
 simp only [Option.some.injEq,Obj.cells.injEq] at h'
 exact hne h'.2.1
def LayOf (t:Nat) (c x:Nat→Nat) (b:Nat):Prop:=∃ k,k<t∧(b=x k∨b=x k+1∨b=c k∨b=c k+1∨b=c k+2∨b=c k+3)
structure LayIn (F:Fs) (rB:Nat) (S:ByteArray) (c x:Nat→Nat) (A:Nat→Nat→Nat) (M:Fz) (K:Ks) (k:Nat):Prop where
 a0:M (x k)=some (.cells #[.int .i64 (k:Int)] 3 (0,0))
 a1:M (x k+1)=some (.cells #[.func (.func (F.fe k)) #[] (F.ce k),.func (.func (F.fp k)) #[] (F.cp k)] 49 (0,0))
 a2:M (c k)=some (.cells #[.string S] 9 (0,0))
 a3:M (c k+1)=some (.cells #[.func (.func 66) #[] #[.pointer (some ⟨x k+1,0,none⟩),.pointer (some ⟨rB,0,none⟩),.pointer (some ⟨x k,0,none⟩)]] 46 (0,0))
 a4:∃ kk,K kk=some ⟨c k+2,c k+3,A k⟩
theorem LayIn.up {F:Fs} {rB:Nat} {S:ByteArray} {c x:Nat→Nat} {A:Nat→Nat→Nat} {M M':Fz} {K K':Ks} {k:Nat} (h:LayIn F rB S c x A M K k) (h1:FLe M M') (h2:KLe K K'):LayIn F rB S c x A M' K' k :=
 ⟨h1 _ _ h.a0,h1 _ _ h.a1,h1 _ _ h.a2,h1 _ _ h.a3,let ⟨kk,e⟩:=h.a4;⟨kk,h2 _ _ e⟩⟩
section
variable {L:Nat} {M:Fz} {K:Ks} {R0 R:Rs} {O0 O:Lb} {w0 W:World}
theorem St.fz' (h:St L M K R0 O0 w0 R O W) {b:Nat} {o:Obj} (hl:w0.heap.size≤b) (hb:W.heap[b]?=some o) (ho:O b=none):∃ M',FLe M M'∧M' b=some o∧St L M' K R0 O0 w0 R (up O b (some (0,0))) W :=
 ⟨_,FLe.up (M_none h.inv ho) o,up_same _ _ _,h.freeze hl hb ho⟩
theorem lay_all (h:St L M K R0 O0 w0 R O W) (hf:Few K R) (n:Nat) (F:Fs) (rB:Nat) (S:ByteArray) (c x:Nat→Nat) (A:Nat→Nat→Nat) (lo:Nat) (hlo:w0.heap.size≤lo) (hO:∀ b,lo≤b→O b=none)
  (hl:∀ k,k+1<n→LayAt F rB S c x W lo k) (hap:∀ i j,i<j→j+1<n→c j+4≤c i):∀ t,t≤n-1 →
   ∃ M' K' O',FLe M M'∧KLe K K'∧St L M' K' R0 O0 w0 R O' W∧Few K' R∧(∀ b,b<lo→O' b=O b)∧(∀ k,k<t→LayIn F rB S c x A M' K' k)∧∀ b,O' b≠none→lo≤b→LayOf t c x b
 | 0,_=>⟨M,K,O,FLe.refl _,KLe.refl _,h,hf,fun _ _=>rfl,fun k hk=>by omega,fun b h1 h2=>absurd (hO b h2) h1⟩
 | t+1,ht=>by
  obtain ⟨M1,K1,O1,g1,g2,g3,g4,g5,g6,g7⟩:=lay_all h hf n F rB S c x A lo hlo hO hl hap t (by omega)
  have q:=hl t (by omega)
  have free:∀ b,lo≤b→¬ LayOf t c x b→O1 b=none:=by
   intro b hb hn
   cases e:O1 b with
   | none=>rfl
   | some y=>exact absurd (g7 b (by rw [e];simp) hb) hn
  have lay:∀ k,k<t→LayAt F rB S c x W lo k:=fun k hk=>hl k (by omega)
  have same:∀ k,k<t→x t≠x k:=by
   intro k hk e
   have h1:=q.a0
   rw [e,(lay k hk).a0] at h1
   simp only [Option.some.injEq,Obj.cells.injEq] at h1
   have h2:=h1.1
   simp at h2
   omega
  have hx:O1 (x t)=none:=by
   refine free _ q.lo.1 ?_
   rintro ⟨k,hk,e | e | e | e | e | e⟩
   ·exact same k hk e
   ·exact ne_tag q.a0 (lay k hk).a1 (by decide) e
   ·exact ne_tag q.a0 (lay k hk).a2 (by decide) e
   ·exact ne_tag q.a0 (lay k hk).a3 (by decide) e
   ·exact ne_tag q.a0 (lay k hk).a4 (by decide) e
   ·exact ne_tag q.a0 (lay k hk).a5 (by decide) e
  have hx1:O1 (x t+1)=none:=by
   refine free _ (by have:=q.lo.1;omega) ?_
   rintro ⟨k,hk,e | e | e | e | e | e⟩
   ·exact ne_tag q.a1 (lay k hk).a0 (by decide) e
   ·exact same k hk (by omega)
   ·exact ne_tag q.a1 (lay k hk).a2 (by decide) e
   ·exact ne_tag q.a1 (lay k hk).a3 (by decide) e
   ·exact ne_tag q.a1 (lay k hk).a4 (by decide) e
   ·exact ne_tag q.a1 (lay k hk).a5 (by decide) e
  have hc0:O1 (c t)=none:=by
   refine free _ q.lo.2 ?_
   rintro ⟨k,hk,e | e | e | e | e | e⟩
   ·exact ne_tag q.a2 (lay k hk).a0 (by decide) e
   ·exact ne_tag q.a2 (lay k hk).a1 (by decide) e
   all_goals (have:=hap k t hk (by omega);omega)
  have hc1:O1 (c t+1)=none:=by
   refine free _ (by have:=q.lo.2;omega) ?_
   rintro ⟨k,hk,e | e | e | e | e | e⟩
   ·exact ne_tag q.a3 (lay k hk).a0 (by decide) e
   ·exact ne_tag q.a3 (lay k hk).a1 (by decide) e
   all_goals (have:=hap k t hk (by omega);omega)
  have hc2:O1 (c t+2)=none:=by
   refine free _ (by have:=q.lo.2;omega) ?_
   rintro ⟨k,hk,e | e | e | e | e | e⟩
   ·exact ne_tag q.a4 (lay k hk).a0 (by decide) e
   ·exact ne_tag q.a4 (lay k hk).a1 (by decide) e
   all_goals (have:=hap k t hk (by omega);omega)
  have hc3:O1 (c t+3)=none:=by
   refine free _ (by have:=q.lo.2;omega) ?_
   rintro ⟨k,hk,e | e | e | e | e | e⟩
   ·exact ne_tag q.a5 (lay k hk).a0 (by decide) e
   ·exact ne_tag q.a5 (lay k hk).a1 (by decide) e
   all_goals (have:=hap k t hk (by omega);omega)
  have d1:x t≠c t:=ne_tag q.a0 q.a2 (by decide)
  have d2:x t≠c t+1:=ne_tag q.a0 q.a3 (by decide)
  have d3:x t≠c t+2:=ne_tag q.a0 q.a4 (by decide)
  have d4:x t≠c t+3:=ne_tag q.a0 q.a5 (by decide)
  have d5:x t+1≠c t:=ne_tag q.a1 q.a2 (by decide)
  have d6:x t+1≠c t+1:=ne_tag q.a1 q.a3 (by decide)
  have d7:x t+1≠c t+2:=ne_tag q.a1 q.a4 (by decide)
  have d8:x t+1≠c t+3:=ne_tag q.a1 q.a5 (by decide)
  have l1:=q.lo.1
  have l2:=q.lo.2
  obtain ⟨k0,hk0⟩:=g4
  obtain ⟨M2,e1,e2,e3⟩:=g3.fz' (b:=x t) (by omega) q.a0 hx
  obtain ⟨M3,i1,i2,i3⟩:=e3.fz' (b:=x t+1) (by omega) q.a1 (by rw [up_ne _ _ (by omega)];exact hx1)
  obtain ⟨M4,j1,j2,j3⟩:=i3.fz' (b:=c t) (by omega) q.a2 (by rw [up_ne _ _ (by omega),up_ne _ _ (by omega)];exact hc0)
  obtain ⟨M5,m1,m2,m3⟩:=j3.fz' (b:=c t+1) (by omega) q.a3 (by rw [up_ne _ _ (by omega),up_ne _ _ (by omega),up_ne _ _ (by omega)];exact hc1)
  have n1:=m3.memoed (k:=k0) (b:=c t+2) (d:=c t+3) (A t) (by omega) (by omega) (hk0 _ (Nat.le_refl _)).1 (hk0 _ (Nat.le_refl _)).2
   (by rw [up_ne _ _ (by omega),up_ne _ _ (by omega),up_ne _ _ (by omega),up_ne _ _ (by omega)];exact hc2) (by rw [up_ne _ _ (by omega),up_ne _ _ (by omega),up_ne _ _ (by omega),up_ne _ _ (by omega)];exact hc3) (by omega) q.a4 q.a5
  have l35:FLe M3 M5:=j1.trans m1
  have l15:FLe M1 M5:=(e1.trans i1).trans l35
  have lk:=KLe.up (K:=K1) (hk0 _ (Nat.le_refl _)).1 ⟨c t+2,c t+3,A t⟩
  refine ⟨M5,_,_,g1.trans l15,g2.trans lk,n1,Few.up ⟨k0,hk0⟩,fun b hb => ?_,fun k hk => ?_,fun b hb hb2 => ?_⟩
  ·rw [up_ne _ _ (by omega),up_ne _ _ (by omega),up_ne _ _ (by omega),up_ne _ _ (by omega),up_ne _ _ (by omega),up_ne _ _ (by omega)]
   exact g5 b hb
  ·by_cases ek:k=t
   ·subst ek
    exact ⟨(i1.trans l35) _ _ e2,l35 _ _ i2,m1 _ _ j2,m2,k0,up_same _ _ _⟩
   ·exact (g6 k (by omega)).up l15 lk
  ·by_cases a1:b=c t+3
   ·exact ⟨t,by omega,by omega⟩
   by_cases a2:b=c t+2
   ·exact ⟨t,by omega,by omega⟩
   by_cases a3:b=c t+1
   ·exact ⟨t,by omega,by omega⟩
   by_cases a4:b=c t
   ·exact ⟨t,by omega,by omega⟩
   by_cases a5:b=x t+1
   ·exact ⟨t,by omega,by omega⟩
   by_cases a6:b=x t
   ·exact ⟨t,by omega,by omega⟩
   rw [up_ne _ _ a1,up_ne _ _ a2,up_ne _ _ a3,up_ne _ _ a4,up_ne _ _ a5,up_ne _ _ a6] at hb
   obtain ⟨k,h1,h2⟩:=g7 b hb hb2
   exact ⟨k,by omega,h2⟩
end
def restV (F:Fs) (n:Nat) (c:Nat→Nat) (j:Nat):Value:=if j=n then .func (.func 63) #[] #[] else if j+1=n then .func (.func (F.fe j)) #[] (F.ce j) else knV (c j)
theorem OkF66:OkF 66:=⟨_,Tryd.func66,by kernel_rfl,by kernel_rfl⟩
theorem drop_cons {ks:List Kd} {j:Nat} {k:Kd} (h:ks[j]?=some k):ks.drop j=k::ks.drop (j+1):=by
 have hl:=(List.getElem?_eq_some_iff.1 h).1
 rw [List.drop_eq_getElem_cons hl]
 congr 1
 rw [List.getElem?_eq_getElem hl] at h
 exact Option.some.inj h
theorem rests_at {L:Nat} {M:Fz} {K:Ks} {N:Nat} (hL:L≤22) (ks:List Kd) (n:Nat) (hn:ks.length=n) (hn1:n≤900) (S:ByteArray) (hS:S.size=L) (rB rR:Nat) (vals:Array Value) (c x:Nat→Nat) (hk:∀ k∈ks,KdOK L M K N k)
  (m3:M rB=some (.cells #[.slice (some ⟨rR,0,none⟩) (n+1) (n+1)] 104 (0,0))) (m4:M rR=some (.cells vals 46 (0,0))) (hv:∀ j,j≤n→vals[j]?=some (restV (fsOf ks) n c j))
  (hl:∀ k,k+1<n→LayIn (fsOf ks) rB S c x (fun j=>pl L (seqL (ends (ks.drop j)))) M K k) :
  ∀ d j,j+d=n→∃ f cf,vals[j]?=some (.func (.func f) #[] cf)∧OkF f∧∀ q,q≤L→At L M K f cf q (pl L (seqL (ends (ks.drop j))) q)
 | 0,j,h=>by
  refine ⟨63,#[],by rw [hv j (by omega)];simp only [restV,if_pos (show j=n by omega)],OkF63,fun q hq => ?_⟩
  rw [List.drop_eq_nil_of_le (by omega)]
  show At L M K 63 #[] q (pl L emptyB q)
  rw [pl_empty hq]
  exact (only_qu M q (by omega)).at
 | d+1,j,h=>by
  obtain ⟨k,hkj⟩:∃ k,ks[j]?=some k:=⟨_,List.getElem?_eq_getElem (by omega)⟩
  have hok:=hk k (List.mem_of_getElem? hkj)
  have hG:=(fsOf_kid hkj hok).1
  obtain ⟨f1,c1,he,ho1,hA1⟩:=hok.e
  rw [he] at hG
  injection hG with hG1 hG2 hG3
  injection hG1 with hG1
  have hd:=drop_cons hkj
  rw [hd]
  by_cases hlast:j+1=n
  ·refine ⟨f1,c1,?_,ho1,fun q hq => ?_⟩
   ·rw [hv j (by omega)]
    simp only [restV,if_neg (show ¬ j=n by omega),if_pos hlast,←hG1,←hG3]
   ·rw [List.drop_eq_nil_of_le (by omega)]
    show At L M K f1 c1 q (pl L (seqL [k.a]) q)
    rw [pl_last hok.mono]
    exact hA1 q hq
  ·obtain ⟨f2,c2,hv2,ho2,hA2⟩:=rests_at hL ks n hn hn1 S hS rB rR vals c x hk m3 m4 hv hl d (j+1) (by omega)
   have q:=hl j (by omega)
   obtain ⟨kk,hkk⟩:=q.a4
   refine ⟨86,#[.pointer (some ⟨c j+2,0,none⟩),.pointer (some ⟨c j,0,none⟩),.pointer (some ⟨c j+3,0,none⟩),.pointer (some ⟨c j+1,0,none⟩)],?_,OkF86,fun p hp => ?_⟩
   ·rw [hv j (by omega)]
    simp only [restV,if_neg (show ¬ j=n by omega),if_neg hlast,knV]
   ·refine knV_at hL hp hS q.a2 q.a3 hkk OkF66 (by show _=pl L (seqL (ends (ks.drop j))) p;rw [hd]) ?_
    have hm:pl L (seqL (ends (k::ks.drop (j+1)))) p=un (pl L (seqL (ends (ks.drop (j+1))))) (L+1) (pl L k.a p):=pl_seq hok.mono (mono_seqL _) hp
    rw [hm]
    refine ask_cat L M K (x j+1) rB rR (x j) (n+1) j vals f1 f2 c1 c2 (.func (.func ((fsOf ks).fp j)) #[] ((fsOf ks).cp j)) _ p (pl L k.a p) hL (pl_lt _ _ _) (fun q=>pl_lt _ _ _) ho1 ho2 (by omega) (by omega) ?_ m3 q.a0 m4 hv2 (hA1 p hp) (fun q hq _=>hA2 q hq)
    rw [q.a1,←hG1,←hG3]
end Go.Proofs.YtfhimmnoipfiaaaDoor.eng
