import Derived.Test.YtcfdmbkiinjmaaaGreatZ07
set_option linter.unusedVariables false
open Go.ChangeShapes Go.WideShapes Go.ChangeAt Go.RowKit
namespace Go.Proofs.YtcfdmbkiinjmaaaGreat.ssame
open Raft mem srun ssend sdown ssmall scopy
variable {F:Nat→Option Obj}
def strOf (ys:List Int):ByteArray:=⟨(ys.map fun y=>UInt8.ofNat y.toNat).toArray⟩
theorem run_str {M:Fz} {w:World} (hI:In M w) {u:Value} {ys:List Int} (h:BytesM M u ys):(convert 42 9 u).run Tryz.prog w=.ok (.string (strOf ys)) w:=by
 obtain ⟨⟨ao,cap,rfl,h1,h2,h3,h4,h5⟩,hbd⟩:=h
 cases ao with
 | none =>
  obtain ⟨e1,e2⟩:=h4 rfl
  have hys:ys=[]:=List.length_eq_zero_iff.1 e1
  subst hys
  exact Lib.run_convert_nil_bytes w 42 9 5 cap Tryz.underlying42 Tryz.underlying5 Tryz.underlying9
 | some ad =>
  have hl:(ys.map fun y=>UInt8.ofNat y.toNat).length=ys.length:=by simp
  have:=run_convert_bytes_back (P:=Tryz.prog) w 42 9 5 ad cap (ys.map fun y=>UInt8.ofNat y.toNat) Tryz.underlying42 Tryz.underlying5 Tryz.underlying9 (fun j hj=>by
   rw [hl] at hj
   obtain ⟨b,off,e,hc⟩:=h5 (by omega)
   simp only [Option.some.injEq] at e
   subst e
   have hb:=hbd _ (List.getElem_mem hj)
   rw [addr_add,hI.cell (hc j (.int .u8 ys[j]) (by simp [hj]))]
   have hmod:(UInt8.ofNat (ys[j]).toNat).toNat=(ys[j]).toNat:=by
    simp
    omega
   simp only [List.getElem_map,hmod]
   congr 2
   omega)
  rw [hl] at this
  exact this
theorem byte_inj {a b:Int} (ha:0≤a∧a≤255) (hb:0≤b∧b≤255) (h:UInt8.ofNat a.toNat=UInt8.ofNat b.toNat):a=b:=by
 have:=congrArg UInt8.toNat h
 simp at this
 omega
theorem map_inj:∀ (xs ys:List Int),(∀ x∈xs,0≤x∧x≤255)→(∀ y∈ys,0≤y∧y≤255)→xs.map (fun x=>UInt8.ofNat x.toNat)=ys.map (fun x=>UInt8.ofNat x.toNat)→xs=ys
 | [],[],_,_,_=>rfl
 | [],y::ys,_,_,h=>by simp at h
 | x::xs,[],_,_,h=>by simp at h
 | x::xs,y::ys,hx,hy,h=>by
  simp only [List.map_cons,List.cons.injEq] at h
  rw [byte_inj (hx x (by simp)) (hy y (by simp)) h.1,map_inj xs ys (fun z hz=>hx z (by simp [hz])) (fun z hz=>hy z (by simp [hz])) h.2]
theorem str_eq {xs ys:List Int} (hx:∀ x∈xs,0≤x∧x≤255) (hy:∀ y∈ys,0≤y∧y≤255):((strOf xs).toList == (strOf ys).toList)=decide (xs=ys):=by
 by_cases h:xs=ys
 ·subst h;simp
 ·have:(strOf xs).toList≠(strOf ys).toList:=fun e=>h (map_inj xs ys hx hy (by
   have e2:(strOf xs)=(strOf ys):=by
    have h3:=congrArg (fun l:List UInt8=>(⟨l.toArray⟩:ByteArray)) e
    simpa [strOf] using h3
   have h4:=congrArg (fun a:ByteArray=>a.data.toList) e2
   simpa [strOf] using h4))
  rw [decide_eq_false h]
  exact beq_eq_false_iff_ne.2 this
set_option maxHeartbeats 1600000 in
theorem same_core (w:World) (M:Fz) (hI:In M w) (t i t2 i2:Nat) (xs ys:List Int) (o o2:Option Addr) (n c n2 c2:Nat) (h1:BytesM M (.slice o n c) xs) (h2:BytesM M (.slice o2 n2 c2) ys) :
  Calls Tryz.prog 75 #[.agg #[.int .i64 t,.int .i64 i,.slice o n c],.agg #[.int .i64 t2,.int .i64 i2,.slice o2 n2 c2]] w fun e w'=>e=.returned (.bool (decide (t=t2) && (decide (i=i2) && decide (xs=ys))))∧Below w.heap.size w w':=by
 have bW:Below w.heap.size w ((w.alloc (.cells #[.int .i64 t,.int .i64 i,.slice o n c] 74)).alloc (.cells #[.int .i64 t2,.int .i64 i2,.slice o2 n2 c2] 74)):=by
  have h:=(Below.refl w.heap.size w).alloc (Nat.le_refl _) (.cells #[.int .i64 t,.int .i64 i,.slice o n c] 74)
  exact h.alloc h.size _
 have HB:=hide bW
 have hs1:=run_str (hI.below bW) h1
 have hs2:=run_str (hI.below bW) h2
 have HSE:=hide (str_eq h1.2 h2.2)
 clear bW hI h1 h2
 by_cases ht:t=t2
 ·subst ht
  by_cases hi:i=i2
  ·subst hi
   obtain ⟨s1,hs1e⟩:∃ s,s=strOf xs:=⟨_,rfl⟩
   obtain ⟨s2,hs2e⟩:∃ s,s=strOf ys:=⟨_,rfl⟩
   rw [←hs1e] at hs1 HSE
   rw [←hs2e] at hs2 HSE
   clear hs1e hs2e
   rw [show (decide (t=t) && (decide (i=i) && decide (xs=ys)))=(s1.toList == s2.toList) from by rw [HSE.out];simp]
   clear HSE
   go_enter Tryz.func75,Tryz.ntmps75
   go_wp2
   go_ret
   exact ⟨rfl,HB.out⟩
  ·have hi':((i:Int) == i2)=false:=by simp;omega
   rw [show (decide (t=t) && (decide (i=i2) && decide (xs=ys)))=false from by simp [hi]]
   clear hi
   go_enter Tryz.func75,Tryz.ntmps75
   go_wp2
   go_ret
   exact ⟨rfl,HB.out⟩
 ·have ht':((t:Int) == t2)=false:=by simp;omega
  rw [show (decide (t=t2) && (decide (i=i2) && decide (xs=ys)))=false from by simp [ht]]
  clear ht
  go_enter Tryz.func75,Tryz.ntmps75
  go_wp2
  go_ret
  exact ⟨rfl,HB.out⟩
theorem same_any (w:World) (M:Fz) (hI:In M w) (r r2:Rc) (o o2:Option Addr) (n c n2 c2:Nat) (h1:BytesM M (.slice o n c) r.data) (h2:BytesM M (.slice o2 n2 c2) r2.data) :
  Calls Tryz.prog 75 #[.agg #[.int .i64 r.term,.int .i64 r.index,.slice o n c],.agg #[.int .i64 r2.term,.int .i64 r2.index,.slice o2 n2 c2]] w fun e w'=>e=.returned (.bool (decide (r=r2)))∧Below w.heap.size w w':=by
 have e:decide (r=r2)=(decide (r.term=r2.term) && (decide (r.index=r2.index) && decide (r.data=r2.data))):=by
  cases r;cases r2
  simp [Bool.decide_and]
 rw [e]
 exact same_core w M hI r.term r.index r2.term r2.index r.data r2.data o o2 n c n2 c2 h1 h2
end Go.Proofs.YtcfdmbkiinjmaaaGreat.ssame
namespace Go.Proofs.YtcfdmbkiinjmaaaGreat.schos
open Raft mem srun ssend sdown ssmall scopy ssame
variable {F:Nat→Option Obj}
section
variable {T:Ty} {w:World} {M:Fz} {base d P pc:Nat} {c:Cl} {us:List PV} {ns:List MV} {nv:Value} {cs:List RV} {cv:Value}
theorem Run.choose (h:Run T w M base d P pc c us ns nv cs cv) {w2:World} {g n cap:Nat} {y:RV} (hy:BytesM M y.dv y.r.data∧y.r.data.length≤1000)
  (hO:w2.ownsRow base T.rc 3 (.slice (some ⟨g,0,none⟩) n cap) (cs.length+1) (cs.flatMap recCells++recCells y)) (hG:w.grownBy w2 cv.ownBlock) (hg:cv.ownBlock=some g∨g=w.heap.size) :
  Run T (w2.setCell ⟨d,2,none⟩ (.slice (some ⟨g,0,none⟩) n cap)) M base d P pc { c with chosen:=c.chosen++[y.r] } us ns nv (cs++[y]) (.slice (some ⟨g,0,none⟩) n cap):=by
 have hgm:∀ b,b=d∨b=P∨IsRow us b→b≠g:=fun b hb e=>by
  subst e
  rcases hg with hg | hg
  ·rcases hb with hb | hb | hb
   ·exact h.apart.2.2.2.1 (hb ▸ hg)
   ·exact h.apart.2.2.2.2.1 (hb ▸ hg)
   ·exact h.apart.2.2.2.2.2 b hb hg
  ·have:b<w.heap.size:=h.mine (by
    rcases hb with hb | hb | hb
    ·exact .inl hb
    ·exact .inr (.inl hb)
    ·exact .inr (.inr (.inl hb)))
   omega
 have hsame:∀ b,b=d∨b=P∨IsRow us b→w2.heap[b]?=w.heap[b]? := fun b hb=>hG.block b (h.mine (by
   rcases hb with hb | hb | hb
   ·exact .inl hb
   ·exact .inr (.inl hb)
   ·exact .inr (.inr (.inl hb)))) (fun e=>by
   rcases hb with hb | hb | hb
   ·exact h.apart.2.2.2.1 (hb ▸ e.symm)
   ·exact h.apart.2.2.2.2.1 (hb ▸ e.symm)
   ·exact h.apart.2.2.2.2.2 b hb e.symm)
 have hI2:In M w2:=h.inn.grown hG (fun k hk=>h.free k (.inr (.inr (.inr hk))))
 have hfree:∀ b,Mine d P us (.slice (some ⟨g,0,none⟩) n cap) b→M b=none:=fun b hb=>by
  rcases hb with hb | hb | hb | hb
  ·exact h.free b (.inl hb)
  ·exact h.free b (.inr (.inl hb))
  ·exact h.free b (.inr (.inr (.inl hb)))
  ·simp only [Value.ownBlock,Option.some.injEq] at hb
   subst hb
   rcases hg with hg | hg
   ·exact h.free g (.inr (.inr (.inr hg)))
   ·exact h.inn.fresh (by omega)
 have hne:∀ b,b≠d→(w2.setCell ⟨d,2,none⟩ (.slice (some ⟨g,0,none⟩) n cap)).heap[b]?=w2.heap[b]? := fun b hb=>Below.heap_setCell w2 ⟨d,2,none⟩ _ b hb
 have hrow:∀ b,IsRow us b→(w2.setCell ⟨d,2,none⟩ (.slice (some ⟨g,0,none⟩) n cap)).heap[b]?=w.heap[b]? := fun b hb=>(hne b (fun e=>h.apart.2.1 (e ▸ hb))).trans (hsame b (.inr (.inr hb)))
 exact {
  inn:=hI2.set (h.free d (.inl rfl)) _
  blk:=by
   have:=heap_setCell_same w2 d 2 _ T.run (.slice (some ⟨g,0,none⟩) n cap) ((hsame d (.inl rfl)).trans h.blk)
   simpa using this
  row:=by
   obtain ⟨cur,q1,q2⟩:=h.row
   exact ⟨cur,((hne P (Ne.symm h.apart.1)).trans (hsame P (.inr (.inl rfl)))).trans q1,q2⟩
  cap:=h.cap
  peers:=h.peers
  logs:=h.logs
  votes:=fun x hx=>row_kept (h.votes x hx) fun b hb=>hrow b (mem_blocks hx (by simp [rows]) hb)
  next:=fun x hx=>row_kept (h.next x hx) fun b hb=>hrow b (mem_blocks hx (by simp [rows]) hb)
  mat:=fun x hx=>row_kept (h.mat x hx) fun b hb=>hrow b (mem_blocks hx (by simp [rows]) hb)
  lone:=h.lone
  free:=hfree
  net:=h.net
  nets:=h.nets
  chos:=by
   have h1:w2.ownsRow base T.rc 3 (.slice (some ⟨g,0,none⟩) n cap) (cs++[y]).length ((cs++[y]).flatMap recCells):=by simpa using hO
   exact row_kept h1 fun b hb=>hne b (fun e=>by
    simp only [Value.ownBlock,Option.some.injEq] at hb
    exact hgm d (.inl rfl) (by omega))
  chosen:=by rw [List.map_append,h.chosen];rfl
  data:=fun x hx=>by
   rcases List.mem_append.1 hx with hx | hx
   ·exact h.data x hx
   ·simp only [List.mem_singleton] at hx
    subst hx
    exact hy
  low:=h.low
  apart:=⟨h.apart.1,h.apart.2.1,h.apart.2.2.1,fun e=>by
    simp only [Value.ownBlock,Option.some.injEq] at e
    exact hgm d (.inl rfl) e.symm,fun e=>by
    simp only [Value.ownBlock,Option.some.injEq] at e
    exact hgm P (.inr (.inl rfl)) e.symm,fun b hb e=>by
    simp only [Value.ownBlock,Option.some.injEq] at e
    exact hgm b (.inr (.inr hb)) e.symm⟩
  far:=fun b o e=>⟨(hne b (fun q=>(h.far b o e).2.2 (.inl q))).trans ((hG.block b (h.farL e) (fun q=>(h.far b o e).2.2 (.inr (.inr (.inr q.symm))))).trans (h.far b o e).1),(h.far b o e).2.1,fun hm=>by
   rcases hm with hm | hm | hm | hm
   ·exact (h.far b o e).2.2 (.inl hm)
   ·exact (h.far b o e).2.2 (.inr (.inl hm))
   ·exact (h.far b o e).2.2 (.inr (.inr (.inl hm)))
   ·simp only [Value.ownBlock,Option.some.injEq] at hm
    subst hm
    rcases hg with hg | hg
    ·exact (h.far g o e).2.2 (.inr (.inr (.inr hg)))
    ·have:=h.farL e;omega⟩ }
theorem Run.clash (h:Run T w M base d P pc c us ns nv cs cv):Run T (w.setCell ⟨d,3,none⟩ (.bool true)) M base d P pc { c with conflict:=true } us ns nv cs cv:=by
 have hne:∀ b,b≠d→(w.setCell ⟨d,3,none⟩ (.bool true)).heap[b]?=w.heap[b]? := fun b hb=>Below.heap_setCell w ⟨d,3,none⟩ _ b hb
 exact {
  inn:=h.inn.set (h.free d (.inl rfl)) _
  blk:=by
   have:=heap_setCell_same w d 3 _ T.run (.bool true) h.blk
   simpa using this
  row:=by
   obtain ⟨cur,q1,q2⟩:=h.row
   exact ⟨cur,(hne P (Ne.symm h.apart.1)).trans q1,q2⟩
  cap:=h.cap
  peers:=h.peers
  logs:=h.logs
  votes:=fun x hx=>row_kept (h.votes x hx) fun b hb=>hne b (fun e=>h.apart.2.1 (e ▸ mem_blocks hx (by simp [rows]) hb))
  next:=fun x hx=>row_kept (h.next x hx) fun b hb=>hne b (fun e=>h.apart.2.1 (e ▸ mem_blocks hx (by simp [rows]) hb))
  mat:=fun x hx=>row_kept (h.mat x hx) fun b hb=>hne b (fun e=>h.apart.2.1 (e ▸ mem_blocks hx (by simp [rows]) hb))
  lone:=h.lone
  free:=h.free
  net:=h.net
  nets:=h.nets
  chos:=row_kept h.chos fun b hb=>hne b (fun e=>h.apart.2.2.2.1 (e ▸ hb))
  chosen:=h.chosen
  data:=h.data
  low:=h.low
  apart:=h.apart
  far:=fun b o e=>⟨(hne b (fun q=>(h.far b o e).2.2 (.inl q))).trans (h.far b o e).1,(h.far b o e).2⟩ }
end
def noteN (l:List Rc):Nat→List Rc×Bool→List Rc×Bool
 | 0,s=>s
 | i+1,s =>
  let p:=noteN l i s
  match l[i]? with
  | none=>p
  | some r =>
   let ch:=if i=p.1.length then p.1++[r] else p.1
   (ch,p.2 || decide (ch[i]? ≠ some r))
theorem noteN_len (l:List Rc) (s:List Rc×Bool):∀ i,i≤l.length→s.1.length≤(noteN l i s).1.length∧i≤(noteN l i s).1.length
 | 0,_=>by simp [noteN]
 | i+1,h=>by
  obtain ⟨h1,h2⟩:=noteN_len l s i (by omega)
  rw [noteN,List.getElem?_eq_getElem (by omega)]
  simp only
  split
  ·simp;omega
  ·omega
theorem take_snoc {l:List Rc} {i:Nat} {r:Rc} (h:l[i]?=some r):l.take (i+1)=l.take i++[r]:=by
 have hlt:=(List.getElem?_eq_some_iff.1 h).1
 rw [List.take_succ_eq_append_getElem hlt]
 congr 2
 have:=List.getElem?_eq_getElem hlt
 rw [h] at this
 exact (Option.some.inj this).symm
theorem noteN_eq (l:List Rc) (ch:List Rc) (b:Bool):∀ i,i≤l.length→noteN l i (ch,b)=(ch++(l.take i).drop ch.length,b || decide ((l.take i).take ch.length≠ch.take i))
 | 0,_=>by simp [noteN]
 | i+1,h=>by
  obtain ⟨r,hr⟩:∃ r,l[i]?=some r:=⟨_,List.getElem?_eq_getElem (by omega)⟩
  have hl:(l.take i).length=i:=by rw [List.length_take];omega
  rw [noteN,noteN_eq l ch b i (by omega),hr]
  simp only
  by_cases hi:i<ch.length
  ·have e1:(l.take i).drop ch.length=[]:=List.drop_eq_nil_of_le (by omega)
   have e2:(l.take (i+1)).drop ch.length=[]:=List.drop_eq_nil_of_le (by rw [List.length_take];omega)
   have e3:(l.take i).take ch.length=l.take i:=List.take_of_length_le (by omega)
   have e4:(l.take (i+1)).take ch.length=l.take (i+1):=List.take_of_length_le (by rw [List.length_take];omega)
   obtain ⟨x,hx⟩:∃ x,ch[i]?=some x:=⟨_,List.getElem?_eq_getElem hi⟩
   rw [e1,e2,e3,e4,List.append_nil,if_neg (by omega),take_snoc hr,take_snoc hx,hx]
   simp only [Prod.mk.injEq,true_and,Bool.or_assoc]
   congr 1
   by_cases h1:l.take i=ch.take i
   ·rw [h1]
    by_cases h2:x=r
    ·subst h2;simp
    ·have h3:¬ (ch.take i++[r]=ch.take i++[x]):=fun e=>h2 (by simpa using (List.append_cancel_left e).symm)
     simp [h2,h3]
   ·have h3:¬ (l.take i++[r]=ch.take i++[x]):=fun e=>h1 (List.append_inj_left e (by rw [hl,List.length_take];omega))
    simp [h1,h3]
  ·have e0:(ch++(l.take i).drop ch.length).length=i:=by simp;omega
   have e1:(l.take (i+1)).drop ch.length=(l.take i).drop ch.length++[r]:=by
    rw [take_snoc hr,List.drop_append_of_le_length (by omega)]
   have e2:(l.take (i+1)).take ch.length=(l.take i).take ch.length:=by
    rw [take_snoc hr,List.take_append_of_le_length (by omega)]
   have e3:ch.take (i+1)=ch.take i:=by rw [List.take_of_length_le (by omega),List.take_of_length_le (by omega)]
   have e4:(ch++((l.take i).drop ch.length)++[r])[i]?=some r:=by
    rw [List.getElem?_append_right (by omega),e0,Nat.sub_self];rfl
   rw [if_pos e0.symm,e1,e2,e3,e4,←List.append_assoc]
   simp
theorem note_eq (c:Cl) (k:Nat):c.note k={ c with chosen:=(noteN ((c.at k).log.take (c.at k).commit) ((c.at k).log.take (c.at k).commit).length (c.chosen,c.conflict)).1,conflict:=(noteN ((c.at k).log.take (c.at k).commit) ((c.at k).log.take (c.at k).commit).length (c.chosen,c.conflict)).2 }:=by
 rw [noteN_eq _ _ _ _ (Nat.le_refl _)]
 unfold Cl.note
 simp only [List.take_length]
end Go.Proofs.YtcfdmbkiinjmaaaGreat.schos
namespace Go.Proofs.YtcfdmbkiinjmaaaGreat.srecs
open Raft mem srun ssend sdown ssmall scopy
variable {F:Nat→Option Obj}
theorem info75:(Tryz.prog.info? 74).map (fun i=>(i.zero,i.size,i.bytes))=some (some (.agg #[.int .i64 0,.int .i64 0,.slice none 0 0]),3,40):=by kernel_rfl
theorem lit75 {w:World} {k base:Nat} (h:w.heap[k]?=some (.cells #[] 74 (0,0))) (hb:base≤k):w.ownsRow base 74 3 (.slice (some ⟨k,0,none⟩) 0 0) 0 [] :=
 ⟨rfl,.inr ⟨k,0,#[],rfl,hb,h,Nat.le_refl _,by simp [maxLen],by simp,by simp⟩⟩
structure Log (W wr:World) (M:Fz) (lv:Value) (l:List Rc) (M':Fz) (ls:List RV):Prop where
 le:Le M M'
 inn:In M' wr
 row:wr.ownsRow W.heap.size 74 3 lv ls.length (ls.flatMap recCells)
 recs:ls.map (·.r)=l
 data:∀ y∈ls,BytesM M' y.dv y.r.data∧y.r.data.length≤1000
 bel:Below W.heap.size W wr
 dom:∀ b ob,M' b=some ob→M b=some ob∨(W.heap.size≤b∧∃ cur fr,ob=.cells cur 5 fr)
theorem Log.free {W wr:World} {M M':Fz} {lv:Value} {l:List Rc} {ls:List RV} (h:Log W wr M lv l M' ls) (hM:In M W) {g:Nat} (hg:lv.ownBlock=some g):M' g=none:=by
 cases e:M' g with
 | none=>rfl
 | some ob =>
  have hlt:=row_lt h.row hg
  rcases h.dom g ob e with h1 | ⟨_,cur,fr,rfl⟩
  ·have:=hM.lt h1;omega
  ·have h2:=h.inn g _ e
   obtain ⟨_,⟨rfl,_⟩|⟨g',cap,cur',rfl,_,hh,_⟩⟩:=h.row
   ·simp [Value.ownBlock] at hg
   ·simp only [Value.ownBlock,Option.some.injEq] at hg
    subst hg
    rw [hh] at h2
    simp at h2
theorem Log.more {W wr w1 w2:World} {M M' M'':Fz} {lv v2:Value} {l:List Rc} {ls:List RV} {r:Rc} {dv:Value} (h:Log W wr M lv l M' ls) (hl:Le M' M'') (hI:In M'' w1) (hB:Below wr.heap.size wr w1)
  (hdom:∀ b ob,M'' b=some ob→M' b=some ob∨(wr.heap.size≤b∧∃ cur fr,ob=.cells cur 5 fr)) (hb:BytesM M'' dv r.data) (hr:r.data.length≤1000) (hM:In M W)
  (hO:w2.ownsRow W.heap.size 74 3 v2 (ls.length+1) (ls.flatMap recCells++recCells ⟨r,dv⟩)) (hg:w1.grownBy w2 lv.ownBlock):Log W w2 M v2 (l++[r]) M'' (ls++[⟨r,dv⟩]) where
 le:=h.le.trans hl
 inn:=hI.grown hg (fun k hk=>by
  have h1:=h.free hM hk
  cases e:M'' k with
  | none=>rfl
  | some ob =>
   rcases hdom k ob e with h2 | h2
   ·rw [h1] at h2;cases h2
   ·have:=(row_lt h.row hk).2;omega)
 row:=by simpa using hO
 recs:=by rw [List.map_append,h.recs];rfl
 data:=fun y hy=>by
  rcases List.mem_append.1 hy with hy | hy
  ·exact ⟨(h.data y hy).1.le hl,(h.data y hy).2⟩
  ·simp only [List.mem_singleton] at hy
   subst hy
   exact ⟨hb,hr⟩
 bel:=(h.bel.trans (hB.mono h.bel.size)).grown hg (by have:=h.bel.size;have:=hB.size;omega) (fun k hk=>(row_lt h.row hk).1)
 dom:=fun b ob hb'=>by
  rcases hdom b ob hb' with h1 | h1
  ·exact h.dom b ob h1
  ·exact .inr ⟨by have:=h.bel.size;omega,h1.2⟩
theorem Log.done {W wr:World} {M M':Fz} {lv:Value} {l:List Rc} {ls:List RV} (h:Log W wr M lv l M' ls) (hM:In M W):∃ M'',Le M M''∧In M'' wr∧RecsM M'' lv l∧∀ b,M'' b≠none→M b≠none∨W.heap.size≤b:=by
 obtain ⟨M'',h1,h2,h3,h4⟩:=RowM.freeze h.row h.inn (fun g hg=>h.free hM hg)
 refine ⟨M'',h.le.trans h1,h2,⟨ls,h.recs,h3,fun y hy=>⟨(h.data y hy).1.le h1,(h.data y hy).2⟩⟩,fun b hb => ?_⟩
 rcases h4 b hb with h5 | h5
 ·cases e:M' b with
  | none=>exact absurd e h5
  | some ob =>
   rcases h.dom b ob e with h6 | h6
   ·exact .inl (by rw [h6];simp)
   ·exact .inr h6.1
 ·exact .inr (row_lt h.row h5).1
theorem rec_one (us:List RV) (h:∀ y∈us,∃ o n c,y.dv=.slice o n c):∀ y∈us.flatMap recCells,y.oneCell'=true:=by
 intro y hy
 obtain ⟨x,hx,hy⟩:=List.mem_flatMap.1 hy
 obtain ⟨o,n,c,e⟩:=h x hx
 simp only [recCells,List.mem_cons,List.not_mem_nil,or_false] at hy
 rcases hy with rfl | rfl | rfl
 all_goals first | rfl | (rw [e];rfl)
end Go.Proofs.YtcfdmbkiinjmaaaGreat.srecs
namespace Go.Proofs.YtcfdmbkiinjmaaaGreat.sapp
open Raft mem srun ssend sdown ssmall scopy srecs
variable {F:Nat→Option Obj}
theorem bytes_slice {M:Fz} {v:Value} {xs:List Int} (h:BytesM M v xs):∃ o n c,v=.slice o n c:=by
 obtain ⟨⟨ao,cap,rfl,_⟩,_⟩:=h
 exact ⟨_,_,_,rfl⟩
theorem take_more {l:List Rc} {a j:Nat} {r:Rc} (h:l[a+j]?=some r):(l.drop a).take (j+1)=(l.drop a).take j++[r]:=by
 have hlt:=(List.getElem?_eq_some_iff.1 h).1
 have h1:j<(l.drop a).length:=by simp;omega
 rw [List.take_succ_eq_append_getElem h1]
 congr 2
 have:=List.getElem?_eq_getElem h1
 rw [List.getElem?_drop,h] at this
 exact (Option.some.inj this).symm
theorem own_slice {w:World} {base e sz:Nat} {v:Value} {n:Nat} {xs:List Value} (h:w.ownsRow base e sz v n xs):∃ o n c,v=.slice o n c:=by
 obtain ⟨_,⟨e1,_⟩|⟨g,cap,cur,e1,_⟩⟩:=h
 ·exact ⟨_,_,_,e1⟩
 ·exact ⟨_,_,_,e1⟩
set_option maxRecDepth 20000 in
set_option maxHeartbeats 1600000 in
theorem append_any (w:World) (M:Fz) (base d P pc:Nat) (c:Cl) (us:List PV) (ns:List MV) (nv:Value) (cs:List RV) (cv:Value) (h:Run (TS F) w M base d P pc c us ns nv cs cv) (k «to» : Nat) (x:PV) (hk:us[k]?=some x)
  (f:Nat) (hf:x.p.next[«to»]?=some f) (h1:1≤f) (h2:f≤x.p.log.length+1) (hlen:x.p.log.length≤1000) :
  Calls Tryz.prog 59 #[.pointer (some ⟨d,0,none⟩),.int .i64 k,.int .i64 «to»] w fun r w'=>r=.returned (.tuple #[])∧Sent F w M base d P pc (c.records k «to») us cs cv w':=by
 have hxm:x∈us:=List.mem_iff_getElem?.2 ⟨k,hk⟩
 have hlt:k<us.length:=(List.getElem?_eq_some_iff.1 hk).1
 have htl : «to» < x.p.next.length:=(List.getElem?_eq_some_iff.1 hf).1
 have hcap:=h.cap
 unfold maxLen at hcap
 obtain ⟨ls0,hls0,hrow0,_⟩:=h.logs x hxm
 obtain ⟨lo,lc,hlv,hlcm⟩:=slice_one hrow0
 obtain ⟨L,hL⟩:∃ L,L=ls0.length:=⟨_,rfl⟩
 rw [←hL] at hlv
 have hlog:RecsM M (.slice lo L lc) x.p.log:=by rw [←hlv];exact h.logs x hxm
 obtain ⟨hLn,_,hLc⟩:=recs_len hlog
 have hnx:=h.next x hxm
 obtain ⟨g,ncap,cur,hnv,hbg,hgc,hnc,hncm,hncs,hnt⟩:∃ g cap cur,x.nv=.slice (some ⟨g,0,none⟩) x.p.next.length cap∧base≤g∧w.heap[g]?=some (.cells cur 3 (0,0))∧x.p.next.length≤cap∧cap≤maxLen∧cur.size=cap*1∧cur.toList.take (x.p.next.length*1)=x.p.next.map fun (n:Nat)=>Value.int .i64 (n:Int):=by
  obtain ⟨_,⟨_,e⟩|⟨g,cap,cur,e⟩⟩:=hnx
  ·omega
  ·exact ⟨g,cap,cur,e⟩
 obtain ⟨vo,vn,vc,hvv⟩:=own_slice (h.votes x hxm)
 obtain ⟨mo,mn,mc,hmv⟩:=own_slice (h.mat x hxm)
 obtain ⟨nn,hnn⟩:∃ nn,nn=x.p.next.length:=⟨_,rfl⟩
 rw [←hnn] at hnv htl
 have hcg:w.cell? ⟨g,«to»,none⟩=some (.int .i64 f):=by
  refine cell_of hgc ?_
  have e:(x.p.next.map fun (n:Nat)=>Value.int .i64 (n:Int))[«to»]?=some (.int .i64 f):=by rw [List.getElem?_map,hf];rfl
  rw [←hnt,List.getElem?_take_of_lt (by omega)] at e
  simpa using e
 obtain ⟨W,hW⟩:∃ W,W=w.alloc (.cells #[.bool x.p.up,.int .i64 x.p.term,.int .i64 x.p.vote,.int .i64 x.p.commit,.int .i64 x.p.role,.slice lo L lc,.slice vo vn vc,.slice (some ⟨g,0,none⟩) nn ncap,.slice mo mn mc] 66):=⟨_,rfl⟩
 have bW:Below w.heap.size w W:=by rw [hW];exact (Below.refl _ _).alloc (Nat.le_refl _) _
 have zW:W.heap.size=w.heap.size+1:=by rw [hW];simp
 have hbox:W.heap[w.heap.size]?=some (.cells #[.bool x.p.up,.int .i64 x.p.term,.int .i64 x.p.vote,.int .i64 x.p.commit,.int .i64 x.p.role,.slice lo L lc,.slice vo vn vc,.slice (some ⟨g,0,none⟩) nn ncap,.slice mo mn mc] 66 (0,0)):=by rw [hW];exact heap_alloc_new w _
 have hRW:=h.below bW
 have c0:w.cell? ⟨d,0,none⟩=some (.slice (some ⟨P,0,none⟩) us.length pc):=cell_of h.blk rfl
 have y0:=(h.peerCell hk (j:=0) rfl).1
 rw [Nat.add_zero] at y0
 have y1:=(h.peerCell hk (j:=1) rfl).1
 have y2:=(h.peerCell hk (j:=2) rfl).1
 have y3:=(h.peerCell hk (j:=3) rfl).1
 have y4:=(h.peerCell hk (j:=4) rfl).1
 have y5:=(h.peerCell hk (j:=5) rfl).1
 have y6:=(h.peerCell hk (j:=6) rfl).1
 have y7:=(h.peerCell hk (j:=7) rfl).1
 have y8:=(h.peerCell hk (j:=8) rfl).1
 rw [hlv] at y5
 rw [hnv] at y7
 rw [hvv] at y6
 rw [hmv] at y8
 have hgW:W.cell? ⟨g,«to»,none⟩=some (.int .i64 f):=cell_of (kept bW hgc (Nat.le_refl _)) (by simpa [World.cell?,hgc] using hcg)
 have HK:Hid (∀ wx,Below W.heap.size W wx→wx.heap[w.heap.size]?=some (.cells #[.bool x.p.up,.int .i64 x.p.term,.int .i64 x.p.vote,.int .i64 x.p.commit,.int .i64 x.p.role,.slice lo L lc,.slice vo vn vc,.slice (some ⟨g,0,none⟩) nn ncap,.slice mo mn mc] 66 (0,0))):=fun wx hb=>kept hb hbox (Nat.le_refl _)
 have HR:Hid (Run (TS F) W M base d P pc c us ns nv cs cv∧RecsM M (.slice lo L lc) x.p.log∧L=x.p.log.length∧Below w.heap.size w W∧W.heap.size=w.heap.size+1):=⟨hRW,hlog,hLn,bW,zW⟩
 have HLog0:Hid (Log W (W.alloc (.cells #[] 74)) M (.slice (some ⟨W.heap.size,0,none⟩) 0 0) ((x.p.log.drop (f-1)).take 0) M []) :=
  ⟨Le.refl M,hRW.inn.below (more (Below.refl _ _) _),lit75 (heap_alloc_new W _) (Nat.le_refl _),rfl,by simp,more (Below.refl _ _) _,fun b ob hb=>.inl hb⟩
 have hrec:c.records k «to» = c.send ⟨3,k,«to»,x.p.term,f-1,termAt x.p.log (f-1),x.p.commit,false,x.p.log.drop (f-1)⟩:=by
  unfold Cl.records
  rw [(Run.at h hk).1]
  have e:x.p.next.getD «to» 0=f:=by rw [List.getD_eq_getElem?_getD,hf];rfl
  simp only [e]
 rw [hrec]
 have HCx:Hid (x.p.log.length≤1000∧1≤f∧f≤x.p.log.length+1):=⟨hlen,h1,h2⟩
 have hLI:L≤1000:=by omega
 have hfL:f≤L+1:=by omega
 rw [hW] at hgW
 clear zW hvv hmv hxm hls0 hrow0 hL hlv hlog hLn hnx hnv hnn hgc hnt hcg hbox bW hRW h hrec hlen h2 hf
 unfold maxLen at hncm hlcm
 go_enter Tryz.func59,Tryz.ntmps59
 go_wp2
 rw [←hW]
 obtain ⟨e,rfl⟩:∃ e,f=e+1:=⟨f-1,by omega⟩
 have hse:e+1-1=e:=by omega
 rw [show ((e+1:Nat):Int)=(e:Int)+1 from by omega]
 rw [hse] at HLog0
 have HRec:Hid (∀ (M':Fz) (wx:World) (j:Nat),Le M M'→In M' wx→e+j<L→∃ b off r o n c,lo=some ⟨b,off,none⟩∧x.p.log[e+j]?=some r∧wx.cell? ⟨b,off+(e+j)*3,none⟩=some (.int .i64 r.term)∧wx.cell? ⟨b,off+(e+j)*3+1,none⟩=some (.int .i64 r.index)∧wx.cell? ⟨b,off+(e+j)*3+2,none⟩=some (.slice o n c)∧BytesM M' (.slice o n c) r.data∧r.data.length≤1000):=fun M' wx j hl hI hj=>by
  have hlen:=HR.out.2.2.1
  obtain ⟨r,hr⟩:∃ r,x.p.log[e+j]?=some r:=⟨_,List.getElem?_eq_getElem (by omega)⟩
  obtain ⟨b,off,dv,q1,q2,q3,q4,q5,q6⟩:=recs_cell (HR.out.2.1.le hl) hI hr
  obtain ⟨o,n,c,q7⟩:=bytes_slice q5
  subst q7
  exact ⟨b,off,r,o,n,c,q1,hr,q2,q3,q4,q5,q6⟩
 obtain ⟨i0,hi,hz0,hz1,hz2⟩:=info_parts info75
 have HI:Hid (Tryz.prog.info? 74=some i0∧i0.zero=some (.agg #[.int .i64 0,.int .i64 0,.slice none 0 0])∧i0.size=3∧i0.bytes=40):=⟨hi,hz0,hz1,hz2⟩
 clear hi hz0 hz1 hz2 hgW hW
 go_loopw [8,9] (fun lv i wr=>∃ (j:Nat) (o:Option Addr) (n c:Nat),e+j≤L∧i=.int .i64 (((e+j:Nat):Int)+1)∧lv=.slice o n c∧Hid (∃ M' ls,Log W wr M (.slice o n c) ((x.p.log.drop e).take j) M' ls∧ls.length=j)) (fun _ i _=>L+1-(intOf i).toNat)
 case atStart=>exact ⟨0,_,0,0,by omega,by simp,rfl,hide ⟨M,[],by have:=HLog0.out;rw [HR.out.2.2.2.2] at this;exact this,rfl⟩⟩
 case round =>
  obtain ⟨j,o,n,c',hj,rfl,rfl,HJ⟩:=hrel
  obtain ⟨M',ls,hLg,hlsj⟩:=HJ.out
  have hkb:=HK.out wr hLg.bel
  have b5:=cell_of (i:=5) hkb rfl
  by_cases hlt:e+j<L
  ·obtain ⟨b,off,r,ro,rn,rc,rfl,hr,q0,q1,q2,qb,qd⟩:=HRec.out M' wr j hLg.le hLg.inn hlt
   have HC:=copy_any wr M' hLg.inn r.term r.index r.data qd ro rn rc qb
   have hlI:((e+j:Nat):Int)+1≤L:=by omega
   have hsz:=hLg.bel.size
   have HLg:Hid (Log W wr M (.slice o n c') ((x.p.log.drop e).take j) M' ls∧ls.length=j∧x.p.log[e+j]?=some r∧r.data.length≤1000):=⟨hLg,hlsj,hr,qd⟩
   have HWI:Hid (In M W):=HR.out.1.inn
   clear hLg hlsj HJ HLog0 hr qb qd hkb
   go_wp2_with fail
   refine HC.mono ?_
   rintro rr w1 ⟨M'',do_,dn,dc,rfl,l1,in1,by1,bel1,dom1⟩
   clear HC
   have s1:=bel1.size
   have hO1:w1.ownsRow W.heap.size 74 3 (.slice o n c') ls.length (ls.flatMap recCells):=row_kept HLg.out.1.row (fun g' hg'=>bel1.block g' (row_lt HLg.out.1.row hg').2)
   have HO1:Hid ((w1.alloc (.cells #[.int .i64 r.term,.int .i64 r.index,.slice do_ dn dc] 74)).ownsRow W.heap.size 74 3 (.slice o n c') ls.length (ls.flatMap recCells)):=row_kept hO1 (fun g' hg'=>Below.heap_alloc _ _ _ (row_lt hO1 hg').2)
   have HD:Hid (Le M' M''∧In M'' w1∧BytesM M'' (.slice do_ dn dc) r.data∧Below wr.heap.size wr w1∧∀ b ob,M'' b=some ob→M' b=some ob∨(wr.heap.size≤b∧∃ cur fr,ob=.cells cur 5 fr)):=⟨l1,in1,by1,bel1,dom1⟩
   have hlj:ls.length≤1000:=by have:=HLg.out.2.1;omega
   have HLJ:Hid (ls.length≤1000):=hlj
   clear hO1 l1 in1 by1 bel1 dom1 hlj q0 q1 q2 b5
   go_wp2_with (at_builtin;refine wpList_append_own _ rfl _ _ 26 rfl W.heap.size 74 i0 (.agg #[.int .i64 0,.int .i64 0,.slice none 0 0]) 3 40 Tryz.underlying26 HI.out.1 HI.out.2.1 HI.out.2.2.1 HI.out.2.2.2 rfl (by decide) _ ls.length (ls.flatMap recCells) rfl HO1.out ⟨w1.heap.size,0,none⟩ 1 1 [.int .i64 r.term,.int .i64 r.index,.slice do_ dn dc] rfl rfl ?c1 ?c2 ?c3 ?c4 ?c5 ?_)
   case c1 =>
    intro i' u' hu'
    have hnw:(w1.alloc (.cells #[.int .i64 r.term,.int .i64 r.index,.slice do_ dn dc] 74)).heap[w1.heap.size]?=some (.cells #[.int .i64 r.term,.int .i64 r.index,.slice do_ dn dc] 74 (0,0)):=heap_alloc_new w1 _
    rw [addr_add,Nat.zero_add]
    refine cell_of hnw ?_
    simpa using hu'
   case c2 =>
    intro u' hu'
    simp only [List.mem_cons,List.not_mem_nil,or_false] at hu'
    rcases hu' with rfl | rfl | rfl <;> rfl
   case c3=>have:=HLJ.out;unfold maxLen;omega
   case c4=>have:=HLJ.out;omega
   case c5=>first | omega | (simp;omega)
   intro v2 w2 O2 G2 _
   obtain ⟨o2,n2,c2,ev2⟩:=own_slice O2
   subst ev2
   have HN:Hid (∃ M' ls,Log W w2 M (.slice o2 n2 c2) ((x.p.log.drop e).take (j+1)) M' ls∧ls.length=j+1):=by
    have hD:=HD.out
    have hBa:Below wr.heap.size wr (w1.alloc (.cells #[.int .i64 r.term,.int .i64 r.index,.slice do_ dn dc] 74)):=hD.2.2.2.1.alloc hD.2.2.2.1.size _
    have hmore:=HLg.out.1.more (dv:=.slice do_ dn dc) hD.1 (hD.2.1.below (more (Below.refl _ _) _)) hBa hD.2.2.2.2 hD.2.2.1 HLg.out.2.2.2 HWI.out O2 G2
    refine hide ⟨M'',ls++[⟨r,.slice do_ dn dc⟩],?_,by rw [List.length_append,HLg.out.2.1];rfl⟩
    rw [take_more HLg.out.2.2.1]
    exact hmore
   clear O2 G2 HO1 HD HLg
   go_wp2
   go_roundw
   case rel=>exact ⟨j+1,o2,n2,c2,by omega,by go_num,rfl,HN⟩
   case measure=>simp [intOf];omega
  ·have hlI:¬ ((e+j:Nat):Int)+1≤L:=by omega
   have hall:(x.p.log.drop e).take j=x.p.log.drop e:=List.take_of_length_le (by have:=HR.out.2.2.1;simp;omega)
   rw [hall] at hLg
   have HWI:=HR.out.1.inn
   obtain ⟨M2,hle2,hin2,hrec2,hdom2⟩:=hLg.done HWI
   have hbel:=hLg.bel
   have hRun:Run (TS F) wr M2 base d P pc c us ns nv cs cv:=HR.out.1.keep hle2 hin2 (fun b hm=>hbel.block b (HR.out.1.mine hm)) (fun b hm=>by
    cases eb:M2 b with
    | none=>rfl
    | some ob =>
     rcases hdom2 b (by rw [eb];simp) with h5 | h5
     ·exact absurd (HR.out.1.free b hm) h5
     ·have:=HR.out.1.mine hm;omega) (fun b q e=>⟨(hbel.block b (HR.out.1.farL e)).trans (HR.out.1.far b q e).1,by
    cases eb:M2 b with
    | none=>rfl
    | some ob =>
     rcases hdom2 b (by rw [eb];simp) with h5 | h5
     ·exact absurd (HR.out.1.far b q e).2.1 h5
     ·have:=HR.out.1.farL e;omega⟩)
   have b0':=cell_of (i:=0) hkb rfl
   have b1':=cell_of (i:=1) hkb rfl
   have b2':=cell_of (i:=2) hkb rfl
   have b3':=cell_of (i:=3) hkb rfl
   have b4':=cell_of (i:=4) hkb rfl
   have b5':=cell_of (i:=5) hkb rfl
   have b6':=cell_of (i:=6) hkb rfl
   have b7':=cell_of (i:=7) hkb rfl
   have b8':=cell_of (i:=8) hkb rfl
   have HT:Hid (∀ wx,Below wr.heap.size wr wx→Calls Tryz.prog 74 #[.agg #[.bool x.p.up,.int .i64 x.p.term,.int .i64 x.p.vote,.int .i64 x.p.commit,.int .i64 x.p.role,.slice lo L lc,.slice vo vn vc,.slice (some ⟨g,0,none⟩) nn ncap,.slice mo mn mc],.int .i64 e] wx fun r w'=>r=.returned (.int .i64 (termAt x.p.log e:Nat))∧Hid (Below wr.heap.size wr w')∧w'.heap[w.heap.size]?=some (.cells #[.bool x.p.up,.int .i64 x.p.term,.int .i64 x.p.vote,.int .i64 x.p.commit,.int .i64 x.p.role,.slice lo L lc,.slice vo vn vc,.slice (some ⟨g,0,none⟩) nn ncap,.slice mo mn mc] 66 (0,0))):=fun wx hb=>by
    refine (term_any wx M2 (hin2.below hb) x.p L lo lc (.slice vo vn vc) (.slice (some ⟨g,0,none⟩) nn ncap) (.slice mo mn mc) (HR.out.2.1.le hle2) e (by omega)).mono ?_
    rintro r w' ⟨rfl,hb'⟩
    have hb2:Below wr.heap.size wr w':=hb.trans (hb'.mono hb.size)
    have hk2:=HK.out w' (hbel.trans (hb2.mono hbel.size))
    exact ⟨rfl,hb2,hk2⟩
   have HS:Hid (∀ wx,Below wr.heap.size wr wx→Calls Tryz.prog 38 #[.pointer (some ⟨d,0,none⟩),.agg #[.int .i64 3,.int .i64 k,.int .i64 «to»,.int .i64 x.p.term,.int .i64 e,.int .i64 (termAt x.p.log e:Nat),.int .i64 x.p.commit,.bool false,.slice o n c']] wx fun r w'=>r=.returned (.tuple #[])∧Sent F w M base d P pc (c.send ⟨3,k,«to»,x.p.term,e,termAt x.p.log e,x.p.commit,false,x.p.log.drop e⟩) us cs cv w'∧w'.heap[w.heap.size]?=some (.cells #[.bool x.p.up,.int .i64 x.p.term,.int .i64 x.p.vote,.int .i64 x.p.commit,.int .i64 x.p.role,.slice lo L lc,.slice vo vn vc,.slice (some ⟨g,0,none⟩) nn ncap,.slice mo mn mc] 66 (0,0))):=fun wx hb=>by
    refine (send_any wx M2 base d P pc c us ns nv cs cv (hRun.below hb) ⟨3,k,«to»,x.p.term,e,termAt x.p.log e,x.p.commit,false,x.p.log.drop e⟩ o n c' hrec2).mono ?_
    rintro r w' ⟨rfl,M3,ns3,nv3,l3,r3,g3,d3⟩
    have hz:=HR.out.2.2.2.2
    have hdlt:=HR.out.1.lt.1
    have hkx:=HK.out wx (hbel.trans (hb.mono hbel.size))
    have hdne:w.heap.size≠d:=fun e'=>by
     have h7:=HR.out.1.blk
     rw [←e',HK.out W (Below.refl _ _)] at h7
     simp [TS] at h7
    have hdm:∀ b,M3 b≠none→M b≠none∨w.heap.size≤b:=fun b hb'=>by
     rcases d3 b hb' with h5 | h5
     ·rcases hdom2 b h5 with h6 | h6
      ·exact .inl h6
      ·exact .inr (by omega)
     ·exact .inr (by have:=hb.size;have:=hbel.size;omega)
    exact ⟨rfl,⟨M3,ns3,nv3,hle2.trans l3,r3,gtrans (grown_of_below HR.out.2.2.2.1 _) (gtrans (grown_of_below hbel _) (gtrans (grown_of_below hb _) g3)),hdm⟩,(g3.block _ (Array.getElem?_eq_some_iff.1 hkx).1 (fun e'=>hdne (by simpa using e'))).trans hkx⟩
   have HSS:Hid (∀ wx:World,wx.heap[w.heap.size]?=some (.cells #[.bool x.p.up,.int .i64 x.p.term,.int .i64 x.p.vote,.int .i64 x.p.commit,.int .i64 x.p.role,.slice lo L lc,.slice vo vn vc,.slice (some ⟨g,0,none⟩) nn ncap,.slice mo mn mc] 66 (0,0))→(wx.cell? ⟨w.heap.size,0,none⟩=some (.bool x.p.up)∧wx.cell? ⟨w.heap.size,1,none⟩=some (.int .i64 x.p.term)∧wx.cell? ⟨w.heap.size,2,none⟩=some (.int .i64 x.p.vote)∧wx.cell? ⟨w.heap.size,3,none⟩=some (.int .i64 x.p.commit)∧wx.cell? ⟨w.heap.size,4,none⟩=some (.int .i64 x.p.role)∧wx.cell? ⟨w.heap.size,5,none⟩=some (.slice lo L lc)∧wx.cell? ⟨w.heap.size,6,none⟩=some (.slice vo vn vc)∧wx.cell? ⟨w.heap.size,7,none⟩=some (.slice (some ⟨g,0,none⟩) nn ncap)∧wx.cell? ⟨w.heap.size,8,none⟩=some (.slice mo mn mc))):=fun wx hb=>⟨cell_of hb rfl,cell_of hb rfl,cell_of hb rfl,cell_of hb rfl,cell_of hb rfl,cell_of hb rfl,cell_of hb rfl,cell_of hb rfl,cell_of hb rfl⟩
   clear hLg HJ HLog0 hall hrec2 hdom2 hRun hle2 hin2 hbel hlsj b0' b1' b2' b3' b4' b5' b6' b7' b8'
   go_wp2
   have hwr:IntKind.i64.wrap (e:Int)=e:=by rw [IntKind.wrap_i64];omega
   go_region_held_law (fun wx=>wx.cell? ⟨w.heap.size,0,none⟩=some (.bool x.p.up)∧wx.cell? ⟨w.heap.size,1,none⟩=some (.int .i64 x.p.term)∧wx.cell? ⟨w.heap.size,2,none⟩=some (.int .i64 x.p.vote)∧wx.cell? ⟨w.heap.size,3,none⟩=some (.int .i64 x.p.commit)∧wx.cell? ⟨w.heap.size,4,none⟩=some (.int .i64 x.p.role)∧wx.cell? ⟨w.heap.size,5,none⟩=some (.slice lo L lc)∧wx.cell? ⟨w.heap.size,6,none⟩=some (.slice vo vn vc)∧wx.cell? ⟨w.heap.size,7,none⟩=some (.slice (some ⟨g,0,none⟩) nn ncap)∧wx.cell? ⟨w.heap.size,8,none⟩=some (.slice mo mn mc))
    ((refine HSS.out _ ?_;first | assumption | exact hkb))
    (first
    | (go_at_call 74;with_reducible (refine (HT.out _ ?hb).mono ?_);(first | exact Below.refl _ _ | exact (Below.refl _ _).drew);rintro r w1 ⟨rfl,H1,hk1⟩)
    | (go_at_call 38;with_reducible (refine (HS.out _ H1.out).mono ?_);rintro r w2 ⟨rfl,H2,hk2⟩))
   all_goals
    go_wp2
    go_end0
    exact ⟨rfl,H2⟩
end Go.Proofs.YtcfdmbkiinjmaaaGreat.sapp
