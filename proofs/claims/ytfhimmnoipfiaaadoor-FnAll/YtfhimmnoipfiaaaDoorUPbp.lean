import Derived.Test.YtfhimmnoipfiaaaDoorQ12
import Derived.Test.YtfhimmnoipfiaaaDoorUPbk
namespace Go.Proofs.YtfhimmnoipfiaaaDoor.eng
open Go.ChangeShapes Go.WideShapes Go.ChangeAt Go.RowKit
open bytes places sets tz rex
set_option linter.unusedVariables false
abbrev zero5:Array Value:=#[.int .i64 0,.int .i64 0,.int .i64 0,.string ⟨#[]⟩,.slice none 0 0]
structure Bo (b O:Nat) (W:World) (v:Value) (w:World):Prop where
 pg:PG b W w
 b:b<W.heap.size
 ro:W.heap.size<O
 bR:w.heap[W.heap.size]?=some (.cells zero5 25 (0,0))
 bO:w.heap[O]?=some (.cells #[.int .i64 7,.int .i64 0,.int .i64 0,.string mt0,v] 25 (0,0))
structure Qs (p q:Pq):Prop where
 nx:Nx p q
 lim:q.at_+2*p.open_≤3*p.ts.length+10
 gr:q.groups≤q.at_
 g9:q.code=0→q.at_≤p.ts.length∧q.groups≤9
structure Hd (p:Pq) (b O:Nat) (W:World) (v:Value) (k:Nat) (q:Pq) (w:World):Prop where
 pb:PB q b w
 bo:Bo b O W v w
 vs:∃ o c,v=.slice o k c
 row:q.code=0→KRowP (fun x=>O<x) w v k p.groups q.groups (3*(q.at_-p.at_))
 qs:Qs p q
 kk:q.code=0→k+p.at_≤q.at_
structure Tm (p:Pq) (b O A B:Nat) (W:World) (v:Value) (k gq m:Nat) (cs:Array Value) (q:Pq) (w:World):Prop where
 pb:PB q b w
 bo:Bo b O W v w
 bA:w.heap[A]?=some (.cells cs 25 (0,0))
 oA:O<A
 AB:A<w.heap.size
 row:KRowP (fun x=>O<x∧x≠A) w v k p.groups gq (3*(m-1-p.at_))
 own:∀ g,v.ownBlock=some g→g<B
 BB:B≤w.heap.size
 tree:q.code=0→TreeP (fun x=>B≤x∧O<x∧x≠A) w cs gq q.groups (3*(q.at_+1-m)-1)
 qs:Qs p q
 kk:k+1+p.at_≤m
 mq:m≤q.at_
section
variable {p q r:Pq} {b O A B k gq m:Nat} {W w w':World} {v:Value} {cs:Array Value}
theorem Qs.next (h:Qs p q) (h1:Nx q r) (h2:r.at_+2*q.open_≤3*q.ts.length+10) (h3:r.groups≤r.at_) (h4:r.code=0→r.at_≤q.ts.length∧r.groups≤9):Qs p r :=
 ⟨h.nx.tr h1,by rw [h.nx.op,h.nx.ts] at h2;exact h2,h3,by rw [h.nx.ts] at h4;exact h4⟩
theorem Bo.rd (h:Bo b O W v w) (hO:O<w.heap.size) (hr:PG b w w'):Bo b O W v w' :=
 ⟨h.pg.tr hr,h.b,h.ro,(hr.block _ (by have:=h.ro;omega) (by have:=h.b;simp;omega)).trans h.bR,(hr.block _ hO (by have:=h.b;have:=h.ro;simp;omega)).trans h.bO⟩
theorem Bo.lt (h:Bo b O W v w):O<w.heap.size:=(Array.getElem?_eq_some_iff.1 h.bO).1
theorem Hd.rd (h:Hd p b O W v k q w) (hr:Rd b w q w'):Hd p b O W v k q w' :=
 ⟨hr.pb,h.bo.rd h.bo.lt hr.pg,h.vs,fun e=>(h.row e).block fun x hx hl=>hr.pg.block x hl (by have:=h.bo.b;have:=h.bo.ro;simp;omega),h.qs,h.kk⟩
theorem Tm.rd (h:Tm p b O A B W v k gq m cs q w) (hr:Rd b w q w'):Tm p b O A B W v k gq m cs q w':=by
 have hb:=h.bo.b
 have ho:=h.bo.ro
 have hA:=h.oA
 refine ⟨hr.pb,h.bo.rd h.bo.lt hr.pg,(hr.pg.block A h.AB (by simp;omega)).trans h.bA,h.oA,Nat.lt_of_lt_of_le h.AB hr.pg.size,h.row.block fun x hx hl=>hr.pg.block x hl (by simp;omega),h.own,Nat.le_trans h.BB hr.pg.size,fun e=>(h.tree e).block fun x hx hl=>hr.pg.block x hl (by simp;omega),h.qs,h.kk,h.mq⟩
theorem Tm.alloc (h:Tm p b O A B W v k gq m cs q w) (o:Obj):Tm p b O A B W v k gq m cs q (w.alloc o):=h.rd ((Rd.refl h.pb).alloc o)
theorem Tm.put (h:Tm p b O A B W v k gq m cs q w) (hc:∃ c0 c1 c2 c3 c4,cs=#[c0,c1,c2,c3,c4]) (hpb:PB r b w') (hg:PG b w w') (v0 v1 v2 v3 v4:Value) (hq:Qs p r) (hm:m≤r.at_)
  (ht:r.code=0→TreeP (fun x=>B≤x∧O<x∧x≠A) w' #[v0,v1,v2,v3,v4] gq r.groups (3*(r.at_+1-m)-1)):Tm p b O A B W v k gq m #[v0,v1,v2,v3,v4] r (set5 w' A v0 v1 v2 v3 v4):=by
 have hb:=h.bo.b
 have ho:=h.bo.ro
 have hA:=h.oA
 have hO:=h.bo.lt
 obtain ⟨c0,c1,c2,c3,c4,rfl⟩:=hc
 have hbo:=h.bo.rd hO hg
 have oth:∀ x,x≠A→(set5 w' A v0 v1 v2 v3 v4).heap[x]?=w'.heap[x]? := fun x hx=>set5_other w' A x v0 v1 v2 v3 v4 hx
 have hsz:(set5 w' A v0 v1 v2 v3 v4).heap.size=w'.heap.size:=by unfold set5;simp
 refine ⟨(oth b (by omega)).trans hpb,⟨hbo.pg.set5 (by omega) v0 v1 v2 v3 v4,hb,ho,(oth _ (by omega)).trans hbo.bR,(oth _ (by omega)).trans hbo.bO⟩,set5_at ((hg.block A h.AB (by simp;omega)).trans h.bA) trivial v0 v1 v2 v3 v4,h.oA,by rw [hsz];exact Nat.lt_of_lt_of_le h.AB hg.size,?_,h.own,by rw [hsz];exact Nat.le_trans h.BB hg.size,fun e=>(ht e).block fun x hx _=>oth x hx.2.2,hq,h.kk,hm⟩
 exact (h.row.block (W':=w') fun x hx hl=>hg.block x hl (by simp;omega)).block fun x hx _=>oth x hx.2
theorem Tm.push (h:Tm p b O A B W v k gq m cs q w) (hs:cs.size=5) {g cap:Nat} {w9:World} {xs:List Value} (hx:w.ownsRow 0 25 5 v k xs)
  (h1:w9.ownsRow 0 25 5 (.slice (some ⟨g,0,none⟩) (k+1) cap) (k+1) (xs++cs.toList)) (h2:(w.alloc (.cells cs 25)).grownBy w9 v.ownBlock) (h3:v.ownBlock=some g∨g=(w.alloc (.cells cs 25)).heap.size) :
  Bo b O W (.slice (some ⟨g,0,none⟩) (k+1) cap) (w9.setCell ⟨O,4,none⟩ (.slice (some ⟨g,0,none⟩) (k+1) cap))∧PB q b (w9.setCell ⟨O,4,none⟩ (.slice (some ⟨g,0,none⟩) (k+1) cap))∧(q.code=0→KRowP (fun x=>O<x∧x≠A) (w9.setCell ⟨O,4,none⟩ (.slice (some ⟨g,0,none⟩) (k+1) cap)) (.slice (some ⟨g,0,none⟩) (k+1) cap) (k+1) p.groups q.groups (3*(q.at_-p.at_))) ∧
  (∀ x,x≠O→x<w.heap.size→v.ownBlock≠some x→(w9.setCell ⟨O,4,none⟩ (.slice (some ⟨g,0,none⟩) (k+1) cap)).heap[x]?=w.heap[x]?)∧(w9.cell? ⟨O,4,none⟩=some v∧w9.frozen? ⟨O,4,none⟩=false)∧w.heap.size≤w9.heap.size∧O<g∧g<w9.heap.size∧g≠A:=by
 have ha:=h.alloc (.cells cs 25)
 have hb:=ha.bo.b
 have ho:=ha.bo.ro
 have hA:=ha.oA
 have hO:=ha.bo.lt
 have hown:=ha.row.ownP
 have hgg:O<g∧g≠A:=by
  rcases h3 with e | e
  ·exact (hown g e).1
  ·have:=ha.AB;omega
 have low:∀ x,x<(w.alloc (.cells cs 25)).heap.size→v.ownBlock≠some x→w9.heap[x]?=(w.alloc (.cells cs 25)).heap[x]? := fun x hx hn=>h2.block x hx fun e=>hn e.symm
 have nO:∀ x,x≤O→v.ownBlock≠some x:=fun x hx e=>by have:=(hown x e).1.1;omega
 have oth:∀ x,x≠O→(w9.setCell ⟨O,4,none⟩ (.slice (some ⟨g,0,none⟩) (k+1) cap)).heap[x]?=w9.heap[x]? := fun x hx=>heap_setCell_other w9 ⟨O,4,none⟩ x _ hx
 have bO9:w9.heap[O]?=some (.cells #[.int .i64 7,.int .i64 0,.int .i64 0,.string mt0,v] 25 (0,0)):=(low O hO (nO O (Nat.le_refl _))).trans ha.bo.bO
 have hsz:w.heap.size≤w9.heap.size:=Nat.le_trans (by simp) h2.size
 refine ⟨⟨⟨h2.os.trans ha.bo.pg.os,h2.tape.trans ha.bo.pg.tape,h2.output.trans ha.bo.pg.output,?_,fun x hx hn => ?_⟩,hb,ho,?_,?_⟩,?_,fun e => ?_,fun x hxO hxl hn => ?_,⟨?_,?_⟩,hsz,hgg.1,?_,hgg.2⟩
 ·simp;exact Nat.le_trans ha.bo.pg.size h2.size
 ·exact (oth x (by omega)).trans ((low x (by omega) (nO x (by omega))).trans (ha.bo.pg.block x hx hn))
 ·exact (oth _ (by omega)).trans ((low _ (by omega) (nO _ (by omega))).trans ha.bo.bR)
 ·have:=heap_setCell_same w9 O 4 _ 25 (.slice (some ⟨g,0,none⟩) (k+1) cap) bO9
  simpa using this
 ·exact (oth b (by omega)).trans ((low b (by have:=ha.pb.lt;omega) (nO b (by omega))).trans ha.pb)
 ·have hp:=(ha.row.push (ha.tree e) hs (fun x hx=>⟨hx.2.1,hx.2.2⟩) (fun y hy hy'=>by have:=ha.own y hy;omega) (xs:=xs) (World.ownsRow.alloc hx _) h1 h2 (h3.imp id fun e'=>by omega) (fun hl=>⟨by omega,by have:=ha.AB;omega⟩))
  exact (hp.block fun x hx _=>oth x (by omega)).le (by have:=h.kk;have:=h.mq;omega)
 ·exact (oth x hxO).trans ((low x (by simp;omega) hn).trans (Below.heap_alloc w _ x hxl))
 ·simp [World.cell?,bO9]
 ·simp [World.frozen?,bO9]
 ·rcases h1.2 with ⟨a1,a2⟩|⟨g',c',cur,a1,a2,a3,_⟩
  ·cases a2
  ·cases a1
   exact (Array.getElem?_eq_some_iff.1 a3).1
theorem tm_star {v':Value} {k' m':Nat} {w10 w12:World} {c0 c1 c2 c3 c4:Value} (hbo:Bo b O W v' w10) (hpb:PB q b w10) (hrow:KRowP (fun x=>O<x∧x≠A) w10 v' k' p.groups q.groups (3*(q.at_-p.at_))) (hA10:w10.heap[A]?=some (.cells #[c0,c1,c2,c3,c4] 25 (0,0))) (hOA:O<A)
  (hqs:Qs p q) (hc:q.code=0) (hl:q.at_+1≤p.ts.length) (hop:p.open_≤p.at_) (hb:Below (w10.setCell ⟨b,1,none⟩ (.int .i64 ((q.at_+1:Nat):Int))).heap.size (w10.setCell ⟨b,1,none⟩ (.int .i64 ((q.at_+1:Nat):Int))) w12) (hk:k'+1+p.at_≤m') (hm:m'=q.at_+1) :
  Tm p b O A w12.heap.size W v' k' q.groups m' #[.int .i64 1,.int .i64 42,.int .i64 0,.string mt0,.slice none 0 0] { q with at_:=q.at_+1 } (set5 w12 A (.int .i64 1) (.int .i64 42) (.int .i64 0) (.string mt0) (.slice none 0 0)):=by
 have hr:Rd b w10 { q with at_:=q.at_+1 } w12:=Rd.below ⟨hpb.setAt (q.at_+1),PG.set 1 _⟩ hb
 have hbb:=hbo.b
 have hro:=hbo.ro
 have hO:=hbo.lt
 have hA:=(Array.getElem?_eq_some_iff.1 hA10).1
 have hbo2:=hbo.rd hO hr.pg
 have hs:=hr.pg.size
 have hown:=hrow.ownP
 have oth:∀ x,x≠A→(set5 w12 A (.int .i64 1) (.int .i64 42) (.int .i64 0) (.string mt0) (.slice none 0 0)).heap[x]?=w12.heap[x]? := fun x hx=>set5_other w12 A x _ _ _ _ _ hx
 have hsz:(set5 w12 A (.int .i64 1) (.int .i64 42) (.int .i64 0) (.string mt0) (.slice none 0 0)).heap.size=w12.heap.size:=by unfold set5;simp
 refine ⟨(oth b (by omega)).trans hr.pb,⟨hbo2.pg.set5 (by omega) _ _ _ _ _,hbb,hro,(oth _ (by omega)).trans hbo2.bR,(oth _ (by omega)).trans hbo2.bO⟩,set5_at ((hr.pg.block A hA (by simp;omega)).trans hA10) trivial _ _ _ _ _,hOA,by rw [hsz];omega,?_,fun g hg=>by have:=(hown g hg).2;omega,by rw [hsz];exact Nat.le_refl _,fun e => ?_,?_,hk,Nat.le_of_eq hm⟩
 ·exact ((hrow.block (W':=w12) fun x hx hl=>hr.pg.block x hl (by simp;omega)).block fun x hx _=>oth x hx.2).le (by omega)
 ·exact ((TreeAt.char (set5 w12 A (.int .i64 1) (.int .i64 42) (.int .i64 0) (.string mt0) (.slice none 0 0)).heap.size _ _ (by decide) (by decide)).p fun x h1 h2=>by omega).le (by show 1≤3*(q.at_+1+1-m')-1;omega)
 ·exact ⟨hqs.nx.tr (Nx.at q (Nat.le_succ _)),by show q.at_+1+_≤_;have:=hqs.nx.at_;have:=hqs.lim;omega,by show q.groups≤q.at_+1;have:=hqs.gr;omega,fun e=>⟨hl,(hqs.g9 e).2⟩⟩
end
end Go.Proofs.YtfhimmnoipfiaaaDoor.eng
