import Derived.Test.YtcfdmbkiinjmaaaGreatZ10
import Derived.WalkMore
import Derived.Deep.Cut
import Derived.Deep.CutRange
import Derived.Deep.DeepCutAuto
import Derived.Deep.QuietTactic
import Derived.BigQuiet
import Derived.Deep.RegionLaw
import Derived.Deep.RegionHeldLaw
set_option linter.unusedVariables false
open Go.ChangeShapes Go.WideShapes Go.ChangeAt Go.RowKit
namespace Go.Proofs.YtcfdmbkiinjmaaaGreat.sapy
open Raft mem srun ssend sdown ssmall scopy srecs sapp ssame schos schosen scom sgrow sin sel stk slog sap0
variable {F:Nat→Option Obj}
theorem putR_same {l:List Rc} {a:Nat} {r:Rc} (h:termAt l (a+1)=r.term) (hl:a<l.length):putR l a r=l:=by
 unfold putR
 have e:¬ (a<l.length∧termAt l (a+1)≠r.term):=fun q=>q.2 h
 simp only [if_neg e]
 rw [if_neg (by omega)]
theorem putR_cut {l:List Rc} {a:Nat} {r:Rc} (h:termAt l (a+1)≠r.term) (hl:a<l.length):putR l a r=l.take a++[r]:=by
 unfold putR
 have e:a<l.length∧termAt l (a+1)≠r.term:=⟨hl,h⟩
 simp only [if_pos e]
 rw [if_pos (by rw [List.length_take];omega)]
theorem putR_end {l:List Rc} {a:Nat} {r:Rc} (hl:a=l.length):putR l a r=l++[r]:=by
 unfold putR
 have e:¬ (a<l.length∧termAt l (a+1)≠r.term):=fun q=>by omega
 simp only [if_neg e]
 rw [if_pos hl]
set_option maxRecDepth 20000 in
set_option maxHeartbeats 4000000 in
theorem appended_yes (w:World) (M:Fz) (base d P pc:Nat) (c:Cl) (us:List PV) (ns:List MV) (nv:Value) (cs:List RV) (cv:Value) (h:Run (TS F) w M base d P pc c us ns nv cs cv) (m:Msg) (lo:Option Addr) (ln lc:Nat) (hlv:RecsM M (.slice lo ln lc) m.log) (x:PV) (hk:us[m.to]?=some x) (ht:¬ m.term<x.p.term) (hmt:m.term≤x.p.term) (hma:m.a≤1000) (hL:x.p.log.length≤1000) (hml:m.log.length≤1000) (hle:m.a≤x.p.log.length) (hyes:termAt x.p.log m.a=m.b) (hmc:m.c≤1000) (hpc:x.p.commit≤1000)
  (hcm:(max x.p.commit (min m.c (m.a+m.log.length)))≤(merge x.p.log m.a m.log).length) (hlg:(merge x.p.log m.a m.log).length≤1000) (hcl:c.chosen.length≤1000) :
  Calls Tryz.prog 58 #[.pointer (some ⟨d,0,none⟩),.agg #[.int .i64 m.kind,.int .i64 m.frm,.int .i64 m.to,.int .i64 m.term,.int .i64 m.a,.int .i64 m.b,.int .i64 m.c,.bool m.ok,.slice lo ln lc]] w fun r w'=>r=.returned (.tuple #[])∧SD F w M base d P pc (c.appended m) w':=by
 have hlt:m.to<us.length:=(List.getElem?_eq_some_iff.1 hk).1
 have hat:=(sdown.Run.at h hk).1
 have hcap:=h.cap
 unfold maxLen at hcap
 have hbs:=scom.Run.base_le h
 obtain ⟨W,hW⟩:∃ W,w.alloc (.cells #[.int .i64 m.kind,.int .i64 m.frm,.int .i64 m.to,.int .i64 m.term,.int .i64 m.a,.int .i64 m.b,.int .i64 m.c,.bool m.ok,.slice lo ln lc] 69)=W:=⟨_,rfl⟩
 have bW:Below w.heap.size w W:=by rw [←hW];exact more (Below.refl _ _) _
 have sW:W.heap.size=w.heap.size+1:=by rw [←hW];simp [World.size_alloc]
 have hm:W.heap[w.heap.size]?=some (.cells #[.int .i64 m.kind,.int .i64 m.frm,.int .i64 m.to,.int .i64 m.term,.int .i64 m.a,.int .i64 m.b,.int .i64 m.c,.bool m.ok,.slice lo ln lc] 69 (0,0)):=by rw [←hW];exact heap_alloc_new w _
 have hR:=h.below bW
 have c0:W.cell? ⟨d,0,none⟩=some (.slice (some ⟨P,0,none⟩) us.length pc):=cell_of hR.blk rfl
 have m2:W.cell? ⟨w.heap.size,2,none⟩=some (.int .i64 m.to):=cell_of hm rfl
 have HS:Hid (∀ wx,Below W.heap.size W wx→wx.cell? ⟨P,m.to*9+1,none⟩=some (.int .i64 x.p.term)∧wx.cell? ⟨w.heap.size,1,none⟩=some (.int .i64 m.frm)∧wx.cell? ⟨w.heap.size,2,none⟩=some (.int .i64 m.to)∧wx.cell? ⟨w.heap.size,3,none⟩=some (.int .i64 m.term)):=fun wx hx=>by
  have q:=kept hx hm (Nat.le_refl _)
  exact ⟨((hR.below hx).peerCell hk (j:=1) (v:=.int .i64 x.p.term) rfl).1,cell_of q rfl,cell_of q rfl,cell_of q rfl⟩
 have HSt:Hid (∀ W1 W2,Below W.heap.size W W1→W1.heap.size=W.heap.size→(W1.alloc (.cells #[.int .i64 4,.int .i64 m.to,.int .i64 m.frm,.int .i64 x.p.term,.int .i64 0,.int .i64 0,.int .i64 0,.bool false,.slice none 0 0] 69)).drew=W2→St2 F w M base d P pc #[.int .i64 m.kind,.int .i64 m.frm,.int .i64 m.to,.int .i64 m.term,.int .i64 m.a,.int .i64 m.b,.int .i64 m.c,.bool m.ok,.slice lo ln lc] #[.int .i64 4,.int .i64 m.to,.int .i64 m.frm,.int .i64 x.p.term,.int .i64 0,.int .i64 0,.int .i64 0,.bool false,.slice none 0 0] c us ns nv cs cv M W2):=fun W1 W2 hb1 hs1 e=>by
  have hb2:Below W.heap.size W W2:=by rw [←e];exact (more hb1 _).drew
  refine ⟨hR.below hb2,Le.refl M,(bW.trans (hb2.mono bW.size)).mono hbs,fun b hb=>.inl hb,kept hb2 hm (Nat.le_refl _),?_,fun b hb=>.inl (h.mine hb),⟨h.inn.fresh (Nat.le_refl _),h.inn.fresh (by omega)⟩,fun b o e=>h.farL e⟩
  rw [←e]
  show (W1.alloc _).heap[w.heap.size+1]?=_
  exact new_at (by omega)
 have hxm:x∈us:=List.mem_iff_getElem?.2 ⟨m.to,hk⟩
 obtain ⟨ro,rc,elv⟩:=recsM_slice (h.logs x hxm)
 have hlog:=h.logs x hxm
 rw [elv] at hlog
 have hrc:=(recs_len hlog).2.1
 have hk2:(us.set m.to (downV x m.term))[m.to]?=some (downV x m.term):=got_set hk
 obtain ⟨L,eL⟩:∃ L,x.p.log.length=L:=⟨_,rfl⟩
 obtain ⟨T2,eT2⟩:∃ T2,T2=(downV x m.term).p.term:=⟨_,rfl⟩
 obtain ⟨V2,eV2⟩:∃ V2,V2=(downV x m.term).p.vote:=⟨_,rfl⟩
 rw [eL] at elv hlog
 have HDn:Hid (∀ wx,St2 F w M base d P pc #[.int .i64 m.kind,.int .i64 m.frm,.int .i64 m.to,.int .i64 m.term,.int .i64 m.a,.int .i64 m.b,.int .i64 m.c,.bool m.ok,.slice lo ln lc] #[.int .i64 4,.int .i64 m.to,.int .i64 m.frm,.int .i64 x.p.term,.int .i64 0,.int .i64 0,.int .i64 0,.bool false,.slice none 0 0] c us ns nv cs cv M wx→Calls Tryz.prog 55 #[.pointer (some ⟨d,0,none⟩),.int .i64 m.to,.int .i64 m.term] wx fun r w'=>r=.returned (.tuple #[])∧Hid (St2 F w M base d P pc #[.int .i64 m.kind,.int .i64 m.frm,.int .i64 m.to,.int .i64 m.term,.int .i64 m.a,.int .i64 m.b,.int .i64 m.c,.bool m.ok,.slice lo ln lc] #[.int .i64 4,.int .i64 m.to,.int .i64 m.frm,.int .i64 x.p.term,.int .i64 0,.int .i64 0,.int .i64 0,.bool false,.slice none 0 0] (c.down m.to m.term) (us.set m.to (downV x m.term)) ns nv cs cv M w')):=fun wx hx=>hx.down m.to m.term x hk
 have HPc:Hid (∀ wx bk,St2 F w M base d P pc #[.int .i64 m.kind,.int .i64 m.frm,.int .i64 m.to,.int .i64 m.term,.int .i64 m.a,.int .i64 m.b,.int .i64 m.c,.bool m.ok,.slice lo ln lc] bk (c.down m.to m.term) (us.set m.to (downV x m.term)) ns nv cs cv M wx→wx.cell? ⟨P,m.to*9,none⟩=some (.bool x.p.up)∧wx.cell? ⟨P,m.to*9+1,none⟩=some (.int .i64 T2)∧wx.cell? ⟨P,m.to*9+2,none⟩=some (.int .i64 V2)∧wx.cell? ⟨P,m.to*9+3,none⟩=some (.int .i64 x.p.commit)∧wx.cell? ⟨P,m.to*9+4,none⟩=some (.int .i64 0)∧wx.cell? ⟨P,m.to*9+5,none⟩=some (.slice ro L rc)∧wx.cell? ⟨P,m.to*9+6,none⟩=some (.slice none 0 0)∧wx.cell? ⟨P,m.to*9+7,none⟩=some (.slice none 0 0)∧wx.cell? ⟨P,m.to*9+8,none⟩=some (.slice none 0 0)):=fun wx bk hx=>by
  have q:=fun j v hj=>(hx.run.peerCell hk2 (j:=j) (v:=v) hj).1
  have q5:=q 5 x.lv rfl
  rw [elv] at q5
  exact ⟨q 0 _ rfl,by rw [eT2];exact q 1 _ rfl,by rw [eV2];exact q 2 _ rfl,q 3 _ rfl,q 4 _ rfl,q5,q 6 _ rfl,q 7 _ rfl,q 8 _ rfl⟩
 have HTm:Hid (m.a≤L→∀ wx bk,St2 F w M base d P pc #[.int .i64 m.kind,.int .i64 m.frm,.int .i64 m.to,.int .i64 m.term,.int .i64 m.a,.int .i64 m.b,.int .i64 m.c,.bool m.ok,.slice lo ln lc] bk (c.down m.to m.term) (us.set m.to (downV x m.term)) ns nv cs cv M wx→Calls Tryz.prog 74 #[.agg #[.bool x.p.up,.int .i64 T2,.int .i64 V2,.int .i64 x.p.commit,.int .i64 0,.slice ro L rc,.slice none 0 0,.slice none 0 0,.slice none 0 0],.int .i64 m.a] wx fun r w'=>r=.returned (.int .i64 (termAt x.p.log m.a:Nat))∧Hid (Below wx.heap.size wx w')):=fun hle wx bk hx=>by
  rw [eT2,eV2]
  exact term_any wx M hx.run.inn (downV x m.term).p L ro rc _ _ _ hlog m.a hle
 obtain ⟨ls0,els0,hrow0,hd0⟩:=id hlog
 have hl0:ls0.length=L:=by rw [←eL,←els0,List.length_map]
 have HAp:Hid (∀ W4 bk,St2 F w M base d P pc #[.int .i64 m.kind,.int .i64 m.frm,.int .i64 m.to,.int .i64 m.term,.int .i64 m.a,.int .i64 m.b,.int .i64 m.c,.bool m.ok,.slice lo ln lc] bk (c.down m.to m.term) (us.set m.to (downV x m.term)) ns nv cs cv M W4→(W4.alloc (.cells #[] 74)).ownsRow W4.heap.size 74 3 (.slice (some ⟨W4.heap.size,0,none⟩) 0 0) 0 []∧RowW (W4.alloc (.cells #[] 74)) (.slice ro L rc) L 3 (ls0.flatMap recCells) ∧
   ∀ v5 w5,w5.ownsRow W4.heap.size 74 3 v5 (0+L) ([]++ls0.flatMap recCells)→(W4.alloc (.cells #[] 74)).grownBy w5 (Value.slice (some ⟨W4.heap.size,0,none⟩) 0 0).ownBlock→∃ o cp,v5=.slice o L cp∧Hid (∃ M' ls,Log W4 w5 M (.slice o L cp) (merge x.p.log m.a (m.log.take 0)) M' ls)):=fun W4 bk h4=>by
  refine ⟨lit75 (heap_alloc_new W4 _) (Nat.le_refl _),?_,?_⟩
  ·have q:=(RowM.world hrow0 h4.run.inn).below (more (Below.refl _ _) (.cells #[] 74))
   rw [hl0] at q
   exact q
  ·intro v5 w5 hO hG
   rw [Nat.zero_add,List.nil_append] at hO
   have hb5:Below W4.heap.size W4 w5:=(more (Below.refl _ _) _).grown hG (by rw [World.size_alloc];omega) (fun k hk=>own_ge hk (Nat.le_refl _))
   have hlog5:=Log.begin (w1:=w5) h4.run.inn hd0 hb5 (by rw [hl0];exact hO)
   rw [els0] at hlog5
   obtain ⟨o,n,cp,e⟩:=own_slice hO
   subst e
   have hn:=(Log.len hlog5).1
   rw [eL] at hn
   subst hn
   exact ⟨o,cp,rfl,M,ls0,hlog5⟩
 have HOne:Hid (∀ y∈ls0.flatMap recCells,y.oneCell'=true):=rec_one ls0 (fun y hy=>bytes_slice (hd0 y hy).1)
 obtain ⟨hlnE,hlc1,hlc2⟩:=recs_len hlv
 have HRec:Hid (∀ (M':Fz) (j:Nat),Le M M'→j<ln→∃ b off r o n c,lo=some ⟨b,off,none⟩∧m.log[j]?=some r∧(∀ wx,In M' wx→wx.cell? ⟨b,off+j*3,none⟩=some (.int .i64 r.term)∧wx.cell? ⟨b,off+j*3+1,none⟩=some (.int .i64 r.index)∧wx.cell? ⟨b,off+j*3+2,none⟩=some (.slice o n c))∧BytesM M' (.slice o n c) r.data∧r.data.length≤1000):=fun M' j hl hj=>by
  obtain ⟨r,hr⟩:∃ r,m.log[j]?=some r:=⟨_,List.getElem?_eq_getElem (by omega)⟩
  obtain ⟨b,off,dv,q1,q2,q3,q4,q5,q6⟩:=recs_cellM (hlv.le hl) hr
  obtain ⟨o,n,c,q7⟩:=bytes_slice q5
  subst q7
  exact ⟨b,off,r,o,n,c,q1,hr,fun wx hI=>⟨hI.cell q2,hI.cell q3,hI.cell q4⟩,q5,q6⟩
 have HMl:Hid (∀ j,j≤ln→m.a+j≤(merge x.p.log m.a (m.log.take j)).length∧(merge x.p.log m.a (m.log.take j)).length≤2000):=fun j hj=>by
  have:=merge_len (m.log.take j) x.p.log m.a hle
  have e:(m.log.take j).length=j:=by rw [List.length_take];omega
  rw [e] at this
  exact ⟨this.1,by omega⟩
 have HPutR:Hid (∀ j r,m.log[j]?=some r→merge x.p.log m.a (m.log.take (j+1))=putR (merge x.p.log m.a (m.log.take j)) (m.a+j) r):=fun j r hr=>merge_take hr
 have HFz:Hid (∀ W4,St2 F w M base d P pc #[.int .i64 m.kind,.int .i64 m.frm,.int .i64 m.to,.int .i64 m.term,.int .i64 m.a,.int .i64 m.b,.int .i64 m.c,.bool m.ok,.slice lo ln lc] #[.int .i64 4,.int .i64 m.to,.int .i64 m.frm,.int .i64 x.p.term,.int .i64 0,.int .i64 0,.int .i64 0,.bool false,.slice none 0 0] (c.down m.to m.term) (us.set m.to (downV x m.term)) ns nv cs cv M W4→∀ wr o n cp,(∃ M' ls,Log W4 wr M (.slice o n cp) (merge x.p.log m.a (m.log.take ln)) M' ls)→∃ M2 W5,((wr.setCell ⟨P,m.to*9+5,none⟩ (.slice o n cp)).setCell ⟨w.heap.size+1,7,none⟩ (.bool true)).setCell ⟨w.heap.size+1,4,none⟩ (.int .i64 ((m.a+ln:Nat):Int))=W5∧Hid (St2 F w M base d P pc #[.int .i64 m.kind,.int .i64 m.frm,.int .i64 m.to,.int .i64 m.term,.int .i64 m.a,.int .i64 m.b,.int .i64 m.c,.bool m.ok,.slice lo ln lc] #[.int .i64 4,.int .i64 m.to,.int .i64 m.frm,.int .i64 x.p.term,.int .i64 (((m.a+m.log.length:Nat)):Int),.int .i64 0,.int .i64 0,.bool true,.slice none 0 0] { (c.down m.to m.term) with peers:=(c.down m.to m.term).peers.set m.to { (downV x m.term).p with log:=(merge x.p.log m.a m.log) } } ((us.set m.to (downV x m.term)).set m.to { downV x m.term with p:={ (downV x m.term).p with log:=(merge x.p.log m.a m.log) },lv:=(.slice o n cp) }) ns nv cs cv M2 W5)):=fun W4 h4 wr o n cp hx=>by
  obtain ⟨M',ls,hLg⟩:=hx
  rw [hlnE,List.take_length] at hLg
  obtain ⟨M2,hle2,hin2,hrec2,hdom2⟩:=hLg.done h4.run.inn
  have h5:=h4.freeze hLg.bel hle2 hin2 hdom2
  have h6:=h5.peer { (downV x m.term).p with log:=(merge x.p.log m.a m.log) } (.slice o n cp) hk2 (j:=5) (v:=(.slice o n cp)) (by decide) rfl hrec2 rfl rfl rfl
  have h7:=(h6.box 7 (.bool true) hbs).box 4 (.int .i64 ((m.a+ln:Nat):Int)) hbs
  rw [hlnE] at h7 ⊢
  exact ⟨M2,_,rfl,h7⟩
 have HCm:Hid (∀ M2 o n cp W5,St2 F w M base d P pc #[.int .i64 m.kind,.int .i64 m.frm,.int .i64 m.to,.int .i64 m.term,.int .i64 m.a,.int .i64 m.b,.int .i64 m.c,.bool m.ok,.slice lo ln lc] #[.int .i64 4,.int .i64 m.to,.int .i64 m.frm,.int .i64 x.p.term,.int .i64 (((m.a+m.log.length:Nat)):Int),.int .i64 0,.int .i64 0,.bool true,.slice none 0 0] { (c.down m.to m.term) with peers:=(c.down m.to m.term).peers.set m.to { (downV x m.term).p with log:=(merge x.p.log m.a m.log) } } ((us.set m.to (downV x m.term)).set m.to { downV x m.term with p:={ (downV x m.term).p with log:=(merge x.p.log m.a m.log) },lv:=(.slice o n cp) }) ns nv cs cv M2 W5→∀ v:Int,v=((max x.p.commit (min m.c (m.a+ln)):Nat):Int)→∀ W6,(W5.setCell ⟨P,m.to*9+3,none⟩ (.int .i64 v)).drew=W6→St2 F w M base d P pc #[.int .i64 m.kind,.int .i64 m.frm,.int .i64 m.to,.int .i64 m.term,.int .i64 m.a,.int .i64 m.b,.int .i64 m.c,.bool m.ok,.slice lo ln lc] #[.int .i64 4,.int .i64 m.to,.int .i64 m.frm,.int .i64 x.p.term,.int .i64 (((m.a+m.log.length:Nat)):Int),.int .i64 0,.int .i64 0,.bool true,.slice none 0 0] { { (c.down m.to m.term) with peers:=(c.down m.to m.term).peers.set m.to { (downV x m.term).p with log:=(merge x.p.log m.a m.log) } } with peers:=((c.down m.to m.term).peers.set m.to { (downV x m.term).p with log:=(merge x.p.log m.a m.log) }).set m.to { (downV x m.term).p with log:=(merge x.p.log m.a m.log),commit:=(max x.p.commit (min m.c (m.a+m.log.length))) } } (((us.set m.to (downV x m.term)).set m.to { downV x m.term with p:={ (downV x m.term).p with log:=(merge x.p.log m.a m.log) },lv:=(.slice o n cp) }).set m.to { downV x m.term with p:={ (downV x m.term).p with log:=(merge x.p.log m.a m.log),commit:=(max x.p.commit (min m.c (m.a+m.log.length))) },lv:=(.slice o n cp) }) ns nv cs cv M2 W6):=fun M2 o n cp W5 h5 v hv W6 e=>by
  rw [hlnE] at hv
  have:=h5.peer { (downV x m.term).p with log:=(merge x.p.log m.a m.log),commit:=(max x.p.commit (min m.c (m.a+m.log.length))) } (.slice o n cp) (got_set hk2) (j:=3) (v:=.int .i64 v) (by decide) (by rw [hv];rfl) (h5.run.logs _ (List.mem_iff_getElem?.2 ⟨m.to,got_set hk2⟩)) rfl rfl rfl
  rw [←e]
  exact this.below (Below.refl _ _).drew
 have HNt:Hid (∀ M2 o n cp W6,St2 F w M base d P pc #[.int .i64 m.kind,.int .i64 m.frm,.int .i64 m.to,.int .i64 m.term,.int .i64 m.a,.int .i64 m.b,.int .i64 m.c,.bool m.ok,.slice lo ln lc] #[.int .i64 4,.int .i64 m.to,.int .i64 m.frm,.int .i64 x.p.term,.int .i64 (((m.a+m.log.length:Nat)):Int),.int .i64 0,.int .i64 0,.bool true,.slice none 0 0] { { (c.down m.to m.term) with peers:=(c.down m.to m.term).peers.set m.to { (downV x m.term).p with log:=(merge x.p.log m.a m.log) } } with peers:=((c.down m.to m.term).peers.set m.to { (downV x m.term).p with log:=(merge x.p.log m.a m.log) }).set m.to { (downV x m.term).p with log:=(merge x.p.log m.a m.log),commit:=(max x.p.commit (min m.c (m.a+m.log.length))) } } (((us.set m.to (downV x m.term)).set m.to { downV x m.term with p:={ (downV x m.term).p with log:=(merge x.p.log m.a m.log) },lv:=(.slice o n cp) }).set m.to { downV x m.term with p:={ (downV x m.term).p with log:=(merge x.p.log m.a m.log),commit:=(max x.p.commit (min m.c (m.a+m.log.length))) },lv:=(.slice o n cp) }) ns nv cs cv M2 W6→Calls Tryz.prog 61 #[.pointer (some ⟨d,0,none⟩),.int .i64 m.to] W6 fun r w'=>r=.returned (.tuple #[])∧∃ M3 cs3 cv3,Hid (St2 F w M base d P pc #[.int .i64 m.kind,.int .i64 m.frm,.int .i64 m.to,.int .i64 m.term,.int .i64 m.a,.int .i64 m.b,.int .i64 m.c,.bool m.ok,.slice lo ln lc] #[.int .i64 4,.int .i64 m.to,.int .i64 m.frm,.int .i64 x.p.term,.int .i64 (((m.a+m.log.length:Nat)):Int),.int .i64 0,.int .i64 0,.bool true,.slice none 0 0] ({ { (c.down m.to m.term) with peers:=(c.down m.to m.term).peers.set m.to { (downV x m.term).p with log:=(merge x.p.log m.a m.log) } } with peers:=((c.down m.to m.term).peers.set m.to { (downV x m.term).p with log:=(merge x.p.log m.a m.log) }).set m.to { (downV x m.term).p with log:=(merge x.p.log m.a m.log),commit:=(max x.p.commit (min m.c (m.a+m.log.length))) } }.note m.to) (((us.set m.to (downV x m.term)).set m.to { downV x m.term with p:={ (downV x m.term).p with log:=(merge x.p.log m.a m.log) },lv:=(.slice o n cp) }).set m.to { downV x m.term with p:={ (downV x m.term).p with log:=(merge x.p.log m.a m.log),commit:=(max x.p.commit (min m.c (m.a+m.log.length))) },lv:=(.slice o n cp) }) ns nv cs3 cv3 M3 w')):=fun M2 o n cp W6 h6=>h6.note m.to _ (got_set (got_set hk2)) hcm hlg hcl
 have HSend:Hid (∀ M3 cs3 cv3 o n cp wx,St2 F w M base d P pc #[.int .i64 m.kind,.int .i64 m.frm,.int .i64 m.to,.int .i64 m.term,.int .i64 m.a,.int .i64 m.b,.int .i64 m.c,.bool m.ok,.slice lo ln lc] #[.int .i64 4,.int .i64 m.to,.int .i64 m.frm,.int .i64 x.p.term,.int .i64 (((m.a+m.log.length:Nat)):Int),.int .i64 0,.int .i64 0,.bool true,.slice none 0 0] ({ { (c.down m.to m.term) with peers:=(c.down m.to m.term).peers.set m.to { (downV x m.term).p with log:=(merge x.p.log m.a m.log) } } with peers:=((c.down m.to m.term).peers.set m.to { (downV x m.term).p with log:=(merge x.p.log m.a m.log) }).set m.to { (downV x m.term).p with log:=(merge x.p.log m.a m.log),commit:=(max x.p.commit (min m.c (m.a+m.log.length))) } }.note m.to) (((us.set m.to (downV x m.term)).set m.to { downV x m.term with p:={ (downV x m.term).p with log:=(merge x.p.log m.a m.log) },lv:=(.slice o n cp) }).set m.to { downV x m.term with p:={ (downV x m.term).p with log:=(merge x.p.log m.a m.log),commit:=(max x.p.commit (min m.c (m.a+m.log.length))) },lv:=(.slice o n cp) }) ns nv cs3 cv3 M3 wx→Calls Tryz.prog 38 #[.pointer (some ⟨d,0,none⟩),.agg #[.int .i64 4,.int .i64 m.to,.int .i64 m.frm,.int .i64 x.p.term,.int .i64 ((m.a+ln:Nat):Int),.int .i64 0,.int .i64 0,.bool true,.slice none 0 0]] wx fun r w'=>r=.returned (.tuple #[])∧SD F w M base d P pc (c.appended m) w'):=fun M3 cs3 cv3 o n cp wx hx=>by
  have hat2:(c.down m.to m.term).at m.to=(downV x m.term).p:=by
   have e3:(c.down m.to m.term).peers.length=us.length:=by
    unfold Cl.down Cl.put
    simp [←h.peers]
   rw [down_put c m.to m.term x hat]
   unfold Cl.at
   dsimp only
   rw [List.getD_eq_getElem?_getD,List.getElem?_set_self (by rw [←h.peers,List.length_map];exact hlt)]
   rfl
  have e:c.appended m=({ { (c.down m.to m.term) with peers:=(c.down m.to m.term).peers.set m.to { (downV x m.term).p with log:=(merge x.p.log m.a m.log) } } with peers:=((c.down m.to m.term).peers.set m.to { (downV x m.term).p with log:=(merge x.p.log m.a m.log) }).set m.to { (downV x m.term).p with log:=(merge x.p.log m.a m.log),commit:=(max x.p.commit (min m.c (m.a+m.log.length))) } }.note m.to).send ⟨4,m.to,m.frm,x.p.term,m.a+m.log.length,0,0,true,[]⟩:=by
   unfold Cl.appended
   dsimp only
   rw [hat,if_neg ht,hat2]
   have e1:(downV x m.term).p.log=x.p.log:=rfl
   have e2:(downV x m.term).p.term=x.p.term:=by show max x.p.term m.term=x.p.term;omega
   rw [e1,e2,if_neg (fun q=>q.elim (fun q=>by omega) (fun q=>q hyes))]
   unfold Cl.put
   rw [List.set_set]
   congr 3
  rw [e,hlnE]
  exact hx.send ⟨4,m.to,m.frm,x.p.term,m.a+m.log.length,0,0,true,[]⟩ none 0 0 (RecsM.nil M3)
 have HCE:Hid (∀ M2 o n cp W5,St2 F w M base d P pc #[.int .i64 m.kind,.int .i64 m.frm,.int .i64 m.to,.int .i64 m.term,.int .i64 m.a,.int .i64 m.b,.int .i64 m.c,.bool m.ok,.slice lo ln lc] #[.int .i64 4,.int .i64 m.to,.int .i64 m.frm,.int .i64 x.p.term,.int .i64 (((m.a+m.log.length:Nat)):Int),.int .i64 0,.int .i64 0,.bool true,.slice none 0 0] { (c.down m.to m.term) with peers:=(c.down m.to m.term).peers.set m.to { (downV x m.term).p with log:=(merge x.p.log m.a m.log) } } ((us.set m.to (downV x m.term)).set m.to { downV x m.term with p:={ (downV x m.term).p with log:=(merge x.p.log m.a m.log) },lv:=(.slice o n cp) }) ns nv cs cv M2 W5→(W5.cell? ⟨P,m.to*9+3,none⟩=some (.int .i64 x.p.commit)∧W5.frozen? ⟨P,m.to*9+3,none⟩=false)∧W5.cell? ⟨w.heap.size,6,none⟩=some (.int .i64 m.c)∧W5.cell? ⟨w.heap.size+1,4,none⟩=some (.int .i64 ((m.a+ln:Nat):Int))):=fun M2 o n cp W5 h5=>by
  rw [hlnE]
  exact ⟨h5.run.peerCell (got_set hk2) (j:=3) rfl,cell_of h5.b0 rfl,cell_of h5.b1 rfl⟩
 have HC2:Hid (∀ M2 o n cp W6,St2 F w M base d P pc #[.int .i64 m.kind,.int .i64 m.frm,.int .i64 m.to,.int .i64 m.term,.int .i64 m.a,.int .i64 m.b,.int .i64 m.c,.bool m.ok,.slice lo ln lc] #[.int .i64 4,.int .i64 m.to,.int .i64 m.frm,.int .i64 x.p.term,.int .i64 (((m.a+m.log.length:Nat)):Int),.int .i64 0,.int .i64 0,.bool true,.slice none 0 0] { { (c.down m.to m.term) with peers:=(c.down m.to m.term).peers.set m.to { (downV x m.term).p with log:=(merge x.p.log m.a m.log) } } with peers:=((c.down m.to m.term).peers.set m.to { (downV x m.term).p with log:=(merge x.p.log m.a m.log) }).set m.to { (downV x m.term).p with log:=(merge x.p.log m.a m.log),commit:=(max x.p.commit (min m.c (m.a+m.log.length))) } } (((us.set m.to (downV x m.term)).set m.to { downV x m.term with p:={ (downV x m.term).p with log:=(merge x.p.log m.a m.log) },lv:=(.slice o n cp) }).set m.to { downV x m.term with p:={ (downV x m.term).p with log:=(merge x.p.log m.a m.log),commit:=(max x.p.commit (min m.c (m.a+m.log.length))) },lv:=(.slice o n cp) }) ns nv cs cv M2 W6→W6.cell? ⟨w.heap.size,2,none⟩=some (.int .i64 m.to)):=fun M2 o n cp W6 h6=>cell_of h6.b0 rfl
 have HQB:Hid (∀ M3 cs3 cv3 o n cp wx,St2 F w M base d P pc #[.int .i64 m.kind,.int .i64 m.frm,.int .i64 m.to,.int .i64 m.term,.int .i64 m.a,.int .i64 m.b,.int .i64 m.c,.bool m.ok,.slice lo ln lc] #[.int .i64 4,.int .i64 m.to,.int .i64 m.frm,.int .i64 x.p.term,.int .i64 (((m.a+m.log.length:Nat)):Int),.int .i64 0,.int .i64 0,.bool true,.slice none 0 0] ({ { (c.down m.to m.term) with peers:=(c.down m.to m.term).peers.set m.to { (downV x m.term).p with log:=(merge x.p.log m.a m.log) } } with peers:=((c.down m.to m.term).peers.set m.to { (downV x m.term).p with log:=(merge x.p.log m.a m.log) }).set m.to { (downV x m.term).p with log:=(merge x.p.log m.a m.log),commit:=(max x.p.commit (min m.c (m.a+m.log.length))) } }.note m.to) (((us.set m.to (downV x m.term)).set m.to { downV x m.term with p:={ (downV x m.term).p with log:=(merge x.p.log m.a m.log) },lv:=(.slice o n cp) }).set m.to { downV x m.term with p:={ (downV x m.term).p with log:=(merge x.p.log m.a m.log),commit:=(max x.p.commit (min m.c (m.a+m.log.length))) },lv:=(.slice o n cp) }) ns nv cs3 cv3 M3 wx→wx.cell? ⟨w.heap.size+1,0,none⟩=some (.int .i64 4)∧wx.cell? ⟨w.heap.size+1,1,none⟩=some (.int .i64 m.to)∧wx.cell? ⟨w.heap.size+1,2,none⟩=some (.int .i64 m.frm)∧wx.cell? ⟨w.heap.size+1,3,none⟩=some (.int .i64 x.p.term)∧wx.cell? ⟨w.heap.size+1,4,none⟩=some (.int .i64 ((m.a+ln:Nat):Int))∧wx.cell? ⟨w.heap.size+1,5,none⟩=some (.int .i64 0)∧wx.cell? ⟨w.heap.size+1,6,none⟩=some (.int .i64 0)∧wx.cell? ⟨w.heap.size+1,7,none⟩=some (.bool true)∧wx.cell? ⟨w.heap.size+1,8,none⟩=some (.slice none 0 0)):=fun M3 cs3 cv3 o n cp wx hx=>by
  rw [hlnE]
  exact ⟨cell_of hx.b1 rfl,cell_of hx.b1 rfl,cell_of hx.b1 rfl,cell_of hx.b1 rfl,cell_of hx.b1 rfl,cell_of hx.b1 rfl,cell_of hx.b1 rfl,cell_of hx.b1 rfl,cell_of hx.b1 rfl⟩
 have hkI:(m.to:Int)<us.length:=by omega
 have htI:¬ (m.term:Int)<x.p.term:=by omega
 obtain ⟨U,eU⟩:∃ U,us.length=U:=⟨_,rfl⟩
 rw [eU] at c0 hlt hcap hkI
 rw [eL] at hL hle
 rw [←hlnE] at hml
 have HIn0:Hid (∀ wx bk,St2 F w M base d P pc #[.int .i64 m.kind,.int .i64 m.frm,.int .i64 m.to,.int .i64 m.term,.int .i64 m.a,.int .i64 m.b,.int .i64 m.c,.bool m.ok,.slice lo ln lc] bk (c.down m.to m.term) (us.set m.to (downV x m.term)) ns nv cs cv M wx→In M wx):=fun wx bk hx=>hx.run.inn
 unfold maxLen at hrc hlc1
 clear hrow0 hd0 els0 hl0 hlv hlnE hlc2 hcm hlg hcl
 clear h hR hat hk hm bW hbs eU hxm hlog elv hk2 eL eT2 eV2
 go_enter Tryz.func58,Tryz.ntmps58
 go_wp2
 (try rw [hW])
 clear hW
 go_quiet (fail)
 go_wp2
 obtain ⟨W1,hW1,bW1,sW1⟩:=fold_dn W nq
 rw [hW1]
 have HB1:=hide bW1
 obtain ⟨s1,s2,s3,s4⟩:=HS.out W1 bW1
 clear hW1 bW1 m2 c0
 go_region_held_law (fun wx=>wx.cell? ⟨P,m.to*9+1,none⟩=some (.int .i64 x.p.term)∧wx.cell? ⟨w.heap.size,1,none⟩=some (.int .i64 m.frm)∧wx.cell? ⟨w.heap.size,2,none⟩=some (.int .i64 m.to)∧wx.cell? ⟨w.heap.size,3,none⟩=some (.int .i64 m.term)) ((refine HS.out _ ?_;first | exact HB1.out | exact HB1.out.drew | exact more HB1.out _ | exact (more HB1.out _).drew | exact more HB1.out.drew _)) (fail)
 go_wp2
 obtain ⟨W2,hW2⟩:∃ W2,(W1.alloc (.cells #[.int .i64 4,.int .i64 m.to,.int .i64 m.frm,.int .i64 x.p.term,.int .i64 0,.int .i64 0,.int .i64 0,.bool false,.slice none 0 0] 69)).drew=W2:=⟨_,rfl⟩
 (try rw [hW2])
 have H2:=hide (HSt.out W1 W2 HB1.out sW1 hW2)
 obtain ⟨s1,s2,s3,s4⟩:=HS.out W2 (by rw [←hW2];exact (more HB1.out _).drew)
 clear hW2 HB1 HS HSt s2 s3 sW1
 go_quiet (fail)
 obtain ⟨W3,hW3,bW3,sW3⟩:=fold_dn W2 nq
 (try rw [hW3])
 have H3:=hide (H2.out.below bW3)
 have q2:W3.cell? ⟨w.heap.size,2,none⟩=some (.int .i64 m.to):=cell_of H3.out.b0 rfl
 have q3:W3.cell? ⟨w.heap.size,3,none⟩=some (.int .i64 m.term):=cell_of H3.out.b0 rfl
 clear hW3 bW3 H2 s1 s4 sW3
 go_wp2_with (go_at_call 55;refine (HDn.out _ H3.out).mono ?_;rintro rr wd ⟨rfl,HD⟩;obtain ⟨y0,y1,y2,y3,y4,y5,y6,y7,y8⟩:=HPc.out _ _ HD.out;have z2:wd.cell? ⟨w.heap.size,2,none⟩=some (.int .i64 m.to):=cell_of HD.out.b0 rfl;have z4:wd.cell? ⟨w.heap.size,4,none⟩=some (.int .i64 m.a):=cell_of HD.out.b0 rfl;have z5:wd.cell? ⟨w.heap.size,5,none⟩=some (.int .i64 m.b):=cell_of HD.out.b0 rfl)
 clear q2 q3 H3 HDn
 have hA:¬ L<m.a:=by omega
 have hAI:¬ (L:Int)<m.a:=by omega
 have HS6:Hid (∀ wx,Below wd.heap.size wd wx→(wx.cell? ⟨P,m.to*9,none⟩=some (.bool x.p.up)∧wx.cell? ⟨P,m.to*9+1,none⟩=some (.int .i64 T2)∧wx.cell? ⟨P,m.to*9+2,none⟩=some (.int .i64 V2)∧wx.cell? ⟨P,m.to*9+3,none⟩=some (.int .i64 x.p.commit)∧wx.cell? ⟨P,m.to*9+4,none⟩=some (.int .i64 0)∧wx.cell? ⟨P,m.to*9+5,none⟩=some (.slice ro L rc)∧wx.cell? ⟨P,m.to*9+6,none⟩=some (.slice none 0 0)∧wx.cell? ⟨P,m.to*9+7,none⟩=some (.slice none 0 0)∧wx.cell? ⟨P,m.to*9+8,none⟩=some (.slice none 0 0))∧wx.cell? ⟨w.heap.size,4,none⟩=some (.int .i64 m.a)∧wx.cell? ⟨w.heap.size,5,none⟩=some (.int .i64 m.b)):=fun wx hx=>⟨HPc.out _ _ (HD.out.below hx),cell_of (HD.out.below hx).b0 rfl,cell_of (HD.out.below hx).b0 rfl⟩
 have HT:=hide (HTm.out (by omega))
 rw [hyes] at HT
 have hneb:((m.b:Int) != m.b)=false:=by simp
 clear hyes
 go_wp2
 go_region_held_law (fun wx=>(wx.cell? ⟨P,m.to*9,none⟩=some (.bool x.p.up)∧wx.cell? ⟨P,m.to*9+1,none⟩=some (.int .i64 T2)∧wx.cell? ⟨P,m.to*9+2,none⟩=some (.int .i64 V2)∧wx.cell? ⟨P,m.to*9+3,none⟩=some (.int .i64 x.p.commit)∧wx.cell? ⟨P,m.to*9+4,none⟩=some (.int .i64 0)∧wx.cell? ⟨P,m.to*9+5,none⟩=some (.slice ro L rc)∧wx.cell? ⟨P,m.to*9+6,none⟩=some (.slice none 0 0)∧wx.cell? ⟨P,m.to*9+7,none⟩=some (.slice none 0 0)∧wx.cell? ⟨P,m.to*9+8,none⟩=some (.slice none 0 0))∧wx.cell? ⟨w.heap.size,4,none⟩=some (.int .i64 m.a)∧wx.cell? ⟨w.heap.size,5,none⟩=some (.int .i64 m.b)) ((refine HS6.out _ ?_;first | exact Below.refl _ _ | exact (Below.refl _ _).drew | exact HB4.out)) (first | (go_at_call 74;refine (HT.out _ _ (HD.out.below (Below.refl _ _).drew)).mono ?_;rintro rr W4 ⟨rfl,HX4⟩;have HB4:Hid (Below wd.heap.size wd W4):=(Below.refl _ _).drew.trans HX4.out))
 have H4:=hide (HD.out.below HB4.out)
 obtain ⟨y0,y1,y2,y3,y4,y5,y6,y7,y8⟩:=HPc.out _ _ H4.out
 clear HB4 HX4 HS6 HT HD HTm y0 y1 y2 y3 y4 y6 y7 y8
 have HIn:=hide (HIn0.out _ _ H4.out)
 obtain ⟨hA1,hA2,hA3⟩:=HAp.out W4 _ H4.out
 have HA1:=hide hA1
 have HA2:=hide hA2
 have HA3:=hide hA3
 have s4:=H4.out.lt
 clear hA1 hA2 hA3 HAp
 have y5a:(W4.alloc (.cells #[] 74)).cell? ⟨P,m.to*9+5,none⟩=some (.slice ro L rc):=(HPc.out _ _ (H4.out.below (more (Below.refl _ _) _))).2.2.2.2.2.1
 go_wp2_with (at_builtin;refine wpList_append_row _ rfl _ _ 26 rfl 74 3 40 _ Tryz.underlying26 info75 rfl (by decide) W4.heap.size _ 0 [] rfl HA1.out _ L (ls0.flatMap recCells) rfl HA2.out HOne.out (by omega) (by decide) (by simp [World.size_alloc]) ?_;intro v5 w5 O5 G5;obtain ⟨o5,cp5,ev5,HL5⟩:=HA3.out v5 w5 O5 G5;subst ev5;clear O5 G5 HA3)
 obtain ⟨i0,hi,hz0,hz1,hz2⟩:=info_parts info75
 have HI:Hid (Tryz.prog.info? 74=some i0∧i0.zero=some (.agg #[.int .i64 0,.int .i64 0,.slice none 0 0])∧i0.size=3∧i0.bytes=40):=⟨hi,hz0,hz1,hz2⟩
 have HBx:Hid (∀ wr,Below W4.heap.size W4 wr→wr.cell? ⟨w.heap.size,4,none⟩=some (.int .i64 m.a)∧wr.cell? ⟨w.heap.size,8,none⟩=some (.slice lo ln lc)):=fun wr hb=>⟨cell_of (H4.out.below hb).b0 rfl,cell_of (H4.out.below hb).b0 rfl⟩
 have HEnd:Hid (∀ wr,Below W4.heap.size W4 wr→(wr.cell? ⟨P,m.to*9+5,none⟩=some (.slice ro L rc)∧wr.frozen? ⟨P,m.to*9+5,none⟩=false)∧(wr.cell? ⟨w.heap.size+1,7,none⟩=some (.bool false)∧wr.frozen? ⟨w.heap.size+1,7,none⟩=false)∧(wr.cell? ⟨w.heap.size+1,4,none⟩=some (.int .i64 0)∧wr.frozen? ⟨w.heap.size+1,4,none⟩=false)):=fun wr hb=>by
  have hh:=H4.out.below hb
  obtain ⟨cur,g1,_⟩:=hh.run.row
  exact ⟨⟨(HPc.out _ _ hh).2.2.2.2.2.1,frozen_of g1 _⟩,⟨cell_of hh.b1 rfl,frozen_of hh.b1 7⟩,cell_of hh.b1 rfl,frozen_of hh.b1 4⟩
 have hPn:=H4.out.no P (.inr (.inl rfl))
 have n1:¬ P=w.heap.size:=by omega
 have n2:¬ P=w.heap.size+1:=by omega
 have n3:¬ w.heap.size+1=P:=by omega
 have n4:¬ w.heap.size=P:=by omega
 obtain ⟨E,eE⟩:∃ E,m.a+ln=E:=⟨_,rfl⟩
 have hE0:(m.a:Int)+ln=E:=by omega
 have HFE:=hide (HFz.out W4 H4.out)
 clear hi hz0 hz1 hz2 y5a y5 HPc HA1 HA2 HOne HIn0 z2 z4 z5 HFz
 go_loopw [6,7] (fun lv iv wr=>∃ (j:Nat) (o:Option Addr) (n cp:Nat),j≤ln∧iv=.int .i64 j∧lv=.slice o n cp∧Hid (∃ M' ls,Log W4 wr M (.slice o n cp) (merge x.p.log m.a (m.log.take j)) M' ls)) (fun _ i _=>ln-(intOf i).toNat)
 case atStart=>exact ⟨0,o5,L,cp5,by omega,by simp,rfl,HL5⟩
 case round =>
  clear HL5
  obtain ⟨j,o,n,cp,hj,rfl,rfl,HJ⟩:=hrel
  obtain ⟨M',ls,hLg⟩:=HJ.out
  obtain ⟨b4,b8⟩:=HBx.out wr hLg.bel
  obtain ⟨hn1,hn2,hn3,hn4⟩:=slog.Log.len hLg
  obtain ⟨hm1,hm2⟩:=HMl.out j hj
  obtain ⟨l',el'⟩:∃ l',merge x.p.log m.a (m.log.take j)=l':=⟨_,rfl⟩
  rw [el'] at hn1 hn2 hm1 hm2
  unfold maxLen at hn4
  by_cases hjl:j<ln
  ·have hjI:(j:Int)<ln:=by omega
   obtain ⟨b,off,r,ro2,rn2,rc2,rfl,hr,hq,qb,qd⟩:=HRec.out M' j hLg.le hjl
   have HQ:=hide hq
   have hput:=HPutR.out j r hr
   rw [el'] at hput
   obtain ⟨A,eA⟩:∃ A,m.a+j=A:=⟨_,rfl⟩
   rw [eA] at hput hm1
   have hAj:(m.a:Int)+j=A:=by omega
   have hL2:=hLg
   rw [el'] at hL2
   have HLg0:Hid (Log W4 wr M (.slice o n cp) l' M' ls∧BytesM M' (.slice ro2 rn2 rc2) r.data∧r.data.length≤1000):=⟨hL2,qb,qd⟩
   obtain ⟨q0,q1,q2⟩:=hq wr hLg.inn
   have HH:=hide (show n=l'.length∧ls.length=l'.length∧n≤cp from ⟨hn1,hn2,hn3⟩)
   have HB8:=HBx
   clear hLg HJ hr hq qb qd hL2 HBx HEnd HFE
   by_cases hAn:A<n
   ·obtain ⟨g,rfl⟩:=slog.Log.form HLg0.out.1 (by omega)
    obtain ⟨y,hy⟩:∃ y,l'[A]?=some y:=⟨_,List.getElem?_eq_getElem (by omega)⟩
    have yc:=slog.Log.cell HLg0.out.1 hy
    have hty:termAt l' (A+1)=y.term:=by
     unfold termAt
     rw [if_neg (by omega),Nat.add_sub_cancel,hy]
    have hAnI:(A:Int)<n:=by omega
    have hAc:A≤cp:=by omega
    by_cases hd:y.term=r.term
    ·have hdb:((y.term:Int) != r.term)=false:=by rw [hd];simp
     have hNb:((A:Int) == n)=false:=by simp;omega
     have HPut:Hid (merge x.p.log m.a (m.log.take (j+1))=l'):=by
      show _=_
      rw [hput]
      exact putR_same (hty.trans hd) (by omega)
     clear hput hty hy hn1 hn2 eA el' HPutR HRec HMl
     go_wp2
     go_quiet (fail)
     obtain ⟨W6,hW6,bW6,sW6⟩:=fold_dn wr nq
     (try rw [hW6])
     have HN:Hid (∃ M' ls,Log W4 W6 M (.slice (some ⟨g,0,none⟩) n cp) (merge x.p.log m.a (m.log.take (j+1))) M' ls):=⟨M',ls,by rw [HPut.out];exact slog.Log.below HLg0.out.1 bW6⟩
     clear hW6 bW6 HLg0 HPut
     go_wp2
     go_roundw
     case rel=>exact ⟨j+1,_,n,cp,by omega,by go_num,rfl,HN⟩
     case measure=>simp [intOf];omega
    ·have hdb:((y.term:Int) != r.term)=true:=by simp;omega
     have hNb:((A:Int) == A)=true:=by simp
     have HPut0:Hid (merge x.p.log m.a (m.log.take (j+1))=l'.take A++[r]):=by
      show _=_
      rw [hput]
      exact putR_cut (fun q=>hd (hty.symm.trans q)) (by omega)
     clear hput hty hy hn1 hn2 eA el' HPutR HRec HMl
     go_wp2
     go_quiet (fail)
     obtain ⟨W6,hW6,bW6,sW6⟩:=fold_dn wr nq
     (try rw [hW6])
     have HLg1:Hid (∃ ls l0,(Log W4 W6 M (.slice (some ⟨g,0,none⟩) A cp) l0 M' ls∧BytesM M' (.slice ro2 rn2 rc2) r.data∧r.data.length≤1000)∧merge x.p.log m.a (m.log.take (j+1))=l0++[r]):=⟨_,_,⟨slog.Log.cut (slog.Log.below HLg0.out.1 bW6) (i:=A) (by have:=HH.out;omega),HLg0.out.2⟩,HPut0.out⟩
     have v8:W6.cell? ⟨w.heap.size,8,none⟩=some (.slice (some ⟨b,off,none⟩) ln lc):=(HB8.out W6 ((HLg0.out.1.bel).trans (bW6.mono HLg0.out.1.bel.size))).2
     clear hW6 bW6 HLg0 HPut0 HH ls
     obtain ⟨ls,l0,hlg,hput⟩:=HLg1.out
     have HLg:=hide hlg
     have HPut:=hide hput
     clear hlg hput HLg1
     have HC:=copy_any W6 M' (HLg.out.1.inn) r.term r.index r.data HLg.out.2.2 ro2 rn2 rc2 HLg.out.2.1
     have HWI:=hide HIn.out
     clear q0 q1 q2
     obtain ⟨q0,q1,q2⟩:=HQ.out W6 HLg.out.1.inn
     go_wp2_with fail
     refine HC.mono ?_
     rintro rr w1 ⟨M'',do_,dn,dc,rfl,l1,in1,by1,bel1,dom1⟩
     clear HC
     have s1:=bel1.size
     have hO1:w1.ownsRow W4.heap.size 74 3 (.slice (some ⟨g,0,none⟩) A cp) ls.length (ls.flatMap recCells):=row_kept HLg.out.1.row (fun g' hg'=>bel1.block g' (row_lt HLg.out.1.row hg').2)
     have HO1:Hid ((w1.alloc (.cells #[.int .i64 r.term,.int .i64 r.index,.slice do_ dn dc] 74)).ownsRow W4.heap.size 74 3 (.slice (some ⟨g,0,none⟩) A cp) ls.length (ls.flatMap recCells)):=row_kept hO1 (fun g' hg'=>Below.heap_alloc _ _ _ (row_lt hO1 hg').2)
     have HDD:Hid (Le M' M''∧In M'' w1∧BytesM M'' (.slice do_ dn dc) r.data∧Below W6.heap.size W6 w1∧∀ b ob,M'' b=some ob→M' b=some ob∨(W6.heap.size≤b∧∃ cur fr,ob=.cells cur 5 fr)):=⟨l1,in1,by1,bel1,dom1⟩
     have HLJ:Hid (ls.length≤3000):=by have:=slog.Log.len HLg.out.1;show _≤_;omega
     have hs46:=HLg.out.1.bel.size
     clear hO1 l1 in1 by1 bel1 dom1 q0 q1 q2
     go_wp2_with (at_builtin;refine wpList_append_own _ rfl _ _ 26 rfl W4.heap.size 74 i0 (.agg #[.int .i64 0,.int .i64 0,.slice none 0 0]) 3 40 Tryz.underlying26 HI.out.1 HI.out.2.1 HI.out.2.2.1 HI.out.2.2.2 rfl (by decide) _ ls.length (ls.flatMap recCells) rfl HO1.out ⟨w1.heap.size,0,none⟩ 1 1 [.int .i64 r.term,.int .i64 r.index,.slice do_ dn dc] rfl rfl ?c1 ?c2 ?c3 ?c4 ?c5 ?_)
     case c1 =>
      intro i' u' hu'
      have hnw:(w1.alloc (.cells #[.int .i64 r.term,.int .i64 r.index,.slice do_ dn dc] 74)).heap[w1.heap.size]?=some (.cells #[.int .i64 r.term,.int .i64 r.index,.slice do_ dn dc] 74 (0,0)):=heap_alloc_new w1 _
      rw [addr_add,Nat.zero_add]
      refine cell_of hnw ?_
      simpa using hu'
     case c2 =>
      intro u' hu'
      simp only [List.mem_cons,List.not_mem_nil,or_false] at hu'
      rcases hu' with rfl | rfl | rfl <;> rfl
     case c3=>have:=HLJ.out;unfold maxLen;omega
     case c4=>have:=HLJ.out;omega
     case c5=>first | omega | (simp;omega)
     intro v2 w2 O2 G2 _
     obtain ⟨o2,n2,c2,ev2⟩:=own_slice O2
     subst ev2
     have HN:Hid (∃ M' ls,Log W4 w2 M (.slice o2 n2 c2) (merge x.p.log m.a (m.log.take (j+1))) M' ls):=by
      have hD:=HDD.out
      have hBa:Below W6.heap.size W6 (w1.alloc (.cells #[.int .i64 r.term,.int .i64 r.index,.slice do_ dn dc] 74)):=hD.2.2.2.1.alloc hD.2.2.2.1.size _
      have hmore:=HLg.out.1.more (dv:=.slice do_ dn dc) hD.1 (hD.2.1.below (more (Below.refl _ _) _)) hBa hD.2.2.2.2 hD.2.2.1 HLg.out.2.2 HWI.out O2 G2
      refine hide ⟨M'',ls++[⟨r,.slice do_ dn dc⟩],?_⟩
      rw [HPut.out]
      exact hmore
     clear O2 G2 HO1 HDD HLg
     go_wp2
     go_roundw
     case rel=>exact ⟨j+1,o2,n2,c2,by omega,by go_num,rfl,HN⟩
     case measure=>simp [intOf];omega
   ·have hAnI:¬ (A:Int)<n:=by omega
    obtain rfl:A=n:=by omega
    have hNb:((A:Int) == A)=true:=by simp
    have HPut0:Hid (merge x.p.log m.a (m.log.take (j+1))=l'++[r]):=by
     show _=_
     rw [hput]
     exact putR_end (by omega)
    clear hput hn1 hn2 eA el' HPutR HRec HMl
    go_wp2
    go_quiet (fail)
    obtain ⟨W6,hW6,bW6,sW6⟩:=fold_dn wr nq
    (try rw [hW6])
    have HLg1:Hid (∃ l0,(Log W4 W6 M (.slice o A cp) l0 M' ls∧BytesM M' (.slice ro2 rn2 rc2) r.data∧r.data.length≤1000)∧merge x.p.log m.a (m.log.take (j+1))=l0++[r]):=⟨_,⟨slog.Log.below HLg0.out.1 bW6,HLg0.out.2⟩,HPut0.out⟩
    have v8:W6.cell? ⟨w.heap.size,8,none⟩=some (.slice (some ⟨b,off,none⟩) ln lc):=(HB8.out W6 ((HLg0.out.1.bel).trans (bW6.mono HLg0.out.1.bel.size))).2
    clear hW6 bW6 HLg0 HPut0
    obtain ⟨l0,hlg,hput⟩:=HLg1.out
    have HLg:=hide hlg
    have HPut:=hide hput
    clear hlg hput HLg1
    have HC:=copy_any W6 M' (HLg.out.1.inn) r.term r.index r.data HLg.out.2.2 ro2 rn2 rc2 HLg.out.2.1
    have HWI:=hide HIn.out
    clear q0 q1 q2
    obtain ⟨q0,q1,q2⟩:=HQ.out W6 HLg.out.1.inn
    go_wp2_with fail
    refine HC.mono ?_
    rintro rr w1 ⟨M'',do_,dn,dc,rfl,l1,in1,by1,bel1,dom1⟩
    clear HC
    have s1:=bel1.size
    have hO1:w1.ownsRow W4.heap.size 74 3 (.slice o A cp) ls.length (ls.flatMap recCells):=row_kept HLg.out.1.row (fun g' hg'=>bel1.block g' (row_lt HLg.out.1.row hg').2)
    have HO1:Hid ((w1.alloc (.cells #[.int .i64 r.term,.int .i64 r.index,.slice do_ dn dc] 74)).ownsRow W4.heap.size 74 3 (.slice o A cp) ls.length (ls.flatMap recCells)):=row_kept hO1 (fun g' hg'=>Below.heap_alloc _ _ _ (row_lt hO1 hg').2)
    have HDD:Hid (Le M' M''∧In M'' w1∧BytesM M'' (.slice do_ dn dc) r.data∧Below W6.heap.size W6 w1∧∀ b ob,M'' b=some ob→M' b=some ob∨(W6.heap.size≤b∧∃ cur fr,ob=.cells cur 5 fr)):=⟨l1,in1,by1,bel1,dom1⟩
    have HLJ:Hid (ls.length≤3000):=by have:=slog.Log.len HLg.out.1;show _≤_;omega
    have hs46:=HLg.out.1.bel.size
    clear hO1 l1 in1 by1 bel1 dom1 q0 q1 q2
    go_wp2_with (at_builtin;refine wpList_append_own _ rfl _ _ 26 rfl W4.heap.size 74 i0 (.agg #[.int .i64 0,.int .i64 0,.slice none 0 0]) 3 40 Tryz.underlying26 HI.out.1 HI.out.2.1 HI.out.2.2.1 HI.out.2.2.2 rfl (by decide) _ ls.length (ls.flatMap recCells) rfl HO1.out ⟨w1.heap.size,0,none⟩ 1 1 [.int .i64 r.term,.int .i64 r.index,.slice do_ dn dc] rfl rfl ?c1 ?c2 ?c3 ?c4 ?c5 ?_)
    case c1 =>
     intro i' u' hu'
     have hnw:(w1.alloc (.cells #[.int .i64 r.term,.int .i64 r.index,.slice do_ dn dc] 74)).heap[w1.heap.size]?=some (.cells #[.int .i64 r.term,.int .i64 r.index,.slice do_ dn dc] 74 (0,0)):=heap_alloc_new w1 _
     rw [addr_add,Nat.zero_add]
     refine cell_of hnw ?_
     simpa using hu'
    case c2 =>
     intro u' hu'
     simp only [List.mem_cons,List.not_mem_nil,or_false] at hu'
     rcases hu' with rfl | rfl | rfl <;> rfl
    case c3=>have:=HLJ.out;unfold maxLen;omega
    case c4=>have:=HLJ.out;omega
    case c5=>first | omega | (simp;omega)
    intro v2 w2 O2 G2 _
    obtain ⟨o2,n2,c2,ev2⟩:=own_slice O2
    subst ev2
    have HN:Hid (∃ M' ls,Log W4 w2 M (.slice o2 n2 c2) (merge x.p.log m.a (m.log.take (j+1))) M' ls):=by
     have hD:=HDD.out
     have hBa:Below W6.heap.size W6 (w1.alloc (.cells #[.int .i64 r.term,.int .i64 r.index,.slice do_ dn dc] 74)):=hD.2.2.2.1.alloc hD.2.2.2.1.size _
     have hmore:=HLg.out.1.more (dv:=.slice do_ dn dc) hD.1 (hD.2.1.below (more (Below.refl _ _) _)) hBa hD.2.2.2.2 hD.2.2.1 HLg.out.2.2 HWI.out O2 G2
     refine hide ⟨M'',ls++[⟨r,.slice do_ dn dc⟩],?_⟩
     rw [HPut.out]
     exact hmore
    clear O2 G2 HO1 HDD HLg
    go_wp2
    go_roundw
    case rel=>exact ⟨j+1,o2,n2,c2,by omega,by go_num,rfl,HN⟩
    case measure=>simp [intOf];omega
  ·have hjI:¬ (j:Int)<ln:=by omega
   have ej:j=ln:=by omega
   have hx:=HJ.out
   rw [ej] at hx
   obtain ⟨M2,W5,hW5,H5⟩:=HFE.out wr o n cp hx
   obtain ⟨⟨e1,e2⟩,⟨e3,e4⟩,e5,e6⟩:=HEnd.out wr hLg.bel
   obtain ⟨⟨f1,f2⟩,f3,f4⟩:=HCE.out M2 o n cp W5 H5.out
   rw [eE] at hW5 f4 HCm HQB HSend
   clear hx HJ HFE HEnd hLg HBx HRec HMl HPutR HCE el' hn1 hn2 hm1 hm2 H4 HIn
   go_wp2
   (try rw [hW5])
   clear hW5 e1 e2 e3 e4 e5 e6
   have HV:Hid (∀ v:Int,v=(if (x.p.commit:Int)<(if (E:Int)<m.c then (E:Int) else m.c) then (if (E:Int)<m.c then (E:Int) else m.c) else x.p.commit)→v=((max x.p.commit (min m.c E):Nat):Int)):=fun v hv=>by
    rw [hv]
    by_cases k1:(E:Int)<m.c
    ·simp only [if_pos k1]
     by_cases k2:(x.p.commit:Int)<E
     ·rw [if_pos k2];omega
     ·rw [if_neg k2];omega
    ·simp only [if_neg k1]
     by_cases k2:(x.p.commit:Int)<m.c
     ·rw [if_pos k2];omega
     ·rw [if_neg k2];omega
   go_cut [] from 137 to 149 (fun wx=>Hid (St2 F w M base d P pc #[.int .i64 m.kind,.int .i64 m.frm,.int .i64 m.to,.int .i64 m.term,.int .i64 m.a,.int .i64 m.b,.int .i64 m.c,.bool m.ok,.slice lo ln lc] #[.int .i64 4,.int .i64 m.to,.int .i64 m.frm,.int .i64 x.p.term,.int .i64 (((m.a+m.log.length:Nat)):Int),.int .i64 0,.int .i64 0,.bool true,.slice none 0 0] { { (c.down m.to m.term) with peers:=(c.down m.to m.term).peers.set m.to { (downV x m.term).p with log:=(merge x.p.log m.a m.log) } } with peers:=((c.down m.to m.term).peers.set m.to { (downV x m.term).p with log:=(merge x.p.log m.a m.log) }).set m.to { (downV x m.term).p with log:=(merge x.p.log m.a m.log),commit:=(max x.p.commit (min m.c (m.a+m.log.length))) } } (((us.set m.to (downV x m.term)).set m.to { downV x m.term with p:={ (downV x m.term).p with log:=(merge x.p.log m.a m.log) },lv:=(.slice o n cp) }).set m.to { downV x m.term with p:={ (downV x m.term).p with log:=(merge x.p.log m.a m.log),commit:=(max x.p.commit (min m.c (m.a+m.log.length))) },lv:=(.slice o n cp) }) ns nv cs cv M2 wx))
   case first =>
    go_region_law (fail)
    all_goals
     generalize hW6:World.drew (World.setCell W5 _ _)=W6
     have H6:=hide (HCm.out M2 o n cp W5 H5.out _ (HV.out _ (by first | rfl | (simp;done))) W6 hW6)
     clear hW6
     go_wp2_with fail
     all_goals
      go_meet
      exact H6
   case rest =>
    have q2:=HC2.out M2 o n cp wc hcut.out
    have HZ:=hide (HNt.out M2 o n cp wc hcut.out)
    clear HNt HC2 HCm HV H5
    go_wp2_with (first | (go_at_call 61;refine HZ.out.mono ?_;rintro rr w7 ⟨rfl,M3,cs3,cv3,H7⟩;have HY:=hide (HSend.out M3 cs3 cv3 o n cp w7 H7.out);obtain ⟨q0,q1,q2,q3,q4,q5,q6,q7,q8⟩:=HQB.out M3 cs3 cv3 o n cp w7 H7.out;clear HSend HQB) | (go_at_call 38;refine HY.out.mono ?_;rintro rr w8 ⟨rfl,hsd⟩))
    go_end0
    exact ⟨rfl,hsd⟩
end Go.Proofs.YtcfdmbkiinjmaaaGreat.sapy
