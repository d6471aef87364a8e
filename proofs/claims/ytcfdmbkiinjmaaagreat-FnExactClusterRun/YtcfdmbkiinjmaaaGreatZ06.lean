import Derived.Test.YtcfdmbkiinjmaaaGreatZ05
import Derived.Test.YtcfdmbkiinjmaaaGreatProg
import Derived.KernelRfl
import Derived.WalkSpells
import Derived.WalkSmall
import Derived.Deep.QuietTactic
import Derived.BigQuiet
import Derived.Outline
import Derived.Laws.AppendOwnNone
import Derived.Deep.RegionLaw
import Derived.Deep.RegionHeldLaw
import Derived.Deep.AppendLies
set_option linter.unusedVariables false
open Go.ChangeShapes Go.WideShapes Go.ChangeAt Go.RowKit
namespace Go.Proofs.YtcfdmbkiinjmaaaGreat.ssend
open Raft mem srun
variable {F:Nat→Option Obj}
theorem hide {p:Prop} (h:p):Hid p:=h
def TS (F:Nat→Option Obj):Ty:=⟨51,66,74,F⟩
def RowW (w:World) (v:Value) (n sz:Nat) (xs:List Value):Prop :=
 ∃ ao cap,v=.slice ao n cap∧xs.length=n*sz∧(ao=none→n=0∧cap=0)∧(0<n→∃ b off,ao=some ⟨b,off,none⟩∧∀ i v,xs[i]?=some v→w.cell? ⟨b,off+i,none⟩=some v)
theorem RowM.world {M:Fz} {w:World} {v:Value} {n sz:Nat} {xs:List Value} (h:RowM M v n sz xs) (hI:In M w):RowW w v n sz xs:=by
 obtain ⟨ao,cap,rfl,h1,h2,h3,h4,h5⟩:=h
 refine ⟨ao,cap,rfl,h3,h4,fun hp => ?_⟩
 obtain ⟨b,off,rfl,hc⟩:=h5 hp
 exact ⟨b,off,rfl,fun i v hv=>hI.cell (hc i v hv)⟩
theorem RowW.below {w w':World} {v:Value} {n sz:Nat} {xs:List Value} (h:RowW w v n sz xs) (hb:Below w.heap.size w w'):RowW w' v n sz xs:=by
 obtain ⟨ao,cap,rfl,h3,h4,h5⟩:=h
 refine ⟨ao,cap,rfl,h3,h4,fun hp => ?_⟩
 obtain ⟨b,off,rfl,hc⟩:=h5 hp
 refine ⟨b,off,rfl,fun i v hv => ?_⟩
 have hci:=hc i v hv
 have hlt:b<w.heap.size:=by
  simp only [World.cell?] at hci
  cases e:w.heap[b]? with
  | none=>simp [e] at hci
  | some o=>exact (Array.getElem?_eq_some_iff.1 e).1
 rw [World.cell?_of_block (a:=⟨b,off+i,none⟩) (hb.block b hlt)]
 exact hci
theorem addr_add (b off i:Nat):(⟨b,off,none⟩:Addr).add i=⟨b,off+i,none⟩:=by
 unfold Addr.add
 split
 ·rename_i h;subst h;rfl
 ·rfl
theorem step_append_row {P:Program} (w:World) {ops:Array Oper} {o:Oper} {a:Act} {K:Act→World→Prop} {Q:Exit→Act→World→Prop} {E:Prop} (hgd:o.guard=none) (s x:Operand) (t:TypeId)
  (ho:o.op=.call { callee:=.builtin .append,args:=#[s,x],argTypes:=#[t,t] }) (e sz by_:Nat) (z:Value) (ht:P.underlying t=some (.slice e))
  (hi:(P.info? e).map (fun i=>(i.zero,i.size,i.bytes))=some (some z,sz,by_)) (hz:z.cells.size=sz) (hsz:0<sz)
  (base:Nat) (v:Value) (n:Nat) (xs:List Value) (hs:a.eval s=v) (hown:w.ownsRow base e sz v n xs) (u:Value) (m:Nat) (ys:List Value) (hx:a.eval x=u) (hr:RowW w u m sz ys) (h1:∀ y∈ys,y.oneCell'=true)
  (hlen:(n+m)*by_≤140737488355328) (hby:0<by_) (hbase:base≤w.heap.size)
  (h:∀ v' w',w'.ownsRow base e sz v' (n+m) (xs++ys)→w.grownBy w' v.ownBlock→K (a.put o.dst v') w') :
  if Region.wanted o (yielded ops a.tmps)=true then Oper.wp P o a w K Q else E:=by
 have hw:Region.wanted o (yielded ops a.tmps)=true:=by simp [Region.wanted,hgd]
 rw [if_pos hw]
 obtain ⟨i0,hi1,hz0,hz1,hz2⟩:=info_parts hi
 obtain ⟨ao,cap,rfl,h3,h4,h5⟩:=hr
 cases ao with
 | none =>
  obtain ⟨rfl,rfl⟩:=h4 rfl
  obtain rfl:ys=[]:=List.length_eq_zero_iff.1 (by omega)
  have hrun:=run_append_owned_none (P:=P) (w:=w) base t o.type e i0 sz ht hi1 v n _ hown
  have hK:=h v w (by simpa using hown) (World.grownBy.refl _ _)
  unfold Oper.wp
  simp [execOp,ho,resolve,invoke,builtin,hs,hx,hrun,Result.andThen]
  exact hK
 | some ad =>
  refine wp_append_own w s x t ho base e i0 z sz by_ ht hi1 hz0 hz1 hz2 hz hsz v n xs hs hown ad m cap ys hx h3 ?_ h1 (by unfold maxLen;have:n+m≤(n+m)*by_:=Nat.le_mul_of_pos_right _ hby;omega) hlen hbase ?_
  ·intro j y hy
   have hp:0<m:=by
    have:=(List.getElem?_eq_some_iff.1 hy).1
    rcases Nat.eq_zero_or_pos m with h0 | h0
    ·rw [h0] at h3;omega
    ·exact h0
   obtain ⟨b,off,e',hc⟩:=h5 hp
   simp only [Option.some.injEq] at e'
   subst e'
   rw [addr_add]
   exact hc j y hy
  ·intro v' w' hown' hgrow _
   exact h v' w' hown' hgrow
theorem info70:(Tryz.prog.info? 69).map (fun i=>(i.zero,i.size,i.bytes))=some (some (.agg #[.int .i64 0,.int .i64 0,.int .i64 0,.int .i64 0,.int .i64 0,.int .i64 0,.int .i64 0,.bool false,.slice none 0 0]),9,88):=by kernel_rfl
theorem cell_of {w:World} {b i:Nat} {cur:Array Value} {t:Nat} {v:Value} (h:w.heap[b]?=some (.cells cur t (0,0))) (hv:cur[i]?=some v):w.cell? ⟨b,i,none⟩=some v:=by simp [World.cell?,h,hv]
theorem frozen_of {w:World} {b:Nat} {cur:Array Value} {t:Nat} (h:w.heap[b]?=some (.cells cur t (0,0))) (i:Nat):w.frozen? ⟨b,i,none⟩=false:=by simp [World.frozen?,h]
theorem kept {w w':World} {B k:Nat} {o:Obj} (h:Below B w w') (hk:w.heap[k]?=some o) (hB:w.heap.size≤B):w'.heap[k]?=some o:=(h.block k (by have:=(Array.getElem?_eq_some_iff.1 hk).1;omega)).trans hk
theorem new_at {w:World} {o:Obj} {k:Nat} (h:w.heap.size=k):(w.alloc o).heap[k]?=some o:=by subst h;exact heap_alloc_new w o
theorem more {W wx:World} (h:Below W.heap.size W wx) (o:Obj):Below W.heap.size W (wx.alloc o):=h.alloc h.size o
theorem grown_of_below {w w':World} (h:Below w.heap.size w w') (row:Option Nat):w.grownBy w' row:=⟨h.os,h.tape,h.output,h.size,fun k hk _=>h.block k hk⟩
theorem gtrans {a b c:World} {row:Option Nat} (h:a.grownBy b row) (k:b.grownBy c row):a.grownBy c row :=
 ⟨k.os.trans h.os,k.tape.trans h.tape,k.output.trans h.output,Nat.le_trans h.size k.size,fun i hi hr=>(k.block i (by have:=h.size;omega) hr).trans (h.block i hi hr)⟩
theorem set_grown (w:World) (d i:Nat) (u:Value):w.grownBy (w.setCell ⟨d,i,none⟩ u) (some d):=⟨rfl,rfl,rfl,by simp,fun k _ hk=>heap_setCell_other w ⟨d,i,none⟩ k u (fun e=>hk (by simp [e]))⟩
theorem lit_row (w:World) (x:MV) (k:Nat) (h:w.heap[k]?=some (.cells #[.int .i64 x.m.kind,.int .i64 x.m.frm,.int .i64 x.m.to,.int .i64 x.m.term,.int .i64 x.m.a,.int .i64 x.m.b,.int .i64 x.m.c,.bool x.m.ok,x.lv] 69 (0,0))):RowW w (.slice (some ⟨k,0,none⟩) 1 1) 1 9 (msgCells x) :=
 ⟨_,_,rfl,rfl,(fun h=>by cases h),fun _=>⟨k,0,rfl,fun i v hv=>by
  rw [Nat.zero_add]
  refine cell_of h ?_
  simpa [msgCells] using hv⟩⟩
theorem lit0 {w:World} {k base:Nat} (h:w.heap[k]?=some (.cells #[] 69 (0,0))) (hb:base≤k):w.ownsRow base 69 9 (.slice (some ⟨k,0,none⟩) 0 0) 0 [] :=
 ⟨rfl,.inr ⟨k,0,#[],rfl,hb,h,Nat.le_refl _,by simp [maxLen],by simp,by simp⟩⟩
theorem own_ge {g k base n c:Nat} (hk:(Value.slice (some ⟨g,0,none⟩) n c).ownBlock=some k) (hg:base≤g):base≤k:=by
 simp [Value.ownBlock] at hk
 omega
theorem box_after {wp w1:World} {k g n c:Nat} {o:Obj} (G:wp.grownBy w1 (Value.slice (some ⟨g,0,none⟩) n c).ownBlock) (h:wp.heap[k]?=some o) (hne:k≠g):w1.heap[k]?=some o :=
 (G.block k (Array.getElem?_eq_some_iff.1 h).1 (fun e=>hne (by simpa [Value.ownBlock] using e))).trans h
theorem slice_one {M:Fz} {v:Value} {n sz:Nat} {xs:List Value} (h:RowM M v n sz xs):∃ ao cap,v=.slice ao n cap∧cap≤maxLen:=by
 obtain ⟨ao,cap,rfl,h1,h2,_⟩:=h
 exact ⟨ao,cap,rfl,h2⟩
theorem msg_one {M:Fz} {v:Value} {us:List MV} (h:MsgsV M v us):∀ y∈us.flatMap msgCells,y.oneCell'=true:=by
 intro y hy
 obtain ⟨x,hx,hy⟩:=List.mem_flatMap.1 hy
 obtain ⟨us',_,hr,_⟩:=h.2 x hx
 obtain ⟨ao,cap,e,_⟩:=slice_one hr
 simp only [msgCells,List.mem_cons,List.not_mem_nil,or_false] at hy
 rcases hy with rfl | rfl | rfl | rfl | rfl | rfl | rfl | rfl | rfl
 all_goals first | rfl | (rw [e];rfl)
def Sent (F:Nat→Option Obj) (w:World) (M:Fz) (base d P pc:Nat) (c':Cl) (us:List PV) (cs:List RV) (cv:Value) (w':World):Prop :=
 ∃ M' ns' nv',Le M M'∧Run (TS F) w' M' base d P pc c' us ns' nv' cs cv∧w.grownBy w' (some d)∧∀ b,M' b≠none→M b≠none∨w.heap.size≤b
set_option maxRecDepth 20000 in
set_option maxHeartbeats 4000000 in
theorem send_any (w:World) (M:Fz) (base d P pc:Nat) (c:Cl) (us:List PV) (ns:List MV) (nv:Value) (cs:List RV) (cv:Value) (h:Run (TS F) w M base d P pc c us ns nv cs cv) (m:Msg) (lo:Option Addr) (ln lc:Nat) (hlv:RecsM M (.slice lo ln lc) m.log) :
  Calls Tryz.prog 38 #[.pointer (some ⟨d,0,none⟩),.agg #[.int .i64 m.kind,.int .i64 m.frm,.int .i64 m.to,.int .i64 m.term,.int .i64 m.a,.int .i64 m.b,.int .i64 m.c,.bool m.ok,.slice lo ln lc]] w fun r w'=>r=.returned (.tuple #[])∧Sent F w M base d P pc (c.send m) us cs cv w':=by
 obtain ⟨W,hW⟩:∃ W,W=w.alloc (.cells #[.int .i64 m.kind,.int .i64 m.frm,.int .i64 m.to,.int .i64 m.term,.int .i64 m.a,.int .i64 m.b,.int .i64 m.c,.bool m.ok,.slice lo ln lc] 69):=⟨_,rfl⟩
 have bW:Below w.heap.size w W:=by rw [hW];exact (Below.refl _ _).alloc (Nat.le_refl _) _
 have zW:W.heap.size=w.heap.size+1:=by rw [hW];simp
 have hR:Run (TS F) W M base d P pc c us ns nv cs cv:=h.below bW
 obtain ⟨no,nc,hnve,hncm⟩:=slice_one h.net.1
 subst hnve
 have hnl:ns.length=c.net.length:=by rw [←h.nets,List.length_map]
 have hRb:=hR.blk
 have c1:W.cell? ⟨d,1,none⟩=some (.slice no ns.length nc):=cell_of hRb rfl
 have HR:Hid (Run (TS F) W M base d P pc c us ns (.slice no ns.length nc) cs cv):=hR
 have HW:Hid (Below w.heap.size w W∧W.heap.size=w.heap.size+1):=⟨bW,zW⟩
 have HL:Hid (RecsM M (.slice lo ln lc) m.log):=hlv
 by_cases hn:ns.length<200
 ·have hnI:(ns.length:Int)<200:=by omega
  have hsend:c.send m={ c with net:=(ns++[⟨m,.slice lo ln lc⟩]:List MV).map (·.m) }:=by
   unfold Cl.send
   rw [if_pos (by omega),List.map_append,h.nets]
   rfl
  rw [hsend]
  have hbox:W.heap[w.heap.size]?=some (.cells #[.int .i64 m.kind,.int .i64 m.frm,.int .i64 m.to,.int .i64 m.term,.int .i64 m.a,.int .i64 m.b,.int .i64 m.c,.bool m.ok,.slice lo ln lc] 69 (0,0)):=by rw [hW];exact heap_alloc_new w _
  have hds:d<W.heap.size:=hR.lt.1
  have f1:=frozen_of hRb 1
  have HNet:Hid (∀ wx,Below W.heap.size W wx→RowW wx (.slice no ns.length nc) ns.length 9 (ns.flatMap msgCells)):=fun wx hb=>(RowM.world HR.out.net.1 HR.out.inn).below hb
  have HOne:Hid ((∀ y∈ns.flatMap msgCells,y.oneCell'=true)∧∀ y∈msgCells ⟨m,.slice lo ln lc⟩,y.oneCell'=true):=⟨msg_one h.net,fun y hy=>by
   simp only [msgCells,List.mem_cons,List.not_mem_nil,or_false] at hy
   rcases hy with rfl | rfl | rfl | rfl | rfl | rfl | rfl | rfl | rfl <;> rfl⟩
  have HFin:Hid (∀ W2 v2,W2.ownsRow W.heap.size 69 9 v2 (ns.length+1) (ns.flatMap msgCells++msgCells ⟨m,.slice lo ln lc⟩)→Below W.heap.size W W2→Sent F w M base d P pc { c with net:=(ns++[⟨m,.slice lo ln lc⟩]:List MV).map (·.m) } us cs cv (W2.setCell ⟨d,1,none⟩ v2)):=fun W2 v2 hO hB=>by
   obtain ⟨M',hl,hI,hr,hd'⟩:=RowM.freeze hO (HR.out.inn.below hB) (fun g hg=>HR.out.inn.fresh (row_lt hO hg).1)
   have hdom:∀ b,M' b≠none→M b≠none∨W.heap.size≤b:=fun b hb=>(hd' b hb).imp id (fun e=>(row_lt hO e).1)
   have hM:MsgsV M' v2 (ns++[⟨m,.slice lo ln lc⟩]):=by
    refine ⟨by simpa using hr,fun x hx => ?_⟩
    rcases List.mem_append.1 hx with hx | hx
    ·exact (HR.out.net.2 x hx).le hl
    ·simp only [List.mem_singleton] at hx
     subst hx
     exact HL.out.le hl
   have hN:=HR.out.setNet hB hl hI hdom hM
   exact ⟨M',_,_,hl,hN.1,gtrans (grown_of_below HW.out.1 _) (gtrans (grown_of_below hB _) (set_grown W2 d 1 v2)),fun b hb=>(hdom b hb).imp id (fun e=>by have:=HW.out.2;omega)⟩
  have hLB:Hid (∀ wx,Below W.heap.size W wx→wx.heap[w.heap.size]?=some (.cells #[.int .i64 m.kind,.int .i64 m.frm,.int .i64 m.to,.int .i64 m.term,.int .i64 m.a,.int .i64 m.b,.int .i64 m.c,.bool m.ok,.slice lo ln lc] 69 (0,0))∧wx.heap[d]?=some (.cells #[.slice (some ⟨P,0,none⟩) us.length pc,.slice no ns.length nc,cv,.bool c.conflict] 51 (0,0))):=fun wx hb=>⟨kept hb hbox (Nat.le_refl _),kept hb hRb (Nat.le_refl _)⟩
  have q1:∀ o,(W.alloc o).cell? ⟨d,1,none⟩=some (.slice no ns.length nc):=fun o=>cell_of (hLB.out _ (more (Below.refl _ _) o)).2 rfl
  have q2:∀ o o',((W.alloc o).alloc o').cell? ⟨d,1,none⟩=some (.slice no ns.length nc):=fun o o'=>cell_of (hLB.out _ (more (more (Below.refl _ _) o) o')).2 rfl
  have x0:=cell_of (i:=0) hbox rfl
  have y0:=fun o=>cell_of (i:=0) (hLB.out _ (more (Below.refl _ _) o)).1 rfl
  have z0:=fun o o'=>cell_of (i:=0) (hLB.out _ (more (more (Below.refl _ _) o) o')).1 rfl
  have x1:=cell_of (i:=1) hbox rfl
  have y1:=fun o=>cell_of (i:=1) (hLB.out _ (more (Below.refl _ _) o)).1 rfl
  have z1:=fun o o'=>cell_of (i:=1) (hLB.out _ (more (more (Below.refl _ _) o) o')).1 rfl
  have x2:=cell_of (i:=2) hbox rfl
  have y2:=fun o=>cell_of (i:=2) (hLB.out _ (more (Below.refl _ _) o)).1 rfl
  have z2:=fun o o'=>cell_of (i:=2) (hLB.out _ (more (more (Below.refl _ _) o) o')).1 rfl
  have x3:=cell_of (i:=3) hbox rfl
  have y3:=fun o=>cell_of (i:=3) (hLB.out _ (more (Below.refl _ _) o)).1 rfl
  have z3:=fun o o'=>cell_of (i:=3) (hLB.out _ (more (more (Below.refl _ _) o) o')).1 rfl
  have x4:=cell_of (i:=4) hbox rfl
  have y4:=fun o=>cell_of (i:=4) (hLB.out _ (more (Below.refl _ _) o)).1 rfl
  have z4:=fun o o'=>cell_of (i:=4) (hLB.out _ (more (more (Below.refl _ _) o) o')).1 rfl
  have x5:=cell_of (i:=5) hbox rfl
  have y5:=fun o=>cell_of (i:=5) (hLB.out _ (more (Below.refl _ _) o)).1 rfl
  have z5:=fun o o'=>cell_of (i:=5) (hLB.out _ (more (more (Below.refl _ _) o) o')).1 rfl
  have x6:=cell_of (i:=6) hbox rfl
  have y6:=fun o=>cell_of (i:=6) (hLB.out _ (more (Below.refl _ _) o)).1 rfl
  have z6:=fun o o'=>cell_of (i:=6) (hLB.out _ (more (more (Below.refl _ _) o) o')).1 rfl
  have x7:=cell_of (i:=7) hbox rfl
  have y7:=fun o=>cell_of (i:=7) (hLB.out _ (more (Below.refl _ _) o)).1 rfl
  have z7:=fun o o'=>cell_of (i:=7) (hLB.out _ (more (more (Below.refl _ _) o) o')).1 rfl
  have x8:=cell_of (i:=8) hbox rfl
  have y8:=fun o=>cell_of (i:=8) (hLB.out _ (more (Below.refl _ _) o)).1 rfl
  have z8:=fun o o'=>cell_of (i:=8) (hLB.out _ (more (more (Below.refl _ _) o) o')).1 rfl
  have hNN:Hid (W.heap.size=w.heap.size+1):=HW.out.2
  clear hR h hnl hsend zW bW hRb hbox
  rw [hW] at c1
  go_enter Tryz.func38,Tryz.ntmps38
  go_wp2
  rw [←hW] at c1 ⊢
  clear hW
  go_region_law (first
   | (have _h:=H1
      refine step_append_row _ rfl _ _ 25 rfl 69 9 88 _ Tryz.underlying25 info70 rfl (by decide) W.heap.size _ ns.length (ns.flatMap msgCells) rfl (by first | exact H1.out.1 | exact row_kept H1.out.1 (fun g hg=>Below.heap_alloc _ _ _ (row_lt H1.out.1 hg).2)) _ 1 (msgCells ⟨m,.slice lo ln lc⟩) rfl (lit_row _ ⟨m,.slice lo ln lc⟩ _ (by first | exact new_at (by first | rfl | simp) | exact box_after HG.out (by first | exact new_at (by first | rfl | simp) | exact kept (more (Below.refl _ _) _).drew (new_at rfl) (Nat.le_refl _)) (by first | omega | (simp;done) | (simp;omega)))) HOne.out.2 (by omega) (by decide) (by first | exact H1.out.2.size | (have:=H1.out.2.size;omega) | (have:=H1.out.2.size;simp;omega)) ?_
      intro v2 w2 O2 G2
      have H3:Hid (w2.ownsRow W.heap.size 69 9 v2 (ns.length+1) (ns.flatMap msgCells++msgCells ⟨m,.slice lo ln lc⟩)∧Below W.heap.size W w2):=⟨O2,by first | exact H1.out.2.grown G2 H1.out.2.size (fun k hk=>(row_lt H1.out.1 hk).1) | exact (more H1.out.2 _).grown G2 (more H1.out.2 _).size (fun k hk=>(row_lt H1.out.1 hk).1)⟩
      have r1:=cell_of (i:=1) (hLB.out _ H3.out.2).2 rfl
      have r2:=frozen_of (hLB.out _ H3.out.2).2 1
      obtain ⟨v2o,v2c,ev2⟩:∃ a b,v2=.slice a (ns.length+1) b:=by
       obtain ⟨_,⟨e1,e2⟩|⟨g,cap,cur,e1,_⟩⟩:=O2
       ·omega
       ·exact ⟨_,_,e1⟩
      subst ev2
      clear O2 G2)
   | (refine step_append_row _ rfl _ _ 25 rfl 69 9 88 _ Tryz.underlying25 info70 rfl (by decide) W.heap.size _ 0 [] rfl (lit0 (by first | exact new_at (by first | rfl | simp) | exact kept (more (Below.refl _ _) _) (new_at rfl) (Nat.le_refl _) | exact kept (more (Below.refl _ _) _).drew (new_at rfl) (Nat.le_refl _)) (by first | exact Nat.le_refl _ | omega | (simp;done) | (simp;omega))) _ ns.length (ns.flatMap msgCells) rfl (HNet.out _ (by first | exact more (Below.refl _ _) _ | exact (more (Below.refl _ _) _).drew | exact more (Below.refl _ _).drew _ | exact more (more (Below.refl _ _) _) _ | exact (more (more (Below.refl _ _) _) _).drew | exact more (more (Below.refl _ _).drew _) _)) HOne.out.1 (by omega) (by decide) (by first | omega | (simp;done) | (simp;omega)) ?_
      intro v1 w1 O1 G1
      have H1:Hid (w1.ownsRow W.heap.size 69 9 v1 ns.length (ns.flatMap msgCells)∧Below W.heap.size W w1):=⟨by simpa using O1,Below.grown (B:=W.heap.size) (by first | exact more (Below.refl _ _) _ | exact (more (Below.refl _ _) _).drew | exact more (Below.refl _ _).drew _ | exact more (more (Below.refl _ _) _) _ | exact (more (more (Below.refl _ _) _) _).drew | exact more (more (Below.refl _ _).drew _) _) G1 (by first | omega | (simp;done) | (simp;omega)) (fun k hk=>own_ge hk (by first | exact Nat.le_refl _ | omega | (simp;done) | (simp;omega)))⟩
      have HG:=hide G1
      have qq:=cell_of (i:=1) (hLB.out _ H1.out.2).2 rfl
      have p0:=cell_of (i:=0) (hLB.out _ H1.out.2).1 rfl;have pp0:=fun o=>cell_of (i:=0) (hLB.out _ (more H1.out.2 o)).1 rfl;have p1:=cell_of (i:=1) (hLB.out _ H1.out.2).1 rfl;have pp1:=fun o=>cell_of (i:=1) (hLB.out _ (more H1.out.2 o)).1 rfl;have p2:=cell_of (i:=2) (hLB.out _ H1.out.2).1 rfl;have pp2:=fun o=>cell_of (i:=2) (hLB.out _ (more H1.out.2 o)).1 rfl;have p3:=cell_of (i:=3) (hLB.out _ H1.out.2).1 rfl;have pp3:=fun o=>cell_of (i:=3) (hLB.out _ (more H1.out.2 o)).1 rfl;have p4:=cell_of (i:=4) (hLB.out _ H1.out.2).1 rfl;have pp4:=fun o=>cell_of (i:=4) (hLB.out _ (more H1.out.2 o)).1 rfl;have p5:=cell_of (i:=5) (hLB.out _ H1.out.2).1 rfl;have pp5:=fun o=>cell_of (i:=5) (hLB.out _ (more H1.out.2 o)).1 rfl;have p6:=cell_of (i:=6) (hLB.out _ H1.out.2).1 rfl;have pp6:=fun o=>cell_of (i:=6) (hLB.out _ (more H1.out.2 o)).1 rfl;have p7:=cell_of (i:=7) (hLB.out _ H1.out.2).1 rfl;have pp7:=fun o=>cell_of (i:=7) (hLB.out _ (more H1.out.2 o)).1 rfl;have p8:=cell_of (i:=8) (hLB.out _ H1.out.2).1 rfl;have pp8:=fun o=>cell_of (i:=8) (hLB.out _ (more H1.out.2 o)).1 rfl
      clear O1 G1))
  all_goals
   have HE:=hide (HFin.out w2 _ H3.out.1 H3.out.2)
   go_wp2
   go_end0
   exact ⟨rfl,HE.out⟩
 ·have hnI:¬ (ns.length:Int)<200:=by omega
  have hsend:c.send m=c:=by unfold Cl.send;rw [if_neg (by omega)]
  rw [hsend]
  rw [hW] at c1
  clear hR hRb h hnl hsend
  go_enter Tryz.func38,Tryz.ntmps38
  go_wp2
  rw [←hW]
  go_end0
  exact ⟨rfl,M,ns,_,Le.refl M,HR.out,grown_of_below HW.out.1 _,fun b hb=>.inl hb⟩
end Go.Proofs.YtcfdmbkiinjmaaaGreat.ssend
namespace Go.Proofs.YtcfdmbkiinjmaaaGreat.sdown
open Raft mem srun ssend
variable {F:Nat→Option Obj}
section
variable {T:Ty} {w:World} {M:Fz} {base d P pc:Nat} {c:Cl} {us:List PV} {ns:List MV} {nv:Value} {cs:List RV} {cv:Value}
theorem nil_row (w:World) (base e:Nat):w.ownsRow base e 1 (.slice none 0 0) 0 []:=World.ownsRow_nil w base e 1
theorem Run.setScalar (h:Run T w M base d P pc c us ns nv cs cv) {k j:Nat} {x:PV} {v:Value} (p':Peer) (hk:us[k]?=some x) (hj:j<9) (hc:peerCells { x with p:=p' }=(peerCells x).set j v)
  (h1:p'.log=x.p.log) (h2:p'.votes=x.p.votes) (h3:p'.next=x.p.next) (h4:p'.mat=x.p.mat) :
  Run T (w.setCell ⟨P,k*9+j,none⟩ v) M base d P pc { c with peers:=c.peers.set k p' } (us.set k { x with p:=p' }) ns nv cs cv:=by
 have hx:x∈us:=List.mem_iff_getElem?.2 ⟨k,hk⟩
 refine h.setPeer hk hj hc ?_ ?_ ?_ ?_ (fun i u b e1 _=>.inl e1)
 ·show RecsM M x.lv p'.log
  rw [h1];exact h.logs x hx
 ·show w.ownsRow base 4 1 x.vv p'.votes.length _
  rw [h2];exact h.votes x hx
 ·show w.ownsRow base 3 1 x.nv p'.next.length _
  rw [h3];exact h.next x hx
 ·show w.ownsRow base 3 1 x.mv p'.mat.length _
  rw [h4];exact h.mat x hx
theorem Run.noVotes (h:Run T w M base d P pc c us ns nv cs cv) {k:Nat} {x:PV} (hk:us[k]?=some x) :
  Run T (w.setCell ⟨P,k*9+6,none⟩ (.slice none 0 0)) M base d P pc { c with peers:=c.peers.set k { x.p with votes:=[] } } (us.set k { x with p:={ x.p with votes:=[] },vv:=.slice none 0 0 }) ns nv cs cv:=by
 have hx:x∈us:=List.mem_iff_getElem?.2 ⟨k,hk⟩
 refine h.setPeer (x':={ x with p:={ x.p with votes:=[] },vv:=.slice none 0 0 }) hk (by decide) rfl (h.logs x hx) (nil_row w base 4) (h.next x hx) (h.mat x hx) (fun i u b e1 e2 => ?_)
 match i,e1 with
 | 0,e1=>simp [rows] at e1;subst e1;simp [Value.ownBlock] at e2
 | 1,e1=>exact .inl e1
 | 2,e1=>exact .inl e1
 | i+3,e1=>simp [rows] at e1
theorem Run.noNext (h:Run T w M base d P pc c us ns nv cs cv) {k:Nat} {x:PV} (hk:us[k]?=some x) :
  Run T (w.setCell ⟨P,k*9+7,none⟩ (.slice none 0 0)) M base d P pc { c with peers:=c.peers.set k { x.p with next:=[] } } (us.set k { x with p:={ x.p with next:=[] },nv:=.slice none 0 0 }) ns nv cs cv:=by
 have hx:x∈us:=List.mem_iff_getElem?.2 ⟨k,hk⟩
 refine h.setPeer (x':={ x with p:={ x.p with next:=[] },nv:=.slice none 0 0 }) hk (by decide) rfl (h.logs x hx) (h.votes x hx) (nil_row w base 3) (h.mat x hx) (fun i u b e1 e2 => ?_)
 match i,e1 with
 | 0,e1=>exact .inl e1
 | 1,e1=>simp [rows] at e1;subst e1;simp [Value.ownBlock] at e2
 | 2,e1=>exact .inl e1
 | i+3,e1=>simp [rows] at e1
theorem Run.noMat (h:Run T w M base d P pc c us ns nv cs cv) {k:Nat} {x:PV} (hk:us[k]?=some x) :
  Run T (w.setCell ⟨P,k*9+8,none⟩ (.slice none 0 0)) M base d P pc { c with peers:=c.peers.set k { x.p with mat:=[] } } (us.set k { x with p:={ x.p with mat:=[] },mv:=.slice none 0 0 }) ns nv cs cv:=by
 have hx:x∈us:=List.mem_iff_getElem?.2 ⟨k,hk⟩
 refine h.setPeer (x':={ x with p:={ x.p with mat:=[] },mv:=.slice none 0 0 }) hk (by decide) rfl (h.logs x hx) (h.votes x hx) (h.next x hx) (nil_row w base 3) (fun i u b e1 e2 => ?_)
 match i,e1 with
 | 0,e1=>exact .inl e1
 | 1,e1=>exact .inl e1
 | 2,e1=>simp [rows] at e1;subst e1;simp [Value.ownBlock] at e2
 | i+3,e1=>simp [rows] at e1
theorem got_set {k:Nat} {x x':PV} (hk:us[k]?=some x):(us.set k x')[k]?=some x':=List.getElem?_set_self (List.getElem?_eq_some_iff.1 hk).1
theorem Run.at (h:Run T w M base d P pc c us ns nv cs cv) {k:Nat} {x:PV} (hk:us[k]?=some x):c.at k=x.p∧c.peers[k]?=some x.p:=by
 have e:c.peers[k]?=some x.p:=by rw [←h.peers,List.getElem?_map,hk];rfl
 exact ⟨by rw [Cl.at,List.getD_eq_getElem?_getD,e];rfl,e⟩
def lowP (p:Peer):Peer:={ p with role:=0,votes:=[],next:=[],mat:=[] }
def lowV (x:PV):PV:=⟨lowP x.p,x.lv,.slice none 0 0,.slice none 0 0,.slice none 0 0⟩
theorem Run.lower (h:Run T w M base d P pc c us ns nv cs cv) {k:Nat} {x:PV} (hk:us[k]?=some x) :
  Run T ((((w.setCell ⟨P,k*9+4,none⟩ (.int .i64 0)).setCell ⟨P,k*9+6,none⟩ (.slice none 0 0)).setCell ⟨P,k*9+7,none⟩ (.slice none 0 0)).setCell ⟨P,k*9+8,none⟩ (.slice none 0 0)) M base d P pc { c with peers:=c.peers.set k (lowP x.p) } (us.set k (lowV x)) ns nv cs cv:=by
 have h1:=Run.setScalar h { x.p with role:=0 } (v:=.int .i64 0) hk (j:=4) (by decide) rfl rfl rfl rfl rfl
 have h2:=Run.noVotes h1 (got_set hk)
 have h3:=Run.noNext h2 (got_set (got_set hk))
 have h4:=Run.noMat h3 (got_set (got_set (got_set hk)))
 simpa [List.set_set,lowP,lowV] using h4
end
theorem set4_grown (w:World) (P a b c e:Nat) (u1 u2 u3 u4:Value):w.grownBy ((((w.setCell ⟨P,a,none⟩ u1).setCell ⟨P,b,none⟩ u2).setCell ⟨P,c,none⟩ u3).setCell ⟨P,e,none⟩ u4) (some P) :=
 gtrans (gtrans (gtrans (set_grown _ _ _ _) (set_grown _ _ _ _)) (set_grown _ _ _ _)) (set_grown _ _ _ _)
def downV (x:PV) (t:Nat):PV:=lowV { x with p:={ x.p with term:=max x.p.term t,vote:=if x.p.term<t then 0 else x.p.vote } }
theorem down_put (c:Cl) (k t:Nat) (x:PV) (h:c.at k=x.p):c.down k t={ c with peers:=c.peers.set k (downV x t).p }:=by
 unfold Cl.down Cl.put
 rw [h]
 rfl
set_option maxRecDepth 20000 in
set_option maxHeartbeats 4000000 in
theorem down_any (w:World) (M:Fz) (base d P pc:Nat) (c:Cl) (us:List PV) (ns:List MV) (nv:Value) (cs:List RV) (cv:Value) (h:Run (TS F) w M base d P pc c us ns nv cs cv) (k t:Nat) (x:PV) (hk:us[k]?=some x) :
  Calls Tryz.prog 55 #[.pointer (some ⟨d,0,none⟩),.int .i64 k,.int .i64 t] w fun r w'=>r=.returned (.tuple #[])∧Run (TS F) w' M base d P pc (c.down k t) (us.set k (downV x t)) ns nv cs cv∧w.grownBy w' (some P):=by
 have hlt:k<us.length:=(List.getElem?_eq_some_iff.1 hk).1
 have hcap:=h.cap
 unfold maxLen at hcap
 have c0:w.cell? ⟨d,0,none⟩=some (.slice (some ⟨P,0,none⟩) us.length pc):=cell_of h.blk rfl
 obtain ⟨c1,f1⟩:=h.peerCell hk (j:=1) rfl
 obtain ⟨c2,f2⟩:=h.peerCell hk (j:=2) rfl
 obtain ⟨c4,f4⟩:=h.peerCell hk (j:=4) rfl
 obtain ⟨c6,f6⟩:=h.peerCell hk (j:=6) rfl
 obtain ⟨c7,f7⟩:=h.peerCell hk (j:=7) rfl
 obtain ⟨c8,f8⟩:=h.peerCell hk (j:=8) rfl
 rw [down_put c k t x (Run.at h hk).1]
 by_cases ht:x.p.term<t
 ·have htI:(x.p.term:Int)<t:=by omega
  have HF:Hid (Run (TS F) ((((((w.setCell ⟨P,k*9+1,none⟩ (.int .i64 t)).setCell ⟨P,k*9+2,none⟩ (.int .i64 0)).setCell ⟨P,k*9+4,none⟩ (.int .i64 0)).setCell ⟨P,k*9+6,none⟩ (.slice none 0 0)).setCell ⟨P,k*9+7,none⟩ (.slice none 0 0)).setCell ⟨P,k*9+8,none⟩ (.slice none 0 0)) M base d P pc { c with peers:=c.peers.set k (downV x t).p } (us.set k (downV x t)) ns nv cs cv):=by
   have h1:=Run.setScalar h { x.p with term:=t } (v:=.int .i64 t) hk (j:=1) (by decide) rfl rfl rfl rfl rfl
   have h2:=Run.setScalar h1 { x.p with term:=t,vote:=0 } (v:=.int .i64 0) (got_set hk) (j:=2) (by decide) rfl rfl rfl rfl rfl
   have h3:=Run.lower h2 (got_set (got_set hk))
   have e1:max x.p.term t=t:=by omega
   have e2:downV x t=lowV { x with p:={ x.p with term:=t,vote:=0 } }:=by unfold downV;rw [e1,if_pos ht]
   unfold Hid
   rw [e2]
   have h4:=h3
   simp only [List.set_set] at h4
   exact h4
  have HG:Hid (w.grownBy ((((((w.setCell ⟨P,k*9+1,none⟩ (.int .i64 t)).setCell ⟨P,k*9+2,none⟩ (.int .i64 0)).setCell ⟨P,k*9+4,none⟩ (.int .i64 0)).setCell ⟨P,k*9+6,none⟩ (.slice none 0 0)).setCell ⟨P,k*9+7,none⟩ (.slice none 0 0)).setCell ⟨P,k*9+8,none⟩ (.slice none 0 0)) (some P)):=gtrans (gtrans (set_grown _ _ _ _) (set_grown _ _ _ _)) (set4_grown _ _ _ _ _ _ _ _ _ _)
  clear h
  go_enter Tryz.func55,Tryz.ntmps55
  go_wp2
  go_end0
  exact ⟨rfl,HF.out,HG.out⟩
 ·have htI:¬ (x.p.term:Int)<t:=by omega
  have HF:Hid (Run (TS F) ((((w.setCell ⟨P,k*9+4,none⟩ (.int .i64 0)).setCell ⟨P,k*9+6,none⟩ (.slice none 0 0)).setCell ⟨P,k*9+7,none⟩ (.slice none 0 0)).setCell ⟨P,k*9+8,none⟩ (.slice none 0 0)) M base d P pc { c with peers:=c.peers.set k (downV x t).p } (us.set k (downV x t)) ns nv cs cv):=by
   have h3:=Run.lower h hk
   have e1:max x.p.term t=x.p.term:=by omega
   have e2:downV x t=lowV x:=by unfold downV;rw [e1,if_neg ht]
   unfold Hid
   rw [e2]
   exact h3
  have HG:Hid (w.grownBy ((((w.setCell ⟨P,k*9+4,none⟩ (.int .i64 0)).setCell ⟨P,k*9+6,none⟩ (.slice none 0 0)).setCell ⟨P,k*9+7,none⟩ (.slice none 0 0)).setCell ⟨P,k*9+8,none⟩ (.slice none 0 0)) (some P)):=set4_grown _ _ _ _ _ _ _ _ _ _
  clear h
  go_enter Tryz.func55,Tryz.ntmps55
  go_wp2
  go_end0
  exact ⟨rfl,HF.out,HG.out⟩
end Go.Proofs.YtcfdmbkiinjmaaaGreat.sdown
namespace Go.Proofs.YtcfdmbkiinjmaaaGreat.ssmall
open Raft mem srun ssend sdown
variable {F:Nat→Option Obj}
theorem most_any (w:World) (n:Nat) (h1:1≤n) (h2:n≤7):Calls Tryz.prog 60 #[.int .i64 n] w fun r w'=>r=.returned (.int .i64 (most n:Nat))∧w'=w:=by
 have e1:¬ (n:Int)<1:=by omega
 have e2:¬ (7:Int)<n:=by omega
 have HE:Hid ((n:Int) / 2+1=(most n:Nat)):=by unfold Hid most;omega
 go_enter Tryz.func60,Tryz.ntmps60
 go_wp2
 go_ret
 refine ⟨?_,rfl⟩
 show Ending.returned (.int .i64 ((n:Int) / 2+1))=_
 rw [HE.out]
theorem recs_cell {M:Fz} {w:World} {lo:Option Addr} {n lc:Nat} {l:List Rc} (h:RecsM M (.slice lo n lc) l) (hI:In M w) {k:Nat} {r:Rc} (hk:l[k]?=some r) :
  ∃ b off dv,lo=some ⟨b,off,none⟩∧w.cell? ⟨b,off+k*3,none⟩=some (.int .i64 r.term)∧w.cell? ⟨b,off+k*3+1,none⟩=some (.int .i64 r.index)∧w.cell? ⟨b,off+k*3+2,none⟩=some dv∧BytesM M dv r.data∧r.data.length≤1000:=by
 obtain ⟨us,rfl,hr,hd⟩:=h
 rw [List.getElem?_map,Option.map_eq_some_iff] at hk
 obtain ⟨x,hx,rfl⟩:=hk
 have hlt:=(List.getElem?_eq_some_iff.1 hx).1
 obtain ⟨ao,cap,e,_,_,_,_,h5⟩:=hr
 simp only [Value.slice.injEq] at e
 obtain ⟨rfl,rfl,rfl⟩:=e
 obtain ⟨b,off,rfl,hc⟩:=h5 (by omega)
 have hf:=fun j hj=>flat_get recCells 3 recCells_len us k j x hx hj
 refine ⟨b,off,x.dv,rfl,?_,?_,?_,hd x (List.mem_iff_getElem?.2 ⟨k,hx⟩)⟩
 ·have:=hI.cell (hc (k*3+0) (.int .i64 x.r.term) (by rw [hf 0 (by decide)];rfl))
  simpa using this
 ·have:=hI.cell (hc (k*3+1) (.int .i64 x.r.index) (by rw [hf 1 (by decide)];rfl))
  rw [←Nat.add_assoc] at this
  exact this
 ·have:=hI.cell (hc (k*3+2) x.dv (by rw [hf 2 (by decide)];rfl))
  rw [←Nat.add_assoc] at this
  exact this
theorem recs_len {M:Fz} {lo:Option Addr} {n lc:Nat} {l:List Rc} (h:RecsM M (.slice lo n lc) l):n=l.length∧lc≤maxLen∧n≤lc:=by
 obtain ⟨us,rfl,hr,hd⟩:=h
 obtain ⟨ao,cap,e,h1,h2,_⟩:=hr
 simp only [Value.slice.injEq] at e
 obtain ⟨rfl,rfl,rfl⟩:=e
 exact ⟨by simp,h2,h1⟩
set_option maxHeartbeats 1600000 in
theorem last_any (w:World) (M:Fz) (hI:In M w) (p:Peer) (L:Nat) (lo:Option Addr) (lc:Nat) (vv nv mv:Value) (hl:RecsM M (.slice lo L lc) p.log) :
  Calls Tryz.prog 56 #[.agg #[.bool p.up,.int .i64 p.term,.int .i64 p.vote,.int .i64 p.commit,.int .i64 p.role,.slice lo L lc,vv,nv,mv]] w fun r w'=>r=.returned (.tuple #[.int .i64 L,.int .i64 (termAt p.log L:Nat)])∧Below w.heap.size w w':=by
 obtain ⟨hL,hlc,hln⟩:=recs_len hl
 unfold maxLen at hlc
 have bA:Below w.heap.size w (w.alloc (.cells #[.bool p.up,.int .i64 p.term,.int .i64 p.vote,.int .i64 p.commit,.int .i64 p.role,.slice lo L lc,vv,nv,mv] 66)):=(Below.refl _ _).alloc (Nat.le_refl _) _
 cases L with
 | zero =>
  have HT:Hid ((termAt p.log 0:Nat)=0):=by unfold Hid termAt;rw [if_pos rfl]
  have HB:=hide bA
  clear bA hL hl
  go_enter Tryz.func56,Tryz.ntmps56
  go_wp2
  go_ret2
  refine ⟨?_,HB.out⟩
  rw [HT.out]
  rfl
 | succ n =>
  obtain ⟨r,hr⟩:∃ r,p.log[n]?=some r:=⟨_,List.getElem?_eq_getElem (by omega)⟩
  obtain ⟨b,off,dv,rfl,q0,_⟩:=recs_cell hl (hI.below bA) hr
  have HT:Hid ((termAt p.log (n+1):Nat)=r.term):=by
   unfold Hid termAt
   rw [if_neg (by omega),Nat.add_sub_cancel,hr]
  have HB:Hid (∀ m,Below w.heap.size w ((w.alloc (.cells #[.bool p.up,.int .i64 p.term,.int .i64 p.vote,.int .i64 p.commit,.int .i64 p.role,.slice (some ⟨b,off,none⟩) (n+1) lc,vv,nv,mv] 66)).drewN m)):=fun m=>⟨bA.os,bA.tape,bA.output,bA.size,bA.block⟩
  clear bA hL hl hr hI
  go_enter Tryz.func56,Tryz.ntmps56
  go_wp2
  go_quiet (fail)
  go_wp2
  go_ret2
  refine ⟨?_,HB.out _⟩
  rw [HT.out]
  rfl
set_option maxHeartbeats 1600000 in
theorem term_any (w:World) (M:Fz) (hI:In M w) (p:Peer) (L:Nat) (lo:Option Addr) (lc:Nat) (vv nv mv:Value) (hl:RecsM M (.slice lo L lc) p.log) (i:Nat) (hi:i≤L) :
  Calls Tryz.prog 74 #[.agg #[.bool p.up,.int .i64 p.term,.int .i64 p.vote,.int .i64 p.commit,.int .i64 p.role,.slice lo L lc,vv,nv,mv],.int .i64 i] w fun r w'=>r=.returned (.int .i64 (termAt p.log i:Nat))∧Below w.heap.size w w':=by
 obtain ⟨hL,hlc,hln⟩:=recs_len hl
 unfold maxLen at hlc
 have bA:Below w.heap.size w (w.alloc (.cells #[.bool p.up,.int .i64 p.term,.int .i64 p.vote,.int .i64 p.commit,.int .i64 p.role,.slice lo L lc,vv,nv,mv] 66)):=(Below.refl _ _).alloc (Nat.le_refl _) _
 cases i with
 | zero =>
  have HT:Hid ((termAt p.log 0:Nat)=0):=by unfold Hid termAt;rw [if_pos rfl]
  have HB:=hide bA
  clear bA hL hl
  go_enter Tryz.func74,Tryz.ntmps74
  go_wp2
  go_ret
  refine ⟨?_,HB.out⟩
  rw [HT.out]
  rfl
 | succ n =>
  obtain ⟨r,hr⟩:∃ r,p.log[n]?=some r:=⟨_,List.getElem?_eq_getElem (by omega)⟩
  obtain ⟨b,off,dv,rfl,q0,_⟩:=recs_cell hl (hI.below bA) hr
  have HT:Hid ((termAt p.log (n+1):Nat)=r.term):=by
   unfold Hid termAt
   rw [if_neg (by omega),Nat.add_sub_cancel,hr]
  have HB:Hid (Below w.heap.size w (w.alloc (.cells #[.bool p.up,.int .i64 p.term,.int .i64 p.vote,.int .i64 p.commit,.int .i64 p.role,.slice (some ⟨b,off,none⟩) L lc,vv,nv,mv] 66))):=bA
  have hne:(((n+1:Nat):Int) == 0)=false:=by simp;omega
  clear bA hL hl hr hI
  go_enter Tryz.func74,Tryz.ntmps74
  go_wp2
  go_ret
  refine ⟨?_,HB.out⟩
  rw [HT.out]
  rfl
end Go.Proofs.YtcfdmbkiinjmaaaGreat.ssmall
