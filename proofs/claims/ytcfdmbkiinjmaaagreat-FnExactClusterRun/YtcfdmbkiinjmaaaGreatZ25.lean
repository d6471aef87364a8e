import Derived.WalkKit
import Derived.Below
import Derived.StillTail
import Derived.OrdersHeld
import Derived.RegionTactic
import Derived.Deep.RegionLaw
import Derived.Test.YtcfdmbkiinjmaaaGreatZ23
import Derived.Test.YtcfdmbkiinjmaaaGreatZ17
import Derived.Test.YtcfdmbkiinjmaaaGreatZ24
import Derived.WalkMore
import Derived.Deep.Cut
import Derived.Deep.CutRange
import Derived.Deep.DeepCutAuto
import Derived.Deep.QuietTactic
import Derived.BigQuiet
import Derived.BigRegion
import Derived.Deep.RegionHeldLaw
set_option linter.unusedVariables false
namespace Go.Proofs.YtcfdmbkiinjmaaaGreat.wtl
open Go.RowKit
section
variable {P:Program} {ops:Array Oper} {Q:Exit→Act→World→Prop} {S:World→Prop} {n:Nat}
def HT (P:Program) (ops:Array Oper) (Q:Exit→Act→World→Prop) (S:World→Prop) (n:Nat):Nat→Array Bool→Act→World→Prop
 | 0,listed,a,w=>(∀ j,j<n→listed.getD j true=true)∧wpAny P .any ops Q 1 listed a w
 | f+1,listed,a,w=>Region.ready .any ops listed≠[]∧∀ i∈Region.ready .any ops listed,i<n∧wpOp P ops Q i (fun a' w'=>S w'∧HT P ops Q S n f (listed.setIfInBounds i true) a' w') a w
theorem any_of_HT:∀ (f:Nat) (listed:Array Bool) (a:Act) (w:World),HT P ops Q S n f listed a w→wpAny P .any ops Q (f+1) listed a w
 | 0,_,_,_,h=>h.2
 | f+1,listed,a,w,h=>⟨fun e=>absurd e h.1,fun i hi=>wpOp_mono (fun a' w' h'=>any_of_HT f _ a' w' h'.2) (h.2 i hi).2⟩
theorem HT_first {i:Nat} {oi:Oper} {v:Value} (hi:ops[i]?=some oi) (hin:i<n) (hsel:∀ (j:Nat) (o:Oper) cs b,ops[j]?=some o→o.op≠.select cs b)
  (hQ:∀ c a w,Q (.panic c) (a.put oi.dst v) w→Q (.panic c) a w) (hs:Region.sinkB .any ops n=true) (hc:Region.chainB .any ops n=true) (hn:n<ops.size) :
  ∀ (f:Nat) (listed:Array Bool) (a:Act) (w:World),HeadInv .any ops n listed →
   (∀ j oj,ops[j]?=some oj→j≠i→listed.getD j true=false→(∀ e∈oj.after,Region.binds .any e=true→e.on≠i)→oi.apart ops oj=true) →
   i∈Region.ready .any ops listed→YieldsIf P ops S oi v a→S w →
   HT P ops Q S n f (listed.setIfInBounds i true) (a.put oi.dst v) w→HT P ops Q S n (f+1) listed a w:=by
 intro f
 induction f with
 | zero =>
  intro listed a w inv _ hr hy hS H
  have hun:=(mem_ready.1 hr).1
  refine ⟨fun h=>(by rw [h] at hr;cases hr),fun j hj => ?_⟩
  have hjn:j<n:=Nat.lt_of_not_le (fun h=>tail_waits hs hc hn inv _ i rfl hin hun j h hj)
  refine ⟨hjn,?_⟩
  by_cases hji:j=i
  ·subst hji;exact hy.wpOp hi hS ⟨hS,H⟩
  ·exfalso
   have h1:=H.1 j hjn
   rw [getD_set_ne true (Ne.symm hji)] at h1
   rw [(mem_ready.1 hj).1] at h1
   cases h1
 | succ f ih =>
  intro listed a w inv hfree hr hy hS H
  have hun:=(mem_ready.1 hr).1
  refine ⟨fun h=>(by rw [h] at hr;cases hr),fun j hj => ?_⟩
  have hjn:j<n:=Nat.lt_of_not_le (fun h=>tail_waits hs hc hn inv _ i rfl hin hun j h hj)
  refine ⟨hjn,?_⟩
  by_cases hji:j=i
  ·subst hji;exact hy.wpOp hi hS ⟨hS,H⟩
  ·have h1:=(H.2 j (ready_mono hj hji)).2
   obtain ⟨hjun,oj,hoj,hall⟩:=mem_ready.1 hj
   have hnot:∀ e∈oj.after,Region.binds .any e=true→e.on≠i:=fun e he hb heq=>by
    have h1:=hall e he hb
    rw [heq,getD_both hun] at h1
    cases h1
   have h2:=wpOp_putIf hoj (hfree j oj hoj hji hjun hnot) (fun cs b=>hsel i oi cs b hi) (fun cs b=>hsel j oj cs b hoj) hQ hy h1
   refine wpOp_mono (fun a' w' h3=>⟨h3.2.1,ih (listed.setIfInBounds j true) a' w' (inv.set hj hjn) (fun k ok hk hki hu hno=>hfree k ok hk hki ?_ hno) (ready_mono hr (Ne.symm hji)) h3.1 h3.2.1 ?_⟩) h2
   ·by_cases hjk:j=k
    ·subst hjk;exact hjun
    ·rw [getD_set_ne true hjk] at hu;exact hu
   ·rw [Array.setIfInBounds_comm _ _ hji]
    exact h3.2.2
def WT (P:Program) (ops:Array Oper) (Q:Exit→Act→World→Prop) (S:World→Prop) (n f:Nat) (listed:Array Bool) (a:Act) (w:World):Prop:=HeadInv .any ops n listed→HT P ops Q S n f listed a w
theorem HeadInv.begin (ops:Array Oper) (n:Nat):HeadInv .any ops n (Array.replicate ops.size false) :=
 ⟨by simp,fun j oj _ h=>(by rw [getD_replicate_false] at h;cases h),fun t _ ht=>(by simp [ht])⟩
theorem WT.start {id:Nat} {a:Act} {w:World} (hm:P.follows .mixedOrders=true) (hz:ops.size=n+1) (h:WT P ops Q S n n (Array.replicate ops.size false) a w.drew):(Code.region id ops true).wp P Q a w:=by
 refine wp_region_any hm ?_
 have:=any_of_HT n _ a _ (h (HeadInv.begin ops n))
 rw [hz]
 rw [hz] at this
 exact this
theorem WT.take {i f:Nat} {oi:Oper} {v:Value} {listed:Array Bool} {a:Act} {w:World} (hi:ops[i]?=some oi) (hb:(decide (i<n) && Region.noSelect ops && Region.free .any ops listed i && (Region.ready .any ops listed).contains i && Region.sinkB .any ops n && Region.chainB .any ops n && decide (n<ops.size))=true)
  (hQ:∀ c a w,Q (.panic c) (a.put oi.dst v) w→Q (.panic c) a w) (hy:YieldsIf P ops S oi v a) (hS:S w)
  (h:WT P ops Q S n f (listed.setIfInBounds i true) (a.put oi.dst v) w):WT P ops Q S n (f+1) listed a w:=fun inv=>by
 simp only [Bool.and_eq_true,decide_eq_true_eq] at hb
 obtain ⟨⟨⟨⟨⟨⟨h1,h2⟩,h3⟩,h4⟩,h5⟩,h6⟩,h7⟩:=hb
 have hr:i∈Region.ready .any ops listed:=by simpa using h4
 exact HT_first hi h1 (Region.noSelect_spec h2) hQ h5 h6 h7 f listed a w inv (Region.free_spec hi h3) hr hy hS (h (inv.set hr h1))
theorem WT.takeAt {i f:Nat} {oi:Oper} {v:Value} {listed:Array Bool} {a:Act} {w:World} (dd:Option Tmp) (hi:ops[i]?=some oi) (hdd:oi.dst=dd) (hb:(decide (i<n) && Region.noSelect ops && Region.free .any ops listed i && (Region.ready .any ops listed).contains i && Region.sinkB .any ops n && Region.chainB .any ops n && decide (n<ops.size))=true)
  (hQ:∀ c a w,Q (.panic c) (a.put oi.dst v) w→Q (.panic c) a w) (hy:YieldsIf P ops S oi v a) (hS:S w)
  (h:WT P ops Q S n f (listed.setIfInBounds i true) (a.put dd v) w):WT P ops Q S n (f+1) listed a w:=by
 subst hdd
 exact WT.take hi hb hQ hy hS h
theorem WT.branch {rs:List Nat} {f:Nat} {listed:Array Bool} {a:Act} {w:World} (hr:Region.ready .any ops listed=rs) (hne:rs≠[]) (hlt:∀ i∈rs,i<n)
  (h:∀ i∈rs,wpOp P ops Q i (fun a' w'=>S w'∧WT P ops Q S n f (listed.setIfInBounds i true) a' w') a w):WT P ops Q S n (f+1) listed a w:=fun inv=>by
 refine ⟨by rw [hr];exact hne,fun i hi=>⟨hlt i (hr ▸ hi),?_⟩⟩
 exact wpOp_mono (fun a' w' h'=>⟨h'.1,h'.2 (inv.set hi (hlt i (hr ▸ hi)))⟩) (h i (hr ▸ hi))
theorem op_step {f:Nat} {listed:Array Bool} {a:Act} {w:World} {i:Nat} {o:Oper} (ho:ops[i]?=some o)
  (h:∀ K':Act→World→Prop,Hid (∀ a w,S w→WT P ops Q S n f (listed.setIfInBounds i true) a w→K' a w)→if Region.wanted o (yielded ops a.tmps)=true then Oper.wp P o a w K' Q else K' (a.put o.dst undef) w) :
  wpOp P ops Q i (fun a' w'=>S w'∧WT P ops Q S n f (listed.setIfInBounds i true) a' w') a w :=
 wpOp_step ho (fun K' hK=>h K' (fun a w hS hW=>hK a w ⟨hS,hW⟩))
theorem WT.last {listed:Array Bool} {a:Act} {w:World} {o:Oper} (ho:ops[n]?=some o) (hr:Region.ready .any ops listed=[n]) (hr2:Region.ready .any ops (listed.setIfInBounds n true)=[]) (hl:((List.range n).all fun j=>listed.getD j true)=true)
  (h:∀ K':Act→World→Prop,Hid (∀ a w,Q .normal a w→K' a w)→if Region.wanted o (yielded ops a.tmps)=true then Oper.wp P o a w K' Q else K' (a.put o.dst undef) w):WT P ops Q S n 0 listed a w:=fun _=>by
 refine ⟨fun j hj => ?_,?_⟩
 ·exact List.all_eq_true.1 hl j (List.mem_range.2 hj)
 ·refine ⟨fun e=>(by rw [hr] at e;cases e),fun i hi => ?_⟩
  rw [hr] at hi
  obtain rfl:i=n:=by simpa using hi
  exact wpOp_step ho (fun K' hK=>h K' (fun a w hq=>hK a w ⟨hr2,hq⟩))
end
end Go.Proofs.YtcfdmbkiinjmaaaGreat.wtl
namespace Go.Proofs.YtcfdmbkiinjmaaaGreat.sev8
open Go.ChangeShapes Go.WideShapes Go.ChangeAt Go.RowKit
open Raft mem srun ssend sdown ssmall scopy srecs sapp ssame schos schosen scom sgrow sin sel stk slog sap0 sdl0 sdl3 sdl2
variable {F:Nat→Option Obj}
theorem row_ne {w:World} {base e e' sz n g g':Nat} {v:Value} {xs:List Value} {cur:Array Value} {fr:Nat×Nat} (h:w.ownsRow base e sz v n xs) (hg:v.ownBlock=some g) (hk:w.heap[g']?=some (.cells cur e' fr)) (hne:e≠e'):g'≠g:=by
 rintro rfl
 obtain ⟨_,⟨rfl,_⟩|⟨g2,cap,cur2,rfl,_,hh,_⟩⟩:=h
 ·simp [Value.ownBlock] at hg
 ·simp only [Value.ownBlock,Option.some.injEq] at hg
  subst hg
  rw [hh] at hk
  simp at hk
  exact hne hk.2.1
theorem rows_ne {w:World} {base base' e e' sz sz' n n' g g':Nat} {v v':Value} {xs xs':List Value} (h:w.ownsRow base e sz v n xs) (hg:v.ownBlock=some g) (h':w.ownsRow base' e' sz' v' n' xs') (hg':v'.ownBlock=some g') (hne:e≠e'):g'≠g:=by
 obtain ⟨_,⟨rfl,_⟩|⟨g2,cap,cur2,rfl,_,hh,_⟩⟩:=h'
 ·simp [Value.ownBlock] at hg'
 ·simp only [Value.ownBlock,Option.some.injEq] at hg'
  subst hg'
  exact row_ne h hg hh hne
theorem heap_grown {w w':World} {row:Option Nat} {g:Nat} {o:Obj} (G:w.grownBy w' row) (h:w.heap[g]?=some o) (hn:row≠some g):w'.heap[g]?=some o:=(G.block g (Array.getElem?_eq_some_iff.1 h).1 (fun e=>hn e.symm)).trans h
theorem row_grown {w w':World} {row:Option Nat} {base e sz n:Nat} {v:Value} {xs:List Value} (G:w.grownBy w' row) (h:w.ownsRow base e sz v n xs) (hn:∀ g,v.ownBlock=some g→row≠some g):w'.ownsRow base e sz v n xs:=row_kept h (fun g hg=>G.block g (row_lt h hg).2 (fun e=>hn g hg e.symm))
theorem row_alloc {w:World} {base e sz n:Nat} {v:Value} {xs:List Value} (h:w.ownsRow base e sz v n xs) (o:Obj):(w.alloc o).ownsRow base e sz v n xs:=row_kept h (fun g hg=>Below.heap_alloc _ _ _ (row_lt h hg).2)
theorem heap_alloc_old {w:World} {g:Nat} {o o':Obj} (h:w.heap[g]?=some o):(w.alloc o').heap[g]?=some o:=kept (more (Below.refl _ _) _) h (Nat.le_refl _)
theorem lit_rec' (w:World) (a b:Int) (o:Option Addr) (n c k:Nat) (h:w.heap[k]?=some (.cells #[.int .i64 a,.int .i64 b,.slice o n c] 74 (0,0))):RowW w (.slice (some ⟨k,0,none⟩) 1 1) 1 3 [.int .i64 a,.int .i64 b,.slice o n c] :=
 ⟨_,_,rfl,rfl,(fun h=>by cases h),fun _=>⟨k,0,rfl,fun i v hv=>by
  rw [Nat.zero_add]
  refine cell_of h ?_
  simpa using hv⟩⟩
theorem St1.log {w:World} {M:Fz} {base d P pc bt:Nat} {mc:Array Value} {c:Cl} {us:List PV} {ns:List MV} {nv:Value} {cs:List RV} {cv:Value} {M':Fz} {wr:World} (h:St1 F w M base d P pc bt mc c us ns nv cs cv M' wr) {k:Nat} {x:PV} (hk:us[k]?=some x) {w2:World} {M2:Fz} (hb:Below wr.heap.size wr w2) (hl:Le M' M2) (hI:In M2 w2) (hd:∀ b,M2 b≠none→M' b≠none∨wr.heap.size≤b) (lv:Value) (l:List Rc) (hr:RecsM M2 lv l) :
  St1 F w M base d P pc bt mc { c with peers:=c.peers.set k { x.p with log:=l } } (us.set k { x with p:={ x.p with log:=l },lv:=lv }) ns nv cs cv M2 (w2.setCell ⟨P,k*9+5,none⟩ lv):=by
 have hf:∀ b,M' b=none→b<wr.heap.size→M2 b=none:=fun b e hlt=>by
  cases e2:M2 b with
  | none=>rfl
  | some o =>
   rcases hd b (by rw [e2];simp) with g | g
   ·exact absurd e g
   ·omega
 have hx:x∈us:=List.mem_iff_getElem?.2 ⟨k,hk⟩
 have h2:Run (TS F) w2 M2 base d P pc c us ns nv cs cv:=h.run.keep hl hI (fun b hm=>hb.block b (h.run.mine hm)) (fun b hm=>hf b (h.run.free b hm) (h.run.mine hm)) (fun b o e=>⟨(hb.block b (h.run.farL e)).trans (h.run.far b o e).1,hf b (h.run.far b o e).2.1 (h.run.farL e)⟩)
 have h3:=h2.setPeer (x':={ x with p:={ x.p with log:=l },lv:=lv }) hk (j:=5) (v:=lv) (by decide) rfl hr (h2.votes x hx) (h2.next x hx) (h2.mat x hx) (fun i u b e1 _=>.inl e1)
 exact ⟨h3,h.le.trans hl,(h.bel.trans (hb.mono h.low)).setCell h.run.low.2 lv,fun b hb'=>(hd b hb').elim (h.dom b) (fun g=>.inr (by have:=h.low;omega)),(Below.heap_setCell w2 ⟨P,k*9+5,none⟩ lv _ (fun e=>h.no P (.inr (.inl rfl)) e.symm)).trans (kept hb h.b0 (Nat.le_refl _)),fun b hb'=>h.no b (mine_set hk (by rfl) hb'),hf _ h.fz h.lt⟩
set_option maxRecDepth 20000 in
set_option maxHeartbeats 8000000 in
theorem propose (w:World) (M:Fz) (base d P pc:Nat) (c:Cl) (us:List PV) (ns:List MV) (nv:Value) (cs:List RV) (cv:Value) (h:Run (TS F) w M base d P pc c us ns nv cs cv) (e:Ev) (eo:Option Addr) (el ec:Nat) (hkd:e.kind=7) (n:Nat) (h1:1≤n) (h7:n≤7) (hg:Raft.Good n c) (hd:BytesM M (.slice eo el ec) e.data) (i:Nat) (hi:e.n=(i:Int)) (x:PV) (hk:us[i]?=some x) (hup:x.p.up=true) (hro:x.p.role=2) (hsz:¬ (1000<e.data.length∨x.p.log.length=100)) :
  Calls Tryz.prog 18 #[.pointer (some ⟨d,0,none⟩),.agg #[.int .i64 e.kind,.int .i64 e.n,.slice eo el ec]] w fun r w'=>r=.returned (.int .i64 (c.event e).2)∧SD F w M base d P pc (c.event e).1 w':=by
 obtain ⟨W,hW⟩:∃ W,w.alloc (.cells #[.int .i64 e.kind,.int .i64 e.n,.slice eo el ec] 48)=W:=⟨_,rfl⟩
 have h0:=St1.begin h hW
 have c0:W.cell? ⟨w.heap.size,0,none⟩=some (.int .i64 e.kind):=cell_of h0.b0 rfl
 have c1:W.cell? ⟨w.heap.size,1,none⟩=some (.int .i64 e.n):=cell_of h0.b0 rfl
 have H0:=hide h0
 obtain ⟨hB,hC,s,hR⟩:=hg
 have hul:us.length=c.peers.length:=by rw [←h.peers,List.length_map]
 have hcap:=h.cap
 unfold maxLen at hcap
 have d0:W.cell? ⟨d,0,none⟩=some (.slice (some ⟨P,0,none⟩) us.length pc):=cell_of h0.run.blk rfl
 have k1:(e.kind == 1)=false:=by rw [hkd];decide
 have k2:(e.kind == 2)=false:=by rw [hkd];decide
 have k3:(e.kind == 3)=false:=by rw [hkd];decide
 have k4:(e.kind == 4)=false:=by rw [hkd];decide
 have k5:(e.kind == 5)=false:=by rw [hkd];decide
 have k6:(e.kind == 6)=false:=by rw [hkd];decide
 have k7:(e.kind == 7)=true:=by rw [hkd];decide
 have kf:(true == false)=false:=rfl
 have hil:i<us.length:=(List.getElem?_eq_some_iff.1 hk).1
 have hat:=(sdown.Run.at h hk).1
 have hin:i<n:=by rw [←hR.len,←hul];exact hil
 have p0:=(h0.run.peerCell hk (j:=0) (v:=.bool x.p.up) rfl).1
 rw [Nat.add_zero] at p0
 have nb:¬ (i:Int)<0:=by omega
 have hilI:¬ (us.length:Int)≤i:=by omega
 have hilJ:(i:Int)<us.length:=by omega
 rw [hi] at c1
 rw [hup] at p0
 have hxm:x∈us:=List.mem_iff_getElem?.2 ⟨i,hk⟩
 have hF:=deliv.fine hR hB hin
 rw [hat] at hF
 have hrob:((x.p.role:Int) != 2)=false:=by rw [hro];simp
 obtain ⟨lo,lc,elv⟩:=recsM_slice (h.logs x hxm)
 have hlog:=h.logs x hxm
 rw [elv] at hlog
 have hlcm:=(recs_len hlog).2.1
 obtain ⟨L,eL⟩:∃ L,x.p.log.length=L:=⟨_,rfl⟩
 rw [eL] at elv hlog
 obtain ⟨ho,hc,ehd⟩:∃ o c,(.slice eo el ec:Value)=.slice o e.data.length c:=by
  obtain ⟨⟨ao,cap,e1,_⟩,_⟩:=hd
  exact ⟨ao,cap,e1⟩
 simp only [Value.slice.injEq] at ehd
 obtain ⟨rfl,rfl,rfl⟩:=ehd
 have hecm:ec≤maxLen:=by
  obtain ⟨⟨ao,cap,e1,e2,e3,_⟩,_⟩:=hd
  simp only [Value.slice.injEq] at e1
  obtain ⟨_,_,rfl⟩:=e1
  exact e3
 have hL100:x.p.log.length≤100:=hF.log
 have hev:c.event e=((c.put i { x.p with log:=x.p.log++[⟨x.p.term,x.p.log.length+1,e.data⟩],mat:=x.p.mat.set i (x.p.log.length+1) }).commits i,0):=by
  unfold Cl.event
  rw [if_neg (by omega),if_pos (by omega),if_neg (by rw [hi];omega),hi,Int.toNat_natCast]
  dsimp only
  rw [hat,hup,if_neg (by rw [hkd];decide),if_neg (by omega),if_neg (by omega),if_neg (by omega),if_neg (fun q=>q hro),if_neg hsz]
 rw [hev]
 obtain ⟨ls0,els0,hrow0,hd0⟩:=id hlog
 have hl0:ls0.length=L:=by rw [←eL,←els0,List.length_map]
 obtain ⟨DL,eDL⟩:∃ DL,e.data.length=DL:=⟨_,rfl⟩
 have hDL:DL≤1000:=by omega
 have hLL:L≤100:=by omega
 have hLn:((L:Int) == 100)=false:=by simp;omega
 have HP:Hid (∀ wx,St1 F w M base d P pc 48 #[.int .i64 e.kind,.int .i64 e.n,.slice eo e.data.length ec] c us ns nv cs cv M wx→wx.cell? ⟨P,i*9+4,none⟩=some (.int .i64 x.p.role)∧(wx.cell? ⟨P,i*9+5,none⟩=some (.slice lo L lc)∧wx.cell? ⟨P,i*9+1,none⟩=some (.int .i64 x.p.term)∧wx.cell? ⟨w.heap.size,2,none⟩=some (.slice eo DL ec))∧wx.frozen? ⟨P,i*9+5,none⟩=false):=fun wx hw=>by
  have q5:=hw.run.peerCell hk (j:=5) (v:=x.lv) rfl
  rw [elv] at q5
  refine ⟨(hw.run.peerCell hk (j:=4) (v:=.int .i64 x.p.role) rfl).1,⟨q5.1,(hw.run.peerCell hk (j:=1) (v:=.int .i64 x.p.term) rfl).1,?_⟩,q5.2⟩
  rw [←eDL]
  exact cell_of hw.b0 rfl
 have HRw0:Hid (∀ wx,St1 F w M base d P pc 48 #[.int .i64 e.kind,.int .i64 e.n,.slice eo e.data.length ec] c us ns nv cs cv M wx→RowW wx (.slice lo L lc) L 3 (ls0.flatMap recCells)∧RowW wx (.slice eo DL ec) DL 1 (e.data.map (Value.int .u8))):=fun wx hw=>by
  refine ⟨?_,?_⟩
  ·have q:=RowM.world hrow0 hw.run.inn
   rw [hl0] at q
   exact q
  ·have q:=RowM.world hd.1 hw.run.inn
   rw [eDL] at q
   exact q
 have HOn:Hid (∀ y∈(ls0.flatMap recCells),y.oneCell'=true):=rec_one ls0 (fun y hy=>bytes_slice (hd0 y hy).1)
 have HDo:Hid (∀ y∈(e.data.map (Value.int .u8)),y.oneCell'=true):=bytes_one e.data
 have hnx:=hF.lists hro
 have HFin0:Hid (∀ wz,St1 F w M base d P pc 48 #[.int .i64 e.kind,.int .i64 e.n,.slice eo e.data.length ec] c us ns nv cs cv M wz→∀ w2 v2o v2n v2c vbo vbn vbc,w2.ownsRow wz.heap.size 74 3 (.slice v2o v2n v2c) (L+1) ((ls0.flatMap recCells)++[.int .i64 x.p.term,.int .i64 ((L:Int)+1),.slice vbo vbn vbc])→w2.ownsRow wz.heap.size 5 1 (.slice vbo vbn vbc) DL (e.data.map (Value.int .u8))→Below wz.heap.size wz w2→∀ W9,w2.setCell ⟨P,i*9+5,none⟩ (.slice v2o v2n v2c)=W9→∃ M2 v2o v2c,St1 F w M base d P pc 48 #[.int .i64 e.kind,.int .i64 e.n,.slice eo e.data.length ec] { c with peers:=c.peers.set i { x.p with log:=x.p.log++[⟨x.p.term,x.p.log.length+1,e.data⟩] } } (us.set i { x with p:={ x.p with log:=x.p.log++[⟨x.p.term,x.p.log.length+1,e.data⟩] },lv:=(.slice v2o (L+1) v2c) }) ns nv cs cv M2 W9):=fun wz hz w2 v2o v2n v2c vbo vbn vbc hJ hH hb W9 e9=>by
  have hIw:=hz.run.inn.below hb
  obtain ⟨M1,l1,i1,r1,d1⟩:=RowM.freeze hH hIw (fun g hg=>hz.run.inn.fresh (row_lt hH hg).1)
  obtain ⟨M2,l2,i2,r2,d2⟩:=RowM.freeze hJ i1 (fun g hg=>by
   cases em:M1 g with
   | none=>rfl
   | some o =>
    exfalso
    rcases d1 g (by rw [em];simp) with q | q
    ·exact q (hz.run.inn.fresh (row_lt hJ hg).1)
    ·exact rows_ne hJ hg hH q (by decide) rfl)
  have hv2:v2n=L+1:=own_len hJ
  subst hv2
  have hrec:RecsM M2 (.slice v2o (L+1) v2c) (x.p.log++[⟨x.p.term,x.p.log.length+1,e.data⟩]):=by
   refine ⟨ls0++[⟨⟨x.p.term,x.p.log.length+1,e.data⟩,.slice vbo vbn vbc⟩],by rw [List.map_append,els0];rfl,?_,fun y hy => ?_⟩
   ·rw [List.length_append,hl0,List.flatMap_append]
    show RowM M2 _ (L+1) 3 ((ls0.flatMap recCells)++[.int .i64 x.p.term,.int .i64 ((x.p.log.length+1:Nat):Int),.slice vbo vbn vbc])
    have e3:((x.p.log.length+1:Nat):Int)=(L:Int)+1:=by omega
    rw [e3]
    exact r2
   ·rcases List.mem_append.1 hy with hy | hy
    ·exact ⟨((hd0 y hy).1.le l1).le l2,(hd0 y hy).2⟩
    ·simp only [List.mem_singleton] at hy
     subst hy
     refine ⟨⟨?_,hd.2⟩,by show e.data.length≤1000;omega⟩
     show RowM M2 _ e.data.length 1 _
     rw [eDL]
     exact r1.le l2
  refine ⟨M2,v2o,v2c,?_⟩
  rw [←e9]
  refine St1.log hz hk hb (l1.trans l2) i2 (fun b hb' => ?_) _ _ hrec
  rcases d2 b hb' with q | q
  ·rcases d1 b q with q | q
   ·exact .inl q
   ·exact .inr (row_lt hH q).1
  ·exact .inr (row_lt hJ q).1
 have hUn:us.length=n:=by rw [hul];exact hR.len
 have HCm:Hid (∀ M2 v2o v2c wz,St1 F w M base d P pc 48 #[.int .i64 e.kind,.int .i64 e.n,.slice eo e.data.length ec] { c with peers:=c.peers.set i { x.p with log:=x.p.log++[⟨x.p.term,x.p.log.length+1,e.data⟩] } } (us.set i { x with p:={ x.p with log:=x.p.log++[⟨x.p.term,x.p.log.length+1,e.data⟩] },lv:=(.slice v2o (L+1) v2c) }) ns nv cs cv M2 wz→∃ g8 n8 c8,wz.cell? ⟨P,i*9+8,none⟩=some (.slice (some ⟨g8,0,none⟩) n8 c8)∧c8≤maxLen∧i<n8∧n8≤c8∧(∃ u,wz.cell? ⟨g8,i,none⟩=some u)∧wz.frozen? ⟨g8,i,none⟩=false∧wz.cell? ⟨P,i*9+5,none⟩=some (.slice v2o (L+1) v2c)∧wz.cell? ⟨w.heap.size,1,none⟩=some (.int .i64 (i:Int))∧∀ v9:Int,v9=(L:Int)+1→∀ W5,(wz.setCell ⟨g8,i,none⟩ (.int .i64 v9)).drew=W5→W5.cell? ⟨w.heap.size,1,none⟩=some (.int .i64 (i:Int))∧Calls Tryz.prog 40 #[.pointer (some ⟨d,0,none⟩),.int .i64 i] W5 fun r w'=>r=.returned (.tuple #[])∧SD F w M base d P pc (((c.put i { x.p with log:=x.p.log++[⟨x.p.term,x.p.log.length+1,e.data⟩],mat:=x.p.mat.set i (x.p.log.length+1) }).commits i,0)).1 w'):=fun M2 v2o v2c wz hz=>by
  have hkz:=got_set (x':={ x with p:={ x.p with log:=x.p.log++[⟨x.p.term,x.p.log.length+1,e.data⟩] },lv:=(.slice v2o (L+1) v2c) }) hk
  have hxz:=List.mem_iff_getElem?.2 ⟨i,hkz⟩
  have hmz:=hz.run.mat _ hxz
  have hml:x.p.mat.length=n:=hnx.2.1
  obtain ⟨_,⟨e1,e2⟩|⟨g8,c8,cur8,e1,e2,e3,e4,e5,e6,e7⟩⟩:=hmz
  ·exfalso
   have e2:x.p.mat.length=0:=e2
   omega
  have q8:=(hz.run.peerCell hkz (j:=8) (v:=x.mv) rfl).1
  have e1:x.mv=.slice (some ⟨g8,0,none⟩) x.p.mat.length c8:=e1
  rw [e1] at q8
  have e4:x.p.mat.length≤c8:=e4
  obtain ⟨A,hA⟩:∃ A,x.p.mat[i]?=some A:=⟨_,List.getElem?_eq_getElem (by omega)⟩
  have hcell:wz.cell? ⟨g8,i,none⟩=some (.int .i64 (A:Nat)):=by
   refine cell_of e3 ?_
   have e8:(x.p.mat.map fun (n:Nat)=>Value.int .i64 (n:Int))[i]?=some (.int .i64 (A:Nat)):=by rw [List.getElem?_map,hA];rfl
   have e7:cur8.toList.take (x.p.mat.length*1)=x.p.mat.map fun (n:Nat)=>Value.int .i64 (n:Int):=e7
   rw [←e7,List.getElem?_take_of_lt (by omega)] at e8
   simpa using e8
  refine ⟨g8,_,c8,q8,e5,by omega,e4,⟨_,hcell⟩,frozen_of e3 _,(hz.run.peerCell hkz (j:=5) (v:=.slice v2o (L+1) v2c) rfl).1,(by rw [←hi];exact cell_of hz.b0 rfl),fun v9 hv9 W5 e9 => ?_⟩
  have h5:=(hz.mat hkz e1 i (L+1)).below (Below.refl _ _).drew
  rw [show ((L+1:Nat):Int)=v9 by omega,e9] at h5
  refine ⟨(by rw [←hi];exact cell_of h5.b0 rfl),?_⟩
  have hlg:(x.p.log++[(⟨x.p.term,x.p.log.length+1,e.data⟩:Rc)]).length=L+1:=by rw [List.length_append,eL];rfl
  refine (commit_any W5 M2 base d P pc _ _ ns nv cs cv h5.run i _ (got_set hkz) (by simp;omega) (by simp;omega) (by show x.p.commit≤(x.p.log++[(⟨x.p.term,x.p.log.length+1,e.data⟩:Rc)]).length;have:=hF.commit;omega) (by show (x.p.log++[(⟨x.p.term,x.p.log.length+1,e.data⟩:Rc)]).length≤1000;omega) (by show c.chosen.length≤1000;have:=hB.chosen;omega) (by show (x.p.mat.set i (L+1)).length≤1000;rw [List.length_set];omega)).mono ?_
  rintro r w' ⟨rfl,hsd⟩
  refine ⟨rfl,?_⟩
  have h6:=h5.step hsd
  rw [List.set_set] at h6
  rw [←eL] at h6
  exact h6
 rw [eDL] at hsz
 rw [eL] at hsz
 have hs1I:¬ (1000:Int)<DL:=by omega
 have aL:IntKind.i64.wrap ((L:Int)+1)=(L:Int)+1:=by rw [IntKind.wrap_i64];omega
 have e0e:Hid (e.data.length=DL):=eDL
 unfold maxLen at hlcm hecm
 have HevE:Hid ((((c.put i { x.p with log:=x.p.log++[⟨x.p.term,x.p.log.length+1,e.data⟩],mat:=x.p.mat.set i (x.p.log.length+1) }).commits i,0):Cl×Int).2=0):=rfl
 clear h h0 hkd hk hat hul hi hB hC hR hev hup hF hxm eL elv hlog hro eDL hd hd0 hrow0 els0 hl0 hnx hUn hL100 hsz
 go_enter Tryz.func18,Tryz.ntmps18
 go_wp2
 (try rw [hW])
 clear hW
 go_quiet (fail)
 obtain ⟨W1,hW1,bW1,sW1⟩:=fold_dn W nq
 (try rw [hW1])
 have H1:=hide (H0.out.below bW1)
 have c0:=kept_cell bW1 c0
 have c1:=kept_cell bW1 c1
 have d0:=kept_cell bW1 d0
 have p0:=kept_cell bW1 p0
 clear hW1 bW1 H0 sW1
 go_wp2
 go_quiet (fail)
 obtain ⟨W2,hW2,bW2,sW2⟩:=fold_dn W1 nq
 (try rw [hW2])
 have H2:=hide (H1.out.below bW2)
 have c0:=kept_cell bW2 c0
 have c1:=kept_cell bW2 c1
 have d0:=kept_cell bW2 d0
 have p0:=kept_cell bW2 p0
 clear hW2 bW2 H1 sW2
 go_wp2
 go_quiet (fail)
 obtain ⟨W3,hW3,bW3,sW3⟩:=fold_dn W2 nq
 (try rw [hW3])
 have H3:=hide (H2.out.below bW3)
 have c0:=kept_cell bW3 c0
 have c1:=kept_cell bW3 c1
 have d0:=kept_cell bW3 d0
 have p0:=kept_cell bW3 p0
 clear hW3 bW3 H2 sW3
 obtain ⟨q4,q36,f5⟩:=HP.out W3 H3.out
 obtain ⟨q5,q1,e2⟩:=q36
 go_wp2
 go_cut [] from 143 to 168 (fun wx=>Hid (∃ M2 v2o v2c,St1 F w M base d P pc 48 #[.int .i64 e.kind,.int .i64 e.n,.slice eo e.data.length ec] { c with peers:=c.peers.set i { x.p with log:=x.p.log++[⟨x.p.term,x.p.log.length+1,e.data⟩] } } (us.set i { x with p:={ x.p with log:=x.p.log++[⟨x.p.term,x.p.log.length+1,e.data⟩] },lv:=(.slice v2o (L+1) v2c) }) ns nv cs cv M2 wx))
 case first =>
  have HS:Hid (∀ wx,Below W3.heap.size W3 wx→wx.cell? ⟨P,i*9+5,none⟩=some (.slice lo L lc)∧wx.cell? ⟨P,i*9+1,none⟩=some (.int .i64 x.p.term)∧wx.cell? ⟨w.heap.size,2,none⟩=some (.slice eo DL ec)):=fun wx hb=>(HP.out wx (H3.out.below hb)).2.1
  have HFr:Hid (∀ wx,Below W3.heap.size W3 wx→wx.frozen? ⟨P,i*9+5,none⟩=false):=fun wx hb=>(HP.out wx (H3.out.below hb)).2.2
  have HRw:Hid (∀ wx,Below W3.heap.size W3 wx→RowW wx (.slice lo L lc) L 3 (ls0.flatMap recCells)):=fun wx hb=>(HRw0.out wx (H3.out.below hb)).1
  have HDt:Hid (∀ wx,Below W3.heap.size W3 wx→RowW wx (.slice eo DL ec) DL 1 (e.data.map (Value.int .u8))):=fun wx hb=>(HRw0.out wx (H3.out.below hb)).2
  have HFin:=hide (HFin0.out W3 H3.out)
  obtain ⟨W4,hW4⟩:∃ W4,W3.drew=W4:=⟨_,rfl⟩
  have hBW4:Hid (Below W3.heap.size W3 W4):=by rw [←hW4];exact (Below.refl _ _).drew
  have hS:=HS.out W4 hBW4.out
  clear HP HRw0 HFin0 HCm H3 q1 q4 q5 e2 f5 d0 p0 c0 c1 HevE
  refine wtl.WT.start (S:=(fun wx=>wx.cell? ⟨P,i*9+5,none⟩=some (.slice lo L lc)∧wx.cell? ⟨P,i*9+1,none⟩=some (.int .i64 x.p.term)∧wx.cell? ⟨w.heap.size,2,none⟩=some (.slice eo DL ec))) (n:=26) (by kernel_rfl) (by rfl) ?_
  rw [hW4]
  clear hW4
  refine wtl.WT.takeAt (i:=0) (v := ?_) (some 143) rfl rfl (by kernel_rfl) (fun _ _ _ h=>h) (Or.inl ⟨by rfl,?_⟩) hS ?_
  rotate_left
  ·intro wx hSw
   (try dsimp only at hSw)
   go_simp
   all_goals (with_reducible rfl)
  refine wtl.WT.takeAt (i:=2) (v := ?_) (some 145) rfl rfl (by kernel_rfl) (fun _ _ _ h=>h) (Or.inl ⟨by rfl,?_⟩) hS ?_
  rotate_left
  ·intro wx hSw
   (try dsimp only at hSw)
   go_simp
   all_goals (with_reducible rfl)
  refine wtl.WT.takeAt (i:=3) (v := ?_) (some 146) rfl rfl (by kernel_rfl) (fun _ _ _ h=>h) (Or.inl ⟨by rfl,?_⟩) hS ?_
  rotate_left
  ·intro wx hSw
   (try dsimp only at hSw)
   go_simp
   all_goals (with_reducible rfl)
  refine wtl.WT.takeAt (i:=4) (v := ?_) (some 147) rfl rfl (by kernel_rfl) (fun _ _ _ h=>h) (Or.inl ⟨by rfl,?_⟩) hS ?_
  rotate_left
  ·intro wx hSw
   (try dsimp only at hSw)
   go_simp
   all_goals (with_reducible rfl)
  refine wtl.WT.takeAt (i:=5) (v := ?_) (some 148) rfl rfl (by kernel_rfl) (fun _ _ _ h=>h) (Or.inl ⟨by rfl,?_⟩) hS ?_
  rotate_left
  ·intro wx hSw
   (try dsimp only at hSw)
   go_simp
   all_goals (with_reducible rfl)
  refine wtl.WT.takeAt (i:=7) (v := ?_) (some 150) rfl rfl (by kernel_rfl) (fun _ _ _ h=>h) (Or.inl ⟨by rfl,?_⟩) hS ?_
  rotate_left
  ·intro wx hSw
   (try dsimp only at hSw)
   go_simp
   all_goals (with_reducible rfl)
  refine wtl.WT.takeAt (i:=8) (v := ?_) (some 151) rfl rfl (by kernel_rfl) (fun _ _ _ h=>h) (Or.inl ⟨by rfl,?_⟩) hS ?_
  rotate_left
  ·intro wx hSw
   (try dsimp only at hSw)
   go_simp
   all_goals (with_reducible rfl)
  refine wtl.WT.takeAt (i:=9) (v := ?_) (some 152) rfl rfl (by kernel_rfl) (fun _ _ _ h=>h) (Or.inl ⟨by rfl,?_⟩) hS ?_
  rotate_left
  ·intro wx hSw
   (try dsimp only at hSw)
   go_simp
   all_goals (with_reducible rfl)
  refine wtl.WT.takeAt (i:=10) (v := ?_) (some 153) rfl rfl (by kernel_rfl) (fun _ _ _ h=>h) (Or.inl ⟨by rfl,?_⟩) hS ?_
  rotate_left
  ·intro wx hSw
   (try dsimp only at hSw)
   go_simp
   all_goals (with_reducible rfl)
  refine wtl.WT.takeAt (i:=11) (v := ?_) (some 154) rfl rfl (by kernel_rfl) (fun _ _ _ h=>h) (Or.inl ⟨by rfl,?_⟩) hS ?_
  rotate_left
  ·intro wx hSw
   (try dsimp only at hSw)
   go_simp
   all_goals (with_reducible rfl)
  refine wtl.WT.takeAt (i:=12) (v := ?_) (some 155) rfl rfl (by kernel_rfl) (fun _ _ _ h=>h) (Or.inl ⟨by rfl,?_⟩) hS ?_
  rotate_left
  ·intro wx hSw
   (try dsimp only at hSw)
   go_simp
   all_goals (with_reducible rfl)
  refine wtl.WT.takeAt (i:=13) (v := ?_) (some 156) rfl rfl (by kernel_rfl) (fun _ _ _ h=>h) (Or.inl ⟨by rfl,?_⟩) hS ?_
  rotate_left
  ·intro wx hSw
   (try dsimp only at hSw)
   go_simp
   all_goals (with_reducible rfl)
  refine wtl.WT.takeAt (i:=14) (v := ?_) (some 157) rfl rfl (by kernel_rfl) (fun _ _ _ h=>h) (Or.inl ⟨by rfl,?_⟩) hS ?_
  rotate_left
  ·intro wx hSw
   (try dsimp only at hSw)
   go_simp
   all_goals (with_reducible rfl)
  refine wtl.WT.takeAt (i:=15) (v := ?_) (some 158) rfl rfl (by kernel_rfl) (fun _ _ _ h=>h) (Or.inl ⟨by rfl,?_⟩) hS ?_
  rotate_left
  ·intro wx hSw
   (try dsimp only at hSw)
   go_simp
   all_goals (with_reducible rfl)
  refine wtl.WT.takeAt (i:=16) (v := ?_) (some 159) rfl rfl (by kernel_rfl) (fun _ _ _ h=>h) (Or.inl ⟨by rfl,?_⟩) hS ?_
  rotate_left
  ·intro wx hSw
   (try dsimp only at hSw)
   go_simp
   all_goals (with_reducible rfl)
  refine wtl.WT.takeAt (i:=18) (v := ?_) (some 161) rfl rfl (by kernel_rfl) (fun _ _ _ h=>h) (Or.inl ⟨by rfl,?_⟩) hS ?_
  rotate_left
  ·intro wx hSw
   (try dsimp only at hSw)
   go_simp
   all_goals (with_reducible rfl)
  refine wtl.WT.takeAt (i:=19) (v := ?_) (some 162) rfl rfl (by kernel_rfl) (fun _ _ _ h=>h) (Or.inl ⟨by rfl,?_⟩) hS ?_
  rotate_left
  ·intro wx hSw
   (try dsimp only at hSw)
   go_simp
   all_goals (with_reducible rfl)
  refine wtl.WT.branch (rs:=[1,17]) (by kernel_rfl) (by simp) (by decide) ?_
  intro i9 hi9
  rcases List.mem_cons.1 hi9 with rfl | hi9
  ·refine wtl.op_step rfl (fun K hK => ?_)
   go_simp
   obtain ⟨w1,ew1⟩:∃ W9,W4.alloc (.cells #[] 74)=W9:=⟨_,rfl⟩
   (try rw [ew1])
   have hBw1:Hid (Below W3.heap.size W3 w1):=by rw [←ew1];exact more hBW4.out _
   obtain ⟨gA,egA⟩:∃ g9,W4.heap.size=g9:=⟨_,rfl⟩
   have lgA:W3.heap.size≤gA:=by rw [←egA];exact hBW4.out.size
   have hAw1:Hid (w1.heap[gA]?=some (.cells #[] 74 (0,0))):=by rw [←ew1,←egA];exact heap_alloc_new _ _
   (try rw [egA])
   clear egA
   have hSw1:=HS.out w1 hBw1.out
   refine hK.out _ _ hSw1 ?_
   clear hK K
   have hS:=hSw1
   refine wtl.WT.branch (rs:=[6,17]) (by kernel_rfl) (by simp) (by decide) ?_
   intro i9 hi9
   rcases List.mem_cons.1 hi9 with rfl | hi9
   ·refine wtl.op_step rfl (fun K hK => ?_)
    refine step_append_row _ rfl _ _ 26 rfl 74 3 40 _ Tryz.underlying26 info75 rfl (by decide) W3.heap.size _ 0 [] rfl (lit75 hAw1.out lgA) _ L (ls0.flatMap recCells) rfl (HRw.out _ hBw1.out) HOn.out (by omega) (by decide) hBw1.out.size ?_
    intro v1 w2 O1 Gw2
    rw [Nat.zero_add,List.nil_append] at O1
    have hBw2:Hid (Below W3.heap.size W3 w2):=hBw1.out.grown Gw2 hBw1.out.size (fun k hk=>own_ge hk lgA)
    have neC:∀ q:Nat,q≠gA→(Value.slice (some ⟨gA,0,none⟩) 0 0).ownBlock≠some q:=fun q hq e9=>hq (by simpa [Value.ownBlock] using e9.symm)
    obtain ⟨v1o,v1n,v1c,ev1⟩:=own_slice O1
    subst ev1
    have hCw2:Hid (w2.ownsRow W3.heap.size 74 3 (.slice v1o v1n v1c) L (ls0.flatMap recCells)):=O1
    clear O1 neC
    have hSw2:=HS.out w2 hBw2.out
    refine hK.out _ _ hSw2 ?_
    clear hK K
    have hS:=hSw2
    refine wtl.WT.branch (rs:=[17]) (by kernel_rfl) (by simp) (by decide) ?_
    intro i9 hi9
    obtain rfl:=List.mem_singleton.1 hi9
    refine wtl.op_step rfl (fun K hK => ?_)
    go_simp
    obtain ⟨w3,ew3⟩:∃ W9,w2.alloc (.cells #[] 5)=W9:=⟨_,rfl⟩
    (try rw [ew3])
    have hBw3:Hid (Below W3.heap.size W3 w3):=by rw [←ew3];exact more hBw2.out _
    obtain ⟨gF,egF⟩:∃ g9,w2.heap.size=g9:=⟨_,rfl⟩
    have lgF:W3.heap.size≤gF:=by rw [←egF];exact hBw2.out.size
    have hFw3:Hid (w3.heap[gF]?=some (.cells #[] 5 (0,0))):=by rw [←ew3,←egF];exact heap_alloc_new _ _
    have hCw3:Hid (w3.ownsRow W3.heap.size 74 3 (.slice v1o v1n v1c) L (ls0.flatMap recCells)):=by rw [←ew3];exact row_alloc hCw2.out _
    (try rw [egF])
    clear egF
    have hSw3:=HS.out w3 hBw3.out
    refine hK.out _ _ hSw3 ?_
    clear hK K
    have hS:=hSw3
    refine wtl.WT.branch (rs:=[20]) (by kernel_rfl) (by simp) (by decide) ?_
    intro i9 hi9
    obtain rfl:=List.mem_singleton.1 hi9
    refine wtl.op_step rfl (fun K hK => ?_)
    refine step_append_row _ rfl _ _ 42 rfl 5 1 1 _ Tryz.underlying42 info5 rfl (by decide) W3.heap.size _ 0 [] rfl (lit5 hFw3.out lgF) _ DL (e.data.map (Value.int .u8)) rfl (HDt.out _ hBw3.out) HDo.out (by omega) (by decide) hBw3.out.size ?_
    intro vb w4 O1 Gw4
    rw [Nat.zero_add,List.nil_append] at O1
    have hBw4:Hid (Below W3.heap.size W3 w4):=hBw3.out.grown Gw4 hBw3.out.size (fun k hk=>own_ge hk lgF)
    have neH:∀ q:Nat,q≠gF→(Value.slice (some ⟨gF,0,none⟩) 0 0).ownBlock≠some q:=fun q hq e9=>hq (by simpa [Value.ownBlock] using e9.symm)
    obtain ⟨vbo,vbn,vbc,evb⟩:=own_slice O1
    subst evb
    have hHw4:Hid (w4.ownsRow W3.heap.size 5 1 (.slice vbo vbn vbc) DL (e.data.map (Value.int .u8))):=O1
    have hCw4:Hid (w4.ownsRow W3.heap.size 74 3 (.slice v1o v1n v1c) L (ls0.flatMap recCells)):=row_grown Gw4 hCw3.out (fun g9 hg9=>neH g9 (fun e9=>row_ne hCw3.out hg9 hFw3.out (by decide) e9.symm))
    clear O1 neH
    have hSw4:=HS.out w4 hBw4.out
    refine hK.out _ _ hSw4 ?_
    clear hK K
    have hS:=hSw4
    refine wtl.WT.takeAt (i:=21) (v := ?_) (some 164) rfl rfl (by kernel_rfl) (fun _ _ _ h=>h) (Or.inl ⟨by rfl,?_⟩) hS ?_
    rotate_left
    ·intro wx hSw
     (try dsimp only at hSw)
     go_simp
     all_goals (with_reducible rfl)
    refine wtl.WT.branch (rs:=[22]) (by kernel_rfl) (by simp) (by decide) ?_
    intro i9 hi9
    obtain rfl:=List.mem_singleton.1 hi9
    refine wtl.op_step rfl (fun K hK => ?_)
    go_simp
    obtain ⟨w5,ew5⟩:∃ W9,w4.alloc (.cells #[.int .i64 x.p.term,.int .i64 ((L:Int)+1),.slice vbo vbn vbc] 74)=W9:=⟨_,rfl⟩
    (try rw [ew5])
    have hBw5:Hid (Below W3.heap.size W3 w5):=by rw [←ew5];exact more hBw4.out _
    obtain ⟨gI,egI⟩:∃ g9,w4.heap.size=g9:=⟨_,rfl⟩
    have hIw5:Hid (w5.heap[gI]?=some (.cells #[.int .i64 x.p.term,.int .i64 ((L:Int)+1),.slice vbo vbn vbc] 74 (0,0))):=by rw [←ew5,←egI];exact heap_alloc_new _ _
    have hHw5:Hid (w5.ownsRow W3.heap.size 5 1 (.slice vbo vbn vbc) DL (e.data.map (Value.int .u8))):=by rw [←ew5];exact row_alloc hHw4.out _
    have hCw5:Hid (w5.ownsRow W3.heap.size 74 3 (.slice v1o v1n v1c) L (ls0.flatMap recCells)):=by rw [←ew5];exact row_alloc hCw4.out _
    (try rw [egI])
    clear egI
    have hSw5:=HS.out w5 hBw5.out
    refine hK.out _ _ hSw5 ?_
    clear hK K
    have hS:=hSw5
    refine wtl.WT.branch (rs:=[23]) (by kernel_rfl) (by simp) (by decide) ?_
    intro i9 hi9
    obtain rfl:=List.mem_singleton.1 hi9
    refine wtl.op_step rfl (fun K hK => ?_)
    refine step_append_row _ rfl _ _ 26 rfl 74 3 40 _ Tryz.underlying26 info75 rfl (by decide) W3.heap.size _ L (ls0.flatMap recCells) rfl hCw5.out _ 1 [.int .i64 x.p.term,.int .i64 ((L:Int)+1),.slice vbo vbn vbc] rfl (lit_rec' _ _ _ _ _ _ _ hIw5.out) (by intro u hu;simp only [List.mem_cons,List.not_mem_nil,or_false] at hu;rcases hu with rfl | rfl | rfl <;> rfl) (by omega) (by decide) hBw5.out.size ?_
    intro v2 w6 O1 Gw6
    have hBw6:Hid (Below W3.heap.size W3 w6):=hBw5.out.grown Gw6 hBw5.out.size (fun k hk=>(row_lt hCw5.out hk).1)
    have hHw6:Hid (w6.ownsRow W3.heap.size 5 1 (.slice vbo vbn vbc) DL (e.data.map (Value.int .u8))):=row_grown Gw6 hHw5.out (fun g9 hg9 e9=>rows_ne hCw5.out e9 hHw5.out hg9 (by decide) rfl)
    obtain ⟨v2o,v2n,v2c,ev2⟩:=own_slice O1
    subst ev2
    have hJw6:Hid (w6.ownsRow W3.heap.size 74 3 (.slice v2o v2n v2c) (L+1) ((ls0.flatMap recCells)++[.int .i64 x.p.term,.int .i64 ((L:Int)+1),.slice vbo vbn vbc])):=O1
    clear O1
    have hSw6:=HS.out w6 hBw6.out
    refine hK.out _ _ hSw6 ?_
    clear hK K
    have hS:=hSw6
    have hfz:=HFr.out w6 hBw6.out
    have hcl:=hS.1
    refine wtl.WT.takeAt (i:=24) (v := ?_) (some 167) rfl rfl (by kernel_rfl) (fun _ _ _ h=>h) (Or.inl ⟨by rfl,?_⟩) hS ?_
    rotate_left
    ·intro wx hSw
     (try dsimp only at hSw)
     go_simp
     all_goals (with_reducible rfl)
    refine wtl.WT.takeAt (i:=25) (v := ?_) (some 168) rfl rfl (by kernel_rfl) (fun _ _ _ h=>h) (Or.inl ⟨by rfl,?_⟩) hS ?_
    rotate_left
    ·intro wx hSw
     (try dsimp only at hSw)
     go_simp
     all_goals (with_reducible rfl)
    refine wtl.WT.last rfl (by kernel_rfl) (by kernel_rfl) (by kernel_rfl) (fun K hK => ?_)
    go_simp
    refine hK.out _ _ ?_
    clear hK K
    generalize hW9:World.setCell w6 _ _=W9
    have HE:=hide (HFin.out w6 _ _ _ _ _ _ hJw6.out hHw6.out hBw6.out W9 hW9)
    clear hW9
    go_wp2_with fail
    go_meet
    exact HE
   ·obtain rfl:=List.mem_singleton.1 hi9
    refine wtl.op_step rfl (fun K hK => ?_)
    go_simp
    obtain ⟨w7,ew7⟩:∃ W9,w1.alloc (.cells #[] 5)=W9:=⟨_,rfl⟩
    (try rw [ew7])
    have hBw7:Hid (Below W3.heap.size W3 w7):=by rw [←ew7];exact more hBw1.out _
    obtain ⟨gF,egF⟩:∃ g9,w1.heap.size=g9:=⟨_,rfl⟩
    have lgF:W3.heap.size≤gF:=by rw [←egF];exact hBw1.out.size
    have hFw7:Hid (w7.heap[gF]?=some (.cells #[] 5 (0,0))):=by rw [←ew7,←egF];exact heap_alloc_new _ _
    have hAw7:Hid (w7.heap[gA]?=some (.cells #[] 74 (0,0))):=by rw [←ew7];exact heap_alloc_old hAw1.out
    (try rw [egF])
    clear egF
    have hSw7:=HS.out w7 hBw7.out
    refine hK.out _ _ hSw7 ?_
    clear hK K
    have hS:=hSw7
    refine wtl.WT.branch (rs:=[6]) (by kernel_rfl) (by simp) (by decide) ?_
    intro i9 hi9
    obtain rfl:=List.mem_singleton.1 hi9
    refine wtl.op_step rfl (fun K hK => ?_)
    refine step_append_row _ rfl _ _ 26 rfl 74 3 40 _ Tryz.underlying26 info75 rfl (by decide) W3.heap.size _ 0 [] rfl (lit75 hAw7.out lgA) _ L (ls0.flatMap recCells) rfl (HRw.out _ hBw7.out) HOn.out (by omega) (by decide) hBw7.out.size ?_
    intro v1 w8 O1 Gw8
    rw [Nat.zero_add,List.nil_append] at O1
    have hBw8:Hid (Below W3.heap.size W3 w8):=hBw7.out.grown Gw8 hBw7.out.size (fun k hk=>own_ge hk lgA)
    have neC:∀ q:Nat,q≠gA→(Value.slice (some ⟨gA,0,none⟩) 0 0).ownBlock≠some q:=fun q hq e9=>hq (by simpa [Value.ownBlock] using e9.symm)
    obtain ⟨v1o,v1n,v1c,ev1⟩:=own_slice O1
    subst ev1
    have hCw8:Hid (w8.ownsRow W3.heap.size 74 3 (.slice v1o v1n v1c) L (ls0.flatMap recCells)):=O1
    have hFw8:Hid (w8.heap[gF]?=some (.cells #[] 5 (0,0))):=heap_grown Gw8 hFw7.out (neC gF (fun e9=>by have q1:=hFw7.out;rw [e9,hAw7.out] at q1;simp at q1))
    clear O1 neC
    have hSw8:=HS.out w8 hBw8.out
    refine hK.out _ _ hSw8 ?_
    clear hK K
    have hS:=hSw8
    refine wtl.WT.branch (rs:=[20]) (by kernel_rfl) (by simp) (by decide) ?_
    intro i9 hi9
    obtain rfl:=List.mem_singleton.1 hi9
    refine wtl.op_step rfl (fun K hK => ?_)
    refine step_append_row _ rfl _ _ 42 rfl 5 1 1 _ Tryz.underlying42 info5 rfl (by decide) W3.heap.size _ 0 [] rfl (lit5 hFw8.out lgF) _ DL (e.data.map (Value.int .u8)) rfl (HDt.out _ hBw8.out) HDo.out (by omega) (by decide) hBw8.out.size ?_
    intro vb w9 O1 Gw9
    rw [Nat.zero_add,List.nil_append] at O1
    have hBw9:Hid (Below W3.heap.size W3 w9):=hBw8.out.grown Gw9 hBw8.out.size (fun k hk=>own_ge hk lgF)
    have neH:∀ q:Nat,q≠gF→(Value.slice (some ⟨gF,0,none⟩) 0 0).ownBlock≠some q:=fun q hq e9=>hq (by simpa [Value.ownBlock] using e9.symm)
    obtain ⟨vbo,vbn,vbc,evb⟩:=own_slice O1
    subst evb
    have hHw9:Hid (w9.ownsRow W3.heap.size 5 1 (.slice vbo vbn vbc) DL (e.data.map (Value.int .u8))):=O1
    have hCw9:Hid (w9.ownsRow W3.heap.size 74 3 (.slice v1o v1n v1c) L (ls0.flatMap recCells)):=row_grown Gw9 hCw8.out (fun g9 hg9=>neH g9 (fun e9=>row_ne hCw8.out hg9 hFw8.out (by decide) e9.symm))
    clear O1 neH
    have hSw9:=HS.out w9 hBw9.out
    refine hK.out _ _ hSw9 ?_
    clear hK K
    have hS:=hSw9
    refine wtl.WT.takeAt (i:=21) (v := ?_) (some 164) rfl rfl (by kernel_rfl) (fun _ _ _ h=>h) (Or.inl ⟨by rfl,?_⟩) hS ?_
    rotate_left
    ·intro wx hSw
     (try dsimp only at hSw)
     go_simp
     all_goals (with_reducible rfl)
    refine wtl.WT.branch (rs:=[22]) (by kernel_rfl) (by simp) (by decide) ?_
    intro i9 hi9
    obtain rfl:=List.mem_singleton.1 hi9
    refine wtl.op_step rfl (fun K hK => ?_)
    go_simp
    obtain ⟨w10,ew10⟩:∃ W9,w9.alloc (.cells #[.int .i64 x.p.term,.int .i64 ((L:Int)+1),.slice vbo vbn vbc] 74)=W9:=⟨_,rfl⟩
    (try rw [ew10])
    have hBw10:Hid (Below W3.heap.size W3 w10):=by rw [←ew10];exact more hBw9.out _
    obtain ⟨gI,egI⟩:∃ g9,w9.heap.size=g9:=⟨_,rfl⟩
    have hIw10:Hid (w10.heap[gI]?=some (.cells #[.int .i64 x.p.term,.int .i64 ((L:Int)+1),.slice vbo vbn vbc] 74 (0,0))):=by rw [←ew10,←egI];exact heap_alloc_new _ _
    have hHw10:Hid (w10.ownsRow W3.heap.size 5 1 (.slice vbo vbn vbc) DL (e.data.map (Value.int .u8))):=by rw [←ew10];exact row_alloc hHw9.out _
    have hCw10:Hid (w10.ownsRow W3.heap.size 74 3 (.slice v1o v1n v1c) L (ls0.flatMap recCells)):=by rw [←ew10];exact row_alloc hCw9.out _
    (try rw [egI])
    clear egI
    have hSw10:=HS.out w10 hBw10.out
    refine hK.out _ _ hSw10 ?_
    clear hK K
    have hS:=hSw10
    refine wtl.WT.branch (rs:=[23]) (by kernel_rfl) (by simp) (by decide) ?_
    intro i9 hi9
    obtain rfl:=List.mem_singleton.1 hi9
    refine wtl.op_step rfl (fun K hK => ?_)
    refine step_append_row _ rfl _ _ 26 rfl 74 3 40 _ Tryz.underlying26 info75 rfl (by decide) W3.heap.size _ L (ls0.flatMap recCells) rfl hCw10.out _ 1 [.int .i64 x.p.term,.int .i64 ((L:Int)+1),.slice vbo vbn vbc] rfl (lit_rec' _ _ _ _ _ _ _ hIw10.out) (by intro u hu;simp only [List.mem_cons,List.not_mem_nil,or_false] at hu;rcases hu with rfl | rfl | rfl <;> rfl) (by omega) (by decide) hBw10.out.size ?_
    intro v2 w11 O1 Gw11
    have hBw11:Hid (Below W3.heap.size W3 w11):=hBw10.out.grown Gw11 hBw10.out.size (fun k hk=>(row_lt hCw10.out hk).1)
    have hHw11:Hid (w11.ownsRow W3.heap.size 5 1 (.slice vbo vbn vbc) DL (e.data.map (Value.int .u8))):=row_grown Gw11 hHw10.out (fun g9 hg9 e9=>rows_ne hCw10.out e9 hHw10.out hg9 (by decide) rfl)
    obtain ⟨v2o,v2n,v2c,ev2⟩:=own_slice O1
    subst ev2
    have hJw11:Hid (w11.ownsRow W3.heap.size 74 3 (.slice v2o v2n v2c) (L+1) ((ls0.flatMap recCells)++[.int .i64 x.p.term,.int .i64 ((L:Int)+1),.slice vbo vbn vbc])):=O1
    clear O1
    have hSw11:=HS.out w11 hBw11.out
    refine hK.out _ _ hSw11 ?_
    clear hK K
    have hS:=hSw11
    have hfz:=HFr.out w11 hBw11.out
    have hcl:=hS.1
    refine wtl.WT.takeAt (i:=24) (v := ?_) (some 167) rfl rfl (by kernel_rfl) (fun _ _ _ h=>h) (Or.inl ⟨by rfl,?_⟩) hS ?_
    rotate_left
    ·intro wx hSw
     (try dsimp only at hSw)
     go_simp
     all_goals (with_reducible rfl)
    refine wtl.WT.takeAt (i:=25) (v := ?_) (some 168) rfl rfl (by kernel_rfl) (fun _ _ _ h=>h) (Or.inl ⟨by rfl,?_⟩) hS ?_
    rotate_left
    ·intro wx hSw
     (try dsimp only at hSw)
     go_simp
     all_goals (with_reducible rfl)
    refine wtl.WT.last rfl (by kernel_rfl) (by kernel_rfl) (by kernel_rfl) (fun K hK => ?_)
    go_simp
    refine hK.out _ _ ?_
    clear hK K
    generalize hW9:World.setCell w11 _ _=W9
    have HE:=hide (HFin.out w11 _ _ _ _ _ _ hJw11.out hHw11.out hBw11.out W9 hW9)
    clear hW9
    go_wp2_with fail
    go_meet
    exact HE
  ·obtain rfl:=List.mem_singleton.1 hi9
   refine wtl.op_step rfl (fun K hK => ?_)
   go_simp
   obtain ⟨w12,ew12⟩:∃ W9,W4.alloc (.cells #[] 5)=W9:=⟨_,rfl⟩
   (try rw [ew12])
   have hBw12:Hid (Below W3.heap.size W3 w12):=by rw [←ew12];exact more hBW4.out _
   obtain ⟨gF,egF⟩:∃ g9,W4.heap.size=g9:=⟨_,rfl⟩
   have lgF:W3.heap.size≤gF:=by rw [←egF];exact hBW4.out.size
   have hFw12:Hid (w12.heap[gF]?=some (.cells #[] 5 (0,0))):=by rw [←ew12,←egF];exact heap_alloc_new _ _
   (try rw [egF])
   clear egF
   have hSw12:=HS.out w12 hBw12.out
   refine hK.out _ _ hSw12 ?_
   clear hK K
   have hS:=hSw12
   refine wtl.WT.branch (rs:=[1]) (by kernel_rfl) (by simp) (by decide) ?_
   intro i9 hi9
   obtain rfl:=List.mem_singleton.1 hi9
   refine wtl.op_step rfl (fun K hK => ?_)
   go_simp
   obtain ⟨w13,ew13⟩:∃ W9,w12.alloc (.cells #[] 74)=W9:=⟨_,rfl⟩
   (try rw [ew13])
   have hBw13:Hid (Below W3.heap.size W3 w13):=by rw [←ew13];exact more hBw12.out _
   obtain ⟨gA,egA⟩:∃ g9,w12.heap.size=g9:=⟨_,rfl⟩
   have lgA:W3.heap.size≤gA:=by rw [←egA];exact hBw12.out.size
   have hAw13:Hid (w13.heap[gA]?=some (.cells #[] 74 (0,0))):=by rw [←ew13,←egA];exact heap_alloc_new _ _
   have hFw13:Hid (w13.heap[gF]?=some (.cells #[] 5 (0,0))):=by rw [←ew13];exact heap_alloc_old hFw12.out
   (try rw [egA])
   clear egA
   have hSw13:=HS.out w13 hBw13.out
   refine hK.out _ _ hSw13 ?_
   clear hK K
   have hS:=hSw13
   refine wtl.WT.branch (rs:=[6]) (by kernel_rfl) (by simp) (by decide) ?_
   intro i9 hi9
   obtain rfl:=List.mem_singleton.1 hi9
   refine wtl.op_step rfl (fun K hK => ?_)
   refine step_append_row _ rfl _ _ 26 rfl 74 3 40 _ Tryz.underlying26 info75 rfl (by decide) W3.heap.size _ 0 [] rfl (lit75 hAw13.out lgA) _ L (ls0.flatMap recCells) rfl (HRw.out _ hBw13.out) HOn.out (by omega) (by decide) hBw13.out.size ?_
   intro v1 w14 O1 Gw14
   rw [Nat.zero_add,List.nil_append] at O1
   have hBw14:Hid (Below W3.heap.size W3 w14):=hBw13.out.grown Gw14 hBw13.out.size (fun k hk=>own_ge hk lgA)
   have neC:∀ q:Nat,q≠gA→(Value.slice (some ⟨gA,0,none⟩) 0 0).ownBlock≠some q:=fun q hq e9=>hq (by simpa [Value.ownBlock] using e9.symm)
   obtain ⟨v1o,v1n,v1c,ev1⟩:=own_slice O1
   subst ev1
   have hCw14:Hid (w14.ownsRow W3.heap.size 74 3 (.slice v1o v1n v1c) L (ls0.flatMap recCells)):=O1
   have hFw14:Hid (w14.heap[gF]?=some (.cells #[] 5 (0,0))):=heap_grown Gw14 hFw13.out (neC gF (fun e9=>by have q1:=hFw13.out;rw [e9,hAw13.out] at q1;simp at q1))
   clear O1 neC
   have hSw14:=HS.out w14 hBw14.out
   refine hK.out _ _ hSw14 ?_
   clear hK K
   have hS:=hSw14
   refine wtl.WT.branch (rs:=[20]) (by kernel_rfl) (by simp) (by decide) ?_
   intro i9 hi9
   obtain rfl:=List.mem_singleton.1 hi9
   refine wtl.op_step rfl (fun K hK => ?_)
   refine step_append_row _ rfl _ _ 42 rfl 5 1 1 _ Tryz.underlying42 info5 rfl (by decide) W3.heap.size _ 0 [] rfl (lit5 hFw14.out lgF) _ DL (e.data.map (Value.int .u8)) rfl (HDt.out _ hBw14.out) HDo.out (by omega) (by decide) hBw14.out.size ?_
   intro vb w15 O1 Gw15
   rw [Nat.zero_add,List.nil_append] at O1
   have hBw15:Hid (Below W3.heap.size W3 w15):=hBw14.out.grown Gw15 hBw14.out.size (fun k hk=>own_ge hk lgF)
   have neH:∀ q:Nat,q≠gF→(Value.slice (some ⟨gF,0,none⟩) 0 0).ownBlock≠some q:=fun q hq e9=>hq (by simpa [Value.ownBlock] using e9.symm)
   obtain ⟨vbo,vbn,vbc,evb⟩:=own_slice O1
   subst evb
   have hHw15:Hid (w15.ownsRow W3.heap.size 5 1 (.slice vbo vbn vbc) DL (e.data.map (Value.int .u8))):=O1
   have hCw15:Hid (w15.ownsRow W3.heap.size 74 3 (.slice v1o v1n v1c) L (ls0.flatMap recCells)):=row_grown Gw15 hCw14.out (fun g9 hg9=>neH g9 (fun e9=>row_ne hCw14.out hg9 hFw14.out (by decide) e9.symm))
   clear O1 neH
   have hSw15:=HS.out w15 hBw15.out
   refine hK.out _ _ hSw15 ?_
   clear hK K
   have hS:=hSw15
   refine wtl.WT.takeAt (i:=21) (v := ?_) (some 164) rfl rfl (by kernel_rfl) (fun _ _ _ h=>h) (Or.inl ⟨by rfl,?_⟩) hS ?_
   rotate_left
   ·intro wx hSw
    (try dsimp only at hSw)
    go_simp
    all_goals (with_reducible rfl)
   refine wtl.WT.branch (rs:=[22]) (by kernel_rfl) (by simp) (by decide) ?_
   intro i9 hi9
   obtain rfl:=List.mem_singleton.1 hi9
   refine wtl.op_step rfl (fun K hK => ?_)
   go_simp
   obtain ⟨w16,ew16⟩:∃ W9,w15.alloc (.cells #[.int .i64 x.p.term,.int .i64 ((L:Int)+1),.slice vbo vbn vbc] 74)=W9:=⟨_,rfl⟩
   (try rw [ew16])
   have hBw16:Hid (Below W3.heap.size W3 w16):=by rw [←ew16];exact more hBw15.out _
   obtain ⟨gI,egI⟩:∃ g9,w15.heap.size=g9:=⟨_,rfl⟩
   have hIw16:Hid (w16.heap[gI]?=some (.cells #[.int .i64 x.p.term,.int .i64 ((L:Int)+1),.slice vbo vbn vbc] 74 (0,0))):=by rw [←ew16,←egI];exact heap_alloc_new _ _
   have hHw16:Hid (w16.ownsRow W3.heap.size 5 1 (.slice vbo vbn vbc) DL (e.data.map (Value.int .u8))):=by rw [←ew16];exact row_alloc hHw15.out _
   have hCw16:Hid (w16.ownsRow W3.heap.size 74 3 (.slice v1o v1n v1c) L (ls0.flatMap recCells)):=by rw [←ew16];exact row_alloc hCw15.out _
   (try rw [egI])
   clear egI
   have hSw16:=HS.out w16 hBw16.out
   refine hK.out _ _ hSw16 ?_
   clear hK K
   have hS:=hSw16
   refine wtl.WT.branch (rs:=[23]) (by kernel_rfl) (by simp) (by decide) ?_
   intro i9 hi9
   obtain rfl:=List.mem_singleton.1 hi9
   refine wtl.op_step rfl (fun K hK => ?_)
   refine step_append_row _ rfl _ _ 26 rfl 74 3 40 _ Tryz.underlying26 info75 rfl (by decide) W3.heap.size _ L (ls0.flatMap recCells) rfl hCw16.out _ 1 [.int .i64 x.p.term,.int .i64 ((L:Int)+1),.slice vbo vbn vbc] rfl (lit_rec' _ _ _ _ _ _ _ hIw16.out) (by intro u hu;simp only [List.mem_cons,List.not_mem_nil,or_false] at hu;rcases hu with rfl | rfl | rfl <;> rfl) (by omega) (by decide) hBw16.out.size ?_
   intro v2 w17 O1 Gw17
   have hBw17:Hid (Below W3.heap.size W3 w17):=hBw16.out.grown Gw17 hBw16.out.size (fun k hk=>(row_lt hCw16.out hk).1)
   have hHw17:Hid (w17.ownsRow W3.heap.size 5 1 (.slice vbo vbn vbc) DL (e.data.map (Value.int .u8))):=row_grown Gw17 hHw16.out (fun g9 hg9 e9=>rows_ne hCw16.out e9 hHw16.out hg9 (by decide) rfl)
   obtain ⟨v2o,v2n,v2c,ev2⟩:=own_slice O1
   subst ev2
   have hJw17:Hid (w17.ownsRow W3.heap.size 74 3 (.slice v2o v2n v2c) (L+1) ((ls0.flatMap recCells)++[.int .i64 x.p.term,.int .i64 ((L:Int)+1),.slice vbo vbn vbc])):=O1
   clear O1
   have hSw17:=HS.out w17 hBw17.out
   refine hK.out _ _ hSw17 ?_
   clear hK K
   have hS:=hSw17
   have hfz:=HFr.out w17 hBw17.out
   have hcl:=hS.1
   refine wtl.WT.takeAt (i:=24) (v := ?_) (some 167) rfl rfl (by kernel_rfl) (fun _ _ _ h=>h) (Or.inl ⟨by rfl,?_⟩) hS ?_
   rotate_left
   ·intro wx hSw
    (try dsimp only at hSw)
    go_simp
    all_goals (with_reducible rfl)
   refine wtl.WT.takeAt (i:=25) (v := ?_) (some 168) rfl rfl (by kernel_rfl) (fun _ _ _ h=>h) (Or.inl ⟨by rfl,?_⟩) hS ?_
   rotate_left
   ·intro wx hSw
    (try dsimp only at hSw)
    go_simp
    all_goals (with_reducible rfl)
   refine wtl.WT.last rfl (by kernel_rfl) (by kernel_rfl) (by kernel_rfl) (fun K hK => ?_)
   go_simp
   refine hK.out _ _ ?_
   clear hK K
   generalize hW9:World.setCell w17 _ _=W9
   have HE:=hide (HFin.out w17 _ _ _ _ _ _ hJw17.out hHw17.out hBw17.out W9 hW9)
   clear hW9
   go_wp2_with fail
   go_meet
   exact HE
 case rest =>
  obtain ⟨M2,v2o,v2c,h9⟩:=hcut.out
  obtain ⟨g8,n8,c8,q8,hc8,hin8,hn8,⟨u8,qu⟩,qf,q5',q1',hfin⟩:=HCm.out M2 v2o v2c wc h9
  have HFin:=hide hfin
  have hin8I:(i:Int)<n8:=by omega
  unfold maxLen at hc8
  clear hcut h9 hfin HCm HFin0 HRw0 HP H3 q5 q1 e2 f5 q4 d0 p0 c0 c1 HOn HDo
  go_wp2
  go_region
  generalize hW5:World.drew (World.setCell wc _ _)=W5
  obtain ⟨r1,hr⟩:=HFin.out _ (by first | rfl | (simp;done) | omega) W5 hW5
  have HR:=hide hr
  clear hr hW5 HFin
  go_wp2_with (go_at_call 40;refine HR.out.mono ?_;rintro rr w8 ⟨rfl,hsd⟩)
  go_ret
  exact ⟨rfl,hsd⟩
end Go.Proofs.YtcfdmbkiinjmaaaGreat.sev8
namespace Go.Proofs.YtcfdmbkiinjmaaaGreat.sev0
open Go.ChangeShapes Go.WideShapes Go.ChangeAt Go.RowKit
open Raft mem srun ssend sdown ssmall scopy srecs sapp ssame schos schosen scom sgrow sin sel stk slog sap0 sdl0 sdl3 sdl2
variable {F:Nat→Option Obj}
set_option maxRecDepth 20000 in
set_option maxHeartbeats 2000000 in
theorem event_none (w:World) (M:Fz) (base d P pc:Nat) (c:Cl) (us:List PV) (ns:List MV) (nv:Value) (cs:List RV) (cv:Value) (h:Run (TS F) w M base d P pc c us ns nv cs cv) (e:Ev) (eo:Option Addr) (el ec:Nat) (hkd:¬ (e.kind=1∨e.kind=2∨e.kind=3∨e.kind=4∨e.kind=5∨e.kind=6∨e.kind=7)) :
  Calls Tryz.prog 18 #[.pointer (some ⟨d,0,none⟩),.agg #[.int .i64 e.kind,.int .i64 e.n,.slice eo el ec]] w fun r w'=>r=.returned (.int .i64 (c.event e).2)∧SD F w M base d P pc (c.event e).1 w':=by
 obtain ⟨W,hW⟩:∃ W,w.alloc (.cells #[.int .i64 e.kind,.int .i64 e.n,.slice eo el ec] 48)=W:=⟨_,rfl⟩
 have h0:=St1.begin h hW
 have c0:W.cell? ⟨w.heap.size,0,none⟩=some (.int .i64 e.kind):=cell_of h0.b0 rfl
 have c1:W.cell? ⟨w.heap.size,1,none⟩=some (.int .i64 e.n):=cell_of h0.b0 rfl
 have H0:=hide h0
 have HE:Hid ((c.event e).2=3∧(c.event e).1=c):=by
  unfold Cl.event
  rw [if_neg (fun q=>hkd (by omega)),if_neg (fun q=>hkd (by omega))]
  exact ⟨rfl,rfl⟩
 have k1:(e.kind == 1)=false:=by simp;omega
 have k2:(e.kind == 2)=false:=by simp;omega
 have k3:(e.kind == 3)=false:=by simp;omega
 have k4:(e.kind == 4)=false:=by simp;omega
 have k5:(e.kind == 5)=false:=by simp;omega
 have k6:(e.kind == 6)=false:=by simp;omega
 have k7:(e.kind == 7)=false:=by simp;omega
 rw [HE.out.1,HE.out.2]
 clear h h0 hkd HE
 go_enter Tryz.func18,Tryz.ntmps18
 go_wp2
 (try rw [hW])
 go_ret
 exact ⟨rfl,H0.out.sd⟩
end Go.Proofs.YtcfdmbkiinjmaaaGreat.sev0
