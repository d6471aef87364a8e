import Derived.Test.YtcfdmbkiinjmaaaGreatZ06
import Derived.Laws.BytesString
import Derived.Laws.IdiomStrings
import Derived.Lib.BufferRead
set_option linter.unusedVariables false
open Go.ChangeShapes Go.WideShapes Go.ChangeAt Go.RowKit
namespace Go.Proofs.YtcfdmbkiinjmaaaGreat.scopy
open Raft mem srun ssend sdown ssmall
variable {F:Nat→Option Obj}
theorem info5:(Tryz.prog.info? 5).map (fun i=>(i.zero,i.size,i.bytes))=some (some (.int .u8 0),1,1):=by kernel_rfl
theorem lit5 {w:World} {k base:Nat} (h:w.heap[k]?=some (.cells #[] 5 (0,0))) (hb:base≤k):w.ownsRow base 5 1 (.slice (some ⟨k,0,none⟩) 0 0) 0 [] :=
 ⟨rfl,.inr ⟨k,0,#[],rfl,hb,h,Nat.le_refl _,by simp [maxLen],by simp,by simp⟩⟩
theorem bytes_one (xs:List Int):∀ y∈xs.map (Value.int .u8),y.oneCell'=true:=by
 intro y hy
 obtain ⟨z,_,rfl⟩:=List.mem_map.1 hy
 rfl
theorem set_at {w:World} {b t:Nat} {cur cur':Array Value} (h:w.heap[b]?=some (.cells cur t (0,0))) (i:Nat) (x:Value) (hc:cur.setIfInBounds i x=cur'):(w.setCell ⟨b,i,none⟩ x).heap[b]?=some (.cells cur' t (0,0)):=by
 rw [←hc];exact heap_setCell_same w b i cur t x h
theorem freezeT {M:Fz} {w:World} {base e sz:Nat} {v:Value} {n:Nat} {xs:List Value} (h:w.ownsRow base e sz v n xs) (hI:In M w) (hM:∀ g,v.ownBlock=some g→M g=none) :
  ∃ M',Le M M'∧In M' w∧RowM M' v n sz xs∧∀ b o,M' b=some o→M b=some o∨(v.ownBlock=some b∧∃ cur fr,o=.cells cur e fr):=by
 obtain ⟨h1,⟨rfl,rfl⟩|⟨g,cap,cur,rfl,hb,hg,hnc,hcm,hcs,ht⟩⟩:=h
 ·obtain rfl:xs=[]:=List.length_eq_zero_iff.1 (by omega)
  exact ⟨M,Le.refl M,hI,RowM.nil M sz,fun b o hb=>.inl hb⟩
 ·refine ⟨add M g (.cells cur e (0,0)),Le.add (hM g rfl) _,hI.add hg,⟨_,cap,rfl,hnc,hcm,h1,(fun h=>by cases h),fun hp=>⟨g,0,rfl,fun i v hv => ?_⟩⟩,fun b o hb => ?_⟩
  ·have hi:i<n*sz:=by rw [←h1];exact (List.getElem?_eq_some_iff.1 hv).1
   rw [←ht,List.getElem?_take_of_lt hi] at hv
   simp only [cellM,add_at,Nat.zero_add]
   simpa using hv
  ·by_cases e':b=g
   ·subst e'
    rw [add_at] at hb
    exact .inr ⟨by simp [Value.ownBlock],cur,(0,0),(Option.some.inj hb).symm⟩
   ·rw [add_other e'] at hb;exact .inl hb
def Copied (w:World) (M:Fz) (t i:Int) (xs:List Int) (r:Ending) (w':World):Prop :=
 ∃ M' o n c,r=.returned (.agg #[.int .i64 t,.int .i64 i,.slice o n c])∧Le M M'∧In M' w'∧BytesM M' (.slice o n c) xs∧Below w.heap.size w w'∧∀ b ob,M' b=some ob→M b=some ob∨(w.heap.size≤b∧∃ cur fr,ob=.cells cur 5 fr)
set_option maxRecDepth 20000 in
set_option maxHeartbeats 4000000 in
theorem copy_any (w:World) (M:Fz) (hI:In M w) (t i:Int) (xs:List Int) (hx:xs.length≤1000) (o:Option Addr) (n c:Nat) (hb:BytesM M (.slice o n c) xs) :
  Calls Tryz.prog 62 #[.agg #[.int .i64 t,.int .i64 i,.slice o n c]] w (Copied w M t i xs):=by
 obtain ⟨W0,hW0⟩:∃ X,X=w.alloc (.cells #[.int .i64 t,.int .i64 i,.slice o n c] 74):=⟨_,rfl⟩
 obtain ⟨W,hW⟩:∃ X,X=W0.alloc (.cells #[.int .i64 0,.int .i64 0,.slice none 0 0] 74):=⟨_,rfl⟩
 have z0:W0.heap.size=w.heap.size+1:=by rw [hW0];simp
 have z1:W.heap.size=w.heap.size+2:=by rw [hW];simp [z0]
 have b0:Below w.heap.size w W0:=by rw [hW0];exact (Below.refl _ _).alloc (Nat.le_refl _) _
 have bW:Below w.heap.size w W:=by rw [hW];exact b0.alloc b0.size _
 have k0:W.heap[w.heap.size]?=some (.cells #[.int .i64 t,.int .i64 i,.slice o n c] 74 (0,0)):=by rw [hW,Below.heap_alloc _ _ _ (by omega),hW0];exact heap_alloc_new w _
 have k1:W.heap[w.heap.size+1]?=some (.cells #[.int .i64 0,.int .i64 0,.slice none 0 0] 74 (0,0)):=by rw [hW];exact new_at z0
 have hIW:=hI.below bW
 have hn:n=xs.length:=by
  obtain ⟨⟨ao,cap,e,_⟩,_⟩:=hb
  simp only [Value.slice.injEq] at e
  exact e.2.1
 have HK:Hid (∀ wx,Below W.heap.size W wx→wx.heap[w.heap.size]?=some (.cells #[.int .i64 t,.int .i64 i,.slice o n c] 74 (0,0))∧wx.heap[w.heap.size+1]?=some (.cells #[.int .i64 0,.int .i64 0,.slice none 0 0] 74 (0,0))):=fun wx h=>⟨kept h k0 (Nat.le_refl _),kept h k1 (Nat.le_refl _)⟩
 have HRow:Hid (∀ wx,Below W.heap.size W wx→RowW wx (.slice o n c) n 1 (xs.map (Value.int .u8))):=fun wx h=>by
  rw [hn] at hb ⊢
  exact (RowM.world hb.1 hIW).below h
 have HFin:Hid (∀ w1 vo vn vc,w1.ownsRow W.heap.size 5 1 (.slice vo vn vc) n (xs.map (Value.int .u8))→Below W.heap.size W w1 →
   Copied w M t i xs (.returned (.agg #[.int .i64 t,.int .i64 i,.slice vo vn vc])) (((w1.setCell ⟨w.heap.size+1,0,none⟩ (.int .i64 t)).setCell ⟨w.heap.size+1,1,none⟩ (.int .i64 i)).setCell ⟨w.heap.size+1,2,none⟩ (.slice vo vn vc)) ∧
   (((w1.setCell ⟨w.heap.size+1,0,none⟩ (.int .i64 t)).setCell ⟨w.heap.size+1,1,none⟩ (.int .i64 i)).setCell ⟨w.heap.size+1,2,none⟩ (.slice vo vn vc)).heap[w.heap.size+1]?=some (.cells #[.int .i64 t,.int .i64 i,.slice vo vn vc] 74 (0,0))):=fun w1 vo vn vc hO hB=>by
  have hk:=(HK.out w1 hB).2
  have e0:(w1.setCell ⟨w.heap.size+1,0,none⟩ (.int .i64 t)).heap[w.heap.size+1]?=some (.cells #[.int .i64 t,.int .i64 0,.slice none 0 0] 74 (0,0)):=set_at hk 0 _ rfl
  have e1:((w1.setCell ⟨w.heap.size+1,0,none⟩ (.int .i64 t)).setCell ⟨w.heap.size+1,1,none⟩ (.int .i64 i)).heap[w.heap.size+1]?=some (.cells #[.int .i64 t,.int .i64 i,.slice none 0 0] 74 (0,0)):=set_at e0 1 _ rfl
  have g3:w1.grownBy (((w1.setCell ⟨w.heap.size+1,0,none⟩ (.int .i64 t)).setCell ⟨w.heap.size+1,1,none⟩ (.int .i64 i)).setCell ⟨w.heap.size+1,2,none⟩ (.slice vo vn vc)) (some (w.heap.size+1)):=gtrans (gtrans (set_grown _ _ _ _) (set_grown _ _ _ _)) (set_grown _ _ _ _)
  obtain ⟨M',hl,hI',hr,hd'⟩:=freezeT hO (hIW.below hB) (fun g hg=>hIW.fresh (row_lt hO hg).1)
  have hdom:∀ b ob,M' b=some ob→M b=some ob∨(W.heap.size≤b∧∃ cur fr,ob=.cells cur 5 fr):=fun b ob hb=>(hd' b ob hb).imp id (fun e=>⟨(row_lt hO e.1).1,e.2⟩)
  have hres:M' (w.heap.size+1)=none:=by
   cases e:M' (w.heap.size+1) with
   | none=>rfl
   | some ob =>
    rcases hdom _ _ e with h | h
    ·have:=hI.fresh (b:=w.heap.size+1) (by omega)
     rw [h] at this;cases this
    ·omega
  refine ⟨⟨M',vo,vn,vc,rfl,hl,hI'.grown g3 (fun k hk=>by simp only [Option.some.injEq] at hk;rw [←hk];exact hres),⟨by rw [←hn];exact hr,hb.2⟩,?_,fun b ob hb=>(hdom b ob hb).imp id (fun e=>⟨by omega,e.2⟩)⟩,set_at e1 2 _ rfl⟩
  exact (bW.trans (hB.mono (by omega))).grown g3 (by have:=hB.size;omega) (fun k hk=>by simp only [Option.some.injEq] at hk;omega)
 have x0:=cell_of (i:=0) k0 rfl
 have x1:=cell_of (i:=1) k0 rfl
 have x2:=cell_of (i:=2) k0 rfl
 have y0:=fun ob=>cell_of (i:=0) (HK.out _ (more (Below.refl _ _) ob)).1 rfl
 have y1:=fun ob=>cell_of (i:=1) (HK.out _ (more (Below.refl _ _) ob)).1 rfl
 have y2:=fun ob=>cell_of (i:=2) (HK.out _ (more (Below.refl _ _) ob)).1 rfl
 have HN:Hid (n≤1000):=by unfold Hid;omega
 clear k0 k1 hIW b0 bW hn z0 z1 hI hb
 rw [hW,hW0] at x0 x1 x2 y0 y1 y2
 go_enter Tryz.func62,Tryz.ntmps62
 go_wp2
 rw [←hW0,←hW] at x0 x1 x2 y0 y1 y2 ⊢
 clear hW0 hW
 go_region_law (first
  | (refine step_append_row _ rfl _ _ 42 rfl 5 1 1 _ Tryz.underlying42 info5 rfl (by decide) W.heap.size _ 0 [] rfl (lit5 (by first | exact new_at (by first | rfl | simp)) (by first | exact Nat.le_refl _ | omega | (simp;done))) _ n (xs.map (Value.int .u8)) rfl (HRow.out _ (by first | exact Below.refl _ _ | exact (Below.refl _ _).drew | exact more (Below.refl _ _) _ | exact (more (Below.refl _ _) _).drew | exact more (Below.refl _ _).drew _)) (bytes_one xs) (by have:=HN.out;omega) (by decide) (by first | omega | (simp;done) | (simp;omega)) ?_
     intro v1 w1 O1 G1
     have H1:Hid (w1.ownsRow W.heap.size 5 1 v1 n (xs.map (Value.int .u8))∧Below W.heap.size W w1):=⟨by simpa using O1,Below.grown (B:=W.heap.size) (by first | exact Below.refl _ _ | exact (Below.refl _ _).drew | exact more (Below.refl _ _) _ | exact (more (Below.refl _ _) _).drew | exact more (Below.refl _ _).drew _) G1 (by first | omega | (simp;done) | (simp;omega)) (fun k hk=>own_ge hk (by first | exact Nat.le_refl _ | omega | (simp;done)))⟩
     obtain ⟨vo,vn,vc,ev⟩:∃ a b c,v1=.slice a b c:=by
      obtain ⟨_,⟨e1,e2⟩|⟨g,cap,cur,e1,_⟩⟩:=O1
      ·exact ⟨_,_,_,e1⟩
      ·exact ⟨_,_,_,e1⟩
     subst ev
     have p0:=cell_of (i:=0) (HK.out _ H1.out.2).1 rfl
     have p1:=cell_of (i:=1) (HK.out _ H1.out.2).1 rfl
     have r0:=cell_of (i:=0) (HK.out _ H1.out.2).2 rfl
     have r1:=cell_of (i:=1) (HK.out _ H1.out.2).2 rfl
     have r2:=cell_of (i:=2) (HK.out _ H1.out.2).2 rfl
     have f0:=frozen_of (HK.out _ H1.out.2).2 0
     have f1:=frozen_of (HK.out _ H1.out.2).2 1
     have f2:=frozen_of (HK.out _ H1.out.2).2 2
     clear O1 G1))
 all_goals
  have hF:=HFin.out w1 vo vn vc H1.out.1 H1.out.2
  have HC:=hide hF.1
  have g0:=cell_of (i:=0) hF.2 rfl
  have g1:=cell_of (i:=1) hF.2 rfl
  have g2:=cell_of (i:=2) hF.2 rfl
  clear hF
  go_wp2
  exact bodyPost_ret (v:=.agg #[.int .i64 t,.int .i64 i,.slice vo vn vc]) (by simp [results,Tryz.results62,go_sem,g0,g1,g2]) rfl HC.out
end Go.Proofs.YtcfdmbkiinjmaaaGreat.scopy
