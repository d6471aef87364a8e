import Derived.Test.YtcfdmbkiinjmaaaGreatZ03
import Derived.Laws.EntriesVeiled
import Derived.Deep.RegionHeldLaw
set_option linter.unusedVariables false
open Go.ChangeShapes Go.WideShapes Go.ChangeAt Go.RowKit
namespace Go.Proofs.YtcfdmbkiinjmaaaGreat.ntold
open Raft mem grp YtcfdmbkiinjmaaaGreat.look ndw grant stand rows2 clone behind post copy msgs postb own
theorem below_set {w W:World} (h:Below w.heap.size w W) (i:Nat) (u:Value):Below w.heap.size w (W.setCell ⟨w.heap.size,i,none⟩ u):=h.setCell (Nat.le_refl _) u
set_option maxRecDepth 20000 in
set_option maxHeartbeats 2000000 in
theorem ntold_any (w:World) (M:Fz) (O:Lb) (b k:Nat) (p:Peer) (st:Sta M O w) (h:Nod w M O b k p) (hl:p.log.length≤1000) (hv:p.votes.length≤1000) (hn9:p.next.length≤1000) (hm9:p.mat.length≤1000) :
  Calls Tryz.prog 47 #[.pointer (some ⟨b,0,none⟩)] w fun r w'=>ToldE w M p r w':=by
 obtain ⟨us,lv,vv,nv,mv,hn⟩:=h
 obtain ⟨lo,lc,rfl⟩:=own_slice hn.log
 obtain ⟨vo,vc,rfl⟩:=own_slice hn.votes
 obtain ⟨no,nc,rfl⟩:=own_slice hn.next
 obtain ⟨mo,mc,rfl⟩:=own_slice hn.mat
 have hbl:=(st.ok b _ hn.own).2
 obtain ⟨W,hW⟩:∃ W,w.alloc (.cells #[.bool false,.int .i64 0,.int .i64 0,.int .i64 0,.int .i64 0,.slice none 0 0,.slice none 0 0,.slice none 0 0,.slice none 0 0] 66)=W:=⟨_,rfl⟩
 have bW:Below w.heap.size w W:=by rw [←hW];exact more (Below.refl _ _) _
 have sW:W.heap.size=w.heap.size+1:=by rw [←hW];exact World.size_alloc ..
 have hbx:W.heap[w.heap.size]?=some (.cells #[.bool false,.int .i64 0,.int .i64 0,.int .i64 0,.int .i64 0,.slice none 0 0,.slice none 0 0,.slice none 0 0,.slice none 0 0] 66 (0,0)):=by rw [←hW];exact heap_alloc_new w _
 obtain ⟨ln,eln⟩:∃ ln,ln=us.length:=⟨_,rfl⟩
 obtain ⟨vn,evn⟩:∃ vn,vn=p.votes.length:=⟨_,rfl⟩
 obtain ⟨nn,enn⟩:∃ nn,nn=p.next.length:=⟨_,rfl⟩
 obtain ⟨mn,emn⟩:∃ mn,mn=p.mat.length:=⟨_,rfl⟩
 have hF0:FP W M W M:=FP.refl (st.inn.below bW)
 have kp:∀ wx,Below W.heap.size W wx→Below w.heap.size w wx:=fun wx hx=>bW.trans (hx.mono bW.size)
 have HC:Hid (∀ wx,Below W.heap.size W wx→(wx.cell? ⟨b,0,none⟩=some (.int .i64 p.term)∧wx.cell? ⟨b,1,none⟩=some (.int .i64 p.vote)∧wx.cell? ⟨b,2,none⟩=some (.slice lo ln lc)∧wx.cell? ⟨b,3,none⟩=some (.int .i64 k)∧wx.cell? ⟨b,4,none⟩=some (.bool p.up)∧wx.cell? ⟨b,5,none⟩=some (.int .i64 p.commit)∧wx.cell? ⟨b,6,none⟩=some (.int .i64 p.role)∧wx.cell? ⟨b,7,none⟩=some (.slice vo vn vc)∧wx.cell? ⟨b,8,none⟩=some (.slice no nn nc)∧wx.cell? ⟨b,9,none⟩=some (.slice mo mn mc))):=fun wx hx=>by
  have hb2:wx.heap[b]?=some (.cells #[.int .i64 p.term,.int .i64 p.vote,.slice lo ln lc,.int .i64 k,.bool p.up,.int .i64 p.commit,.int .i64 p.role,.slice vo vn vc,.slice no nn nc,.slice mo mn mc] 89 (0,0)):=by
   rw [eln,evn,enn,emn]
   exact ((kp wx hx).block b hbl).trans hn.blk
  exact ⟨cell_of hb2 rfl,cell_of hb2 rfl,cell_of hb2 rfl,cell_of hb2 rfl,cell_of hb2 rfl,cell_of hb2 rfl,cell_of hb2 rfl,cell_of hb2 rfl,cell_of hb2 rfl,cell_of hb2 rfl⟩
 have HZ:Hid (∀ wx,Below W.heap.size W wx→wx.heap[w.heap.size]?=some (.cells #[.bool false,.int .i64 0,.int .i64 0,.int .i64 0,.int .i64 0,.slice none 0 0,.slice none 0 0,.slice none 0 0,.slice none 0 0] 66 (0,0))):=fun wx hx=>(hx.block _ (by omega)).trans hbx
 have HLg:Hid (∀ wx,FP W M wx M→Calls Tryz.prog 46 #[.slice lo ln lc] wx fun r w'=>∃ (a1:Option Addr) (a2 a3:Nat),r=.returned (.slice a1 a2 a3)∧Hid (∃ M' us,FP W M w' M'∧us.map (·.r)=p.log∧RecsS M' W.heap.size (.slice a1 a2 a3) us)):=fun wx hx=>by
  rw [eln]
  refine (copyRecs_any wx M _ us hx.inn (RecsR.own (row_kept hn.log (fun g hg=>(kp wx hx.below).block g (row_lt hn.log hg).2))) hn.data (by have:=congrArg List.length hn.recs;rw [List.length_map] at this;omega)).mono ?_
  rintro r w' ⟨M',o,n,lc,qs,rfl,q1,q2,q3,q6,q4,q5⟩
  rw [hn.recs] at q3
  exact ⟨o,n,lc,rfl,M',qs,hx.trans ⟨q1,q2,q4,q5⟩,q3,q6.mono hx.below.size⟩
 have HVt:Hid (∀ wx M1,FP W M wx M1→Calls Tryz.prog 71 #[.slice vo vn vc] wx fun r w'=>∃ (b1:Option Addr) (b2 b3:Nat),r=.returned (.slice b1 b2 b3)∧Hid (∃ M',FP W M w' M'∧Le M1 M'∧RowM M' (.slice b1 b2 b3) p.votes.length 1 (p.votes.map Value.bool)∧Own1 M' wx.heap.size 4 (.slice b1 b2 b3)∧W.heap.size≤wx.heap.size∧In M1 wx)):=fun wx M1 hx=>by
  rw [evn]
  refine (cloneB wx _ p.votes (row_kept hn.votes (fun g hg=>(kp wx hx.below).block g (row_lt hn.votes hg).2)) hv).mono ?_
  intro r w' hc
  obtain ⟨o,n,c,rfl,M2,q1,q2,q3,q4⟩:=hx.clone hc
  exact ⟨o,n,c,rfl,M2,q1,q2,q3,q4,hx.below.size,hx.inn⟩
 have HNx:Hid (∀ wx M1,FP W M wx M1→Calls Tryz.prog 72 #[.slice no nn nc] wx fun r w'=>∃ (c1:Option Addr) (c2 c3:Nat),r=.returned (.slice c1 c2 c3)∧Hid (∃ M',FP W M w' M'∧Le M1 M'∧RowM M' (.slice c1 c2 c3) p.next.length 1 (p.next.map (fun (n:Nat)=>Value.int .i64 (n:Int)))∧Own1 M' wx.heap.size 3 (.slice c1 c2 c3)∧W.heap.size≤wx.heap.size∧In M1 wx)):=fun wx M1 hx=>by
  rw [enn]
  refine (cloneI wx _ p.next (row_kept hn.next (fun g hg=>(kp wx hx.below).block g (row_lt hn.next hg).2)) hn9).mono ?_
  intro r w' hc
  obtain ⟨o,n,c,rfl,M2,q1,q2,q3,q4⟩:=hx.clone hc
  exact ⟨o,n,c,rfl,M2,q1,q2,q3,q4,hx.below.size,hx.inn⟩
 have HMt:Hid (∀ wx M1,FP W M wx M1→Calls Tryz.prog 72 #[.slice mo mn mc] wx fun r w'=>∃ (d1:Option Addr) (d2 d3:Nat),r=.returned (.slice d1 d2 d3)∧Hid (∃ M',FP W M w' M'∧Le M1 M'∧RowM M' (.slice d1 d2 d3) p.mat.length 1 (p.mat.map (fun (n:Nat)=>Value.int .i64 (n:Int)))∧Own1 M' wx.heap.size 3 (.slice d1 d2 d3)∧W.heap.size≤wx.heap.size∧In M1 wx)):=fun wx M1 hx=>by
  rw [emn]
  refine (cloneI wx _ p.mat (row_kept hn.mat (fun g hg=>(kp wx hx.below).block g (row_lt hn.mat hg).2)) hm9).mono ?_
  intro r w' hc
  obtain ⟨o,n,c,rfl,M2,q1,q2,q3,q4⟩:=hx.clone hc
  exact ⟨o,n,c,rfl,M2,q1,q2,q3,q4,hx.below.size,hx.inn⟩
 have HF:Hid (∀ wx M' us (a1:Option Addr) (a2 a3:Nat) (b1:Option Addr) (b2 b3:Nat) (c1:Option Addr) (c2 c3:Nat) (d1:Option Addr) (d2 d3:Nat),FP W M wx M'→PeerS M' W.heap.size ⟨p,.slice a1 a2 a3,.slice b1 b2 b3,.slice c1 c2 c3,.slice d1 d2 d3,us⟩→ToldE w M p (.returned (.agg #[.bool p.up,.int .i64 p.term,.int .i64 p.vote,.int .i64 p.commit,.int .i64 p.role,.slice a1 a2 a3,.slice b1 b2 b3,.slice c1 c2 c3,.slice d1 d2 d3])) (sets wx w.heap.size [(0,.bool p.up),(1,.int .i64 p.term),(2,.int .i64 p.vote),(3,.int .i64 p.commit),(4,.int .i64 p.role),(5,.slice a1 a2 a3),(6,.slice b1 b2 b3),(7,.slice c1 c2 c3),(8,.slice d1 d2 d3)])):=fun wx M' us a1 a2 a3 b1 b2 b3 c1 c2 c3 d1 d2 d3 hf hp=>by
  refine ⟨a1,a2,a3,b1,b2,b3,c1,c2,c3,d1,d2,d3,rfl,M',us,⟨hf.le,?_,?_,fun b hb => ?_⟩,hp.mono (by omega)⟩
  ·intro x o hx
   refine (sets_ne _ wx ?_).trans (hf.inn x o hx)
   rintro rfl
   rcases hf.new _ (by rw [hx];simp) with g | g
   ·exact g (st.inn.fresh (Nat.le_refl _))
   ·omega
  ·exact sets_below w wx (kp wx hf.below) _ _ (kp wx hf.below)
  ·rcases hf.new b hb with g | g
   ·exact .inl g
   ·exact .inr (by omega)
 have HJ:Hid (∀ (wa wb wc wd wx:World) (M1 M2 M3 M4:Fz) (qs:List RV) (a1:Option Addr) (a2 a3:Nat) (b1:Option Addr) (b2 b3:Nat) (c1:Option Addr) (c2 c3:Nat) (d1:Option Addr) (d2 d3:Nat),(qs.map (·.r)=p.log∧RecsS M1 W.heap.size (.slice a1 a2 a3) qs)→(Le M1 M2∧RowM M2 (.slice b1 b2 b3) p.votes.length 1 (p.votes.map Value.bool)∧Own1 M2 wb.heap.size 4 (.slice b1 b2 b3)∧W.heap.size≤wb.heap.size∧In M1 wb)→(Le M2 M3∧RowM M3 (.slice c1 c2 c3) p.next.length 1 (p.next.map (fun (n:Nat)=>Value.int .i64 (n:Int)))∧Own1 M3 wc.heap.size 3 (.slice c1 c2 c3)∧W.heap.size≤wc.heap.size∧In M2 wc)→FP W M wx M4→(Le M3 M4∧RowM M4 (.slice d1 d2 d3) p.mat.length 1 (p.mat.map (fun (n:Nat)=>Value.int .i64 (n:Int)))∧Own1 M4 wd.heap.size 3 (.slice d1 d2 d3)∧W.heap.size≤wd.heap.size∧In M3 wd)→ToldE w M p (.returned (.agg #[.bool p.up,.int .i64 p.term,.int .i64 p.vote,.int .i64 p.commit,.int .i64 p.role,.slice a1 a2 a3,.slice b1 b2 b3,.slice c1 c2 c3,.slice d1 d2 d3])) (sets wx w.heap.size [(0,.bool p.up),(1,.int .i64 p.term),(2,.int .i64 p.vote),(3,.int .i64 p.commit),(4,.int .i64 p.role),(5,.slice a1 a2 a3),(6,.slice b1 b2 b3),(7,.slice c1 c2 c3),(8,.slice d1 d2 d3)])):=fun wa wb wc wd wx M1 M2 M3 M4 qs a1 a2 a3 b1 b2 b3 c1 c2 c3 d1 d2 d3 h1 h2 h3 f4 h4=>by
  obtain ⟨e1,r1⟩:=h1
  obtain ⟨l2,r2,o2,z2,i2⟩:=h2
  obtain ⟨l3,r3,o3,z3,i3⟩:=h3
  obtain ⟨l4,r4,o4,z4,i4⟩:=h4
  have l24:=l3.trans l4
  refine HF.out wx M4 qs a1 a2 a3 b1 b2 b3 c1 c2 c3 d1 d2 d3 f4 ⟨r1.le (l2.trans l24),e1,⟨r2.le l24,(o2.le l24).mono z2⟩,⟨r3.le l4,(o3.le l4).mono z3⟩,⟨r4,o4.mono z4⟩,?_⟩
  have up:∀ {A B:Fz},Le A B→∀ b,A b≠none→B b≠none:=fun hl b hb=>by
   obtain ⟨o,ho⟩:=Option.ne_none_iff_exists'.1 hb
   rw [hl b o ho]
   simp
  refine nd_app r1.nd (nd_app (ownB_nd _) (nd_app (ownB_nd _) (ownB_nd _) ?_) ?_) ?_
  ·intro b hb
   exact later o4 i4 (o3.blk hb).2
  ·intro b hb hb2
   rcases List.mem_append.1 hb2 with hb2 | hb2
   ·exact later o3 i3 (o2.blk hb).2 hb2
   ·exact later o4 i4 (up l3 b (o2.blk hb).2) hb2
  ·intro b hb hb2
   have hb1:=(r1.blk hb).2
   rcases List.mem_append.1 hb2 with hb2 | hb2
   ·exact later o2 i2 hb1 hb2
   ·rcases List.mem_append.1 hb2 with hb2 | hb2
    ·exact later o3 i3 (up l2 b hb1) hb2
    ·exact later o4 i4 (up l3 b (up l2 b hb1)) hb2
 have HF0:=hide hF0
 have HKp:=hide kp
 have HS7:Hid (∀ wx,Below w.heap.size w wx→(wx.cell? ⟨b,0,none⟩=some (.int .i64 p.term)∧wx.cell? ⟨b,1,none⟩=some (.int .i64 p.vote)∧wx.cell? ⟨b,2,none⟩=some (.slice lo ln lc)∧wx.cell? ⟨b,3,none⟩=some (.int .i64 k)∧wx.cell? ⟨b,4,none⟩=some (.bool p.up)∧wx.cell? ⟨b,5,none⟩=some (.int .i64 p.commit)∧wx.cell? ⟨b,6,none⟩=some (.int .i64 p.role)∧wx.cell? ⟨b,7,none⟩=some (.slice vo vn vc)∧wx.cell? ⟨b,8,none⟩=some (.slice no nn nc)∧wx.cell? ⟨b,9,none⟩=some (.slice mo mn mc))∧Below w.heap.size w wx):=fun wx hx=>by
  have hb2:wx.heap[b]?=some (.cells #[.int .i64 p.term,.int .i64 p.vote,.slice lo ln lc,.int .i64 k,.bool p.up,.int .i64 p.commit,.int .i64 p.role,.slice vo vn vc,.slice no nn nc,.slice mo mn mc] 89 (0,0)):=by
   rw [eln,evn,enn,emn]
   exact (hx.block b hbl).trans hn.blk
  exact ⟨⟨cell_of hb2 rfl,cell_of hb2 rfl,cell_of hb2 rfl,cell_of hb2 rfl,cell_of hb2 rfl,cell_of hb2 rfl,cell_of hb2 rfl,cell_of hb2 rfl,cell_of hb2 rfl,cell_of hb2 rfl⟩,hx⟩
 have hbW:=hide bW
 clear hn st hbx bW kp hF0 eln evn enn emn hl hv hn9 hm9 HC sW hbl
 go_enter Tryz.func47,Tryz.ntmps47
 go_wp2
 go_region_held_law (fun wx=>(wx.cell? ⟨b,0,none⟩=some (.int .i64 p.term)∧wx.cell? ⟨b,1,none⟩=some (.int .i64 p.vote)∧wx.cell? ⟨b,2,none⟩=some (.slice lo ln lc)∧wx.cell? ⟨b,3,none⟩=some (.int .i64 k)∧wx.cell? ⟨b,4,none⟩=some (.bool p.up)∧wx.cell? ⟨b,5,none⟩=some (.int .i64 p.commit)∧wx.cell? ⟨b,6,none⟩=some (.int .i64 p.role)∧wx.cell? ⟨b,7,none⟩=some (.slice vo vn vc)∧wx.cell? ⟨b,8,none⟩=some (.slice no nn nc)∧wx.cell? ⟨b,9,none⟩=some (.slice mo mn mc))∧Below w.heap.size w wx)
  ((refine HS7.out _ ?_;first | (with_reducible assumption) | (with_reducible exact hbW.out) | (with_reducible exact hbW.out.drew) | (refine (below_set (below_set (below_set (below_set (below_set (below_set (below_set (below_set (below_set ?_ _ _) _ _) _ _) _ _) _ _) _ _) _ _) _ _) _ _);with_reducible assumption)))
  (first
  | (go_at_call 46;refine (HLg.out _ (HF0.out.more (by first | exact (Below.refl _ _).drew | exact Below.refl _ _))).mono ?_;rintro rr w1 ⟨a1,a2,a3,rfl,H1⟩;have hb1:Below w.heap.size w w1:=(by obtain ⟨_,_,q,_⟩:=H1.out;exact HKp.out _ q.below))
  | (go_at_call 71;obtain ⟨M1,qs,f1,g1⟩:=H1.out;refine (HVt.out _ M1 f1).mono ?_;rintro rr w2 ⟨b1,b2,b3,rfl,H2⟩;have hb2:Below w.heap.size w w2:=(by obtain ⟨_,q,_⟩:=H2.out;exact HKp.out _ q.below);have G1:=hide g1;clear f1 g1)
  | (go_at_call 72;obtain ⟨M2,f2,g2⟩:=H2.out;refine (HNx.out _ M2 f2).mono ?_;rintro rr w3 ⟨c1,c2,c3,rfl,H3⟩;have hb3:Below w.heap.size w w3:=(by obtain ⟨_,q,_⟩:=H3.out;exact HKp.out _ q.below);have G2:=hide g2;clear f2 g2)
  | (go_at_call 72;obtain ⟨M3,f3,g3⟩:=H3.out;refine (HMt.out _ M3 f3).mono ?_;rintro rr w4 ⟨d1,d2,d3,rfl,H4⟩;obtain ⟨M4,f4,g4⟩:=H4.out;have hb4:Below w.heap.size w w4:=HKp.out _ f4.below;have HT:=hide (HJ.out w4 _ _ _ w4 M1 M2 M3 M4 qs a1 a2 a3 b1 b2 b3 c1 c2 c3 d1 d2 d3 G1.out G2.out g3 f4 g4);have hz:=HZ.out w4 f4.below;clear f4 g3 g4 f3;have HBX:=hide hz;have zz0:=cell_of (i:=0) hz (v:=.bool false) rfl;have zf0:=frozen_of hz 0;have zz1:=cell_of (i:=1) hz (v:=.int .i64 0) rfl;have zf1:=frozen_of hz 1;have zz2:=cell_of (i:=2) hz (v:=.int .i64 0) rfl;have zf2:=frozen_of hz 2;have zz3:=cell_of (i:=3) hz (v:=.int .i64 0) rfl;have zf3:=frozen_of hz 3;have zz4:=cell_of (i:=4) hz (v:=.int .i64 0) rfl;have zf4:=frozen_of hz 4;have zz5:=cell_of (i:=5) hz (v:=.slice none 0 0) rfl;have zf5:=frozen_of hz 5;have zz6:=cell_of (i:=6) hz (v:=.slice none 0 0) rfl;have zf6:=frozen_of hz 6;have zz7:=cell_of (i:=7) hz (v:=.slice none 0 0) rfl;have zf7:=frozen_of hz 7;have zz8:=cell_of (i:=8) hz (v:=.slice none 0 0) rfl;have zf8:=frozen_of hz 8;clear hz))
 all_goals
  go_wp2
  obtain ⟨WF,hWF⟩:∃ WF,sets w4 w.heap.size [(0,.bool p.up),(1,.int .i64 p.term),(2,.int .i64 p.vote),(3,.int .i64 p.commit),(4,.int .i64 p.role),(5,.slice a1 a2 a3),(6,.slice b1 b2 b3),(7,.slice c1 c2 c3),(8,.slice d1 d2 d3)]=WF:=⟨_,rfl⟩
  have hblk:WF.heap[w.heap.size]?=some (.cells #[.bool p.up,.int .i64 p.term,.int .i64 p.vote,.int .i64 p.commit,.int .i64 p.role,.slice a1 a2 a3,.slice b1 b2 b3,.slice c1 c2 c3,.slice d1 d2 d3] 66 (0,0)):=by
   rw [←hWF]
   have q2:=sets_at [(0,.bool p.up),(1,.int .i64 p.term),(2,.int .i64 p.vote),(3,.int .i64 p.commit),(4,.int .i64 p.role),(5,.slice a1 a2 a3),(6,.slice b1 b2 b3),(7,.slice c1 c2 c3),(8,.slice d1 d2 d3)] HBX.out
   have e:setsA #[.bool false,.int .i64 0,.int .i64 0,.int .i64 0,.int .i64 0,.slice none 0 0,.slice none 0 0,.slice none 0 0,.slice none 0 0] [(0,.bool p.up),(1,.int .i64 p.term),(2,.int .i64 p.vote),(3,.int .i64 p.commit),(4,.int .i64 p.role),(5,.slice a1 a2 a3),(6,.slice b1 b2 b3),(7,.slice c1 c2 c3),(8,.slice d1 d2 d3)]=#[.bool p.up,.int .i64 p.term,.int .i64 p.vote,.int .i64 p.commit,.int .i64 p.role,.slice a1 a2 a3,.slice b1 b2 b3,.slice c1 c2 c3,.slice d1 d2 d3]:=by simp [setsA]
   rw [e] at q2
   exact q2
  have g0:=cell_of (i:=0) hblk (v:=.bool p.up) rfl
  have g1:=cell_of (i:=1) hblk (v:=.int .i64 p.term) rfl
  have g2:=cell_of (i:=2) hblk (v:=.int .i64 p.vote) rfl
  have g3:=cell_of (i:=3) hblk (v:=.int .i64 p.commit) rfl
  have g4:=cell_of (i:=4) hblk (v:=.int .i64 p.role) rfl
  have g5:=cell_of (i:=5) hblk (v:=.slice a1 a2 a3) rfl
  have g6:=cell_of (i:=6) hblk (v:=.slice b1 b2 b3) rfl
  have g7:=cell_of (i:=7) hblk (v:=.slice c1 c2 c3) rfl
  have g8:=cell_of (i:=8) hblk (v:=.slice d1 d2 d3) rfl
  have HT2:=HT.out
  rw [hWF] at HT2
  simp only [sets] at hWF
  rw [hWF]
  refine bodyPost_ret (v:=.agg #[.bool p.up,.int .i64 p.term,.int .i64 p.vote,.int .i64 p.commit,.int .i64 p.role,.slice a1 a2 a3,.slice b1 b2 b3,.slice c1 c2 c3,.slice d1 d2 d3]) ?_ rfl HT2
  simp [results,Tryz.results47,go_sem,g0,g1,g2,g3,g4,g5,g6,g7,g8]
end Go.Proofs.YtcfdmbkiinjmaaaGreat.ntold
namespace Go.Proofs.YtcfdmbkiinjmaaaGreat.gtold
open Raft mem grp YtcfdmbkiinjmaaaGreat.look ndw grant stand rows2 clone behind post copy msgs postb ntold own
structure PV where
 p:Peer
 lv:Value
 vv:Value
 nv:Value
 mv:Value
def peerCells (x:PV):List Value:=[.bool x.p.up,.int .i64 x.p.term,.int .i64 x.p.vote,.int .i64 x.p.commit,.int .i64 x.p.role,x.lv,x.vv,x.nv,x.mv]
theorem peerCells_len (x:PV):(peerCells x).length=9:=rfl
def PeersV (M:Fz) (v:Value) (us:List PV):Prop:=RowM M v us.length 9 (us.flatMap peerCells)∧∀ x∈us,PeerM M x.p x.lv x.vv x.nv x.mv
theorem PeerM.le {M M':Fz} {p:Peer} {lv vv nv mv:Value} (h:PeerM M p lv vv nv mv) (hl:Le M M'):PeerM M' p lv vv nv mv:=⟨h.1.le hl,h.2.1.le hl,h.2.2.1.le hl,h.2.2.2.le hl⟩
def PS.pv (x:PS):PV:=⟨x.p,x.lv,x.vv,x.nv,x.mv⟩
def peersB (v:Value) (us:List PS):List Nat:=ownB v++us.flatMap PS.bl
structure PeersS (M:Fz) (lo:Nat) (v:Value) (us:List PS):Prop where
 rd:RowM M v us.length 9 ((us.map PS.pv).flatMap peerCells)
 row:Own1 M lo 66 v
 each:∀ x∈us,PeerS M lo x
 nd:(peersB v us).Nodup
theorem PeersS.le {M M':Fz} {lo:Nat} {v:Value} {us:List PS} (h:PeersS M lo v us) (hl:Le M M'):PeersS M' lo v us:=⟨h.rd.le hl,h.row.le hl,fun x hx=>(h.each x hx).le hl,h.nd⟩
theorem PeersS.mono {M:Fz} {lo lo':Nat} {v:Value} {us:List PS} (h:PeersS M lo v us) (hl:lo'≤lo):PeersS M lo' v us:=⟨h.rd,h.row.mono hl,fun x hx=>(h.each x hx).mono hl,h.nd⟩
theorem PeersS.blk {M:Fz} {lo:Nat} {v:Value} {us:List PS} (h:PeersS M lo v us) {b:Nat} (hb:b∈peersB v us):lo≤b∧M b≠none:=by
 rcases List.mem_append.1 hb with hb | hb
 ·exact h.row.blk hb
 ·obtain ⟨x,hx,hb⟩:=List.mem_flatMap.1 hb
  exact (h.each x hx).blk hb
theorem PeersS.peers {M:Fz} {lo:Nat} {v:Value} {us:List PS} (h:PeersS M lo v us):PeersV M v (us.map PS.pv):=⟨by rw [List.length_map];exact h.rd,fun x hx=>by
 obtain ⟨y,hy,rfl⟩:=List.mem_map.1 hx
 have h1:=h.each y hy
 exact ⟨⟨y.us,h1.recs,h1.log.rd⟩,h1.votes.1,h1.next.1,h1.mat.1⟩⟩
def TI (w:World) (M M1:Fz) (bx:Nat) (ps:List Peer) (k:Nat) (v:Value) (wr:World):Prop:=∃ (M':Fz) (us:List PS),us.map (·.p)=ps.take k∧FP w M wr M'∧wr.ownsRow w.heap.size 66 9 v k ((us.map PS.pv).flatMap peerCells)∧(∀ g,v.ownBlock=some g→M' g=none)∧(∀ x∈us,PeerS M' w.heap.size x)∧Le M1 M'∧M' bx=none∧bx<wr.heap.size∧w.heap.size≤bx∧(us.flatMap PS.bl).Nodup∧(∀ x∈us,∀ b∈x.bl,M1 b=none)
theorem TI.begin {w wr:World} {M M':Fz} {bx:Nat} (ps:List Peer) (h:FP w M wr M') (h1:M' bx=none) (h2:bx<wr.heap.size) (h3:w.heap.size≤bx):TI w M M' bx ps 0 (.slice none 0 0) wr:=⟨M',[],by simp,h,World.ownsRow_nil _ _ _ _,by simp [Value.ownBlock],by simp,Le.refl _,h1,h2,h3,by simp,by simp⟩
theorem TI.store {w wr:World} {M M1:Fz} {bx:Nat} {ps:List Peer} {k:Nat} {v:Value} (h:TI w M M1 bx ps k v wr) {cur:Array Value} (hb:wr.heap[bx]?=some (.cells cur 28 (0,0))) (i:Nat) (u:Value):TI w M M1 bx ps k v (wr.setCell ⟨bx,i,none⟩ u):=by
 obtain ⟨M',us,e,hf,hr,hg,hp,h1,h2,h3,h4,h5,h6⟩:=h
 have hne:=type_ne hr hb (by decide)
 refine ⟨M',us,e,⟨hf.le,hf.inn.set h2 u,hf.below.setCell h4 u,hf.new⟩,row_kept hr (fun g hg'=>Below.heap_setCell wr ⟨bx,i,none⟩ u g (fun e'=>hne (by rw [hg',e']))),hg,hp,h1,h2,by rw [World.size_setCell];exact h3,h4,h5,h6⟩
theorem Le.none {A B:Fz} (h:Le A B) {b:Nat} (hb:B b=none):A b=none:=by
 cases e:A b with
 | none=>rfl
 | some o=>rw [h b o e] at hb;cases hb
theorem TI.fin {w wr:World} {M M1:Fz} {bx:Nat} {ps:List Peer} {v:Value} (h:TI w M M1 bx ps ps.length v wr):∃ M' us,FP w M wr M'∧us.map (·.p)=ps∧PeersS M' w.heap.size v us∧Le M1 M'∧(∀ b∈peersB v us,M1 b=none):=by
 obtain ⟨M',us,e,hf,hr,hg,hp,h1,h2,h3,h4,h5,h6⟩:=h
 rw [List.take_length] at e
 obtain ⟨M2,q1,q2,q3,q4,q5⟩:=freeze1 hr hf.inn hg
 have hl:ps.length=us.length:=by rw [←e];simp
 rw [hl] at q3
 refine ⟨M2,us,⟨hf.le.trans q1,q2,hf.below,fun b hb => ?_⟩,e,⟨q3,q5,fun x hx=>(hp x hx).le q1,?_⟩,h1.trans q1,?_⟩
 ·rcases q4 b hb with g | g
  ·exact hf.new b g
  ·exact .inr (row_lt hr g).1
 ·refine nd_app (ownB_nd _) h5 (fun b hb hb2 => ?_)
  obtain ⟨x,hx,hb3⟩:=List.mem_flatMap.1 hb2
  exact ((hp x hx).blk hb3).2 (hg b (ownB_mem.1 hb))
 ·intro b hb
  rcases List.mem_append.1 hb with hb | hb
  ·exact gtold.Le.none h1 (hg b (ownB_mem.1 hb))
  ·obtain ⟨x,hx,hb⟩:=List.mem_flatMap.1 hb
   exact h6 x hx b hb
theorem FP.sta {w wx:World} {M M':Fz} {O:Lb} (h:FP w M wx M') (st:Sta M O w):Sta M' O wx:=⟨h.inn,fun b l hb=>by
 have h1:=st.ok b l hb
 refine ⟨?_,Nat.lt_of_lt_of_le h1.2 h.below.size⟩
 cases e:M' b with
 | none=>rfl
 | some o =>
  rcases h.new b (by rw [e];simp) with g | g
  ·exact absurd h1.1 g
  ·omega⟩
theorem FP.nod {w wx:World} {M M':Fz} {O:Lb} (h:FP w M wx M') (st:Sta M O w) {b k:Nat} {p:Peer} (hn:Nod w M O b k p):Nod wx M' O b k p:=by
 obtain ⟨us,lv,vv,nv,mv,hn⟩:=hn
 exact ⟨us,lv,vv,nv,mv,hn.keep (fun x hx=>h.below.block x (st.ok x _ hx).2) h.le (fun _ hx=>hx)⟩
theorem TI.step {w wr:World} {M M1:Fz} {bx:Nat} {ps:List Peer} {k:Nat} {v:Value} (h:TI w M M1 bx ps k v wr) {cur:Array Value} (hbx:wr.heap[bx]?=some (.cells cur 28 (0,0))) {O:Lb} (st:Sta M O w) {b:Nat} {p:Peer} (hp:ps[k]?=some p) (hn:Nod w M O b k p) (hl:p.log.length≤1000) (hv:p.votes.length≤1000) (hn9:p.next.length≤1000) (hm9:p.mat.length≤1000) {wx:World} (hx:Below wr.heap.size wr wx) :
  Calls Tryz.prog 47 #[.pointer (some ⟨b,0,none⟩)] wx fun r w5=>∃ (a1:Option Addr) (a2 a3:Nat) (b1:Option Addr) (b2 b3:Nat) (c1:Option Addr) (c2 c3:Nat) (d1:Option Addr) (d2 d3:Nat) (Y:World),r=.returned (.agg #[.bool p.up,.int .i64 p.term,.int .i64 p.vote,.int .i64 p.commit,.int .i64 p.role,.slice a1 a2 a3,.slice b1 b2 b3,.slice c1 c2 c3,.slice d1 d2 d3])∧w5.alloc (.cells #[.bool p.up,.int .i64 p.term,.int .i64 p.vote,.int .i64 p.commit,.int .i64 p.role,.slice a1 a2 a3,.slice b1 b2 b3,.slice c1 c2 c3,.slice d1 d2 d3] 66)=Y∧Below wr.heap.size wr w5 ∧
   Hid (∃ ys,Y.ownsRow w.heap.size 66 9 v k ys∧(∀ j u,([.bool p.up,.int .i64 p.term,.int .i64 p.vote,.int .i64 p.commit,.int .i64 p.role,.slice a1 a2 a3,.slice b1 b2 b3,.slice c1 c2 c3,.slice d1 d2 d3]:List Value)[j]?=some u→Y.cell? ((⟨w5.heap.size,0,none⟩:Addr).add j)=some u)∧w.heap.size≤Y.heap.size ∧
    ∀ g cap w',w'.ownsRow w.heap.size 66 9 (.slice (some ⟨g,0,none⟩) (k+1) cap) (k+1) (ys++[.bool p.up,.int .i64 p.term,.int .i64 p.vote,.int .i64 p.commit,.int .i64 p.role,.slice a1 a2 a3,.slice b1 b2 b3,.slice c1 c2 c3,.slice d1 d2 d3])→Y.grownBy w' v.ownBlock→(v.ownBlock=some g∨g=Y.heap.size)→TI w M M1 bx ps (k+1) (.slice (some ⟨g,0,none⟩) (k+1) cap) w'∧w'.heap[bx]?=some (.cells cur 28 (0,0))):=by
 obtain ⟨M',us,e,hf,hr,hg,hps,g1,g2,g3,g4,g5,g6⟩:=h
 have hne:=type_ne hr hbx (by decide)
 have hfx:=hf.more hx
 refine (ntold_any wx M' O b k p (FP.sta hfx st) (FP.nod hfx st hn) hl hv hn9 hm9).mono ?_
 rintro r w5 ⟨a1,a2,a3,b1,b2,b3,c1,c2,c3,d1,d2,d3,rfl,M2,qs,f5,hpm⟩
 obtain ⟨Y,hY⟩:∃ Y,w5.alloc (.cells #[.bool p.up,.int .i64 p.term,.int .i64 p.vote,.int .i64 p.commit,.int .i64 p.role,.slice a1 a2 a3,.slice b1 b2 b3,.slice c1 c2 c3,.slice d1 d2 d3] 66)=Y:=⟨_,rfl⟩
 have b5:Below wr.heap.size wr w5:=hx.trans (f5.below.mono hx.size)
 have bY:Below wr.heap.size wr Y:=by rw [←hY];exact b5.alloc b5.size _
 have b5Y:Below w5.heap.size w5 Y:=by rw [←hY];exact more (Below.refl _ _) _
 have hBY:Y.heap[w5.heap.size]?=some (.cells #[.bool p.up,.int .i64 p.term,.int .i64 p.vote,.int .i64 p.commit,.int .i64 p.role,.slice a1 a2 a3,.slice b1 b2 b3,.slice c1 c2 c3,.slice d1 d2 d3] 66 (0,0)):=by rw [←hY];exact heap_alloc_new w5 _
 have fY:FP w M Y M2:=(hfx.trans f5).more b5Y
 have hvM:∀ g,v.ownBlock=some g→M2 g=none:=fun g hg'=>by
  cases em:M2 g with
  | none=>rfl
  | some o =>
   rcases f5.new g (by rw [em];simp) with g' | g'
   ·exact absurd (hg g hg') g'
   ·have:=(row_lt hr hg').2;have:=hx.size;omega
 refine ⟨a1,a2,a3,b1,b2,b3,c1,c2,c3,d1,d2,d3,Y,rfl,hY,b5,(us.map PS.pv).flatMap peerCells,row_kept hr (fun g hg'=>bY.block g (row_lt hr hg').2),?_,fY.below.size,?_⟩
 ·intro j u hu
  rw [pile.add_at,Nat.zero_add]
  exact cell_of hBY (by simpa using hu)
 ·intro g cap w' p1 p2 p3
  have hIw:=fY.inn.grown p2 hvM
  have hnew:∀ b,b∈(PS.mk p (.slice a1 a2 a3) (.slice b1 b2 b3) (.slice c1 c2 c3) (.slice d1 d2 d3) qs).bl→M' b=none:=fun b hb=>hf.inn.fresh (Nat.le_trans hx.size (hpm.blk hb).1)
  refine ⟨⟨M2,us++[⟨p,.slice a1 a2 a3,.slice b1 b2 b3,.slice c1 c2 c3,.slice d1 d2 d3,qs⟩],?_,⟨fY.le,hIw,fY.below.grown p2 fY.below.size (fun g' hg'=>(row_lt hr hg').1),fY.new⟩,?_,?_,?_,g1.trans f5.le,?_,?_,g4,?_,?_⟩,?_⟩
  ·rw [List.map_append,e,List.take_add_one,hp]
   simp
  ·rw [List.map_append,List.flatMap_append]
   simpa [peerCells,PS.pv] using p1
  ·intro g' hg'
   obtain rfl:g=g':=by simpa [Value.ownBlock] using hg'
   rcases p3 with p3 | p3
   ·exact hvM g p3
   ·exact fY.inn.fresh (by omega)
  ·intro x hx'
   rcases List.mem_append.1 hx' with hx' | hx'
   ·exact (hps x hx').le f5.le
   ·rw [List.mem_singleton.1 hx']
    exact hpm.mono (Nat.le_trans hf.below.size hx.size)
  ·cases em:M2 bx with
   | none=>rfl
   | some o =>
    rcases f5.new bx (by rw [em];simp) with g' | g'
    ·exact absurd g2 g'
    ·have:=hx.size;omega
  ·have:=bY.size;have:=p2.size;omega
  ·rw [List.flatMap_append]
   refine nd_app g5 (by simpa using hpm.nd) (fun b hb hb2 => ?_)
   obtain ⟨y,hy,hb3⟩:=List.mem_flatMap.1 hb
   exact ((hps y hy).blk hb3).2 (hnew b (by simpa using hb2))
  ·intro x hx' b hb
   rcases List.mem_append.1 hx' with hx' | hx'
   ·exact g6 x hx' b hb
   ·rw [List.mem_singleton.1 hx'] at hb
    exact gtold.Le.none g1 (hnew b hb)
  ·exact (p2.block bx (by have:=bY.size;omega) (fun e'=>hne e'.symm)).trans ((bY.block bx g3).trans hbx)
end Go.Proofs.YtcfdmbkiinjmaaaGreat.gtold
