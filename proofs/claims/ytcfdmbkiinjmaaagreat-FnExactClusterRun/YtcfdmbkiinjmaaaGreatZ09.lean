import Derived.Test.YtcfdmbkiinjmaaaGreatZ08
set_option linter.unusedVariables false
open Go.ChangeShapes Go.WideShapes Go.ChangeAt Go.RowKit
namespace Go.Proofs.YtcfdmbkiinjmaaaGreat.schosen
open Raft mem srun ssend sdown ssmall scopy srecs sapp ssame schos
variable {F:Nat→Option Obj}
structure Chg (S:Nat→Prop) (w w':World):Prop where
 os:w'.os=w.os
 tape:w'.tape=w.tape
 output:w'.output=w.output
 size:w.heap.size≤w'.heap.size
 block:∀ b,b<w.heap.size→¬ S b→w'.heap[b]?=w.heap[b]?
theorem Chg.refl (S:Nat→Prop) (w:World):Chg S w w:=⟨rfl,rfl,rfl,Nat.le_refl _,fun _ _ _=>rfl⟩
theorem Chg.trans {S:Nat→Prop} {a b c:World} (h:Chg S a b) (k:Chg S b c):Chg S a c:=⟨k.os.trans h.os,k.tape.trans h.tape,k.output.trans h.output,Nat.le_trans h.size k.size,fun i hi hs=>(k.block i (by have:=h.size;omega) hs).trans (h.block i hi hs)⟩
theorem Chg.below {S:Nat→Prop} {w w':World} (h:Below w.heap.size w w'):Chg S w w':=⟨h.os,h.tape,h.output,h.size,fun b hb _=>h.block b hb⟩
theorem Chg.set {S:Nat→Prop} {w:World} {d i:Nat} (h:S d) (v:Value):Chg S w (w.setCell ⟨d,i,none⟩ v):=⟨rfl,rfl,rfl,by simp,fun b _ hb=>Below.heap_setCell w ⟨d,i,none⟩ v b (fun e=>hb (e ▸ h))⟩
theorem Chg.grown {S:Nat→Prop} {w w':World} {row:Option Nat} (g:w.grownBy w' row) (h:∀ b,row=some b→S b∨w.heap.size≤b):Chg S w w':=⟨g.os,g.tape,g.output,g.size,fun b hb hs=>g.block b hb (fun e=>by
 rcases h b e.symm with h1 | h1
 ·exact hs h1
 ·omega)⟩
structure Rd (F:Nat→Option Obj) (w W wr:World) (M:Fz) (base d P pc:Nat) (c:Cl) (us:List PV) (ns:List MV) (nv cv:Value) (l:List Rc) (i:Nat) (M':Fz) (cs':List RV) (cv':Value):Prop where
 le:Le M M'
 run:Run (TS F) wr M' base d P pc { c with chosen:=(noteN l i (c.chosen,c.conflict)).1,conflict:=(noteN l i (c.chosen,c.conflict)).2 } us ns nv cs' cv'
 chg:Chg (fun b=>b=d∨cv.ownBlock=some b∨w.heap.size<b) W wr
 dom:∀ b,M' b≠none→M b≠none∨w.heap.size≤b
 cvd:∀ b,cv'.ownBlock=some b→cv.ownBlock=some b∨w.heap.size<b
def Noted (F:Nat→Option Obj) (w:World) (M:Fz) (base d P pc:Nat) (c:Cl) (us:List PV) (ns:List MV) (nv cv:Value) (l:List Rc) (i:Nat) (w':World):Prop :=
 ∃ W M' cs' cv',Below w.heap.size w W∧Rd F w W w' M base d P pc c us ns nv cv l i M' cs' cv'
theorem at_below {w w':World} {a:Addr} {v:Value} (h:Below w.heap.size w w') (hc:w.cell? a=some v):w'.cell? a=some v:=by
 have hlt:a.block<w.heap.size:=by
  simp only [World.cell?] at hc
  cases e:w.heap[a.block]? with
  | none=>simp [e] at hc
  | some o=>exact (Array.getElem?_eq_some_iff.1 e).1
 rw [World.cell?_of_block (h.block _ hlt)]
 exact hc
theorem more' {W wx:World} (h:Below W.heap.size W wx) (o:Obj):Below W.heap.size W (wx.alloc o):=h.alloc h.size o
theorem own_len {w:World} {base e sz:Nat} {o:Option Addr} {n c m:Nat} {xs:List Value} (h:w.ownsRow base e sz (.slice o n c) m xs):n=m:=by
 obtain ⟨_,⟨e1,e2⟩|⟨g,cap,cur,e1,_⟩⟩:=h
 ·simp only [Value.slice.injEq] at e1;omega
 ·simp only [Value.slice.injEq] at e1;exact e1.2.1
theorem recs_cellM {M:Fz} {lo:Option Addr} {n lc:Nat} {l:List Rc} (h:RecsM M (.slice lo n lc) l) {k:Nat} {r:Rc} (hk:l[k]?=some r) :
  ∃ b off dv,lo=some ⟨b,off,none⟩∧cellM M b (off+k*3)=some (.int .i64 r.term)∧cellM M b (off+k*3+1)=some (.int .i64 r.index)∧cellM M b (off+k*3+2)=some dv∧BytesM M dv r.data∧r.data.length≤1000:=by
 obtain ⟨us,rfl,hr,hd⟩:=h
 rw [List.getElem?_map,Option.map_eq_some_iff] at hk
 obtain ⟨x,hx,rfl⟩:=hk
 have hlt:=(List.getElem?_eq_some_iff.1 hx).1
 obtain ⟨ao,cap,e,_,_,_,_,h5⟩:=hr
 simp only [Value.slice.injEq] at e
 obtain ⟨rfl,rfl,rfl⟩:=e
 obtain ⟨b,off,rfl,hc⟩:=h5 (by omega)
 have hf:=fun j hj=>flat_get recCells 3 recCells_len us k j x hx hj
 refine ⟨b,off,x.dv,rfl,?_,?_,?_,hd x (List.mem_iff_getElem?.2 ⟨k,hx⟩)⟩
 ·have:=hc (k*3+0) (.int .i64 x.r.term) (by rw [hf 0 (by decide)];rfl)
  simpa using this
 ·have:=hc (k*3+1) (.int .i64 x.r.index) (by rw [hf 1 (by decide)];rfl)
  rw [←Nat.add_assoc] at this
  exact this
 ·have:=hc (k*3+2) x.dv (by rw [hf 2 (by decide)];rfl)
  rw [←Nat.add_assoc] at this
  exact this
theorem Run.chosenCell {w:World} {M:Fz} {base d P pc:Nat} {c:Cl} {us:List PV} {ns:List MV} {nv:Value} {cs:List RV} {g n cap:Nat} (h:Run (TS F) w M base d P pc c us ns nv cs (.slice (some ⟨g,0,none⟩) n cap)) {i:Nat} {y:RV} (hy:cs[i]?=some y) :
  w.cell? ⟨g,i*3,none⟩=some (.int .i64 y.r.term)∧w.cell? ⟨g,i*3+1,none⟩=some (.int .i64 y.r.index)∧w.cell? ⟨g,i*3+2,none⟩=some y.dv:=by
 have hlt:=(List.getElem?_eq_some_iff.1 hy).1
 have hf:=fun j hj=>flat_get recCells 3 recCells_len cs i j y hy hj
 have hc:w.ownsRow base 74 3 (.slice (some ⟨g,0,none⟩) n cap) cs.length (cs.flatMap recCells):=h.chos
 have he:=own_len hc
 subst he
 have h6:=fun j (hj:j<3)=>World.ownsRow.cellAt hc (i*3+j) (by omega)
 refine ⟨?_,?_,?_⟩
 ·have h7:=h6 0 (by decide);rw [hf 0 (by decide)] at h7;simpa [recCells] using h7
 ·have h7:=h6 1 (by decide);rw [hf 1 (by decide)] at h7;simpa [recCells] using h7
 ·have h7:=h6 2 (by decide);rw [hf 2 (by decide)] at h7;simpa [recCells] using h7
theorem noteN_new {l:List Rc} {s:List Rc×Bool} {i:Nat} {r:Rc} (hr:l[i]?=some r) (hi:i=(noteN l i s).1.length):noteN l (i+1) s=((noteN l i s).1++[r],(noteN l i s).2):=by
 rw [noteN,hr]
 simp only
 rw [if_pos hi]
 have e:((noteN l i s).1++[r])[i]?=some r:=by rw [List.getElem?_append_right (by omega),←hi,Nat.sub_self];rfl
 rw [e]
 simp
theorem noteN_old {l:List Rc} {s:List Rc×Bool} {i:Nat} {r z:Rc} (hr:l[i]?=some r) (hi:i≠(noteN l i s).1.length) (hz:(noteN l i s).1[i]?=some z):noteN l (i+1) s=((noteN l i s).1,(noteN l i s).2 || !decide (z=r)):=by
 rw [noteN,hr]
 simp only
 rw [if_neg hi,hz]
 simp
set_option maxRecDepth 20000 in
set_option maxHeartbeats 8000000 in
theorem chosen_any (w:World) (M:Fz) (base d P pc:Nat) (c:Cl) (us:List PV) (ns:List MV) (nv:Value) (cs:List RV) (cv:Value) (h:Run (TS F) w M base d P pc c us ns nv cs cv) (k:Nat) (x:PV) (hk:us[k]?=some x)
  (hcm:x.p.commit≤x.p.log.length) (hlen:x.p.log.length≤1000) (hcl:c.chosen.length≤1000) :
  Calls Tryz.prog 61 #[.pointer (some ⟨d,0,none⟩),.int .i64 k] w fun r w'=>r=.returned (.tuple #[])∧Noted F w M base d P pc c us ns nv cv (x.p.log.take x.p.commit) x.p.commit w':=by
 have hxm:x∈us:=List.mem_iff_getElem?.2 ⟨k,hk⟩
 have hlt:k<us.length:=(List.getElem?_eq_some_iff.1 hk).1
 have hcap:=h.cap
 unfold maxLen at hcap
 obtain ⟨ls0,hls0,hrow0,_⟩:=h.logs x hxm
 obtain ⟨lo,lc,hlv,hlcm⟩:=slice_one hrow0
 obtain ⟨L,hL⟩:∃ L,L=ls0.length:=⟨_,rfl⟩
 rw [←hL] at hlv
 have hlog:RecsM M (.slice lo L lc) x.p.log:=by rw [←hlv];exact h.logs x hxm
 obtain ⟨hLn,_,hLc⟩:=recs_len hlog
 obtain ⟨vo,vn,vc,hvv⟩:=own_slice (h.votes x hxm)
 obtain ⟨no,nn,ncap,hnv⟩:=own_slice (h.next x hxm)
 obtain ⟨mo,mn,mc,hmv⟩:=own_slice (h.mat x hxm)
 obtain ⟨W,hW⟩:∃ W,W=w.alloc (.cells #[.bool x.p.up,.int .i64 x.p.term,.int .i64 x.p.vote,.int .i64 x.p.commit,.int .i64 x.p.role,.slice lo L lc,.slice vo vn vc,.slice no nn ncap,.slice mo mn mc] 66):=⟨_,rfl⟩
 have bW:Below w.heap.size w W:=by rw [hW];exact (Below.refl _ _).alloc (Nat.le_refl _) _
 have zW:W.heap.size=w.heap.size+1:=by rw [hW];simp
 have hbox:W.heap[w.heap.size]?=some (.cells #[.bool x.p.up,.int .i64 x.p.term,.int .i64 x.p.vote,.int .i64 x.p.commit,.int .i64 x.p.role,.slice lo L lc,.slice vo vn vc,.slice no nn ncap,.slice mo mn mc] 66 (0,0)):=by rw [hW];exact heap_alloc_new w _
 have hRW:=h.below bW
 have c0:w.cell? ⟨d,0,none⟩=some (.slice (some ⟨P,0,none⟩) us.length pc):=cell_of h.blk rfl
 have y0:=(h.peerCell hk (j:=0) rfl).1
 rw [Nat.add_zero] at y0
 have y1:=(h.peerCell hk (j:=1) rfl).1
 have y2:=(h.peerCell hk (j:=2) rfl).1
 have y3:=(h.peerCell hk (j:=3) rfl).1
 have y4:=(h.peerCell hk (j:=4) rfl).1
 have y5:=(h.peerCell hk (j:=5) rfl).1
 have y6:=(h.peerCell hk (j:=6) rfl).1
 have y7:=(h.peerCell hk (j:=7) rfl).1
 have y8:=(h.peerCell hk (j:=8) rfl).1
 rw [hlv] at y5
 rw [hvv] at y6
 rw [hnv] at y7
 rw [hmv] at y8
 obtain ⟨l,hl⟩:∃ l,l=x.p.log.take x.p.commit:=⟨_,rfl⟩
 have hll:l.length=x.p.commit:=by rw [hl,List.length_take];omega
 have hmine:∀ b,b=d∨cv.ownBlock=some b→b<w.heap.size:=fun b hb=>h.mine (by rcases hb with hb | hb;exact .inl hb;exact .inr (.inr (.inr hb)))
 have HK:Hid (∀ wx,Chg (fun b=>b=d∨cv.ownBlock=some b∨w.heap.size<b) W wx→wx.heap[w.heap.size]?=some (.cells #[.bool x.p.up,.int .i64 x.p.term,.int .i64 x.p.vote,.int .i64 x.p.commit,.int .i64 x.p.role,.slice lo L lc,.slice vo vn vc,.slice no nn ncap,.slice mo mn mc] 66 (0,0))):=fun wx hb=>(hb.block _ (by omega) (fun e=>by
  rcases e with e | e | e
  ·have:=hmine _ (.inl e);omega
  ·have:=hmine _ (.inr e);omega
  ·omega)).trans hbox
 have HG:Hid (Run (TS F) W M base d P pc c us ns nv cs cv∧RecsM M (.slice lo L lc) x.p.log∧L=x.p.log.length∧Below w.heap.size w W∧W.heap.size=w.heap.size+1∧l=x.p.log.take x.p.commit∧l.length=x.p.commit∧x.p.commit≤L∧L≤1000∧c.chosen.length≤1000):=⟨hRW,hlog,hLn,bW,zW,hl,hll,by omega,by omega,hcl⟩
 have H0:Hid (Rd F w W W M base d P pc c us ns nv cv l 0 M cs cv):=⟨Le.refl M,hRW,Chg.refl _ _,fun b hb=>.inl hb,fun b hb=>.inl hb⟩
 rw [←hl]
 obtain ⟨co0,cn0,cc0,hcv0⟩:=own_slice h.chos
 have HCV:Hid (cv=.slice co0 cn0 cc0):=hcv0
 clear hcv0
 clear zW hvv hnv hmv hxm hls0 hrow0 hL hlv hlog hLn hbox bW hRW h hcm hlen hcl hl hll
 have hcml:x.p.commit≤L:=HG.out.2.2.2.2.2.2.2.1
 have hL1:L≤1000:=HG.out.2.2.2.2.2.2.2.2.1
 go_enter Tryz.func61,Tryz.ntmps61
 go_wp2
 rw [←hW]
 clear hW
 go_loopw [5] (fun iv wr=>∃ i:Nat,i≤x.p.commit∧iv=.int .i64 i∧Hid (∃ M' cs' co cn cc,Rd F w W wr M base d P pc c us ns nv cv l i M' cs' (.slice co cn cc))) (fun iv _=>x.p.commit-(intOf iv).toNat)
 case atStart=>exact ⟨0,by omega,rfl,hide ⟨M,cs,co0,cn0,cc0,by have h9:=H0.out;rw [HCV.out] at h9 ⊢;exact h9⟩⟩
 case round =>
  obtain ⟨i,hi,rfl,HJ⟩:=hrel
  obtain ⟨M',cs',co,cn,cc,hRd⟩:=HJ.out
  have hkb:=HK.out wr hRd.chg
  have b3:=cell_of (i:=3) hkb rfl
  by_cases hlt:i<x.p.commit
  ·have hltI:(i:Int)<x.p.commit:=by omega
   obtain ⟨r,hr⟩:∃ r,x.p.log[i]?=some r:=⟨_,List.getElem?_eq_getElem (by have:=HG.out.2.2.1;omega)⟩
   have hrl:l[i]?=some r:=by rw [HG.out.2.2.2.2.2.1,List.getElem?_take_of_lt hlt];exact hr
   obtain ⟨b,off,dv,hlo,e0,e1,e2,qb,qd⟩:=recs_cellM (HG.out.2.1.le hRd.le) hr
   have q0:=hRd.run.inn.cell e0
   have q1:=hRd.run.inn.cell e1
   have q2:=hRd.run.inn.cell e2
   obtain ⟨ro,rn,rc,hdv⟩:=bytes_slice qb
   subst hdv
   subst hlo
   have hcn:=own_len hRd.run.chos
   have hb2:=hRd.run.blk
   have d2:wr.cell? ⟨d,2,none⟩=some (.slice co cn cc):=cell_of hb2 rfl
   have b5:=cell_of (i:=5) hkb rfl
   have hnl:=noteN_len l (c.chosen,c.conflict) i (by have:=HG.out.2.2.2.2.2.2.1;omega)
   have hcsl:cs'.length=(noteN l i (c.chosen,c.conflict)).1.length:=by
    have e9:=hRd.run.chosen
    simp only at e9
    rw [←e9,List.length_map]
   subst hcn
   by_cases hq:i=cs'.length
   ·subst hq
    have HX:Hid (Rd F w W wr M base d P pc c us ns nv cv l cs'.length M' cs' (.slice co cs'.length cc)∧cs'.length=cs'.length∧l[cs'.length]?=some r∧cs'.length=(noteN l cs'.length (c.chosen,c.conflict)).1.length∧BytesM M' (.slice ro rn rc) r.data∧r.data.length≤1000):=⟨hRd,rfl,hrl,hcsl,qb,qd⟩
    have hi1000:cs'.length≤1000:=by omega
    have hiL:(cs'.length:Int)<L:=by omega
    have HCp:Hid (∀ wx,Below wr.heap.size wr wx→Calls Tryz.prog 62 #[.agg #[.int .i64 r.term,.int .i64 r.index,.slice ro rn rc]] wx (Copied wx M' r.term r.index r.data)):=fun wx hb=>copy_any wx M' (hRd.run.inn.below hb) r.term r.index r.data qd ro rn rc qb
    have f2:=frozen_of hb2 2
    have HKK:=HK
    have HFr:Hid (∀ (M1:Fz) (w3:World),Le M' M1→In M1 w3→w3.cell? ⟨b,off+cs'.length*3,none⟩=some (.int .i64 r.term)∧w3.cell? ⟨b,off+cs'.length*3+1,none⟩=some (.int .i64 r.index)∧w3.cell? ⟨b,off+cs'.length*3+2,none⟩=some (.slice ro rn rc)):=fun M1 w3 hle hin=>⟨hin.cell (hle.cell e0),hin.cell (hle.cell e1),hin.cell (hle.cell e2)⟩
    clear e0 e1 e2
    have HRr:=hide hr
    clear hRd HJ qb qd hkb hcsl hnl hrl hr HK H0
    have HB5:=hide (show wr.heap[d]?=some (.cells #[.slice (some ⟨P,0,none⟩) us.length pc,nv,.slice co cs'.length cc,.bool (noteN l cs'.length (c.chosen,c.conflict)).2] 51 (0,0)) from hb2)
    have HBX:Hid (∀ wx,Below wr.heap.size wr wx→wx.cell? ⟨d,2,none⟩=some (.slice co cs'.length cc)∧wx.frozen? ⟨d,2,none⟩=false∧wx.cell? ⟨w.heap.size,5,none⟩=some (.slice (some ⟨b,off,none⟩) L lc)∧wx.cell? ⟨b,off+cs'.length*3,none⟩=some (.int .i64 r.term)∧wx.cell? ⟨b,off+cs'.length*3+1,none⟩=some (.int .i64 r.index)∧wx.cell? ⟨b,off+cs'.length*3+2,none⟩=some (.slice ro rn rc)):=fun wx hb=>⟨cell_of (kept hb HB5.out (Nat.le_refl _)) rfl,frozen_of (kept hb HB5.out (Nat.le_refl _)) 2,at_below hb b5,at_below hb q0,at_below hb q1,at_below hb q2⟩
    obtain ⟨i0,hii,hz0,hz1,hz2⟩:=info_parts info75
    have HI:Hid (Tryz.prog.info? 74=some i0∧i0.zero=some (.agg #[.int .i64 0,.int .i64 0,.slice none 0 0])∧i0.size=3∧i0.bytes=40):=⟨hii,hz0,hz1,hz2⟩
    have hbs:base≤wr.heap.size:=by have:=HX.out.1.run.low.1;have:=HX.out.1.run.lt.1;omega
    clear hii hz0 hz1 hz2 hb2
    go_wp2
    go_region_law (first
     | (go_simp;go_at_call 62;refine (HCp.out _ (by first | exact Below.refl _ _ | exact (Below.refl _ _).drew)).mono ?_
        rintro rr w1 ⟨M1,do_,dn,dc,rfl,l1,in1,by1,bel1,dom1⟩
        have bel1':Below wr.heap.size wr w1:=⟨bel1.os,bel1.tape,bel1.output,bel1.size,bel1.block⟩
        have HD1:Hid (Le M' M1∧In M1 w1∧BytesM M1 (.slice do_ dn dc) r.data∧Below wr.heap.size wr w1∧∀ b ob,M1 b=some ob→M' b=some ob∨(wr.heap.size≤b∧∃ cur fr,ob=.cells cur 5 fr)):=⟨l1,in1,by1,bel1',dom1⟩
        obtain ⟨u0,u1,u2,u3,u4,u5⟩:=HBX.out w1 bel1'
        have v0:=fun ob=>(HBX.out (w1.alloc ob) (more' bel1' ob)).1
        have s1:=bel1'.size
        clear l1 in1 by1 bel1 dom1 bel1')
     | (refine step_append_lies _ rfl _ _ 26 rfl base 74 i0 (.agg #[.int .i64 0,.int .i64 0,.slice none 0 0]) 3 40 Tryz.underlying26 HI.out.1 HI.out.2.1 HI.out.2.2.1 HI.out.2.2.2 rfl (by decide) _ cs'.length (cs'.flatMap recCells) rfl (row_kept HX.out.1.run.chos (fun g' hg'=>by have hq':=(row_lt HX.out.1.run.chos hg').2;rw [Below.heap_alloc _ _ _ (by have:=HD1.out.2.2.2.1.size;omega)];exact HD1.out.2.2.2.1.block g' hq')) ⟨w1.heap.size,0,none⟩ 1 1 [.int .i64 r.term,.int .i64 r.index,.slice do_ dn dc] rfl rfl (fun j' u' hu'=>by rw [addr_add,Nat.zero_add];exact cell_of (heap_alloc_new w1 _) (by simpa using hu')) (fun u' hu'=>by simp only [List.mem_cons,List.not_mem_nil,or_false] at hu';rcases hu' with rfl | rfl | rfl <;> rfl) (by decide) (by unfold maxLen;omega) (by omega) (by simp;omega) _ rfl ?_
        intro g2 cap2 w2 O2 G2 hg2 hgl2
        have HO2:Hid (w2.ownsRow base 74 3 (.slice (some ⟨g2,0,none⟩) (cs'.length+1) cap2) (cs'.length+1) (cs'.flatMap recCells++[.int .i64 r.term,.int .i64 r.index,.slice do_ dn dc])∧(w1.alloc (.cells #[.int .i64 r.term,.int .i64 r.index,.slice do_ dn dc] 74)).grownBy w2 (Value.slice co cs'.length cc).ownBlock∧((Value.slice co cs'.length cc).ownBlock=some g2∨g2=(w1.alloc (.cells #[.int .i64 r.term,.int .i64 r.index,.slice do_ dn dc] 74)).heap.size)):=⟨O2,G2,hg2⟩
        have k2:w2.heap[d]?=some (.cells #[.slice (some ⟨P,0,none⟩) us.length pc,nv,.slice co cs'.length cc,.bool (noteN l cs'.length (c.chosen,c.conflict)).2] 51 (0,0)):=(G2.block d (by have:=HX.out.1.run.lt.1;have:=HD1.out.2.2.2.1.size;simp;omega) (fun e'=>HX.out.1.run.apart.2.2.2.1 e'.symm)).trans (kept (more' HD1.out.2.2.2.1 _) HB5.out (Nat.le_refl _))
        have t0:=cell_of (i:=2) k2 rfl
        have t1:=frozen_of k2 2
        clear O2 G2 hg2 hgl2 k2))
    all_goals
     obtain ⟨y,hy0⟩:∃ y:RV,y=⟨r,.slice do_ dn dc⟩:=⟨_,rfl⟩
     obtain ⟨w3,hw3⟩:∃ w3,w3=w2.setCell ⟨d,2,none⟩ (.slice (some ⟨g2,0,none⟩) (cs'.length+1) cap2):=⟨_,rfl⟩
     have hD:=HD1.out
     have hba:Below wr.heap.size wr (w1.alloc (.cells #[.int .i64 r.term,.int .i64 r.index,.slice do_ dn dc] 74)):=more' hD.2.2.2.1 _
     have hRa:Run (TS F) (w1.alloc (.cells #[.int .i64 r.term,.int .i64 r.index,.slice do_ dn dc] 74)) M1 base d P pc { c with chosen:=(noteN l cs'.length (c.chosen,c.conflict)).1,conflict:=(noteN l cs'.length (c.chosen,c.conflict)).2 } us ns nv cs' (.slice co cs'.length cc):=HX.out.1.run.keep hD.1 (hD.2.1.below (more' (Below.refl _ _) _)) (fun b' hm=>hba.block b' (HX.out.1.run.mine hm)) (fun b' hm=>by
      cases eb:M1 b' with
      | none=>rfl
      | some ob =>
       rcases hD.2.2.2.2 b' ob eb with h5 | h5
       ·have:=HX.out.1.run.free b' hm;rw [h5] at this;cases this
       ·have:=HX.out.1.run.mine hm;omega) (fun b' q e=>⟨(hba.block b' (HX.out.1.run.farL e)).trans (HX.out.1.run.far b' q e).1,by
      cases eb:M1 b' with
      | none=>rfl
      | some ob =>
       rcases hD.2.2.2.2 b' ob eb with h5 | h5
       ·have:=(HX.out.1.run.far b' q e).2.1;rw [h5] at this;cases this
       ·have:=HX.out.1.run.farL e;omega⟩)
     have hR3:=Run.choose hRa (y:=⟨r,.slice do_ dn dc⟩) ⟨hD.2.2.1,HX.out.2.2.2.2.2⟩ HO2.out.1 HO2.out.2.1 HO2.out.2.2
     rw [←hw3] at hR3
     have hcc:=Run.chosenCell hR3 (i:=cs'.length) (y:=⟨r,.slice do_ dn dc⟩) (by rw [List.getElem?_append_right (Nat.le_refl _),Nat.sub_self];rfl)
     have hchg:Chg (fun b=>b=d∨cv.ownBlock=some b∨w.heap.size<b) W w3:=by
      rw [hw3]
      refine ((HX.out.1.chg.trans (Chg.below hba)).trans (Chg.grown HO2.out.2.1 (fun b' hb' => ?_))).trans (Chg.set (.inl rfl) _)
      rcases HX.out.1.cvd b' hb' with h5 | h5
      ·exact .inl (.inr (.inl h5))
      ·exact .inl (.inr (.inr h5))
     have hd3:=cell_of (i:=2) hR3.blk rfl
     have hk3:=HKK.out w3 hchg
     have hr0:=HFr.out M1 w3 hD.1 hR3.inn
     have HS6:Hid (∀ wx,Below w3.heap.size w3 wx→(((wx.cell? ⟨d,2,none⟩=some (.slice (some ⟨g2,0,none⟩) (cs'.length+1) cap2)∧wx.cell? ⟨w.heap.size,5,none⟩=some (.slice (some ⟨b,off,none⟩) L lc))∧(wx.cell? ⟨g2,cs'.length*3,none⟩=some (.int .i64 r.term)∧wx.cell? ⟨g2,cs'.length*3+1,none⟩=some (.int .i64 r.index)∧wx.cell? ⟨g2,cs'.length*3+2,none⟩=some (.slice do_ dn dc))∧(wx.cell? ⟨b,off+cs'.length*3,none⟩=some (.int .i64 r.term)∧wx.cell? ⟨b,off+cs'.length*3+1,none⟩=some (.int .i64 r.index)∧wx.cell? ⟨b,off+cs'.length*3+2,none⟩=some (.slice ro rn rc)))∧Below w3.heap.size w3 wx)):=fun wx hb=>⟨⟨⟨at_below hb hd3,at_below hb (cell_of (i:=5) hk3 rfl)⟩,⟨at_below hb hcc.1,at_below hb hcc.2.1,at_below hb hcc.2.2⟩,⟨at_below hb hr0.1,at_below hb hr0.2.1,at_below hb hr0.2.2⟩⟩,hb⟩
     have HSm:Hid (∀ wx,Below w3.heap.size w3 wx→Calls Tryz.prog 75 #[.agg #[.int .i64 r.term,.int .i64 r.index,.slice do_ dn dc],.agg #[.int .i64 r.term,.int .i64 r.index,.slice ro rn rc]] wx fun e w'=>e=.returned (.bool true)∧Below w3.heap.size w3 w'):=fun wx hb=>by
      refine (same_any wx M1 (hR3.inn.below hb) r r do_ ro dn dc rn rc hD.2.2.1 (HX.out.2.2.2.2.1.le hD.1)).mono ?_
      rintro e w' ⟨rfl,hb'⟩
      exact ⟨by simp,hb.trans (hb'.mono hb.size)⟩
     have HNx:Hid (∀ w4,Below w3.heap.size w3 w4→∃ M9 cs9 co9 cn9 cc9,Rd F w W w4 M base d P pc c us ns nv cv l (cs'.length+1) M9 cs9 (.slice co9 cn9 cc9)):=fun w4 hb4=>by
      refine ⟨M1,cs'++[⟨r,.slice do_ dn dc⟩],some ⟨g2,0,none⟩,cs'.length+1,cap2,⟨HX.out.1.le.trans hD.1,?_,hchg.trans (Chg.below hb4),fun b' hb' => ?_,fun b' hb' => ?_⟩⟩
      ·have e7:=noteN_new (s:=(c.chosen,c.conflict)) HX.out.2.2.1 HX.out.2.2.2.1
       rw [e7]
       exact hR3.below hb4
      ·cases eb:M1 b' with
       | none=>exact absurd eb hb'
       | some ob =>
        rcases hD.2.2.2.2 b' ob eb with h5 | h5
        ·exact HX.out.1.dom b' (by rw [h5];simp)
        ·exact .inr (by have:=HX.out.1.chg.size;have:=HG.out.2.2.2.2.1;omega)
      ·simp only [Value.ownBlock,Option.some.injEq] at hb'
       subst hb'
       rcases HO2.out.2.2 with h5 | h5
       ·exact HX.out.1.cvd _ h5
       ·exact .inr (by rw [h5];have:=HX.out.1.chg.size;have:=HG.out.2.2.2.2.1;have:=hba.size;omega)
     clear hcc hd3 hk3 hr0 hR3 hRa hba hD hchg
     go_wp2
     rw [←hw3]
     clear hw3 hy0 t0 t1
     go_region_held_law (fun wx=>((wx.cell? ⟨d,2,none⟩=some (.slice (some ⟨g2,0,none⟩) (cs'.length+1) cap2)∧wx.cell? ⟨w.heap.size,5,none⟩=some (.slice (some ⟨b,off,none⟩) L lc))∧(wx.cell? ⟨g2,cs'.length*3,none⟩=some (.int .i64 r.term)∧wx.cell? ⟨g2,cs'.length*3+1,none⟩=some (.int .i64 r.index)∧wx.cell? ⟨g2,cs'.length*3+2,none⟩=some (.slice do_ dn dc))∧(wx.cell? ⟨b,off+cs'.length*3,none⟩=some (.int .i64 r.term)∧wx.cell? ⟨b,off+cs'.length*3+1,none⟩=some (.int .i64 r.index)∧wx.cell? ⟨b,off+cs'.length*3+2,none⟩=some (.slice ro rn rc)))∧Below w3.heap.size w3 wx)
      ((refine HS6.out _ ?_;first | assumption | exact Below.refl _ _ | exact (Below.refl _ _).drew))
      (first | (go_at_call 75;refine (HSm.out _ (by first | exact Below.refl _ _ | exact (Below.refl _ _).drew)).mono ?_;rintro rr w4 ⟨rfl,hb4⟩))
     all_goals
      have HN4:=hide (HNx.out w4 hb4)
      go_wp2
      go_roundw
      case rel=>exact ⟨cs'.length+1,by omega,by go_num,HN4⟩
      case measure=>simp [intOf];omega
   ·have hqI:((i:Int) == (cs'.length:Int))=false:=by simp;omega
    have hil:i<cs'.length:=by omega
    obtain ⟨y,hy⟩:∃ y,cs'[i]?=some y:=⟨_,List.getElem?_eq_getElem hil⟩
    have hym:y∈cs':=List.mem_iff_getElem?.2 ⟨i,hy⟩
    obtain ⟨g,rfl⟩:∃ g,co=some ⟨g,0,none⟩:=by
     obtain ⟨_,⟨e1,e2⟩|⟨g,cap,cur,e1,_⟩⟩:=hRd.run.chos
     ·omega
     ·simp only [Value.slice.injEq] at e1;exact ⟨g,e1.1⟩
    have hyb:=(hRd.run.data y hym).1
    have hcc:=Run.chosenCell hRd.run hy
    obtain ⟨yo,yn,yc,hdv⟩:=bytes_slice hyb
    rw [hdv] at hcc hyb
    clear hdv
    have HS6:Hid (∀ wx,Below wr.heap.size wr wx→(((wx.cell? ⟨d,2,none⟩=some (.slice (some ⟨g,0,none⟩) cs'.length cc)∧wx.cell? ⟨w.heap.size,5,none⟩=some (.slice (some ⟨b,off,none⟩) L lc))∧(wx.cell? ⟨g,i*3,none⟩=some (.int .i64 y.r.term)∧wx.cell? ⟨g,i*3+1,none⟩=some (.int .i64 y.r.index)∧wx.cell? ⟨g,i*3+2,none⟩=some (.slice yo yn yc))∧(wx.cell? ⟨b,off+i*3,none⟩=some (.int .i64 r.term)∧wx.cell? ⟨b,off+i*3+1,none⟩=some (.int .i64 r.index)∧wx.cell? ⟨b,off+i*3+2,none⟩=some (.slice ro rn rc)))∧Below wr.heap.size wr wx)):=fun wx hb=>⟨⟨⟨at_below hb d2,at_below hb b5⟩,⟨at_below hb hcc.1,at_below hb hcc.2.1,at_below hb hcc.2.2⟩,⟨at_below hb q0,at_below hb q1,at_below hb q2⟩⟩,hb⟩
    have e7:=noteN_old (s:=(c.chosen,c.conflict)) (z:=y.r) hrl (by omega) (by
     have e9:=hRd.run.chosen
     simp only at e9
     rw [←e9,List.getElem?_map,hy];rfl)
    have hilI:(i:Int)<cs'.length:=by omega
    have hiL:(i:Int)<L:=by omega
    clear hq
    by_cases hyr:y.r=r
    ·have HSm:Hid (∀ wx,Below wr.heap.size wr wx→Calls Tryz.prog 75 #[.agg #[.int .i64 y.r.term,.int .i64 y.r.index,.slice yo yn yc],.agg #[.int .i64 r.term,.int .i64 r.index,.slice ro rn rc]] wx fun e w'=>e=.returned (.bool true)∧Below wr.heap.size wr w'∧w'.cell? ⟨d,3,none⟩=some (.bool (noteN l i (c.chosen,c.conflict)).2)∧w'.frozen? ⟨d,3,none⟩=false):=fun wx hb=>by
      refine (same_any wx M' (hRd.run.inn.below hb) y.r r yo ro yn yc rn rc hyb qb).mono ?_
      rintro e w' ⟨rfl,hb'⟩
      have hb9:=hb.trans (hb'.mono hb.size)
      exact ⟨by simp [hyr],hb9,cell_of (kept hb9 hb2 (Nat.le_refl _)) rfl,frozen_of (kept hb9 hb2 (Nat.le_refl _)) 3⟩
     have HNx:Hid (∀ w4,Below wr.heap.size wr w4→∃ M9 cs9 co9 cn9 cc9,Rd F w W w4 M base d P pc c us ns nv cv l (i+1) M9 cs9 (.slice co9 cn9 cc9)):=fun w4 hb4=>by
      refine ⟨M',cs',some ⟨g,0,none⟩,cs'.length,cc,⟨hRd.le,?_,hRd.chg.trans (Chg.below hb4),hRd.dom,hRd.cvd⟩⟩
      rw [e7]
      simp only [hyr,decide_true,Bool.not_true,Bool.or_false]
      exact hRd.run.below hb4
     clear hRd HJ qb qd hkb hcsl hnl hrl hr HK H0 e0 e1 e2 hyb e7 hyr hb2 hy hcc
     go_wp2
     go_region_held_law (fun wx=>((wx.cell? ⟨d,2,none⟩=some (.slice (some ⟨g,0,none⟩) cs'.length cc)∧wx.cell? ⟨w.heap.size,5,none⟩=some (.slice (some ⟨b,off,none⟩) L lc))∧(wx.cell? ⟨g,i*3,none⟩=some (.int .i64 y.r.term)∧wx.cell? ⟨g,i*3+1,none⟩=some (.int .i64 y.r.index)∧wx.cell? ⟨g,i*3+2,none⟩=some (.slice yo yn yc))∧(wx.cell? ⟨b,off+i*3,none⟩=some (.int .i64 r.term)∧wx.cell? ⟨b,off+i*3+1,none⟩=some (.int .i64 r.index)∧wx.cell? ⟨b,off+i*3+2,none⟩=some (.slice ro rn rc)))∧Below wr.heap.size wr wx)
      ((refine HS6.out _ ?_;first | assumption | exact Below.refl _ _ | exact (Below.refl _ _).drew))
      (first | (go_at_call 75;refine (HSm.out _ (by first | exact Below.refl _ _ | exact (Below.refl _ _).drew)).mono ?_;rintro rr w4 ⟨rfl,hb4,k3,k4⟩))
     all_goals
      have HN4:=hide (HNx.out w4 hb4)
      go_wp2
      go_roundw
      case rel=>exact ⟨i+1,by omega,by go_num,HN4⟩
      case measure=>simp [intOf];omega
    ·have HSm:Hid (∀ wx,Below wr.heap.size wr wx→Calls Tryz.prog 75 #[.agg #[.int .i64 y.r.term,.int .i64 y.r.index,.slice yo yn yc],.agg #[.int .i64 r.term,.int .i64 r.index,.slice ro rn rc]] wx fun e w'=>e=.returned (.bool false)∧Below wr.heap.size wr w'∧w'.cell? ⟨d,3,none⟩=some (.bool (noteN l i (c.chosen,c.conflict)).2)∧w'.frozen? ⟨d,3,none⟩=false):=fun wx hb=>by
      refine (same_any wx M' (hRd.run.inn.below hb) y.r r yo ro yn yc rn rc hyb qb).mono ?_
      rintro e w' ⟨rfl,hb'⟩
      have hb9:=hb.trans (hb'.mono hb.size)
      exact ⟨by simp [hyr],hb9,cell_of (kept hb9 hb2 (Nat.le_refl _)) rfl,frozen_of (kept hb9 hb2 (Nat.le_refl _)) 3⟩
     have HNx:Hid (∀ w4,Below wr.heap.size wr w4→∃ M9 cs9 co9 cn9 cc9,Rd F w W (w4.setCell ⟨d,3,none⟩ (.bool true)) M base d P pc c us ns nv cv l (i+1) M9 cs9 (.slice co9 cn9 cc9)):=fun w4 hb4=>by
      refine ⟨M',cs',some ⟨g,0,none⟩,cs'.length,cc,⟨hRd.le,?_,(hRd.chg.trans (Chg.below hb4)).trans (Chg.set (.inl rfl) _),hRd.dom,hRd.cvd⟩⟩
      rw [e7]
      simp only [hyr,decide_false,Bool.not_false,Bool.or_true]
      exact Run.clash (hRd.run.below hb4)
     clear hRd HJ qb qd hkb hcsl hnl hrl hr HK H0 e0 e1 e2 hyb e7 hyr hb2 hy hcc
     go_wp2
     go_region_held_law (fun wx=>((wx.cell? ⟨d,2,none⟩=some (.slice (some ⟨g,0,none⟩) cs'.length cc)∧wx.cell? ⟨w.heap.size,5,none⟩=some (.slice (some ⟨b,off,none⟩) L lc))∧(wx.cell? ⟨g,i*3,none⟩=some (.int .i64 y.r.term)∧wx.cell? ⟨g,i*3+1,none⟩=some (.int .i64 y.r.index)∧wx.cell? ⟨g,i*3+2,none⟩=some (.slice yo yn yc))∧(wx.cell? ⟨b,off+i*3,none⟩=some (.int .i64 r.term)∧wx.cell? ⟨b,off+i*3+1,none⟩=some (.int .i64 r.index)∧wx.cell? ⟨b,off+i*3+2,none⟩=some (.slice ro rn rc)))∧Below wr.heap.size wr wx)
      ((refine HS6.out _ ?_;first | assumption | exact Below.refl _ _ | exact (Below.refl _ _).drew))
      (first | (go_at_call 75;refine (HSm.out _ (by first | exact Below.refl _ _ | exact (Below.refl _ _).drew)).mono ?_;rintro rr w4 ⟨rfl,hb4,k3,k4⟩))
     all_goals
      have HN4:=hide (HNx.out w4 hb4)
      go_wp2
      go_roundw
      case rel=>exact ⟨i+1,by omega,by go_num,HN4⟩
      case measure=>simp [intOf];omega
  ·have hltI:¬ (i:Int)<x.p.commit:=by omega
   obtain rfl:i=x.p.commit:=by omega
   have HF:=hide hRd
   have HBW:=hide HG.out.2.2.2.1
   clear hRd HJ hkb
   go_wp2
   go_end0
   exact ⟨rfl,W,M',cs',_,HBW.out,HF.out⟩
end Go.Proofs.YtcfdmbkiinjmaaaGreat.schosen
