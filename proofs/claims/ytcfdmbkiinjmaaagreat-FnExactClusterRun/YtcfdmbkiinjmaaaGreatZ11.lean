import Derived.Test.YtcfdmbkiinjmaaaGreatZ10
import Derived.Test.YtcfdmbkiinjmaaaGreatZ02
import Derived.Laws.CopyOwn
set_option linter.unusedVariables false
open Go.ChangeShapes Go.WideShapes Go.ChangeAt Go.RowKit
namespace Go.Proofs.YtcfdmbkiinjmaaaGreat.takes
open Raft mem grp YtcfdmbkiinjmaaaGreat.look ndw grant stand rows2 clone lookc logs
def mg (l:List Rc) (a:Nat) (rs:List Rc) (j:Nat):List Rc:=merge l a (rs.take j)
def cutL (l:List Rc) (a:Nat) (r:Rc):List Rc:=if a<l.length∧termAt l (a+1)≠r.term then l.take a else l
def stepL (l:List Rc) (a:Nat) (r:Rc):List Rc:=if a=(cutL l a r).length then cutL l a r++[r] else cutL l a r
theorem merge_cons (l:List Rc) (a:Nat) (r:Rc) (rs:List Rc):merge l a (r::rs)=merge (stepL l a r) (a+1) rs:=rfl
theorem merge_snoc (r:Rc):∀ (rs:List Rc) (l:List Rc) (a:Nat),merge l a (rs++[r])=stepL (merge l a rs) (a+rs.length) r
 | [],l,a=>rfl
 | x::rs,l,a=>by
  rw [List.cons_append,merge_cons,merge_cons,merge_snoc r rs]
  congr 1
  simp only [List.length_cons];omega
theorem mg_succ {l:List Rc} {a:Nat} {rs:List Rc} {j:Nat} {r:Rc} (h:rs[j]?=some r):mg l a rs (j+1)=stepL (mg l a rs j) (a+j) r:=by
 have hlt:=(List.getElem?_eq_some_iff.1 h).1
 have e:rs.take (j+1)=rs.take j++[r]:=by
  rw [List.take_succ_eq_append_getElem hlt]
  have:=List.getElem?_eq_getElem hlt
  rw [h] at this
  rw [←Option.some.inj this]
 unfold mg
 rw [e,merge_snoc,List.length_take]
 congr 1
 omega
theorem stepL_len {l:List Rc} {a:Nat} (r:Rc) (h:a≤l.length):a+1≤(stepL l a r).length∧(stepL l a r).length≤l.length+1:=by
 have hc:a≤(cutL l a r).length∧(cutL l a r).length≤l.length:=by
  unfold cutL
  split
  ·rw [List.length_take];omega
  ·omega
 unfold stepL
 split
 ·rw [List.length_append];simp;omega
 ·omega
theorem mg_len (l:List Rc) (a:Nat) (rs:List Rc) (h:a≤l.length):∀ j,j≤rs.length→a+j≤(mg l a rs j).length∧(mg l a rs j).length≤l.length+j
 | 0,_=>by simp [mg,merge];exact h
 | j+1,hj=>by
  obtain ⟨h1,h2⟩:=mg_len l a rs h j (by omega)
  obtain ⟨r,hr⟩:∃ r,rs[j]?=some r:=⟨_,List.getElem?_eq_getElem (by omega)⟩
  rw [mg_succ hr]
  have:=stepL_len r h1
  omega
set_option maxRecDepth 20000 in
set_option maxHeartbeats 4000000 in
theorem take_any (w:World) (M:Fz) (O:Lb) (b k:Nat) (p:Peer) (st:Sta M O w) (h:Nod w M O b k p) (rs:List Rc) (o:Option Addr) (n lc:Nat) (hrs:RecsM M (.slice o n lc) rs) (a:Nat) (ha:a≤p.log.length) (hidx:∀ j r,rs[j]?=some r→r.index=a+j+1) (hl:p.log.length≤500) (hrl:rs.length≤500) :
  Calls Tryz.prog 93 #[.pointer (some ⟨b,0,none⟩),.slice o n lc] w fun r w'=>r=.returned (.tuple #[])∧NDid M O w b k { p with log:=merge p.log a rs } w':=by
 have H0:Hid (NDid M O w b k { p with log:=mg p.log a rs 0 } w):=⟨M,O,Aft.refl _ st,h⟩
 have HEnd:Hid ({ p with log:=mg p.log a rs rs.length }={ p with log:=merge p.log a rs }):=by unfold Hid mg;rw [List.take_length]
 obtain ⟨hnl,hlc⟩:n=rs.length∧lc≤maxLen:=by
  obtain ⟨us,rfl,⟨ao,cap,e,e1,e2,_⟩,_⟩:=hrs
  simp only [Value.slice.injEq] at e
  obtain ⟨_,rfl,rfl⟩:=e
  exact ⟨by simp,e2⟩
 have HCell:Hid (∀ j,j<n→∃ g off r ro rn rc,o=some ⟨g,off,none⟩∧rs[j]?=some r∧r.index=a+j+1∧∀ wr M',Le M M'→In M' wr→(wr.cell? ⟨g,off+j*3,none⟩=some (.int .i64 r.term)∧wr.cell? ⟨g,off+j*3+1,none⟩=some (.int .i64 r.index)∧wr.cell? ⟨g,off+j*3+2,none⟩=some (.slice ro rn rc))∧BytesM M' (.slice ro rn rc) r.data∧r.data.length≤1000):=fun j hj=>by
  obtain ⟨us,e0,hr,hdt⟩:=hrs
  obtain ⟨r,hrj⟩:∃ r,rs[j]?=some r:=⟨_,List.getElem?_eq_getElem (by omega)⟩
  have hrj2:=hrj
  rw [←e0,List.getElem?_map,Option.map_eq_some_iff] at hrj2
  obtain ⟨x,hx,rfl⟩:=hrj2
  have hlt:=(List.getElem?_eq_some_iff.1 hx).1
  obtain ⟨ao,cap,e,_,_,_,_,h5⟩:=hr
  simp only [Value.slice.injEq] at e
  obtain ⟨rfl,rfl,rfl⟩:=e
  obtain ⟨g,off,rfl,hc⟩:=h5 (by omega)
  have hf:=fun i hi=>flat_get recCells 3 recCells_len us j i x hx hi
  obtain ⟨q1,q2⟩:=hdt x (List.mem_iff_getElem?.2 ⟨j,hx⟩)
  obtain ⟨⟨ao2,cp,e2,_⟩,_⟩:=id q1
  refine ⟨g,off,x.r,ao2,_,cp,rfl,hrj,hidx j _ hrj,fun wr M' hle hI=>⟨⟨?_,?_,?_⟩,by rw [←e2];exact q1.le hle,q2⟩⟩
  ·have:=hI.cell (hle.cell (hc (j*3+0) (.int .i64 x.r.term) (by rw [hf 0 (by decide)];rfl)))
   simpa using this
  ·have:=hI.cell (hle.cell (hc (j*3+1) (.int .i64 x.r.index) (by rw [hf 1 (by decide)];rfl)))
   rw [←Nat.add_assoc] at this
   exact this
  ·have:=hI.cell (hle.cell (hc (j*3+2) x.dv (by rw [hf 2 (by decide)];rfl)))
   rw [←Nat.add_assoc,e2] at this
   exact this
 have HLen:Hid (∀ j,j≤n→a+j≤(mg p.log a rs j).length∧(mg p.log a rs j).length≤1000):=fun j hj=>by
  have:=mg_len p.log a rs ha j (by omega)
  omega
 rw [←HEnd.out,←hnl]
 have hn5:n≤500:=by omega
 have ha5:a≤500:=by omega
 unfold maxLen at hlc
 clear hrs HEnd hnl st h ha hidx hl hrl
 go_enter Tryz.func93,Tryz.ntmps93
 go_wp2
 go_loopw [8] (fun jv wr=>∃ j:Nat,j≤n∧jv=.int .i64 j∧Hid (NDid M O w b k { p with log:=mg p.log a rs j } wr)) (fun jv _=>n-(intOf jv).toNat)
 case atStart=>exact ⟨0,Nat.zero_le _,rfl,H0⟩
 case round =>
  obtain ⟨j,hj,rfl,HJ⟩:=hrel
  by_cases hlt:j<n
  ·have hltI:(j:Int)<n:=by omega
   obtain ⟨g,off,r,ro,rn,rc,rfl,hr,hri,hfar⟩:=HCell.out j hlt
   obtain ⟨M1,O1,a1,hnod⟩:=HJ.out
   obtain ⟨⟨q0,q1,q2⟩,qb,qd⟩:=hfar wr M1 a1.le a1.inn
   have hln:=HLen.out j (by omega)
   have HMg:=hide (mg_succ (l:=p.log) (a:=a) hr)
   rw [hri] at q1
   generalize mg p.log a rs j=l at *
   obtain ⟨A,hA⟩:∃ A,A=a+j:=⟨_,rfl⟩
   have HA:=hide hA
   rw [←hA] at hln HMg
   have hA9:A≤1000:=by omega
   have hAI:((a+j+1:Nat):Int)=(A:Int)+1:=by omega
   rw [hAI] at q1
   obtain ⟨W1,hW1⟩:∃ W1,wr.alloc (.cells #[.int .i64 r.term,.int .i64 ((A:Int)+1),.slice ro rn rc] 74)=W1:=⟨_,rfl⟩
   have b1:Below wr.heap.size wr W1:=by rw [←hW1];exact more (Below.refl _ _) _
   have hbox:W1.heap[wr.heap.size]?=some (.cells #[.int .i64 r.term,.int .i64 ((A:Int)+1),.slice ro rn rc] 74 (0,0)):=by rw [←hW1];exact heap_alloc_new wr _
   have s0:=cell_of (i:=0) hbox (v:=.int .i64 r.term) rfl
   have s1:=cell_of (i:=1) hbox (v:=.int .i64 ((A:Int)+1)) rfl
   have s2:=cell_of (i:=2) hbox (v:=.slice ro rn rc) rfl
   have hfrb:=(a1.sta.fresh (Nat.le_refl wr.heap.size)).1
   have HL1:Hid (∀ m,Calls Tryz.prog 87 #[.pointer (some ⟨b,0,none⟩)] (W1.drewN m) fun r w'=>r=.returned (.int .i64 (l.length:Nat))∧w'=W1.drewN m):=fun m=>last_any (W1.drewN m) M1 O1 b k _ (Nod.below a1.sta hnod (b1.trans ((drewN_below W1 m).mono b1.size)))
   have HL1b:Hid (∀ q m,Calls Tryz.prog 87 #[.pointer (some ⟨b,0,none⟩)] (W1.drewN (q+m)) fun r w'=>r=.returned (.int .i64 (l.length:Nat))∧∃ n,w'=W1.drewN (q+n)):=fun q m=>(HL1.out (q+m)).mono (fun _ _ h=>⟨h.1,m,h.2⟩)
   clear hA
   by_cases hAl:A<l.length
   ·have hAlI:(A:Int)+1≤l.length:=by omega
    have HT1:Hid (∀ m,Calls Tryz.prog 95 #[.pointer (some ⟨b,0,none⟩),.int .i64 ((A:Int)+1)] (W1.drewN m) fun r w'=>r=.returned (.int .i64 (termAt l (A+1):Nat))∧w'=W1.drewN m):=fun m=>term_any (W1.drewN m) M1 O1 b k _ (Nod.below a1.sta hnod (b1.trans ((drewN_below W1 m).mono b1.size))) (A+1) (by show A+1≤l.length;omega)
    by_cases hT:termAt l (A+1)=r.term
    ·have e1:((termAt l (A+1):Int) != (r.term:Int))=false:=by simp;omega
     have HX:Hid (∀ q,NDid M O w b k { p with log:=mg p.log a rs (j+1) } (W1.drewN q)):=fun q=>by
      have e9:stepL l A r=l:=by
       have hc9:cutL l A r=l:=by unfold cutL;rw [if_neg (fun h=>h.2 hT)]
       unfold stepL
       rw [hc9,if_neg (by omega)]
      rw [HMg.out,e9]
      have hb9:Below wr.heap.size wr (W1.drewN q):=⟨b1.os,b1.tape,b1.output,b1.size,b1.block⟩
      exact ⟨M1,O1,a1.below hb9,Nod.below a1.sta hnod hb9⟩
     generalize termAt l (A+1)=T at *
     have hgtI:¬ ((l.length:Int)<(A:Int)+1):=by omega
     generalize l.length=LL at *
     clear hT HMg hnod a1 b1 hbox HJ HCell hfar
     go_wp2
     go_quiet (first | (go_at_call 87;refine Calls.quiet_of_same (HL1.out _)) | (go_at_call 95;refine Calls.quiet_of_same (HT1.out _)))
     go_wp2
     go_quiet (first | (go_at_call 87;refine HL1b.out _ _))
     go_wp2
     go_roundw
     case rel=>exact ⟨j+1,by omega,by go_num,hide (HX.out _)⟩
     case measure=>simp [intOf];omega
    ·have e1:((termAt l (A+1):Int) != (r.term:Int))=true:=by simp;omega
     obtain ⟨us1,lv1,vv1,nv1,mv1,hn1⟩:=id hnod
     have hus1:us1.length=l.length:=by
      have:=congrArg List.length hn1.recs
      rw [List.length_map] at this
      exact this
     obtain ⟨lo1,lc1,elv⟩:=own_slice hn1.log
     subst elv
     have hcap1:=(own_cap hn1.log).2
     unfold maxLen at hcap1
     have hnW:Nd W1 M1 O1 b k { p with log:=l } us1 (.slice lo1 us1.length lc1) vv1 nv1 mv1:=hn1.keep (fun x hx=>b1.block x (a1.sta.ok x _ hx).2) (Le.refl _) (fun _ hx=>hx)
     obtain ⟨⟨_,_,u2,_⟩,⟨_,_,v2,_⟩⟩:=Nd.cs hnW
     rw [hus1] at u2 hcap1
     have HlA:Hid ((l.take A).length=A):=by unfold Hid;rw [List.length_take];omega
     have HStep:Hid (stepL l A r=l.take A++[r]):=by
      have hc9:cutL l A r=l.take A:=by unfold cutL;rw [if_pos ⟨hAl,hT⟩]
      unfold Hid stepL
      rw [hc9,if_pos HlA.out.symm]
     have HXX:Hid (∀ q,∃ X,(W1.drewN q).setCell ⟨b,2,none⟩ (.slice lo1 A lc1)=X∧Hid (NDid M1 O1 wr b k { p with log:=l.take A } X)∧(X.cell? ⟨wr.heap.size,0,none⟩=some (.int .i64 r.term)∧X.cell? ⟨wr.heap.size,1,none⟩=some (.int .i64 ((A:Int)+1))∧X.cell? ⟨wr.heap.size,2,none⟩=some (.slice ro rn rc))):=fun q=>by
      have hbne:wr.heap.size≠b:=by have:=(a1.sta.ok b _ hn1.own).2;omega
      have h9:=NDid.cut a1.sta hn1 (W:=W1.drewN q) (⟨b1.os,b1.tape,b1.output,b1.size,b1.block⟩) A (by omega)
      have hk9:((W1.drewN q).setCell ⟨b,2,none⟩ (.slice lo1 A lc1)).heap[wr.heap.size]?=some (.cells #[.int .i64 r.term,.int .i64 ((A:Int)+1),.slice ro rn rc] 74 (0,0)):=(Below.heap_setCell (W1.drewN q) ⟨b,2,none⟩ (.slice lo1 A lc1) wr.heap.size hbne).trans hbox
      exact ⟨_,rfl,h9,cell_of hk9 rfl,cell_of hk9 rfl,cell_of hk9 rfl⟩
     have hA1I:(A:Int)≤l.length:=by omega
     generalize termAt l (A+1)=T at *
     clear hT hnod hn1 hnW hbox HJ HCell hus1
     obtain ⟨LL,hLL⟩:∃ LL,LL=l.length:=⟨_,rfl⟩
     rw [←hLL] at u2 hcap1 hAlI hA1I HL1 HL1b hAl hln
     clear hLL
     go_wp2
     go_quiet (first | (go_at_call 87;refine Calls.quiet_of_same (HL1.out _)) | (go_at_call 95;refine Calls.quiet_of_same (HT1.out _)))
     go_wp2
     go_region
     obtain ⟨X,hX,HX,x0,x1,x2⟩:=HXX.out (nq+1)
     rw [hX]
     clear hX HXX s0 s1 s2 HL1 HL1b HT1 u2 v2
     go_wp2
     obtain ⟨M2,O2,a2,us2,lv2,vv2,nv2,mv2,hn2⟩:=HX.out
     have hus2:us2.length=A:=by
      have:=congrArg List.length hn2.recs
      rw [List.length_map] at this
      rw [this]
      exact HlA.out
     obtain ⟨co,cc,ecv⟩:=own_slice hn2.log
     subst ecv
     have hcap:=(own_cap hn2.log).2.2
     unfold maxLen at hcap
     obtain ⟨⟨_,_,u2,_⟩,⟨_,_,v2,_⟩⟩:=Nd.cs hn2
     have HL2:Hid (∀ m,Calls Tryz.prog 87 #[.pointer (some ⟨b,0,none⟩)] (X.drewN m) fun r w'=>r=.returned (.int .i64 (A:Nat))∧w'=X.drewN m):=fun m=>by
      have:=last_any (X.drewN m) M2 O2 b k _ (Nod.below a2.sta ⟨us2,_,_,_,_,hn2⟩ (drewN_below X m))
      rw [show ({ p with log:=l.take A }:Peer).log.length=A from HlA.out] at this
      exact this
     have hbl:=(a2.sta.ok b _ hn2.own).2
     have HY:Hid (∀ q,∃ Y,X.drewN q=Y∧(Y.cell? ⟨b,2,none⟩=some (.slice co us2.length cc)∧Y.cell? ⟨wr.heap.size,0,none⟩=some (.int .i64 r.term)∧Y.cell? ⟨wr.heap.size,1,none⟩=some (.int .i64 ((A:Int)+1))∧Y.cell? ⟨wr.heap.size,2,none⟩=some (.slice ro rn rc))∧Hid ((((Y.alloc (.cells #[.int .i64 r.term,.int .i64 ((A:Int)+1),.slice ro rn rc] 74)).drew).ownsRow 0 74 3 (.slice co us2.length cc) us2.length (us2.flatMap recCells))∧(∀ (w2:World),((Y.alloc (.cells #[.int .i64 r.term,.int .i64 ((A:Int)+1),.slice ro rn rc] 74)).drew).grownBy w2 (Value.slice co us2.length cc).ownBlock→w2.heap[b]?=X.heap[b]?) ∧
       (∀ (w2:World) (g2 n2 cap2:Nat),((Y.alloc (.cells #[.int .i64 r.term,.int .i64 ((A:Int)+1),.slice ro rn rc] 74)).drew).grownBy w2 (Value.slice co us2.length cc).ownBlock→w2.ownsRow 0 74 3 (.slice (some ⟨g2,0,none⟩) n2 cap2) (us2.length+1) (us2.flatMap recCells++[.int .i64 r.term,.int .i64 ((A:Int)+1),.slice ro rn rc])→((Value.slice co us2.length cc).ownBlock=some g2∨g2=((Y.alloc (.cells #[.int .i64 r.term,.int .i64 ((A:Int)+1),.slice ro rn rc] 74)).drew).heap.size)→NDid M O w b k { p with log:=mg p.log a rs (j+1) } (w2.setCell ⟨b,2,none⟩ (.slice (some ⟨g2,0,none⟩) n2 cap2))))):=fun q=>by
      refine ⟨X.drewN q,rfl,⟨u2,x0,x1,x2⟩,?_,?_,?_⟩
      ·exact row_kept hn2.log fun g' hg'=>(more (Below.refl _ _) (.cells #[.int .i64 r.term,.int .i64 ((A:Int)+1),.slice ro rn rc] 74)).block g' (row_lt hn2.log hg').2
      ·exact fun w2 hg=>(hg.block b (by have e7:(((X.drewN q).alloc (.cells #[.int .i64 r.term,.int .i64 ((A:Int)+1),.slice ro rn rc] 74)).drew).heap.size=((X.drewN q).alloc (.cells #[.int .i64 r.term,.int .i64 ((A:Int)+1),.slice ro rn rc] 74)).heap.size:=rfl;have:=(more (Below.refl _ (X.drewN q)) (.cells #[.int .i64 r.term,.int .i64 ((A:Int)+1),.slice ro rn rc] 74)).size;have e8:(X.drewN q).heap.size=X.heap.size:=rfl;omega) (fun e=>hn2.ne.1 e.symm)).trans ((more (Below.refl _ (X.drewN q)) (.cells #[.int .i64 r.term,.int .i64 ((A:Int)+1),.slice ro rn rc] 74)).block b hbl)
      ·intro w2 g2 n2 cap2 p1 p2 p3
       have h9:=NDid.push a2.sta hn2 (W:=(((X.drewN q).alloc (.cells #[.int .i64 r.term,.int .i64 ((A:Int)+1),.slice ro rn rc] 74)).drew)) ((more (drewN_below X q) (.cells #[.int .i64 r.term,.int .i64 ((A:Int)+1),.slice ro rn rc] 74)).drew) (y:=⟨r,.slice ro rn rc⟩) ⟨qb.le a2.le,qd⟩ (by rw [show recCells ⟨r,.slice ro rn rc⟩=[.int .i64 r.term,.int .i64 ((A:Int)+1),.slice ro rn rc] from by simp [recCells,hri,HA.out]];exact p2) p1 p3
       obtain ⟨M3,O3,a3,h10⟩:=h9
       refine ⟨M3,O3,a1.trans (a2.trans a3),?_⟩
       rw [HMg.out,HStep.out]
       exact h10
     obtain ⟨i0,hii,hz0,hz1,hz2⟩:=info_parts info35
     have HI3:Hid (Tryz.prog.info? 74=some i0∧i0.zero=some (.agg #[.int .i64 0,.int .i64 0,.slice none 0 0])∧i0.size=3∧i0.bytes=40):=⟨hii,hz0,hz1,hz2⟩
     have HDb:=hide hn2.blk
     have hN:us2.length≤1000:=by rw [hus2];omega
     have hgtI:decide ((A:Int)<(A:Int)+1)=true:=by simp;omega
     clear hii hz0 hz1 hz2 hn2 a2 HX HlA HStep hus2 hbl
     generalize us2.length=N at *
     go_quiet (first | (go_at_call 87;refine Calls.quiet_of_same (HL2.out _)))
     obtain ⟨Y,hY,⟨y2,y3,y4,y5⟩,HYY⟩:=HY.out nq
     rw [hY]
     have y3a:∀ ob,(Y.alloc ob).cell? ⟨wr.heap.size,0,none⟩=some (.int .i64 r.term):=fun ob=>at_of (more (Below.refl _ _) ob) y3
     have y4a:∀ ob,(Y.alloc ob).cell? ⟨wr.heap.size,1,none⟩=some (.int .i64 ((A:Int)+1)):=fun ob=>at_of (more (Below.refl _ _) ob) y4
     have y5a:∀ ob,(Y.alloc ob).cell? ⟨wr.heap.size,2,none⟩=some (.slice ro rn rc):=fun ob=>at_of (more (Below.refl _ _) ob) y5
     have y2a:∀ ob,(Y.alloc ob).cell? ⟨b,2,none⟩=some (.slice co N cc):=fun ob=>at_of (more (Below.refl _ _) ob) y2
     have HNw:Hid (∀ (i:Nat) (u:Value),([.int .i64 r.term,.int .i64 ((A:Int)+1),.slice ro rn rc]:List Value)[i]?=some u→((Y.alloc (.cells #[.int .i64 r.term,.int .i64 ((A:Int)+1),.slice ro rn rc] 74)).drew).cell? ((⟨Y.heap.size,0,none⟩:Addr).add i)=some u):=fun i u hu=>by
      rw [addr_add,Nat.zero_add]
      have h7:(Y.alloc (.cells #[.int .i64 r.term,.int .i64 ((A:Int)+1),.slice ro rn rc] 74)).cell? ⟨Y.heap.size,i,none⟩=some u:=cell_of (heap_alloc_new Y _) (by simpa using hu)
      exact h7
     clear hY HY
     go_wp2
     go_region_law (first
      | (refine step_append_lies _ rfl _ _ 26 rfl 0 74 i0 (.agg #[.int .i64 0,.int .i64 0,.slice none 0 0]) 3 40 Tryz.underlying26 HI3.out.1 HI3.out.2.1 HI3.out.2.2.1 HI3.out.2.2.2 rfl (by decide) _ N (us2.flatMap recCells) rfl HYY.out.1 ⟨Y.heap.size,0,none⟩ 1 1 [.int .i64 r.term,.int .i64 ((A:Int)+1),.slice ro rn rc] rfl rfl HNw.out (fun u' hu'=>by simp only [List.mem_cons,List.not_mem_nil,or_false] at hu';rcases hu' with rfl | rfl | rfl <;> rfl) (by decide) (by unfold maxLen;omega) (by omega) (Nat.zero_le _) _ rfl ?_
         intro g2 cap2 w2 O2' G2 hg2 hgl2
         have HN2:=hide (HYY.out.2.2 w2 g2 _ cap2 G2 O2' hg2)
         have k2:=(HYY.out.2.1 w2 G2).trans HDb.out
         have t0:=cell_of (i:=2) k2 (v:=.slice co N cc) rfl
         have t1:=frozen_of k2 2
         clear O2' G2 hg2 hgl2 k2))
     all_goals
      go_wp2
      go_roundw
      case rel=>exact ⟨j+1,by omega,by go_num,HN2⟩
      case measure=>simp [intOf];omega
   ·have hAe:A=l.length:=by omega
    have hdc:decide ((A:Int)+1≤(A:Int))=false:=by simp;omega
    have HlA:Hid (l.length=A):=hAe.symm
    have HStep:Hid (stepL l A r=l++[r]):=by
     have hc9:cutL l A r=l:=by unfold cutL;rw [if_neg (fun h=>hAl h.1)]
     unfold Hid stepL
     rw [hc9,if_pos hAe]
    have HXX:Hid (∀ q,∃ X,W1.drewN q=X∧Hid (NDid M1 O1 wr b k { p with log:=l } X)∧(X.cell? ⟨wr.heap.size,0,none⟩=some (.int .i64 r.term)∧X.cell? ⟨wr.heap.size,1,none⟩=some (.int .i64 ((A:Int)+1))∧X.cell? ⟨wr.heap.size,2,none⟩=some (.slice ro rn rc))):=fun q =>
     ⟨_,rfl,NDid.same a1.sta hnod ⟨b1.os,b1.tape,b1.output,b1.size,b1.block⟩,s0,s1,s2⟩
    rw [←hAe] at HL1 HL1b hln
    clear hAe hAl hnod hbox HJ HCell
    go_wp2
    go_quiet (first | (go_at_call 87;refine Calls.quiet_of_same (HL1.out _)))
    obtain ⟨X,hX,HX,x0,x1,x2⟩:=HXX.out nq
    rw [hX]
    clear hX HXX s0 s1 s2 HL1 HL1b
    go_wp2
    obtain ⟨M2,O2,a2,us2,lv2,vv2,nv2,mv2,hn2⟩:=HX.out
    have hus2:us2.length=A:=by
     have:=congrArg List.length hn2.recs
     rw [List.length_map] at this
     rw [this]
     exact HlA.out
    obtain ⟨co,cc,ecv⟩:=own_slice hn2.log
    subst ecv
    have hcap:=(own_cap hn2.log).2.2
    unfold maxLen at hcap
    obtain ⟨⟨_,_,u2,_⟩,⟨_,_,v2,_⟩⟩:=Nd.cs hn2
    have HL2:Hid (∀ m,Calls Tryz.prog 87 #[.pointer (some ⟨b,0,none⟩)] (X.drewN m) fun r w'=>r=.returned (.int .i64 (A:Nat))∧w'=X.drewN m):=fun m=>by
     have:=last_any (X.drewN m) M2 O2 b k _ (Nod.below a2.sta ⟨us2,_,_,_,_,hn2⟩ (drewN_below X m))
     rw [show ({ p with log:=l }:Peer).log.length=A from HlA.out] at this
     exact this
    have hbl:=(a2.sta.ok b _ hn2.own).2
    have HY:Hid (∀ q,∃ Y,X.drewN q=Y∧(Y.cell? ⟨b,2,none⟩=some (.slice co us2.length cc)∧Y.cell? ⟨wr.heap.size,0,none⟩=some (.int .i64 r.term)∧Y.cell? ⟨wr.heap.size,1,none⟩=some (.int .i64 ((A:Int)+1))∧Y.cell? ⟨wr.heap.size,2,none⟩=some (.slice ro rn rc))∧Hid ((((Y.alloc (.cells #[.int .i64 r.term,.int .i64 ((A:Int)+1),.slice ro rn rc] 74)).drew).ownsRow 0 74 3 (.slice co us2.length cc) us2.length (us2.flatMap recCells))∧(∀ (w2:World),((Y.alloc (.cells #[.int .i64 r.term,.int .i64 ((A:Int)+1),.slice ro rn rc] 74)).drew).grownBy w2 (Value.slice co us2.length cc).ownBlock→w2.heap[b]?=X.heap[b]?) ∧
      (∀ (w2:World) (g2 n2 cap2:Nat),((Y.alloc (.cells #[.int .i64 r.term,.int .i64 ((A:Int)+1),.slice ro rn rc] 74)).drew).grownBy w2 (Value.slice co us2.length cc).ownBlock→w2.ownsRow 0 74 3 (.slice (some ⟨g2,0,none⟩) n2 cap2) (us2.length+1) (us2.flatMap recCells++[.int .i64 r.term,.int .i64 ((A:Int)+1),.slice ro rn rc])→((Value.slice co us2.length cc).ownBlock=some g2∨g2=((Y.alloc (.cells #[.int .i64 r.term,.int .i64 ((A:Int)+1),.slice ro rn rc] 74)).drew).heap.size)→NDid M O w b k { p with log:=mg p.log a rs (j+1) } (w2.setCell ⟨b,2,none⟩ (.slice (some ⟨g2,0,none⟩) n2 cap2))))):=fun q=>by
     refine ⟨X.drewN q,rfl,⟨u2,x0,x1,x2⟩,?_,?_,?_⟩
     ·exact row_kept hn2.log fun g' hg'=>(more (Below.refl _ _) (.cells #[.int .i64 r.term,.int .i64 ((A:Int)+1),.slice ro rn rc] 74)).block g' (row_lt hn2.log hg').2
     ·exact fun w2 hg=>(hg.block b (by have e7:(((X.drewN q).alloc (.cells #[.int .i64 r.term,.int .i64 ((A:Int)+1),.slice ro rn rc] 74)).drew).heap.size=((X.drewN q).alloc (.cells #[.int .i64 r.term,.int .i64 ((A:Int)+1),.slice ro rn rc] 74)).heap.size:=rfl;have:=(more (Below.refl _ (X.drewN q)) (.cells #[.int .i64 r.term,.int .i64 ((A:Int)+1),.slice ro rn rc] 74)).size;have e8:(X.drewN q).heap.size=X.heap.size:=rfl;omega) (fun e=>hn2.ne.1 e.symm)).trans ((more (Below.refl _ (X.drewN q)) (.cells #[.int .i64 r.term,.int .i64 ((A:Int)+1),.slice ro rn rc] 74)).block b hbl)
     ·intro w2 g2 n2 cap2 p1 p2 p3
      have h9:=NDid.push a2.sta hn2 (W:=(((X.drewN q).alloc (.cells #[.int .i64 r.term,.int .i64 ((A:Int)+1),.slice ro rn rc] 74)).drew)) ((more (drewN_below X q) (.cells #[.int .i64 r.term,.int .i64 ((A:Int)+1),.slice ro rn rc] 74)).drew) (y:=⟨r,.slice ro rn rc⟩) ⟨qb.le a2.le,qd⟩ (by rw [show recCells ⟨r,.slice ro rn rc⟩=[.int .i64 r.term,.int .i64 ((A:Int)+1),.slice ro rn rc] from by simp [recCells,hri,HA.out]];exact p2) p1 p3
      obtain ⟨M3,O3,a3,h10⟩:=h9
      refine ⟨M3,O3,a1.trans (a2.trans a3),?_⟩
      rw [HMg.out,HStep.out]
      exact h10
    obtain ⟨i0,hii,hz0,hz1,hz2⟩:=info_parts info35
    have HI3:Hid (Tryz.prog.info? 74=some i0∧i0.zero=some (.agg #[.int .i64 0,.int .i64 0,.slice none 0 0])∧i0.size=3∧i0.bytes=40):=⟨hii,hz0,hz1,hz2⟩
    have HDb:=hide hn2.blk
    have hN:us2.length≤1000:=by rw [hus2];omega
    have hgtI:decide ((A:Int)<(A:Int)+1)=true:=by simp;omega
    clear hii hz0 hz1 hz2 hn2 a2 HX HlA HStep hus2 hbl
    generalize us2.length=N at *
    go_quiet (first | (go_at_call 87;refine Calls.quiet_of_same (HL2.out _)))
    obtain ⟨Y,hY,⟨y2,y3,y4,y5⟩,HYY⟩:=HY.out nq
    rw [hY]
    have y3a:∀ ob,(Y.alloc ob).cell? ⟨wr.heap.size,0,none⟩=some (.int .i64 r.term):=fun ob=>at_of (more (Below.refl _ _) ob) y3
    have y4a:∀ ob,(Y.alloc ob).cell? ⟨wr.heap.size,1,none⟩=some (.int .i64 ((A:Int)+1)):=fun ob=>at_of (more (Below.refl _ _) ob) y4
    have y5a:∀ ob,(Y.alloc ob).cell? ⟨wr.heap.size,2,none⟩=some (.slice ro rn rc):=fun ob=>at_of (more (Below.refl _ _) ob) y5
    have y2a:∀ ob,(Y.alloc ob).cell? ⟨b,2,none⟩=some (.slice co N cc):=fun ob=>at_of (more (Below.refl _ _) ob) y2
    have HNw:Hid (∀ (i:Nat) (u:Value),([.int .i64 r.term,.int .i64 ((A:Int)+1),.slice ro rn rc]:List Value)[i]?=some u→((Y.alloc (.cells #[.int .i64 r.term,.int .i64 ((A:Int)+1),.slice ro rn rc] 74)).drew).cell? ((⟨Y.heap.size,0,none⟩:Addr).add i)=some u):=fun i u hu=>by
     rw [addr_add,Nat.zero_add]
     have h7:(Y.alloc (.cells #[.int .i64 r.term,.int .i64 ((A:Int)+1),.slice ro rn rc] 74)).cell? ⟨Y.heap.size,i,none⟩=some u:=cell_of (heap_alloc_new Y _) (by simpa using hu)
     exact h7
    clear hY HY
    go_wp2
    go_region_law (first
     | (refine step_append_lies _ rfl _ _ 26 rfl 0 74 i0 (.agg #[.int .i64 0,.int .i64 0,.slice none 0 0]) 3 40 Tryz.underlying26 HI3.out.1 HI3.out.2.1 HI3.out.2.2.1 HI3.out.2.2.2 rfl (by decide) _ N (us2.flatMap recCells) rfl HYY.out.1 ⟨Y.heap.size,0,none⟩ 1 1 [.int .i64 r.term,.int .i64 ((A:Int)+1),.slice ro rn rc] rfl rfl HNw.out (fun u' hu'=>by simp only [List.mem_cons,List.not_mem_nil,or_false] at hu';rcases hu' with rfl | rfl | rfl <;> rfl) (by decide) (by unfold maxLen;omega) (by omega) (Nat.zero_le _) _ rfl ?_
        intro g2 cap2 w2 O2' G2 hg2 hgl2
        have HN2:=hide (HYY.out.2.2 w2 g2 _ cap2 G2 O2' hg2)
        have k2:=(HYY.out.2.1 w2 G2).trans HDb.out
        have t0:=cell_of (i:=2) k2 (v:=.slice co N cc) rfl
        have t1:=frozen_of k2 2
        clear O2' G2 hg2 hgl2 k2))
    all_goals
     go_wp2
     go_roundw
     case rel=>exact ⟨j+1,by omega,by go_num,HN2⟩
     case measure=>simp [intOf];omega
  ·have hltI:¬ (j:Int)<n:=by omega
   obtain rfl:j=n:=by omega
   go_wp2
   go_end0
   exact ⟨rfl,HJ.out⟩
end Go.Proofs.YtcfdmbkiinjmaaaGreat.takes
namespace Go.Proofs.YtcfdmbkiinjmaaaGreat.commit
open Raft mem grp YtcfdmbkiinjmaaaGreat.look ndw grant post postb lookb lookc
theorem LDid.did {M:Fz} {O:Lb} {w w':World} {d:Nat} {nb:List Nat} {c':Cl} (h:LDid M O w d nb c' w'):Did M O w d nb c' w':=by
 obtain ⟨M',O',a,g⟩:=h
 exact ⟨M',O',a.mono (fun _ _=>trivial),g⟩
theorem put_at (c:Cl) (k:Nat) (h:k<c.peers.length):c.put k (c.at k)=c:=by
 have e:c.peers[k]?=some (c.at k):=by rw [Cl.at,List.getD_eq_getElem?_getD,List.getElem?_eq_getElem h];rfl
 unfold Cl.put
 rw [show c.peers.set k (c.at k)=c.peers from by
  apply List.ext_getElem?
  intro i
  by_cases hi:i=k
  ·subst hi;rw [List.getElem?_set_self h,e]
  ·rw [List.getElem?_set_ne (Ne.symm hi)]]
theorem reach_le (p:Peer) (n:Nat) (h:p.commit≤p.log.length):reach p n p.log.length≤p.log.length:=by
 rcases reach_spec p n p.log.length with h1 | h1
 ·omega
 ·exact h1.2.1
set_option maxRecDepth 20000 in
set_option maxHeartbeats 1000000 in
theorem commits_any (w:World) (M:Fz) (O:Lb) (d:Nat) (nb:List Nat) (c:Cl) (h:G w M O d nb c) (k b:Nat) (hb:nb[k]?=some b) (h1:1≤c.peers.length) (h7:c.peers.length≤7) (hm7:(c.at k).mat.length≤7) (hcm:(c.at k).commit≤(c.at k).log.length) (hl:(c.at k).log.length≤1000) (hch:c.chosen.length≤1000) :
  Calls Tryz.prog 89 #[.pointer (some ⟨d,0,none⟩),.pointer (some ⟨b,0,none⟩)] w fun r w'=>r=.returned (.tuple #[])∧Did M O w d nb (c.commits k) w':=by
 have st:=h.sta
 have hkl:k<c.peers.length:=by have:=(List.getElem?_eq_some_iff.1 hb).1;have:=h.len;omega
 have hnode:=h.at hb
 obtain ⟨us,lv,vv,nv,mv,hn⟩:=id hnode
 obtain ⟨⟨c0,_,_,_,_,c5,_⟩,⟨_,_,_,_,_,f5,_⟩⟩:=Nd.cs hn
 obtain ⟨p,hp⟩:∃ p,p=c.at k:=⟨_,rfl⟩
 rw [←hp] at hnode hn c0 c5 hm7 hcm hl
 obtain ⟨R,hR⟩:∃ R,R=reach p c.peers.length p.log.length:=⟨_,rfl⟩
 have hRl:R≤p.log.length:=by rw [hR];exact reach_le p _ hcm
 obtain ⟨c1,hc1⟩:∃ c1,c1=c.put k { p with commit:=R }:=⟨_,rfl⟩
 have hcc:c.commits k=c1.note k:=by rw [hc1];unfold Cl.commits;simp only [←hp,←hR]
 rw [hcc]
 have hc1k:c1.at k={ p with commit:=R }:=by rw [hc1];exact at_put c k _ hkl
 have HLast:=hide (last_any w M O b k p hnode)
 have HT:Hid (∀ (wx:World) (i:Nat),Below w.heap.size w wx→i≤p.log.length→Calls Tryz.prog 95 #[.pointer (some ⟨b,0,none⟩),.int .i64 i] wx fun r w'=>r=.returned (.int .i64 (termAt p.log i:Nat))∧w'=wx):=fun wx i hx hi=>term_any _ M O b k p (Nod.below st hnode hx) i hi
 have HRc:Hid (∀ (wx:World) (i:Nat),Below w.heap.size w wx→Calls Tryz.prog 101 #[.pointer (some ⟨b,0,none⟩),.int .i64 i] wx fun r w'=>r=.returned (.int .i64 (p.mat.countP (fun m=>decide (i≤m)):Nat))∧w'=wx):=fun wx i hx=>reaching_any _ M O b k p (Nod.below st hnode hx) hm7 i
 have HMo:Hid (∀ (wx:World),Below w.heap.size w wx→Calls Tryz.prog 99 #[.pointer (some ⟨d,0,none⟩)] wx fun r w'=>r=.returned (.int .i64 (most c.peers.length:Nat))∧w'=wx):=fun wx hx=>most_any _ M O d nb c (h.below hx) h1 h7
 have HLk:Hid (∀ wx,Did M O w d nb c1 wx→Calls Tryz.prog 94 #[.pointer (some ⟨d,0,none⟩),.pointer (some ⟨b,0,none⟩)] wx fun r w'=>r=.returned (.tuple #[])∧Did M O w d nb (c1.note k) w'):=fun wx hx=>by
  obtain ⟨M',O',a,g⟩:=hx
  refine (look_any wx M' O' d nb c1 g k b hb (by rw [hc1k];exact hRl) (by rw [hc1k];exact hl) (by rw [hc1];exact hch)).mono ?_
  rintro r w' ⟨rfl,hd⟩
  exact ⟨rfl,Did.trans a (LDid.did hd)⟩
 have HSame:Hid (R=p.commit→∀ wx,Below w.heap.size w wx→Did M O w d nb c1 wx):=fun e wx hx=>by
  have e1:c1=c:=by rw [hc1,e];show c.put k p=c;rw [hp];exact put_at c k hkl
  rw [e1]
  exact ⟨M,O,(Aft.refl _ st).below hx,h.below hx⟩
 have HSet:Hid (∀ wx,Below w.heap.size w wx→Did M O w d nb c1 (wx.setCell ⟨b,5,none⟩ (.int .i64 R))):=fun wx hx=>by
  have h2:=NDid.sets st hn hx [(5,.int .i64 R)] { p with commit:=R } vv nv mv rfl rfl (.inl ⟨rfl,rfl⟩) (.inl ⟨rfl,rfl⟩) (.inl ⟨rfl,rfl⟩)
  have h3:=NDid.lift h2 h hb
  rw [←hc1] at h3
  exact h3
 have HCs:Hid (∀ wx,Below w.heap.size w wx→wx.cell? ⟨b,0,none⟩=some (.int .i64 p.term)∧wx.cell? ⟨b,5,none⟩=some (.int .i64 p.commit)∧wx.frozen? ⟨b,5,none⟩=false):=fun wx hx=>by
  obtain ⟨_,_,_,_,_,hn'⟩:=Nod.below st hnode hx
  exact ⟨(Nd.cs hn').1.1,(Nd.cs hn').1.2.2.2.2.2.1,(Nd.cs hn').2.2.2.2.2.2.1⟩
 have HR0:Hid (reach p c.peers.length p.log.length=R):=hR.symm
 obtain ⟨L,hL⟩:∃ L,L=p.log.length:=⟨_,rfl⟩
 rw [←hL] at HLast HT hl hcm HR0
 have hLI:(L:Int)≤1000:=by omega
 have hcmI:(p.commit:Int)≤L:=by omega
 clear c0 c5 f5 hn hnode st h hc1k hcc hc1 hRl hR hp hL hm7
 obtain ⟨c0,c5,f5⟩:=HCs.out w (Below.refl _ _)
 go_enter Tryz.func89,Tryz.ntmps89
 go_wp2_with (go_at_call 87;refine HLast.out.mono ?_;rintro rr w' ⟨rfl,hw'⟩;have hw2:=hw'.symm;subst hw2;clear hw')
 go_loopw [4] (fun iv wr=>∃ i:Nat,i≤L∧iv=.int .i64 i∧Hid (Below w.heap.size w wr)∧Hid (reach p c.peers.length i=R)) (fun iv _=>(intOf iv).toNat)
 case atStart=>exact ⟨L,Nat.le_refl _,rfl,hide (Below.refl _ _),HR0⟩
 case round =>
  obtain ⟨i,hi,rfl,HBr,HI⟩:=hrel
  obtain ⟨x0,x5,y5⟩:=HCs.out wr HBr.out
  have HBq:Hid (∀ m,Below w.heap.size w (wr.drewN m)):=fun m=>⟨HBr.out.os,HBr.out.tape,HBr.out.output,HBr.out.size,HBr.out.block⟩
  by_cases hgt:p.commit<i
  ·have hgtI:(p.commit:Int)<i:=by omega
   obtain ⟨j,rfl⟩:∃ j,i=j+1:=⟨i-1,by omega⟩
   have hst:reach p c.peers.length (j+1)=if most c.peers.length≤p.mat.countP (fun m=>decide (j+1≤m))∧termAt p.log (j+1)=p.term then j+1 else reach p c.peers.length j:=by
    rw [reach,if_neg (by omega)]
   have HTj:Hid (∀ m,Calls Tryz.prog 95 #[.pointer (some ⟨b,0,none⟩),.int .i64 ((j:Int)+1)] (wr.drewN m) fun r w'=>r=.returned (.int .i64 (termAt p.log (j+1):Nat))∧w'=wr.drewN m):=fun m=>HT.out _ (j+1) (HBq.out m) hi
   have HRj:Hid (∀ m,Calls Tryz.prog 101 #[.pointer (some ⟨b,0,none⟩),.int .i64 ((j:Int)+1)] (wr.drewN m) fun r w'=>r=.returned (.int .i64 (p.mat.countP (fun m=>decide (j+1≤m)):Nat))∧w'=wr.drewN m):=fun m=>HRc.out _ (j+1) (HBq.out m)
   have HMj:Hid (∀ m,Calls Tryz.prog 99 #[.pointer (some ⟨d,0,none⟩)] (wr.drewN m) fun r w'=>r=.returned (.int .i64 (most c.peers.length:Nat))∧w'=wr.drewN m):=fun m=>HMo.out _ (HBq.out m)
   have HRs:Hid (reach p c.peers.length (j+1)=R):=HI
   generalize hTT:termAt p.log (j+1)=T at *
   generalize hCC:p.mat.countP (fun m=>decide (j+1≤m))=K at *
   generalize hMM:most c.peers.length=mo at *
   have hrw:((j+1:Nat):Int)=(j:Int)+1:=by omega
   rw [hrw] at hgtI ⊢
   by_cases ht:T=p.term
   ·by_cases hk:mo≤K
    ·have e1:((T:Int) == (p.term:Int))=true:=by simp;omega
     have hkI:(mo:Int)≤K:=by omega
     have hRe:j+1=R:=by rw [←HRs.out,hst,if_pos ⟨hk,ht⟩]
     have HLq:=hide (fun m=>HLk.out _ (HSet.out (wr.drewN m) (HBq.out m)))
     rw [←hRe] at HLq
     clear HI hst HRs ht hk
     go_wp2
     go_quiet (first | (go_at_call 95;with_reducible (refine Calls.quiet_of_same (HTj.out _))) | (go_at_call 101;with_reducible (refine Calls.quiet_of_same (HRj.out _))) | (go_at_call 99;with_reducible (refine Calls.quiet_of_same (HMj.out _))))
     go_wp2_with (go_at_call 94;refine (HLq.out _).mono ?_;rintro rr w2 ⟨rfl,hd2⟩;have HD2:=hide hd2;clear hd2)
     go_end0
     exact ⟨rfl,HD2.out⟩
    ·have e1:((T:Int) == (p.term:Int))=true:=by simp;omega
     have hkI:¬ (mo:Int)≤K:=by omega
     have HRe:Hid (reach p c.peers.length j=R):=by
      unfold Hid
      rw [←HRs.out,hst,if_neg (fun h=>hk h.1)]
     clear HI hst HRs ht hk
     go_wp2
     go_quiet (first | (go_at_call 95;with_reducible (refine Calls.quiet_of_same (HTj.out _))) | (go_at_call 101;with_reducible (refine Calls.quiet_of_same (HRj.out _))) | (go_at_call 99;with_reducible (refine Calls.quiet_of_same (HMj.out _))))
     go_wp2
     go_roundw
     case rel=>exact ⟨j,by omega,by first | rfl | go_num,hide (HBq.out _),HRe⟩
     case measure=>(simp [intOf];try omega)
   ·have e1:((T:Int) == (p.term:Int))=false:=by simp;omega
    have HRe:Hid (reach p c.peers.length j=R):=by
     unfold Hid
     rw [←HRs.out,hst,if_neg (fun h=>ht h.2)]
    clear HI hst HRs ht
    go_wp2
    go_quiet (first | (go_at_call 95;with_reducible (refine Calls.quiet_of_same (HTj.out _))) | (go_at_call 101;with_reducible (refine Calls.quiet_of_same (HRj.out _))) | (go_at_call 99;with_reducible (refine Calls.quiet_of_same (HMj.out _))))
    go_wp2
    go_roundw
    case rel=>exact ⟨j,by omega,by first | rfl | go_num,hide (HBq.out _),HRe⟩
    case measure=>(simp [intOf];try omega)
  ·have hgtI:¬ (p.commit:Int)<i:=by omega
   have hRe:R=p.commit:=by
    have:=HI.out
    cases i with
    | zero=>exact this.symm
    | succ i=>rw [reach,if_pos (by omega)] at this;exact this.symm
   have HLq:=hide (HLk.out _ (HSame.out hRe wr HBr.out))
   clear HI
   go_wp2_with (go_at_call 94;refine HLq.out.mono ?_;rintro rr w2 ⟨rfl,hd2⟩;have HD2:=hide hd2;clear hd2)
   go_end0
   exact ⟨rfl,HD2.out⟩
end Go.Proofs.YtcfdmbkiinjmaaaGreat.commit
namespace Go.Proofs.YtcfdmbkiinjmaaaGreat.rep
open Raft mem grp YtcfdmbkiinjmaaaGreat.look ndw grant stand
theorem mulA1 (w:World):Calls Tryz.prog 110 #[.int .u64 1,.int .u64 1] w fun r w'=>r=.returned (.tuple #[.int .u64 0,.int .u64 1])∧w'=w:=by
 go_enter Tryz.func110,Tryz.ntmps110
 go_wp2
 go_ret2
 exact ⟨rfl,rfl⟩
theorem mulB1 (w:World):Calls Tryz.prog 108 #[.int .u64 1,.int .u64 1] w fun r w'=>r=.returned (.tuple #[.int .u64 0,.int .u64 1])∧w'=w:=by
 have H:=mulA1 w
 go_enter Tryz.func108,Tryz.ntmps108
 go_wp2_with (go_at_call 110;refine H.mono ?_;rintro e w' ⟨rfl,rfl⟩)
 go_ret2
 exact ⟨rfl,rfl⟩
theorem mulA2 (w:World):Calls Tryz.prog 110 #[.int .u64 1,.int .u64 2] w fun r w'=>r=.returned (.tuple #[.int .u64 0,.int .u64 2])∧w'=w:=by
 go_enter Tryz.func110,Tryz.ntmps110
 go_wp2
 go_ret2
 exact ⟨rfl,rfl⟩
theorem mulB2 (w:World):Calls Tryz.prog 108 #[.int .u64 1,.int .u64 2] w fun r w'=>r=.returned (.tuple #[.int .u64 0,.int .u64 2])∧w'=w:=by
 have H:=mulA2 w
 go_enter Tryz.func108,Tryz.ntmps108
 go_wp2_with (go_at_call 110;refine H.mono ?_;rintro e w' ⟨rfl,rfl⟩)
 go_ret2
 exact ⟨rfl,rfl⟩
theorem mulA3 (w:World):Calls Tryz.prog 110 #[.int .u64 1,.int .u64 3] w fun r w'=>r=.returned (.tuple #[.int .u64 0,.int .u64 3])∧w'=w:=by
 go_enter Tryz.func110,Tryz.ntmps110
 go_wp2
 go_ret2
 exact ⟨rfl,rfl⟩
theorem mulB3 (w:World):Calls Tryz.prog 108 #[.int .u64 1,.int .u64 3] w fun r w'=>r=.returned (.tuple #[.int .u64 0,.int .u64 3])∧w'=w:=by
 have H:=mulA3 w
 go_enter Tryz.func108,Tryz.ntmps108
 go_wp2_with (go_at_call 110;refine H.mono ?_;rintro e w' ⟨rfl,rfl⟩)
 go_ret2
 exact ⟨rfl,rfl⟩
theorem mulA4 (w:World):Calls Tryz.prog 110 #[.int .u64 1,.int .u64 4] w fun r w'=>r=.returned (.tuple #[.int .u64 0,.int .u64 4])∧w'=w:=by
 go_enter Tryz.func110,Tryz.ntmps110
 go_wp2
 go_ret2
 exact ⟨rfl,rfl⟩
theorem mulB4 (w:World):Calls Tryz.prog 108 #[.int .u64 1,.int .u64 4] w fun r w'=>r=.returned (.tuple #[.int .u64 0,.int .u64 4])∧w'=w:=by
 have H:=mulA4 w
 go_enter Tryz.func108,Tryz.ntmps108
 go_wp2_with (go_at_call 110;refine H.mono ?_;rintro e w' ⟨rfl,rfl⟩)
 go_ret2
 exact ⟨rfl,rfl⟩
theorem mulA5 (w:World):Calls Tryz.prog 110 #[.int .u64 1,.int .u64 5] w fun r w'=>r=.returned (.tuple #[.int .u64 0,.int .u64 5])∧w'=w:=by
 go_enter Tryz.func110,Tryz.ntmps110
 go_wp2
 go_ret2
 exact ⟨rfl,rfl⟩
theorem mulB5 (w:World):Calls Tryz.prog 108 #[.int .u64 1,.int .u64 5] w fun r w'=>r=.returned (.tuple #[.int .u64 0,.int .u64 5])∧w'=w:=by
 have H:=mulA5 w
 go_enter Tryz.func108,Tryz.ntmps108
 go_wp2_with (go_at_call 110;refine H.mono ?_;rintro e w' ⟨rfl,rfl⟩)
 go_ret2
 exact ⟨rfl,rfl⟩
theorem mulA6 (w:World):Calls Tryz.prog 110 #[.int .u64 1,.int .u64 6] w fun r w'=>r=.returned (.tuple #[.int .u64 0,.int .u64 6])∧w'=w:=by
 go_enter Tryz.func110,Tryz.ntmps110
 go_wp2
 go_ret2
 exact ⟨rfl,rfl⟩
theorem mulB6 (w:World):Calls Tryz.prog 108 #[.int .u64 1,.int .u64 6] w fun r w'=>r=.returned (.tuple #[.int .u64 0,.int .u64 6])∧w'=w:=by
 have H:=mulA6 w
 go_enter Tryz.func108,Tryz.ntmps108
 go_wp2_with (go_at_call 110;refine H.mono ?_;rintro e w' ⟨rfl,rfl⟩)
 go_ret2
 exact ⟨rfl,rfl⟩
theorem mulA7 (w:World):Calls Tryz.prog 110 #[.int .u64 1,.int .u64 7] w fun r w'=>r=.returned (.tuple #[.int .u64 0,.int .u64 7])∧w'=w:=by
 go_enter Tryz.func110,Tryz.ntmps110
 go_wp2
 go_ret2
 exact ⟨rfl,rfl⟩
theorem mulB7 (w:World):Calls Tryz.prog 108 #[.int .u64 1,.int .u64 7] w fun r w'=>r=.returned (.tuple #[.int .u64 0,.int .u64 7])∧w'=w:=by
 have H:=mulA7 w
 go_enter Tryz.func108,Tryz.ntmps108
 go_wp2_with (go_at_call 110;refine H.mono ?_;rintro e w' ⟨rfl,rfl⟩)
 go_ret2
 exact ⟨rfl,rfl⟩
theorem mul_any (w:World) (n:Nat) (h1:1≤n) (h2:n≤7):Calls Tryz.prog 108 #[.int .u64 1,.int .u64 (n:Nat)] w fun r w'=>r=.returned (.tuple #[.int .u64 0,.int .u64 (n:Nat)])∧w'=w:=by
 match n,h1,h2 with
 | 1,_,_=>exact mulB1 w
 | 2,_,_=>exact mulB2 w
 | 3,_,_=>exact mulB3 w
 | 4,_,_=>exact mulB4 w
 | 5,_,_=>exact mulB5 w
 | 6,_,_=>exact mulB6 w
 | 7,_,_=>exact mulB7 w
def RepE (w:World) (n:Nat) (v:Int) (r:Ending) (w':World):Prop :=
 r=.returned (.slice (some ⟨w.heap.size,0,none⟩) n n)∧w'.ownsRow w.heap.size 3 1 (.slice (some ⟨w.heap.size,0,none⟩) n n) n (List.replicate n (.int .i64 v))∧Below w.heap.size w w'
def rowR (n j:Nat) (v:Int):List Value:=List.replicate j (.int .i64 v)++List.replicate (n-j) (.int .i64 0)
theorem rowR_len {n j:Nat} (v:Int) (h:j≤n):(rowR n j v).length=n:=by simp [rowR];omega
theorem rowR_splice {n j:Nat} (v:Int) (h:j<n):splice (rowR n j v) j (List.replicate (min j (n-j)) (.int .i64 v))=rowR n (j+min j (n-j)) v:=by
 have hm:min j (n-j)≤n-j:=Nat.min_le_right _ _
 generalize min j (n-j)=m at *
 unfold splice rowR
 rw [List.take_append_of_le_length (by simp),List.take_of_length_le (by simp),List.drop_append]
 simp only [List.length_replicate]
 rw [List.drop_eq_nil_of_le (by simp),List.nil_append]
 have e:j+m-j=m:=by omega
 rw [e,List.drop_replicate,←List.append_assoc,List.replicate_append_replicate]
 have e2:n-j-m=n-(j+m):=by omega
 rw [e2]
theorem own_heap {w:World} {base e:Nat} {g n:Nat} {xs:List Value} (h:w.ownsRow base e 1 (.slice (some ⟨g,0,none⟩) n n) n xs):w.heap[g]?=some (.cells xs.toArray e (0,0)):=by
 obtain ⟨h1,⟨e1,_⟩|⟨g',cap,cur,e1,hb,hh,hc,hm,hs,ht⟩⟩:=h
 ·simp at e1
 ·simp only [Value.slice.injEq,Option.some.injEq,Addr.mk.injEq] at e1
  obtain ⟨⟨rfl,_⟩,_,rfl⟩:=e1
  rw [hh]
  have:cur=xs.toArray:=by
   rw [←ht,List.take_of_length_le (by simp [hs])]
  rw [this]
theorem heap_own {w:World} {base e:Nat} {g n:Nat} {xs:List Value} (hb:base≤g) (hn:n≤1000) (hl:xs.length=n) (h:w.heap[g]?=some (.cells xs.toArray e (0,0))):w.ownsRow base e 1 (.slice (some ⟨g,0,none⟩) n n) n xs :=
 ⟨by omega,.inr ⟨g,n,xs.toArray,rfl,hb,h,Nat.le_refl _,by unfold maxLen;omega,by simp [hl],by rw [Nat.mul_one,List.take_of_length_le (by simp;omega)]⟩⟩
set_option maxHeartbeats 1600000 in
theorem rep_any (w:World) (s:Nat) (v:Int) (hs:w.cell? ⟨s,0,none⟩=some (.int .i64 v)) (n:Nat) (h1:1≤n) (h2:n≤7) :
  Calls Tryz.prog 106 #[.slice (some ⟨s,0,none⟩) 1 1,.int .i64 n] w fun r w'=>RepE w n v r w':=by
 obtain ⟨i0,hi,hz0,hz1,hz2⟩:=info_parts info3
 have hsz:(Tryz.prog.info? 3).map (·.size)=some 1:=by rw [hi];simp [hz1]
 have HI:Hid (Tryz.prog.info? 3=some i0∧i0.zero=some (.int .i64 0)∧i0.size=1∧i0.bytes=8∧(Tryz.prog.info? 3).map (·.size)=some 1):=⟨hi,hz0,hz1,hz2,hsz⟩
 have H:=hide (mul_any w n h1 h2)
 have hw0:IntKind.u64.wrap (n:Int)=n:=by rw [IntKind.wrap_u64];omega
 have hw1:IntKind.i64.wrap (n:Int)=n:=by rw [IntKind.wrap_i64];omega
 have hnI:(1:Int)≤n:=by omega
 have hnI7:(n:Int)≤7:=by omega
 have hslt:s<w.heap.size:=World.block_lt_of_cell? w ⟨s,0,none⟩ hs
 have HB:Hid (∀ w1,w.grownBy w1 none→w1.cell? ⟨s,0,none⟩=some (.int .i64 v)∧Below w.heap.size w w1):=fun w1 hg=>by
  have hb:Below w.heap.size w w1:=(Below.refl _ _).grown hg (Nat.le_refl _) (by simp)
  exact ⟨by rw [World.cell?_of_block (a:=⟨s,0,none⟩) (hb.block s hslt)];exact hs,hb⟩
 clear hi hz0 hz1 hz2 hsz
 go_enter Tryz.func106,Tryz.ntmps106
 go_wp2_with (first
  | (go_at_call 108;refine H.out.mono ?_;rintro e w' ⟨rfl,hw'⟩;have hw2:=hw'.symm;subst hw2;clear hw')
  | (at_make;go_loud (refine wpList_make_full _ rfl _ _ 29 rfl w.heap.size 3 i0 (.int .i64 0) 1 Tryz.underlying29 HI.out.1 HI.out.2.1 HI.out.2.2.1 .i64 .i64 _ _ n rfl rfl rfl rfl (by rw [HI.out.2.2.2.1];omega) (by unfold maxLen;omega) (Nat.le_refl _) ?_)
     intro w1 hown1 hgrow1
     rw [made_zero] at hown1
     have HW1:=hide (own_heap hown1)
     have HB1:=hide (HB.out w1 hgrow1)
     clear hown1 hgrow1)
  | (refine wpList_copy_splice rfl _ _ 29 29 rfl 3 Tryz.underlying29 HI.out.2.2.2.2 _ _ _ _ _ _ rfl rfl w.heap.size 0 (List.replicate n (.int .i64 0)) 3 HW1.out [.int .i64 v] (by simp [Nat.min_def];omega) (fun _=>⟨rfl,_,rfl,fun j u hu=>by (match j,hu with | 0,hu=>simp only [List.getElem?_cons_zero,Option.some.injEq] at hu;subst hu;rw [addr_add];exact HB1.out.1 | j+1,hu=>simp at hu)⟩) (by simp;omega) (by simp [Value.oneCell']) w.heap.size w HB1.out.2 (Nat.le_refl _) ?_
     intro w2 HW2 hb2
     have HB2:=hide hb2
     clear hb2 HW1 HB1))
 have HW3:Hid (w2.heap[w.heap.size]?=some (.cells (rowR n 1 v).toArray 3 (0,0))):=by
  have h9:=HW2.out
  have e9:splice (List.replicate n (Value.int .i64 0)) 0 [Value.int .i64 v]=rowR n 1 v:=by
   unfold splice rowR
   simp
  rw [e9] at h9
  exact h9
 clear HW2 H HB hs hslt
 go_loopw [8] (fun jv wr=>∃ j:Nat,1≤j∧j≤n∧jv=.int .i64 j∧Hid (wr.heap[w.heap.size]?=some (.cells (rowR n j v).toArray 3 (0,0))∧Below w.heap.size w wr)) (fun jv _=>n-(intOf jv).toNat)
 case atStart=>exact ⟨1,Nat.le_refl _,h1,rfl,hide ⟨HW3.out,HB2.out⟩⟩
 case round =>
  clear HW3 HB2
  obtain ⟨j,hj1,hjn,rfl,HJ⟩:=hrel
  by_cases hlt:j<n
  ·have hltI:(j:Int)<n:=by omega
   have hne:¬ (n=j):=by omega
   have HC:Hid (∀ i u,(List.replicate (min j (n-j)) (Value.int .i64 v))[i]?=some u→wr.cell? ⟨w.heap.size,i,none⟩=some u):=fun i u hu=>by
    have hi:=(List.getElem?_eq_some_iff.1 hu).1
    simp only [List.length_replicate] at hi
    refine cell_of HJ.out.1 ?_
    rw [List.getElem?_replicate,if_pos (by omega)] at hu
    simp only [List.getElem?_toArray,rowR]
    rw [List.getElem?_append_left (by simp;omega),List.getElem?_replicate,if_pos (by omega)]
    exact hu
   have HC2:Hid (∀ i u,(List.replicate (min j (n-j)) (Value.int .i64 v))[i]?=some u→wr.drew.cell? ⟨w.heap.size,i,none⟩=some u):=HC.out
   have hmn:min j (n-j)≤n:=by omega
   have HM:Hid (min j (n-j)=Nat.min j (n-j)):=rfl
   have HN:Hid (∀ w4:World,w4.heap[w.heap.size]?=some (.cells (splice (rowR n j v) j (List.replicate (min j (n-j)) (.int .i64 v))).toArray 3 (0,0))→w4.heap[w.heap.size]?=some (.cells (rowR n (j+min j (n-j)) v).toArray 3 (0,0))):=fun w4 h=>by rw [rowR_splice v hlt] at h;exact h
   have hmpos:1≤min j (n-j):=by omega
   have hmle:j+min j (n-j)≤n:=by omega
   generalize min j (n-j)=m at *
   have HM2:Hid ((List.replicate m (Value.int .i64 v)).length=Nat.min j (n-j)):=by unfold Hid;simp only [List.length_replicate];exact HM.out
   have HCC:Hid (∀ (i:Nat) (u:Value),(List.replicate m (Value.int .i64 v))[i]?=some u→wr.drew.cell? ((⟨w.heap.size,0,none⟩:Addr).add i)=some u):=fun i u hu=>by rw [addr_add,Nat.zero_add];exact HC.out i u hu
   have HFit:Hid (j+(List.replicate m (Value.int .i64 v)).length≤(rowR n j v).length):=by unfold Hid;rw [rowR_len v (by omega)];simp only [List.length_replicate];omega
   have HOne:Hid (∀ u∈List.replicate m (Value.int .i64 v),u.oneCell'=true):=fun u hu=>by rw [List.eq_of_mem_replicate hu];rfl
   have HBd:Hid (Below w.heap.size w wr.drew):=HJ.out.2.drew
   clear HC HC2 HM hmn
   have hmI:(j:Int)+m≤n:=by omega
   have hwj:IntKind.i64.wrap ((j:Int)+m)=(j:Int)+m:=by rw [IntKind.wrap_i64];omega
   go_wp2
   go_region_law (refine step_copy_splice rfl (.tmp 41) (.tmp 44) 29 29 rfl 3 Tryz.underlying29 HI.out.2.2.2.2 (some ⟨w.heap.size,j,none⟩) (some ⟨w.heap.size,0,none⟩) (n-j) (n-j) j n (by simp [Act.eval,Act.put]) (by simp [Act.eval,Act.put]) w.heap.size j (rowR n j v) 3 HJ.out.1 (List.replicate m (.int .i64 v)) HM2.out (fun _=>⟨rfl,_,rfl,HCC.out⟩) HFit.out HOne.out w.heap.size w HBd.out (Nat.le_refl _) ?_;intro w4 HW4 hb4;have HB4:=hide hb4;clear hb4;simp only [goInt,List.length_replicate])
   all_goals
    have HN4:=hide (HN.out w4 HW4.out)
    simp [Act.put]
    go_wp2
    go_roundw
    case rel=>exact ⟨j+m,by omega,by omega,by go_num,hide ⟨HN4.out,HB4.out⟩⟩
    case measure=>simp [intOf];omega
  ·have hltI:¬ (j:Int)<n:=by omega
   obtain rfl:j=n:=by omega
   have HE:Hid (wr.ownsRow w.heap.size 3 1 (.slice (some ⟨w.heap.size,0,none⟩) j j) j (List.replicate j (.int .i64 v))∧Below w.heap.size w wr):=by
    refine hide ⟨?_,HJ.out.2⟩
    have h9:=HJ.out.1
    have e9:rowR j j v=List.replicate j (.int .i64 v):=by simp [rowR]
    rw [e9] at h9
    exact heap_own (Nat.le_refl _) (by omega) (by simp) h9
   go_wp2
   go_ret
   exact ⟨rfl,HE.out⟩
end Go.Proofs.YtcfdmbkiinjmaaaGreat.rep
namespace Go.Proofs.YtcfdmbkiinjmaaaGreat.lead
open Raft mem grp YtcfdmbkiinjmaaaGreat.look ndw grant stand rows2 rep
def leadM (p:Peer) (n:Nat):Peer:={ p with role:=2,votes:=[],next:=List.replicate n (p.log.length+1),mat:=List.replicate n 0 }
def leadP (p:Peer) (k n:Nat):Peer:={ p with role:=2,votes:=[],next:=List.replicate n (p.log.length+1),mat:=(List.replicate n 0).set k p.log.length }
theorem lead_mid {w W0 W1 w3 W4 w5:World} {M:Fz} {O:Lb} {b k n:Nat} {p:Peer} {us:List RV} {lv vv nv mv:Value} (st:Sta M O w) (h:Nd w M O b k p us lv vv nv mv)
  (hW0:W0=sets w b [(6,.int .i64 2),(7,.slice none 0 0)]) (hW1:Below W0.heap.size W0 W1) (h13:Below W1.heap.size W1 w3) (hO3:w3.ownsRow W1.heap.size 3 1 (.slice (some ⟨W1.heap.size,0,none⟩) n n) n (List.replicate n (.int .i64 ((p.log.length:Int)+1))))
  (hW4:W4=w3.setCell ⟨b,8,none⟩ (.slice (some ⟨W1.heap.size,0,none⟩) n n)) (hO5:w5.ownsRow W4.heap.size 3 1 (.slice (some ⟨W4.heap.size,0,none⟩) n n) n (List.replicate n (.int .i64 0))) (hG:W4.grownBy w5 none) :
  ∃ O',Aft (· = 3+k) M O w M O' (w5.setCell ⟨b,9,none⟩ (.slice (some ⟨W4.heap.size,0,none⟩) n n))∧Nd (w5.setCell ⟨b,9,none⟩ (.slice (some ⟨W4.heap.size,0,none⟩) n n)) M O' b k (leadM p n) us lv (.slice none 0 0) (.slice (some ⟨W1.heap.size,0,none⟩) n n) (.slice (some ⟨W4.heap.size,0,none⟩) n n):=by
 have a0:Aft (· = 3+k) M O w M O W0:=by rw [hW0];exact sets_aft (S:=(· = 3+k)) h.own rfl _ (Aft.refl _ st)
 have a1:=a0.below hW1
 have a3:=a1.below h13
 have hsz:=a1.size
 have hg1:=row_lt hO3 (g:=W1.heap.size) rfl
 have a4:=a3.label (b:=W1.heap.size) (l:=3+k) hsz hg1.2 (st.inn.fresh hsz) rfl
 have hbl:=(st.ok b _ h.own).2
 have hb1:lab O W1.heap.size (3+k) b=some (3+k):=by rw [lab_ne O _ (by omega)];exact h.own
 have a5:=a4.set hb1 rfl 8 (.slice (some ⟨W1.heap.size,0,none⟩) n n)
 rw [←hW4] at a5
 have a6:=a5.grown hG (fun _ h=>by cases h)
 have hsz4:=a5.size
 have hg2:=row_lt hO5 (g:=W4.heap.size) rfl
 have a7:=a6.label (b:=W4.heap.size) (l:=3+k) hsz4 hg2.2 (st.inn.fresh hsz4) rfl
 have hz4:W4.heap.size=w3.heap.size:=by rw [hW4];simp
 have hb2:lab (lab O W1.heap.size (3+k)) W4.heap.size (3+k) b=some (3+k):=by rw [lab_ne _ _ (by omega)];exact hb1
 have a8:=a7.set hb2 rfl 9 (.slice (some ⟨W4.heap.size,0,none⟩) n n)
 refine ⟨_,a8,?_⟩
 obtain ⟨n1,n2,n3,n4⟩:=h.ne
 have h1b:w3.heap[b]?=some (.cells #[.int .i64 p.term,.int .i64 p.vote,lv,.int .i64 k,.bool p.up,.int .i64 p.commit,.int .i64 2,.slice none 0 0,nv,mv] 89 (0,0)):=by
  rw [h13.block b (by omega),hW1.block b (by have:=a0.size;omega),hW0]
  exact sets_at _ h.blk
 have h5b:w5.heap[b]?=some (.cells #[.int .i64 p.term,.int .i64 p.vote,lv,.int .i64 k,.bool p.up,.int .i64 p.commit,.int .i64 2,.slice none 0 0,.slice (some ⟨W1.heap.size,0,none⟩) n n,mv] 89 (0,0)):=by
  rw [hG.block b (by omega) (by simp),hW4]
  exact set_at h1b 8 _ rfl
 have hbk:∀ x,x<w.heap.size→x≠b→(w5.setCell ⟨b,9,none⟩ (.slice (some ⟨W4.heap.size,0,none⟩) n n)).heap[x]?=w.heap[x]? := fun x hx hxb=>by
  rw [setv_keep x hxb,hG.block x (by omega) (by simp),hW4,setv_keep x hxb,h13.block x (by omega),hW1.block x (by have:=a0.size;omega),hW0]
  exact sets_ne _ w hxb
 have r3:(w5.setCell ⟨b,9,none⟩ (.slice (some ⟨W4.heap.size,0,none⟩) n n)).ownsRow 0 3 1 (.slice (some ⟨W1.heap.size,0,none⟩) n n) n (List.replicate n (.int .i64 ((p.log.length:Int)+1))):=own_base (row_kept hO3 fun g hg=>by
  simp only [Value.ownBlock,Option.some.injEq] at hg
  subst hg
  rw [setv_keep _ (by omega),hG.block _ (by omega) (by simp),hW4,setv_keep _ (by omega)])
 have r5:(w5.setCell ⟨b,9,none⟩ (.slice (some ⟨W4.heap.size,0,none⟩) n n)).ownsRow 0 3 1 (.slice (some ⟨W4.heap.size,0,none⟩) n n) n (List.replicate n (.int .i64 0)):=own_base (row_kept hO5 fun g hg=>by
  simp only [Value.ownBlock,Option.some.injEq] at hg
  subst hg
  rw [setv_keep _ (by omega)])
 refine ⟨?_,hb2,row_kept h.log fun g hg=>hbk g (row_lt h.log hg).2 (fun e=>n1 (e ▸ hg)),h.recs,h.data,World.ownsRow_nil _ 0 4 1,?_,?_,?_,?_⟩
 ·exact set_at h5b 9 _ rfl
 ·simpa [leadM] using r3
 ·simpa [leadM] using r5
 ·intro v hv g hg
  simp only [List.mem_cons,List.not_mem_nil,or_false] at hv
  rcases hv with rfl | rfl | rfl | rfl
  ·have hlt:=(row_lt h.log hg).2
   rw [lab_ne _ _ (by omega),lab_ne _ _ (by omega)];exact h.lab _ (by simp) g hg
  ·simp [Value.ownBlock] at hg
  ·simp only [Value.ownBlock,Option.some.injEq] at hg
   subst hg
   rw [lab_ne _ _ (by omega)];exact lab_at _ _ _
  ·simp only [Value.ownBlock,Option.some.injEq] at hg
   subst hg;exact lab_at _ _ _
 ·intro g hg
  intro e
  simp only [Value.ownBlock,Option.some.injEq] at hg e
  omega
set_option maxRecDepth 20000 in
set_option maxHeartbeats 4000000 in
theorem lead_any (w:World) (M:Fz) (O:Lb) (b k n:Nat) (p:Peer) (st:Sta M O w) (h:Nod w M O b k p) (hk:k<n) (hn7:n≤7) (hl:p.log.length≤1000) :
  Calls Tryz.prog 100 #[.pointer (some ⟨b,0,none⟩),.int .i64 n] w fun r w'=>r=.returned (.tuple #[])∧NDid M O w b k (leadP p k n) w':=by
 obtain ⟨us,lv,vv,nv,mv,h⟩:=h
 obtain ⟨⟨c0,c1,c2,c3,c4,c5,c6,c7,c8,c9⟩,⟨f0,f1,f2,f3,f4,f5,f6,f7,f8,f9⟩⟩:=Nd.cs h
 obtain ⟨i0,hi,hz0,hz1,hz2⟩:=info_parts info3
 have HI:Hid (Tryz.prog.info? 3=some i0∧i0.zero=some (.int .i64 0)∧i0.size=1∧i0.bytes=8):=⟨hi,hz0,hz1,hz2⟩
 obtain ⟨W0,hW0⟩:∃ W0,((w.setCell ⟨b,6,none⟩ (.int .i64 2)).setCell ⟨b,7,none⟩ (.slice none 0 0))=W0:=⟨_,rfl⟩
 have hN0:=NDid.sets st h (Below.refl _ _) [(6,.int .i64 2),(7,.slice none 0 0)] { p with role:=2,votes:=[] } (.slice none 0 0) nv mv rfl rfl (.inr ⟨rfl,rfl⟩) (.inl ⟨rfl,rfl⟩) (.inl ⟨rfl,rfl⟩)
 obtain ⟨M0,O0,_,hN1⟩:=hN0
 have HL0:Hid (Calls Tryz.prog 87 #[.pointer (some ⟨b,0,none⟩)] W0 fun r w'=>r=.returned (.int .i64 (p.log.length:Nat))∧w'=W0):=by
  have:=last_any _ M0 O0 b k _ hN1
  rw [show sets w b [(6,.int .i64 2),(7,.slice none 0 0)]=W0 from hW0] at this
  exact this
 have hW0b:W0.heap[b]?=some (.cells #[.int .i64 p.term,.int .i64 p.vote,lv,.int .i64 k,.bool p.up,.int .i64 p.commit,.int .i64 2,.slice none 0 0,nv,mv] 89 (0,0)):=by
  rw [←hW0]
  exact sets_at [(6,.int .i64 2),(7,.slice none 0 0)] h.blk
 have hbl:b<W0.heap.size:=(Array.getElem?_eq_some_iff.1 hW0b).1
 obtain ⟨W1,hW1⟩:∃ W1,W0.alloc (.cells #[.int .i64 ((p.log.length:Int)+1)] 3)=W1:=⟨_,rfl⟩
 have bW1:Below W0.heap.size W0 W1:=by rw [←hW1];exact more (Below.refl _ _) _
 have zW1:W1.heap.size=W0.heap.size+1:=by rw [←hW1];simp
 have hcW1:W1.cell? ⟨W0.heap.size,0,none⟩=some (.int .i64 ((p.log.length:Int)+1)):=by rw [←hW1];exact cell_of (heap_alloc_new W0 _) rfl
 have HR:Hid (Calls Tryz.prog 106 #[.slice (some ⟨W0.heap.size,0,none⟩) 1 1,.int .i64 n] W1 fun r w'=>RepE W1 n ((p.log.length:Int)+1) r w'):=rep_any W1 W0.heap.size _ hcW1 n (by omega) hn7
 have HB1:Hid (∀ w3,Below W1.heap.size W1 w3→w3.heap[b]?=some (.cells #[.int .i64 p.term,.int .i64 p.vote,lv,.int .i64 k,.bool p.up,.int .i64 p.commit,.int .i64 2,.slice none 0 0,nv,mv] 89 (0,0))):=fun w3 hb=>(hb.block b (by omega)).trans ((bW1.block b hbl).trans hW0b)
 have HM:Hid (∀ w3 W4 w5,Below W1.heap.size W1 w3→w3.ownsRow W1.heap.size 3 1 (.slice (some ⟨W1.heap.size,0,none⟩) n n) n (List.replicate n (.int .i64 ((p.log.length:Int)+1)))→W4=w3.setCell ⟨b,8,none⟩ (.slice (some ⟨W1.heap.size,0,none⟩) n n)→w5.ownsRow W4.heap.size 3 1 (.slice (some ⟨W4.heap.size,0,none⟩) n n) n (List.replicate n (.int .i64 0))→W4.grownBy w5 none →
   ∃ O',Aft (· = 3+k) M O w M O' (w5.setCell ⟨b,9,none⟩ (.slice (some ⟨W4.heap.size,0,none⟩) n n))∧Nd (w5.setCell ⟨b,9,none⟩ (.slice (some ⟨W4.heap.size,0,none⟩) n n)) M O' b k (leadM p n) us lv (.slice none 0 0) (.slice (some ⟨W1.heap.size,0,none⟩) n n) (.slice (some ⟨W4.heap.size,0,none⟩) n n)) :=
  fun w3 W4 w5 q1 q2 q3 q4 q5=>lead_mid st h hW0.symm bW1 q1 q2 q3 q4 q5
 have hkI:(k:Int)<n:=by omega
 have hlI:(p.log.length:Int)≤1000:=by omega
 have HLL:Hid (leadP p k n={ leadM p n with mat:=(leadM p n).mat.set k p.log.length }∧(leadM p n).mat.length=n∧(leadM p n).log=p.log):=by refine hide ⟨rfl,?_,rfl⟩;simp [leadM]
 have HZ:Hid (W1.heap.size=W0.heap.size+1∧b<W0.heap.size):=⟨zW1,hbl⟩
 clear hi hz0 hz1 hz2 hW0b h st hbl hN1 bW1 zW1 hcW1 hl
 obtain ⟨L,hLn⟩:∃ L,p.log.length=L:=⟨_,rfl⟩
 have HLn:=hide hLn
 rw [hLn] at HL0 HR HM hlI HLL hW1
 clear hLn
 go_enter Tryz.func100,Tryz.ntmps100
 go_wp2_with (first
  | (go_at_call 87;refine HL0.out.mono ?_;rintro e w' ⟨rfl,hw'⟩;have hw2:=hw'.symm;subst hw2;clear hw')
  | (go_at_call 106;refine HR.out.mono ?_;rintro e w3 ⟨rfl,hrow3,hbel3⟩
     have hb3:=HB1.out w3 hbel3
     have t8:=cell_of (i:=8) hb3 (v:=nv) rfl
     have g8:=frozen_of hb3 8
     have HR3:=hide hrow3
     have HBe3:=hide hbel3
     clear hrow3 hbel3 hb3)
  | (at_make
     (
     obtain ⟨W4,hW4⟩:∃ W4,w3.setCell ⟨b,8,none⟩ (.slice (some ⟨W1.heap.size,0,none⟩) n n)=W4:=⟨_,rfl⟩
     rw [hW4]
     refine wpList_make_full _ rfl _ _ 29 rfl W4.heap.size 3 i0 (.int .i64 0) 1 Tryz.underlying29 HI.out.1 HI.out.2.1 HI.out.2.2.1 .i64 .i64 _ _ n rfl rfl rfl rfl (by rw [HI.out.2.2.2];omega) (by unfold maxLen;omega) (Nat.le_refl _) ?_
     intro w5 hown5 hgrow5
     rw [made_zero] at hown5
     have hb3:=HB1.out w3 HBe3.out
     have hlt4:b<W4.heap.size:=by rw [←hW4];have:=(Array.getElem?_eq_some_iff.1 hb3).1;simpa using this
     have hb4:=set_at hb3 8 (.slice (some ⟨W1.heap.size,0,none⟩) n n) rfl
     rw [hW4] at hb4
     have hb5:=(hgrow5.block b hlt4 (by simp)).trans hb4
     have t9:=cell_of (i:=9) hb5 (v:=mv) rfl
     have g9:=frozen_of hb5 9
     have HM5:=hide (HM.out w3 W4 w5 HBe3.out HR3.out hW4.symm hown5 hgrow5)
     clear hown5 hgrow5 hb3 hb4 hb5 hlt4)))
 obtain ⟨W6,hW6⟩:∃ W6,w5.setCell ⟨b,9,none⟩ (.slice (some ⟨W4.heap.size,0,none⟩) n n)=W6:=⟨_,rfl⟩
 obtain ⟨O',ha,hn⟩:=HM5.out
 rw [hW6] at ha hn ⊢
 obtain ⟨⟨_,_,_,u3,_,_,_,_,_,u9⟩,_⟩:=Nd.cs hn
 have hml:=HLL.out.2.1
 obtain ⟨g',cap',e',_,_,hc',hf'⟩:=own_at hn.mat (by rw [hml];omega)
 have eg:g'=W4.heap.size:=by simp only [Value.slice.injEq,Option.some.injEq,Addr.mk.injEq] at e';exact e'.1.1.symm
 subst eg
 have u8:=hc' k (.int .i64 0) (by simp [leadM,hk])
 have uf:=hf' k
 have HF:Hid (NDid M O w b k (leadP p k n) (W6.setCell ⟨W4.heap.size,k,none⟩ (.int .i64 L))):=by
  obtain ⟨M9,O9,a9,h9⟩:=NDid.setMat ha.sta hn k L
  rw [HLL.out.1]
  exact ⟨M9,O9,ha.trans a9,h9⟩
 have HL6:Hid (∀ q,Calls Tryz.prog 87 #[.pointer (some ⟨b,0,none⟩)] (W6.drewN q) fun r w'=>r=.returned (.int .i64 (L:Nat))∧w'=W6.drewN q):=fun q=>by
  have:=last_any (W6.drewN q) M O' b k _ (Nod.below ha.sta ⟨us,lv,_,_,_,hn⟩ (drewN_below W6 q))
  rw [HLL.out.2.2,HLn.out] at this
  exact this
 clear hW6 ha hn hc' hf' e' HM5 HM HR3 HBe3 HB1 HR HL0 hW0 hW1 hW4
 generalize W4.heap.size=Z at *
 go_region_law (first | (go_simp;go_at_call 87;refine (HL6.out 1).mono ?_;rintro rr w9 ⟨rfl,hw9⟩;have hw2:=hw9.symm;subst hw2;clear hw9))
 all_goals
  go_wp2
  go_end0
  exact ⟨rfl,HF.out.drew⟩
end Go.Proofs.YtcfdmbkiinjmaaaGreat.lead
