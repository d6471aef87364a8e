import Derived.Test.YtcfdmbkiinjmaaaGreatZ17
import Derived.Test.YtcfdmbkiinjmaaaGreatZ18
import Derived.Test.YtcfdmbkiinjmaaaGreatZ19
import Derived.Test.YtcfdmbkiinjmaaaGreatZ20
import Derived.Test.YtcfdmbkiinjmaaaGreatZ21
import Derived.Test.YtcfdmbkiinjmaaaGreatZ22
import Derived.Test.YtcfdmbkiinjmaaaGreatZ15
import Derived.Test.YtcfdmbkiinjmaaaGreatZ06
import Derived.Test.YtcfdmbkiinjmaaaGreatZ09
import Derived.WalkMore
import Derived.Deep.Cut
import Derived.Deep.RegionLaw
import Derived.Deep.RegionHeldLaw
set_option linter.unusedVariables false
namespace Go.Proofs.YtcfdmbkiinjmaaaGreat.sdlv
open Go.ChangeShapes Go.WideShapes Go.ChangeAt Go.RowKit
open Raft mem srun ssend sdown ssmall scopy srecs sapp ssame schos schosen scom sgrow sin sel stk slog sap0 sdl0
variable {F:Nat→Option Obj}
theorem seen_term (c:Cl) (k T:Nat) (h:k<c.peers.length):T≤((deliv.seen c k T).at k).term:=by
 unfold deliv.seen
 split
 ·rw [deliv.down_at c k T h]
  show T≤max (c.at k).term T
  omega
 ·omega
theorem deliver_any (w:World) (M:Fz) (base d P pc:Nat) (c:Cl) (us:List PV) (ns:List MV) (nv:Value) (cs:List RV) (cv:Value) (h:Run (TS F) w M base d P pc c us ns nv cs cv) (n:Nat) (h1:1≤n) (h7:n≤7) (s:Raft.St) (hR:Rel n c s) (hC:Cov n c) (hB:Bd c) (m:Msg) (hm:MsgOK n s m) (hmb:MB m) (lo:Option Addr) (ln lc:Nat) (hlv:RecsM M (.slice lo ln lc) m.log) :
  Calls Tryz.prog 36 #[.pointer (some ⟨d,0,none⟩),.agg #[.int .i64 m.kind,.int .i64 m.frm,.int .i64 m.to,.int .i64 m.term,.int .i64 m.a,.int .i64 m.b,.int .i64 m.c,.bool m.ok,.slice lo ln lc]] w fun r w'=>r=.returned (.tuple #[])∧SD F w M base d P pc (c.deliver m) w':=by
 have hto:m.to<c.peers.length:=by rw [hR.len];exact hm.to
 have hul:us.length=n:=by rw [←hR.len,←h.peers,List.length_map]
 obtain ⟨x,hk⟩:∃ x,us[m.to]?=some x:=⟨_,List.getElem?_eq_getElem (by rw [hul];exact hm.to)⟩
 have hat:=(sdown.Run.at h hk).1
 have hcl:c.chosen.length≤1000:=by have:=hB.chosen;omega
 cases hup:x.p.up with
 | false=>exact sdl3.deliver_off w M base d P pc c us ns nv cs cv h m lo ln lc hlv x hk hup
 | true =>
  obtain ⟨s1,hR1,hC1,hm1⟩:=deliv.seen_rel hR hC hm.to m.term hm
  have hB1:=deliv.seen_bd hB m.to hmb.term
  have hF:=deliv.fine hR1 hB1 hm.to
  have hlen:((deliv.seen c m.to m.term).at m.to).log.length≤1000:=by have:=hF.log;omega
  have hfn:=hm.frm
  have hma:=hmb.a
  rcases (show m.kind=1∨m.kind=2∨m.kind=3∨m.kind=4 by have:=hmb.kind;omega) with hkd | hkd | hkd | hkd
  ·exact sdl1.deliver_1 w M base d P pc c us ns nv cs cv h m lo ln lc hlv x hk hup hkd (by omega)
  ·exact sdl2.deliver_2 w M base d P pc c us ns nv cs cv h m lo ln lc hlv x hk hup hkd (by omega) (by omega) hF.commit hlen hcl (fun e=>by rw [hF.votes e];omega) (fun e=>by rw [hF.votes e];exact hfn)
  ·refine sdl3.deliver_3 w M base d P pc c us ns nv cs cv h m lo ln lc hlv x hk hup hkd (fun us1 x1 wx hr hk1 ha1 => ?_)
   have hto1:m.to<(deliv.seen c m.to m.term).peers.length:=by rw [hR1.len];exact hm.to
   have htm:=seen_term c m.to m.term hto
   obtain ⟨g1,g2,g3,g4,g5,g6⟩:=hm1.recs hkd
   rw [ha1] at htm hlen
   have hcc:x1.p.commit≤1000:=by have:=(hB1.peers m.to).commit;rw [ha1] at this;omega
   have hll:x1.p.log.length≤100:=by have:=(hB1.peers m.to).log;rw [ha1] at this;exact this
   by_cases ht:m.term<x1.p.term
   ·exact sapd.appended_old wx M base d P pc _ us1 ns nv cs cv hr m lo ln lc hlv x1 hk1 ht
   ·by_cases hno:x1.p.log.length<m.a∨termAt x1.p.log m.a≠m.b
    ·refine sapn.appended_no wx M base d P pc _ us1 ns nv cs cv hr m lo ln lc hlv x1 hk1 ht htm ?_ (by omega) hlen hno
     rcases Nat.eq_zero_or_pos m.a with e | e
     ·exfalso
      rw [e] at hno g3
      rcases hno with q | q
      ·omega
      ·apply q
       rw [g3]
       simp [termAt]
     ·exact e
    ·have hle:m.a≤x1.p.log.length:=Nat.le_of_not_lt (fun q=>hno (.inl q))
     have hye:termAt x1.p.log m.a=m.b:=Classical.byContradiction (fun q=>hno (.inr q))
     have hci:=(deliv.commit_in hR1 hC1 hm1 hkd (by rw [ha1];exact ht) (by rw [ha1];exact hle) (by rw [ha1];exact hye)).2
     rw [ha1] at hci
     have hml:=Raft.merge_len m.log x1.p.log m.a hle
     exact sapy.appended_yes wx M base d P pc _ us1 ns nv cs cv hr m lo ln lc hlv x1 hk1 ht htm (by omega) hlen (by omega) hle hye (by have:=hmb.c;omega) hcc hci (by omega) (by have:=hB1.chosen;omega)
  ·refine sdl4.deliver_4 w M base d P pc c us ns nv cs cv h m lo ln lc hlv x hk hup hkd (by omega) (by omega) hF.commit hlen hcl (by omega) (fun e => ?_)
   obtain ⟨l1,l2,l3⟩:=hF.lists e
   refine ⟨by omega,by omega,by omega,by omega,?_,(l3 m.frm hfn).2⟩
   have:=deliv.mat_le hR1 hm.to e
   rcases Nat.lt_or_ge m.frm ((deliv.seen c m.to m.term).at m.to).mat.length with q | q
   ·rw [List.getD_eq_getElem?_getD,List.getElem?_eq_getElem q]
    exact this _ (List.getElem_mem q)
   ·omega
end Go.Proofs.YtcfdmbkiinjmaaaGreat.sdlv
namespace Go.Proofs.YtcfdmbkiinjmaaaGreat.spart
open Raft mem srun ssend
variable {F:Nat→Option Obj}
theorem RowW.front {w:World} {ao:Option Addr} {n cap sz:Nat} {xs:List Value} (h:RowW w (.slice ao n cap) n sz xs) {i:Nat} (hi:i≤n):RowW w (.slice ao i cap) i sz (xs.take (i*sz)):=by
 obtain ⟨ao',cap',e,h1,h2,h3⟩:=h
 simp only [Value.slice.injEq,true_and] at e
 obtain ⟨rfl,rfl⟩:=e
 have hle:i*sz≤n*sz:=Nat.mul_le_mul_right _ hi
 refine ⟨ao,cap,rfl,by rw [List.length_take];omega,fun e=>⟨by have:=h2 e;omega,(h2 e).2⟩,fun hp => ?_⟩
 obtain ⟨b,off,e,hc⟩:=h3 (by omega)
 refine ⟨b,off,e,fun j v hv=>hc j v ?_⟩
 rw [List.getElem?_take] at hv
 split at hv
 ·exact hv
 ·cases hv
theorem RowW.back {w:World} {b off n cap sz:Nat} {xs:List Value} (h:RowW w (.slice (some ⟨b,off,none⟩) n cap) n sz xs) {i:Nat} (hi:i≤n):RowW w (.slice (some ⟨b,off+i*sz,none⟩) (n-i) (cap-i)) (n-i) sz (xs.drop (i*sz)):=by
 obtain ⟨ao',cap',e,h1,h2,h3⟩:=h
 simp only [Value.slice.injEq,true_and] at e
 obtain ⟨rfl,rfl⟩:=e
 refine ⟨_,_,rfl,by rw [List.length_drop,Nat.sub_mul];omega,(fun e=>by simp at e),fun hp => ?_⟩
 obtain ⟨b',off',e,hc⟩:=h3 (by omega)
 simp only [Option.some.injEq,Addr.mk.injEq,and_true] at e
 obtain ⟨rfl,rfl⟩:=e
 refine ⟨_,_,rfl,fun j v hv => ?_⟩
 rw [List.getElem?_drop] at hv
 have:=hc _ v hv
 rwa [←Nat.add_assoc] at this
theorem cells_take:∀ (ns:List MV) (i:Nat),(ns.flatMap msgCells).take (i*9)=(ns.take i).flatMap msgCells
 | [],i=>by simp
 | x::ns,0=>by simp
 | x::ns,i+1=>by
  have e:(i+1)*9=(msgCells x).length+i*9:=by rw [msgCells_len];omega
  rw [List.flatMap_cons,e,List.take_length_add_append,cells_take ns i,List.take_succ_cons,List.flatMap_cons]
theorem cells_drop:∀ (ns:List MV) (i:Nat),(ns.flatMap msgCells).drop (i*9)=(ns.drop i).flatMap msgCells
 | [],i=>by simp
 | x::ns,0=>by simp
 | x::ns,i+1=>by
  have e:(i+1)*9=(msgCells x).length+i*9:=by rw [msgCells_len];omega
  rw [List.flatMap_cons,e,List.drop_length_add_append,cells_drop ns i,List.drop_succ_cons]
theorem cells_less (ns:List MV) (i:Nat):(ns.take i).flatMap msgCells++(ns.drop (i+1)).flatMap msgCells=(ns.eraseIdx i).flatMap msgCells:=by
 rw [List.eraseIdx_eq_take_drop_succ,List.flatMap_append]
theorem map_less (ns:List MV) (i:Nat):(ns.eraseIdx i).map (·.m)=(ns.map (·.m)).eraseIdx i:=by
 simp [List.eraseIdx_eq_take_drop_succ,List.map_take,List.map_drop]
theorem mem_less {ns:List MV} {i:Nat} {x:MV} (h:x∈ns.eraseIdx i):x∈ns:=List.mem_of_mem_eraseIdx h
end Go.Proofs.YtcfdmbkiinjmaaaGreat.spart
namespace Go.Proofs.YtcfdmbkiinjmaaaGreat.stake
open Go.ChangeShapes Go.WideShapes Go.ChangeAt Go.RowKit
open Raft mem srun ssend sdown ssmall scopy srecs sapp ssame schos schosen spart
variable {F:Nat→Option Obj}
theorem chgS {w:World} {k i:Nat} (v:Value):Chg (fun q=>q=k) w (w.setCell ⟨k,i,none⟩ v):=Chg.set (S:=fun q=>q=k) rfl v
theorem own_form {w:World} {v:Value} {base n:Nat} {xs:List Value} (h:w.ownsRow base 69 9 v n xs):∃ o c,v=.slice o n c:=by
 obtain ⟨_,⟨e1,e2⟩|⟨g,cap,cur,e1,_⟩⟩:=h
 ·subst e2;exact ⟨_,_,e1⟩
 ·exact ⟨_,_,e1⟩
set_option maxRecDepth 20000 in
set_option maxHeartbeats 2000000 in
theorem take_any (w:World) (M:Fz) (base d P pc:Nat) (c:Cl) (us:List PV) (ns:List MV) (nv:Value) (cs:List RV) (cv:Value) (h:Run (TS F) w M base d P pc c us ns nv cs cv) (i:Nat) (x:MV) (hi:ns[i]?=some x) (hn:ns.length≤200) (lo:Option Addr) (ln lc:Nat) (elv:x.lv=.slice lo ln lc) :
  Calls Tryz.prog 37 #[.pointer (some ⟨d,0,none⟩),.int .i64 i] w fun r w'=>r=.returned (.agg #[.int .i64 x.m.kind,.int .i64 x.m.frm,.int .i64 x.m.to,.int .i64 x.m.term,.int .i64 x.m.a,.int .i64 x.m.b,.int .i64 x.m.c,.bool x.m.ok,.slice lo ln lc])∧Sent F w M base d P pc { c with net:=c.net.eraseIdx i } us cs cv w':=by
 have hlt:i<ns.length:=(List.getElem?_eq_some_iff.1 hi).1
 obtain ⟨no,nc,hnve,hncm⟩:=slice_one h.net.1
 subst hnve
 have hxm:x∈ns:=List.mem_iff_getElem?.2 ⟨i,hi⟩
 have hb:=h.blk
 have hrow:=RowM.world h.net.1 h.inn
 obtain ⟨ao,cap,e,r1,r2,r3⟩:=id hrow
 simp only [Value.slice.injEq,true_and] at e
 obtain ⟨rfl,rfl⟩:=e
 obtain ⟨b,off,rfl,hc⟩:=r3 (by omega)
 have hcap:ns.length≤nc:=by
  obtain ⟨ao',cap',e,h1,_⟩:=h.net.1
  simp only [Value.slice.injEq,true_and] at e
  omega
 have HC:Hid (∀ j v,(msgCells x)[j]?=some v→w.cell? ⟨b,off+i*9+j,none⟩=some v):=fun j v hj=>by
  have hj9:j<9:=by have:=(List.getElem?_eq_some_iff.1 hj).1;rw [msgCells_len] at this;exact this
  have e1:=flat_get msgCells 9 msgCells_len ns i j x hi hj9
  have:=hc _ v (e1.trans hj)
  rwa [←Nat.add_assoc] at this
 have m0:=HC.out 0 _ rfl
 have m1:=HC.out 1 _ rfl
 have m2:=HC.out 2 _ rfl
 have m3:=HC.out 3 _ rfl
 have m4:=HC.out 4 _ rfl
 have m5:=HC.out 5 _ rfl
 have m6:=HC.out 6 _ rfl
 have m7:=HC.out 7 _ rfl
 have m8:=HC.out 8 x.lv rfl
 rw [elv] at m8
 have c1:w.cell? ⟨d,1,none⟩=some (.slice (some ⟨b,off,none⟩) ns.length nc):=cell_of hb rfl
 have hds:d<w.heap.size:=h.lt.1
 have hbl:b<w.heap.size:=by
  simp only [World.cell?] at m0
  cases e:w.heap[b]? with
  | none=>simp [e] at m0
  | some o=>exact (Array.getElem?_eq_some_iff.1 e).1
 rw [Nat.add_zero] at m0
 obtain ⟨W,hW⟩:∃ W,(w.alloc (.cells #[.int .i64 0,.int .i64 0,.int .i64 0,.int .i64 0,.int .i64 0,.int .i64 0,.int .i64 0,.bool false,.slice none 0 0] 69)).alloc (.cells #[.int .i64 x.m.kind,.int .i64 x.m.frm,.int .i64 x.m.to,.int .i64 x.m.term,.int .i64 x.m.a,.int .i64 x.m.b,.int .i64 x.m.c,.bool x.m.ok,.slice lo ln lc] 69)=W:=⟨_,rfl⟩
 have bW:Below w.heap.size w W:=by rw [←hW];exact more (more (Below.refl _ _) _) _
 have sW:W.heap.size=w.heap.size+2:=by rw [←hW];simp [World.size_alloc]
 have hz:W.heap[w.heap.size]?=some (.cells #[.int .i64 0,.int .i64 0,.int .i64 0,.int .i64 0,.int .i64 0,.int .i64 0,.int .i64 0,.bool false,.slice none 0 0] 69 (0,0)):=by
  rw [←hW]
  exact kept (more (Below.refl _ _) _) (heap_alloc_new w _) (Nat.le_refl _)
 have hm:W.heap[w.heap.size+1]?=some (.cells #[.int .i64 x.m.kind,.int .i64 x.m.frm,.int .i64 x.m.to,.int .i64 x.m.term,.int .i64 x.m.a,.int .i64 x.m.b,.int .i64 x.m.c,.bool x.m.ok,.slice lo ln lc] 69 (0,0)):=by
  rw [←hW]
  exact new_at (by simp [World.size_alloc])
 have hR:Run (TS F) W M base d P pc c us ns (.slice (some ⟨b,off,none⟩) ns.length nc) cs cv:=h.below bW
 have HR:Hid (Run (TS F) W M base d P pc c us ns (.slice (some ⟨b,off,none⟩) ns.length nc) cs cv):=hR
 have HS:Hid (∀ wx,Below W.heap.size W wx→wx.cell? ⟨d,1,none⟩=some (.slice (some ⟨b,off,none⟩) ns.length nc)):=fun wx hx=>cell_of (kept hx hR.blk (Nat.le_refl _)) rfl
 have HSF:Hid (∀ wx,Below W.heap.size W wx→wx.frozen? ⟨d,1,none⟩=false):=fun wx hx=>frozen_of (kept hx hR.blk (Nat.le_refl _)) 1
 have HOne:=hide (msg_one h.net)
 have HF:Hid (∀ wx,Below W.heap.size W wx→RowW wx (.slice (some ⟨b,off,none⟩) i nc) i 9 ((ns.take i).flatMap msgCells)):=fun wx hx=>by
  have:=RowW.front ((RowM.world hR.net.1 hR.inn).below hx) (i:=i) (by omega)
  rwa [cells_take] at this
 have HBk:Hid (∀ wx,Below W.heap.size W wx→RowW wx (.slice (if nc=i+1 then some ⟨b,off,none⟩ else some ⟨b,off+(i+1)*9,none⟩) (ns.length-(i+1)) (nc-(i+1))) (ns.length-(i+1)) 9 ((ns.drop (i+1)).flatMap msgCells)):=fun wx hx=>by
  have:=RowW.back ((RowM.world hR.net.1 hR.inn).below hx) (i:=i+1) (by omega)
  rw [cells_drop] at this
  by_cases e:nc=i+1
  ·rw [if_pos e]
   have e0:ns.length-(i+1)=0:=by omega
   have e1:ns.drop (i+1)=[]:=List.drop_eq_nil_of_le (by omega)
   rw [e0,e1]
   exact ⟨_,_,rfl,by simp,(fun h=>by cases h),fun h=>by omega⟩
  ·rw [if_neg e]
   exact this
 have HO1:Hid (∀ y∈(ns.take i).flatMap msgCells,y.oneCell'=true):=fun y hy=>by
  obtain ⟨z,hz,hy⟩:=List.mem_flatMap.1 hy
  exact HOne.out y (List.mem_flatMap.2 ⟨z,List.mem_of_mem_take hz,hy⟩)
 have HO2:Hid (∀ y∈(ns.drop (i+1)).flatMap msgCells,y.oneCell'=true):=fun y hy=>by
  obtain ⟨z,hz,hy⟩:=List.mem_flatMap.1 hy
  exact HOne.out y (List.mem_flatMap.2 ⟨z,List.mem_of_mem_drop hz,hy⟩)
 have hbx:Hid (Below w.heap.size w W∧W.heap.size=w.heap.size+2∧W.heap[w.heap.size]?=some (.cells #[.int .i64 0,.int .i64 0,.int .i64 0,.int .i64 0,.int .i64 0,.int .i64 0,.int .i64 0,.bool false,.slice none 0 0] 69 (0,0))∧W.heap[w.heap.size+1]?=some (.cells #[.int .i64 x.m.kind,.int .i64 x.m.frm,.int .i64 x.m.to,.int .i64 x.m.term,.int .i64 x.m.a,.int .i64 x.m.b,.int .i64 x.m.c,.bool x.m.ok,.slice lo ln lc] 69 (0,0))):=⟨bW,sW,hz,hm⟩
 have HFin:Hid (∀ W2 v2,W2.ownsRow W.heap.size 69 9 v2 (i+(ns.length-(i+1))) ((ns.take i).flatMap msgCells++(ns.drop (i+1)).flatMap msgCells)→Below W.heap.size W W2→(∃ X,W2.setCell ⟨d,1,none⟩ v2=X∧((fun wx:World=>(wx.cell? ⟨w.heap.size+1,0,none⟩=some (.int .i64 x.m.kind)∧wx.cell? ⟨w.heap.size+1,1,none⟩=some (.int .i64 x.m.frm)∧wx.cell? ⟨w.heap.size+1,2,none⟩=some (.int .i64 x.m.to)∧wx.cell? ⟨w.heap.size+1,3,none⟩=some (.int .i64 x.m.term)∧wx.cell? ⟨w.heap.size+1,4,none⟩=some (.int .i64 x.m.a)∧wx.cell? ⟨w.heap.size+1,5,none⟩=some (.int .i64 x.m.b)∧wx.cell? ⟨w.heap.size+1,6,none⟩=some (.int .i64 x.m.c)∧wx.cell? ⟨w.heap.size+1,7,none⟩=some (.bool x.m.ok)∧wx.cell? ⟨w.heap.size+1,8,none⟩=some (.slice lo ln lc))∧(wx.cell? ⟨w.heap.size,0,none⟩=some (.int .i64 0)∧wx.frozen? ⟨w.heap.size,0,none⟩=false)∧(wx.cell? ⟨w.heap.size,1,none⟩=some (.int .i64 0)∧wx.frozen? ⟨w.heap.size,1,none⟩=false)∧(wx.cell? ⟨w.heap.size,2,none⟩=some (.int .i64 0)∧wx.frozen? ⟨w.heap.size,2,none⟩=false)∧(wx.cell? ⟨w.heap.size,3,none⟩=some (.int .i64 0)∧wx.frozen? ⟨w.heap.size,3,none⟩=false)∧(wx.cell? ⟨w.heap.size,4,none⟩=some (.int .i64 0)∧wx.frozen? ⟨w.heap.size,4,none⟩=false)∧(wx.cell? ⟨w.heap.size,5,none⟩=some (.int .i64 0)∧wx.frozen? ⟨w.heap.size,5,none⟩=false)∧(wx.cell? ⟨w.heap.size,6,none⟩=some (.int .i64 0)∧wx.frozen? ⟨w.heap.size,6,none⟩=false)∧(wx.cell? ⟨w.heap.size,7,none⟩=some (.bool false)∧wx.frozen? ⟨w.heap.size,7,none⟩=false)∧(wx.cell? ⟨w.heap.size,8,none⟩=some (.slice none 0 0)∧wx.frozen? ⟨w.heap.size,8,none⟩=false)) X)∧∀ wf,Chg (fun q=>q=w.heap.size) X wf→Sent F w M base d P pc { c with net:=c.net.eraseIdx i } us cs cv wf)):=fun W2 v2 hO hB=>by
  obtain ⟨bW,sW,hz,hm⟩:=hbx.out
  refine ⟨_,rfl,?_,?_⟩
  ·have k1:(W2.setCell ⟨d,1,none⟩ v2).heap[w.heap.size]?=some (.cells #[.int .i64 0,.int .i64 0,.int .i64 0,.int .i64 0,.int .i64 0,.int .i64 0,.int .i64 0,.bool false,.slice none 0 0] 69 (0,0)):=by
    rw [Below.heap_setCell W2 ⟨d,1,none⟩ v2 _ (by show w.heap.size≠d;omega)]
    exact kept hB hz (Nat.le_refl _)
   have k2:(W2.setCell ⟨d,1,none⟩ v2).heap[w.heap.size+1]?=some (.cells #[.int .i64 x.m.kind,.int .i64 x.m.frm,.int .i64 x.m.to,.int .i64 x.m.term,.int .i64 x.m.a,.int .i64 x.m.b,.int .i64 x.m.c,.bool x.m.ok,.slice lo ln lc] 69 (0,0)):=by
    rw [Below.heap_setCell W2 ⟨d,1,none⟩ v2 _ (by show w.heap.size+1≠d;omega)]
    exact kept hB hm (Nat.le_refl _)
   exact ⟨⟨cell_of k2 rfl,cell_of k2 rfl,cell_of k2 rfl,cell_of k2 rfl,cell_of k2 rfl,cell_of k2 rfl,cell_of k2 rfl,cell_of k2 rfl,cell_of k2 rfl⟩,⟨cell_of k1 rfl,frozen_of k1 0⟩,⟨cell_of k1 rfl,frozen_of k1 1⟩,⟨cell_of k1 rfl,frozen_of k1 2⟩,⟨cell_of k1 rfl,frozen_of k1 3⟩,⟨cell_of k1 rfl,frozen_of k1 4⟩,⟨cell_of k1 rfl,frozen_of k1 5⟩,⟨cell_of k1 rfl,frozen_of k1 6⟩,⟨cell_of k1 rfl,frozen_of k1 7⟩,⟨cell_of k1 rfl,frozen_of k1 8⟩⟩
  ·intro wf hch
   have hlen:(ns.eraseIdx i).length=i+(ns.length-(i+1)):=by rw [List.length_eraseIdx];split <;> omega
   obtain ⟨M',hl,hI,hr,hd'⟩:=RowM.freeze hO (HR.out.inn.below hB) (fun g hg=>HR.out.inn.fresh (row_lt hO hg).1)
   have hdom:∀ b,M' b≠none→M b≠none∨W.heap.size≤b:=fun b hb=>(hd' b hb).imp id (fun e=>(row_lt hO e).1)
   have hM:MsgsV M' v2 (ns.eraseIdx i):=by
    refine ⟨by rw [hlen,←cells_less];exact hr,fun x hx=>(HR.out.net.2 x (mem_less hx)).le hl⟩
   have hN:=HR.out.setNet hB hl hI hdom hM
   have hN1:=hN.1
   rw [map_less,HR.out.nets] at hN1
   have hfr:M' w.heap.size=none:=by
    cases e:M' w.heap.size with
    | none=>rfl
    | some o =>
     rcases hdom w.heap.size (by rw [e];simp) with q | q
     ·exact absurd (h.inn.fresh (Nat.le_refl _)) q
     ·omega
   have hmi:∀ q,Mine d P us cv q→q<w.heap.size:=fun q hq=>h.mine hq
   have sB:=hB.size
   have hkb:∀ q,q<W2.heap.size→q≠w.heap.size→wf.heap[q]?=(W2.setCell ⟨d,1,none⟩ v2).heap[q]? := fun q hq hne=>hch.block q (by simpa using hq) hne
   refine ⟨M',_,_,hl,hN1.keep (Le.refl _) (fun q o e => ?_) (fun q hq=>hkb q (by have:=hmi q hq;omega) (by have:=hmi q hq;omega)) hN1.free (fun b z e=>⟨(hkb b (by have:=h.farL e;omega) (by have:=h.farL e;omega)).trans (hN1.far b z e).1,(hN1.far b z e).2.1⟩),?_,fun q hq=>(hdom q hq).imp id (fun e=>by omega)⟩
   ·have e1:=hN1.inn q o e
    rw [hkb q (by have:=(Array.getElem?_eq_some_iff.1 e1).1;simpa using this) (fun e2=>by rw [e2,hfr] at e;cases e)]
    exact e1
   ·exact ⟨hch.os.trans (hB.os.trans bW.os),hch.tape.trans (hB.tape.trans bW.tape),hch.output.trans (hB.output.trans bW.output),by have:=hch.size;simp at this;omega,fun k hk hne=>by
     rw [hkb k (by omega) (by omega),Below.heap_setCell W2 ⟨d,1,none⟩ v2 k (fun e=>hne (by simp [e])),hB.block k (by omega),bW.block k hk]⟩
 obtain ⟨L,eL⟩:∃ L,ns.length=L:=⟨_,rfl⟩
 rw [eL] at hn hlt hcap c1 HS HBk HFin
 unfold maxLen at hncm
 have hiI:(i:Int)<L:=by omega
 have hi1:IntKind.i64.wrap ((i:Int)+1)=(i:Int)+1:=by rw [IntKind.wrap_i64];omega
 clear h hb hrow hc r1 r2 r3 hR HC HR bW sW hz hm HOne hi hxm eL
 go_enter Tryz.func37,Tryz.ntmps37
 go_wp2
 (try rw [hW])
 clear hW m0 m1 m2 m3 m4 m5 m6 m7 m8
 have hinc:i≤nc:=by omega
 have hinL:i+1≤L:=by omega
 have hb1:0≤(i:Int)+1:=by omega
 have hb2:(i:Int)+1≤L:=by omega
 have c1W:=HS.out _ (Below.refl _ _)
 have q1:∀ o,(W.alloc o).cell? ⟨d,1,none⟩=some (.slice (some ⟨b,off,none⟩) L nc):=fun o=>HS.out _ (more (Below.refl _ _) o)
 have q1d:∀ o,(W.alloc o).drew.cell? ⟨d,1,none⟩=some (.slice (some ⟨b,off,none⟩) L nc):=fun o=>HS.out _ (more (Below.refl _ _) o).drew
 go_region_law (first
   | (have _h:=H1
      refine step_append_row _ rfl _ _ 25 rfl 69 9 88 _ Tryz.underlying25 info70 rfl (by decide) W.heap.size _ i ((ns.take i).flatMap msgCells) rfl H1.out.1 _ (L-(i+1)) ((ns.drop (i+1)).flatMap msgCells) rfl (HBk.out _ H1.out.2) HO2.out (by omega) (by decide) H1.out.2.size ?_
      intro v2 w2 O2 G2
      have H3:Hid (w2.ownsRow W.heap.size 69 9 v2 (i+(L-(i+1))) ((ns.take i).flatMap msgCells++(ns.drop (i+1)).flatMap msgCells)∧Below W.heap.size W w2):=⟨O2,H1.out.2.grown G2 H1.out.2.size (fun k hk=>(row_lt H1.out.1 hk).1)⟩
      have r1:=HS.out _ H3.out.2
      have r2:=HSF.out _ H3.out.2
      obtain ⟨v2o,v2c,ev2⟩:=own_form O2
      subst ev2
      clear O2 G2)
   | (refine step_append_row _ rfl _ _ 25 rfl 69 9 88 _ Tryz.underlying25 info70 rfl (by decide) W.heap.size _ 0 [] rfl (lit0 (by first | exact new_at (by first | rfl | simp) | exact kept (more (Below.refl _ _) _) (new_at rfl) (Nat.le_refl _) | exact kept (more (Below.refl _ _) _).drew (new_at rfl) (Nat.le_refl _)) (by first | exact Nat.le_refl _ | omega | (simp;done) | (simp;omega))) _ i ((ns.take i).flatMap msgCells) rfl (HF.out _ (by first | exact more (Below.refl _ _) _ | exact (more (Below.refl _ _) _).drew | exact more (Below.refl _ _).drew _)) HO1.out (by omega) (by decide) (by first | omega | (simp;done) | (simp;omega)) ?_
      intro v1 w1 O1 G1
      have H1:Hid (w1.ownsRow W.heap.size 69 9 v1 i ((ns.take i).flatMap msgCells)∧Below W.heap.size W w1):=⟨by simpa using O1,Below.grown (B:=W.heap.size) (by first | exact more (Below.refl _ _) _ | exact (more (Below.refl _ _) _).drew | exact more (Below.refl _ _).drew _) G1 (by first | omega | (simp;done) | (simp;omega)) (fun k hk=>own_ge hk (by first | exact Nat.le_refl _ | omega | (simp;done) | (simp;omega)))⟩
      have qq:=HS.out _ H1.out.2
      clear O1 G1))
 all_goals
  obtain ⟨X,hX,⟨⟨x0,x1,x2,x3,x4,x5,x6,x7,x8⟩,⟨y0,z0⟩,⟨y1,z1⟩,⟨y2,z2⟩,⟨y3,z3⟩,⟨y4,z4⟩,⟨y5,z5⟩,⟨y6,z6⟩,⟨y7,z7⟩,⟨y8,z8⟩⟩,hE⟩:=HFin.out w2 _ H3.out.1 H3.out.2
  have HE:=hide hE
  clear hE
  go_wp2
  all_goals
   refine bodyPost_ret (v:=.agg #[.int .i64 x.m.kind,.int .i64 x.m.frm,.int .i64 x.m.to,.int .i64 x.m.term,.int .i64 x.m.a,.int .i64 x.m.b,.int .i64 x.m.c,.bool x.m.ok,.slice lo ln lc]) (by simp [results,Tryz.results37,go_sem,y0,y1,y2,y3,y4,y5,y6,y7,y8]) rfl ⟨rfl,HE.out _ ?_⟩
   exact (((((((((chgS _).trans (chgS _)).trans (chgS _)).trans (chgS _)).trans (chgS _)).trans (chgS _)).trans (chgS _)).trans (chgS _)).trans (chgS _))
end Go.Proofs.YtcfdmbkiinjmaaaGreat.stake
