import Derived.Test.YtcfdmbkiinjmaaaGreatZ10
import Derived.Test.YtcfdmbkiinjmaaaGreatZ12
set_option linter.unusedVariables false
open Go.ChangeShapes Go.WideShapes Go.ChangeAt Go.RowKit
namespace Go.Proofs.YtcfdmbkiinjmaaaGreat.add
open Raft mem grp YtcfdmbkiinjmaaaGreat.look ndw grant stand rows2 clone lookc logs
set_option maxRecDepth 20000 in
set_option maxHeartbeats 2000000 in
theorem add_any (w:World) (M:Fz) (O:Lb) (b k:Nat) (p:Peer) (st:Sta M O w) (h:Nod w M O b k p) (xs:List Int) (o:Option Addr) (n lc:Nat) (hd:BytesM M (.slice o n lc) xs) (hx:xs.length≤1000) (hl:p.log.length≤1000) :
  Calls Tryz.prog 88 #[.pointer (some ⟨b,0,none⟩),.slice o n lc] w fun r w'=>r=.returned (.tuple #[])∧NDid M O w b k { p with log:=p.log++[⟨p.term,p.log.length+1,xs⟩] } w':=by
 have hnode:=h
 obtain ⟨us,lv,vv,nv,mv,h⟩:=h
 have hus:us.length=p.log.length:=by rw [←h.recs];simp
 obtain ⟨co,cc,ecv⟩:=own_slice h.log
 subst ecv
 have hcap:=(own_cap h.log).2.2
 unfold maxLen at hcap
 obtain ⟨⟨c0,_,c2,_⟩,⟨_,_,f2,_⟩⟩:=Nd.cs h
 obtain ⟨i0,hii,hz0,hz1,hz2⟩:=info_parts info35
 have HI3:Hid (Tryz.prog.info? 74=some i0∧i0.zero=some (.agg #[.int .i64 0,.int .i64 0,.slice none 0 0])∧i0.size=3∧i0.bytes=40):=⟨hii,hz0,hz1,hz2⟩
 obtain ⟨OB,hOB⟩:∃ OB:Obj,OB=.cells #[.int .i64 p.term,.int .i64 ((p.log.length:Int)+1),.slice o n lc] 74:=⟨_,rfl⟩
 have hbl:=(st.ok b _ h.own).2
 have HRow:Hid (((w.alloc OB).drew).ownsRow 0 74 3 (.slice co us.length cc) us.length (us.flatMap recCells)):=row_kept h.log fun g' hg'=>(more (Below.refl _ _) OB).block g' (row_lt h.log hg').2
 have HNw:Hid (∀ (j:Nat) (u:Value),([.int .i64 p.term,.int .i64 ((p.log.length:Int)+1),.slice o n lc]:List Value)[j]?=some u→((w.alloc OB).drew).cell? ((⟨w.heap.size,0,none⟩:Addr).add j)=some u):=fun j u hu=>by
  rw [addr_add,Nat.zero_add]
  have h7:(w.alloc OB).cell? ⟨w.heap.size,j,none⟩=some u:=by rw [hOB];exact cell_of (heap_alloc_new w _) (by simpa using hu)
  exact h7
 have HD:Hid (∀ (w2:World),((w.alloc OB).drew).grownBy w2 (Value.slice co us.length cc).ownBlock→w2.heap[b]?=w.heap[b]?):=fun w2 hg=>(hg.block b (by have e7:((w.alloc OB).drew).heap.size=(w.alloc OB).heap.size:=rfl;have:=(more (Below.refl _ w) OB).size;omega) (fun e=>h.ne.1 e.symm)).trans ((more (Below.refl _ _) OB).block b hbl)
 have HDb:=hide h.blk
 have HFin:Hid (∀ (w2:World) (g2 n2 cap2:Nat),((w.alloc OB).drew).grownBy w2 (Value.slice co us.length cc).ownBlock→w2.ownsRow 0 74 3 (.slice (some ⟨g2,0,none⟩) n2 cap2) (us.length+1) (us.flatMap recCells++[.int .i64 p.term,.int .i64 ((p.log.length:Int)+1),.slice o n lc])→((Value.slice co us.length cc).ownBlock=some g2∨g2=((w.alloc OB).drew).heap.size)→NDid M O w b k { p with log:=p.log++[⟨p.term,p.log.length+1,xs⟩] } (w2.setCell ⟨b,2,none⟩ (.slice (some ⟨g2,0,none⟩) n2 cap2))):=fun w2 g2 n2 cap2 p1 p2 p3 =>
  NDid.push st h (more (Below.refl _ _) OB).drew (y:=⟨⟨p.term,p.log.length+1,xs⟩,.slice o n lc⟩) ⟨hd,hx⟩ p2 p1 p3
 have HL:Hid (∀ wx,Below w.heap.size w wx→Calls Tryz.prog 87 #[.pointer (some ⟨b,0,none⟩)] wx fun r w'=>r=.returned (.int .i64 (p.log.length:Nat))∧w'=wx):=fun wx hb=>last_any wx M O b k p (Nod.below st hnode hb)
 have hlI:(p.log.length:Int)≤1000:=by omega
 rw [hOB] at HRow HNw HD HFin
 rw [hus] at c2 HRow HD HFin
 have hLl:p.log.length≤1000:=hl
 generalize p.log.length=L at *
 have hwr:IntKind.i64.wrap ((L:Int)+1)=(L:Int)+1:=by rw [IntKind.wrap_i64];omega
 clear hii hz0 hz1 hz2 h hnode st hus hOB hd
 go_enter Tryz.func88,Tryz.ntmps88
 go_wp2
 go_region_law (first
  | (go_simp;go_at_call 87;refine (HL.out _ (by first | exact (Below.refl _ _).drew | exact Below.refl _ _ | exact (more (Below.refl _ _) _).drew)).mono ?_;rintro rr w1 ⟨rfl,hw1⟩;have hw2:=hw1.symm;subst hw2;clear hw1)
  | (refine step_append_lies _ rfl _ _ 26 rfl 0 74 i0 (.agg #[.int .i64 0,.int .i64 0,.slice none 0 0]) 3 40 Tryz.underlying26 HI3.out.1 HI3.out.2.1 HI3.out.2.2.1 HI3.out.2.2.2 rfl (by decide) _ L (us.flatMap recCells) rfl HRow.out ⟨w.heap.size,0,none⟩ 1 1 [.int .i64 p.term,.int .i64 ((L:Int)+1),.slice o n lc] rfl rfl HNw.out (fun u' hu'=>by simp only [List.mem_cons,List.not_mem_nil,or_false] at hu';rcases hu' with rfl | rfl | rfl <;> rfl) (by decide) (by unfold maxLen;omega) (by omega) (Nat.zero_le _) _ rfl ?_
     intro g2 cap2 w2 O2 G2 hg2 hgl2
     have HN2:=hide (HFin.out w2 g2 _ cap2 G2 O2 hg2)
     have k2:=(HD.out w2 G2).trans HDb.out
     have t0:=cell_of (i:=2) k2 (v:=.slice co _ cc) rfl
     have t1:=frozen_of k2 2
     clear O2 G2 hg2 hgl2 k2))
 all_goals
  go_wp2
  go_end0
  exact ⟨rfl,HN2.out⟩
end Go.Proofs.YtcfdmbkiinjmaaaGreat.add
namespace Go.Proofs.YtcfdmbkiinjmaaaGreat.prop
open Raft mem grp YtcfdmbkiinjmaaaGreat.look ndw grant stand lead rows2 post postb say lookb lookc commit too elect tick add
theorem bytes_len {M:Fz} {o:Option Addr} {n lc:Nat} {xs:List Int} (h:BytesM M (.slice o n lc) xs):n=xs.length∧lc≤9223372036854775807∧n≤lc:=by
 obtain ⟨⟨ao,cap,e,e1,e2,_⟩,_⟩:=h
 simp only [Value.slice.injEq] at e
 obtain ⟨_,rfl,rfl⟩:=e
 unfold maxLen at e2
 exact ⟨rfl,by omega,e1⟩
set_option maxHeartbeats 1000000 in
theorem prop_stale (w:World) (M:Fz) (O:Lb) (d:Nat) (nb:List Nat) (c:Cl) (h:G w M O d nb c) (k b:Nat) (hb:nb[k]?=some b) (dv:Value) (hr:(c.at k).role≠2) :
  Calls Tryz.prog 69 #[.pointer (some ⟨d,0,none⟩),.pointer (some ⟨b,0,none⟩),dv] w fun r w'=>r=.returned (.int .i64 15)∧w'=w:=by
 obtain ⟨us,lv,vv,nv,mv,hn⟩:=h.at hb
 have c6:=(Nd.cs hn).1.2.2.2.2.2.2.1
 have e1:(((c.at k).role:Int) != 2)=true:=by simp;omega
 generalize (c.at k).role=R at *
 clear hn h hr
 go_enter Tryz.func69,Tryz.ntmps69
 go_wp2
 go_ret
 exact ⟨rfl,rfl⟩
set_option maxHeartbeats 1000000 in
theorem prop_size (w:World) (M:Fz) (O:Lb) (d:Nat) (nb:List Nat) (c:Cl) (h:G w M O d nb c) (k b:Nat) (hb:nb[k]?=some b) (xs:List Int) (o:Option Addr) (n lc:Nat) (hd:BytesM M (.slice o n lc) xs) (hr:(c.at k).role=2) (hs:1000<xs.length∨(c.at k).log.length=100) :
  Calls Tryz.prog 69 #[.pointer (some ⟨d,0,none⟩),.pointer (some ⟨b,0,none⟩),.slice o n lc] w fun r w'=>r=.returned (.int .i64 14)∧w'=w:=by
 have HL:=hide (last_any w M O b k _ (h.at hb))
 obtain ⟨us,lv,vv,nv,mv,hn⟩:=h.at hb
 have c6:=(Nd.cs hn).1.2.2.2.2.2.2.1
 have e1:(((c.at k).role:Int) != 2)=false:=by simp;omega
 obtain ⟨hnl,hlc,_⟩:=bytes_len hd
 rw [←hnl] at hs
 by_cases hx:1000<n
 ·have hxI:(1000:Int)<n:=by omega
  generalize (c.at k).role=R at *
  clear hn h hr hnl hd hs
  go_enter Tryz.func69,Tryz.ntmps69
  go_wp2
  go_ret
  exact ⟨rfl,rfl⟩
 ·have hxI:¬ (1000:Int)<n:=by omega
  have hL:(c.at k).log.length=100:=by omega
  rw [hL] at HL
  generalize (c.at k).role=R at *
  clear hn h hr hnl hd hs hL
  go_enter Tryz.func69,Tryz.ntmps69
  go_wp2_with (go_at_call 87;refine HL.out.mono ?_;rintro rr w1 ⟨rfl,hw1⟩;have hw2:=hw1.symm;subst hw2;clear hw1)
  go_ret
  exact ⟨rfl,rfl⟩
set_option maxHeartbeats 2000000 in
theorem prop_ok (w:World) (M:Fz) (O:Lb) (d:Nat) (nb:List Nat) (c:Cl) (h:G w M O d nb c) (k b:Nat) (hb:nb[k]?=some b) (xs:List Int) (o:Option Addr) (n lc:Nat) (hd:BytesM M (.slice o n lc) xs) (h1:1≤c.peers.length) (h7:c.peers.length≤7) (hF:Fine c.peers.length (c.at k)) (hch:c.chosen.length≤1000) (hr:(c.at k).role=2) (hs:¬ (1000<xs.length∨(c.at k).log.length=100)) :
  Calls Tryz.prog 69 #[.pointer (some ⟨d,0,none⟩),.pointer (some ⟨b,0,none⟩),.slice o n lc] w fun r w'=>r=.returned (.int .i64 0)∧Did M O w d nb ((c.put k { c.at k with log:=(c.at k).log++[⟨(c.at k).term,(c.at k).log.length+1,xs⟩],mat:=(c.at k).mat.set k ((c.at k).log.length+1) }).commits k) w':=by
 have st:=h.sta
 have hkl:k<c.peers.length:=by have:=(List.getElem?_eq_some_iff.1 hb).1;have:=h.len;omega
 have HL:=hide (last_any w M O b k _ (h.at hb))
 obtain ⟨us,lv,vv,nv,mv,hn⟩:=h.at hb
 have c6:=(Nd.cs hn).1.2.2.2.2.2.2.1
 have e1:(((c.at k).role:Int) != 2)=false:=by simp;omega
 obtain ⟨hnl,hlc,_⟩:=bytes_len hd
 have hxI:¬ (1000:Int)<n:=by omega
 have hll:=hF.log
 obtain ⟨q1,q2,q3⟩:=hF.lists hr
 obtain ⟨c1,hc1⟩:∃ c1,c1=c.put k { c.at k with log:=(c.at k).log++[⟨(c.at k).term,(c.at k).log.length+1,xs⟩] }:=⟨_,rfl⟩
 have hc1k:c1.at k={ c.at k with log:=(c.at k).log++[⟨(c.at k).term,(c.at k).log.length+1,xs⟩] }:=by rw [hc1];exact at_put c k _ hkl
 have hc1n:c1.peers.length=c.peers.length:=by rw [hc1];exact put_len _ _ _
 obtain ⟨c2,hc2⟩:∃ c2,c2=c.put k { c.at k with log:=(c.at k).log++[⟨(c.at k).term,(c.at k).log.length+1,xs⟩],mat:=(c.at k).mat.set k ((c.at k).log.length+1) }:=⟨_,rfl⟩
 have hc2k:c2.at k={ c.at k with log:=(c.at k).log++[⟨(c.at k).term,(c.at k).log.length+1,xs⟩],mat:=(c.at k).mat.set k ((c.at k).log.length+1) }:=by rw [hc2];exact at_put c k _ hkl
 rw [←hc2]
 have HAd:Hid (Calls Tryz.prog 88 #[.pointer (some ⟨b,0,none⟩),.slice o n lc] w fun r w'=>r=.returned (.tuple #[])∧Did M O w d nb c1 w'):=by
  refine (add_any w M O b k _ st (h.at hb) xs o n lc hd (by omega) (by omega)).mono ?_
  rintro r w' ⟨rfl,h2⟩
  rw [hc1]
  exact ⟨rfl,NDid.lift h2 h hb⟩
 obtain ⟨V,hV⟩:∃ V,V=(c.at k).log.length+1:=⟨_,rfl⟩
 have HSt:Hid (∀ wx,Did M O w d nb c1 wx→∃ g cap ML,(wx.cell? ⟨b,9,none⟩=some (.slice (some ⟨g,0,none⟩) ML cap)∧wx.cell? ⟨b,3,none⟩=some (.int .i64 k)∧(∃ z:Int,wx.cell? ⟨g,k,none⟩=some (.int .i64 z))∧wx.frozen? ⟨g,k,none⟩=false)∧k<ML∧Hid (∀ q,Did M O w d nb c2 ((wx.drewN q).setCell ⟨g,k,none⟩ (.int .i64 V)))∧Hid (∀ q,Calls Tryz.prog 87 #[.pointer (some ⟨b,0,none⟩)] (wx.drewN q) fun r w'=>r=.returned (.int .i64 (V:Nat))∧w'=wx.drewN q)):=fun wx hx=>by
  obtain ⟨M1,O1,a1,g1⟩:=hx
  obtain ⟨us1,lv1,vv1,nv1,mv1,hn1⟩:=g1.at hb
  have hml:(c1.at k).mat.length=c.peers.length:=by rw [hc1k];exact q2
  obtain ⟨g,cap,rfl,hg1,hg2,hcells,hfz⟩:=own_at hn1.mat (by omega)
  have hcs:=Nd.cs hn1
  refine ⟨g,cap,_,⟨hcs.1.2.2.2.2.2.2.2.2.2,hcs.1.2.2.2.1,⟨_,hcells k _ (by rw [List.getElem?_map,getD_get (by omega)];rfl)⟩,hfz k⟩,by omega,fun q => ?_,fun q => ?_⟩
  ·have hGq:=g1.below (drewN_below wx q)
   have h2:=NDid.lift (NDid.setMat hGq.sta (hn1.keep (w':=wx.drewN q) (fun _ _=>rfl) (Le.refl _) (fun _ h=>h)) k V) hGq hb
   have e9:c1.put k { c1.at k with mat:=(c1.at k).mat.set k V }=c2:=by
    rw [hc1k,hc1,hc2,hV]
    simp [Cl.put,List.set_set]
   rw [e9] at h2
   exact Did.trans (a1.below (drewN_below wx q)) h2
  ·have h9:=last_any (wx.drewN q) M1 O1 b k _ ((g1.below (drewN_below wx q)).at hb)
   rw [hc1k] at h9
   have e9:({ c.at k with log:=(c.at k).log++[⟨(c.at k).term,(c.at k).log.length+1,xs⟩] }:Peer).log.length=V:=by simp [hV]
   rw [e9] at h9
   exact h9
 have HCm:Hid (∀ wx,Did M O w d nb c2 wx→Calls Tryz.prog 89 #[.pointer (some ⟨d,0,none⟩),.pointer (some ⟨b,0,none⟩)] wx fun r w'=>r=.returned (.tuple #[])∧Did M O w d nb (c2.commits k) w'):=fun wx hx=>by
  obtain ⟨M1,O1,a1,g1⟩:=hx
  have hn2:c2.peers.length=c.peers.length:=by rw [hc2];exact put_len _ _ _
  refine (commits_any wx M1 O1 d nb c2 g1 k b hb (by omega) (by omega) (by rw [hc2k];simp;omega) (by rw [hc2k];have:=hF.commit;simp;omega) (by rw [hc2k];simp;omega) (by rw [hc2];exact hch)).mono ?_
  rintro r w' ⟨rfl,h2⟩
  exact ⟨rfl,Did.trans a1 h2⟩
 have hLI:(((c.at k).log.length:Int) == 100)=false:=by simp;omega
 generalize (c.at k).role=R at *
 generalize (c.at k).log.length=L at *
 clear hn h hr hnl hd hs q1 q2 q3 st hc1 hc1k hc2 hc2k hF hV
 go_enter Tryz.func69,Tryz.ntmps69
 go_wp2_with (first
  | (go_at_call 87;refine HL.out.mono ?_;rintro rr w1 ⟨rfl,hw1⟩;have hw2:=hw1.symm;subst hw2;clear hw1)
  | (go_at_call 88;refine HAd.out.mono ?_;rintro rr w3 ⟨rfl,hd3⟩;have HD3:=hide hd3;clear hd3))
 obtain ⟨g,cap,ML,⟨x9,x3,⟨z,xg⟩,fg⟩,hkM,HS3,HL3⟩:=HSt.out _ HD3.out
 have hkMI:(k:Int)<ML:=by omega
 go_region_law (first | (go_simp;go_at_call 87;refine (HL3.out 1).mono ?_;rintro rr w9 ⟨rfl,hw9⟩;have hw2:=hw9.symm;subst hw2;clear hw9))
 all_goals
  go_wp2_with (go_at_call 89;refine (HCm.out _ (by first | exact HS3.out _ | exact (HS3.out 0).drew)).mono ?_;rintro rr w5 ⟨rfl,hd5⟩;have HD5:=hide hd5;clear hd5)
  go_ret
  exact ⟨rfl,HD5.out⟩
end Go.Proofs.YtcfdmbkiinjmaaaGreat.prop
