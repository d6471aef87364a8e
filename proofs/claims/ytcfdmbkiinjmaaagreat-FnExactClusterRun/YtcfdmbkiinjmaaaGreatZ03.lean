import Derived.Test.YtcfdmbkiinjmaaaGreatZ02
import Derived.Laws.EntriesVeiled
set_option linter.unusedVariables false
open Go.ChangeShapes Go.WideShapes Go.ChangeAt Go.RowKit
namespace Go.Proofs.YtcfdmbkiinjmaaaGreat.post
open Raft mem grp YtcfdmbkiinjmaaaGreat.look ndw grant
def ptr (o:Option Nat):Value:=.pointer (o.map fun b=>⟨b,0,none⟩)
section
variable {w:World} {M:Fz} {O:Lb} {hd:Nat} {bs:List Nat} {us:List MV}
theorem Pst.nx (h:Pst w M O hd bs us) {i b:Nat} (hb:(hd::bs)[i]?=some b):w.cell? ⟨b,9,none⟩=some (ptr bs[i]?)∧w.frozen? ⟨b,9,none⟩=false:=by
 have hlt:=(List.getElem?_eq_some_iff.1 hb).1
 have hl:=h.len
 obtain ⟨x,hx⟩:∃ x,(mv0::us)[i]?=some x:=⟨_,List.getElem?_eq_getElem (by simp at hlt ⊢;omega)⟩
 have:=h.blk i b x hb hx
 exact ⟨cell_of this rfl,frozen_of this 9⟩
end
theorem ahead_any (w:World) (M:Fz) (O:Lb) (d hd:Nat) (bs:List Nat) (us:List MV) (c0:w.cell? ⟨d,0,none⟩=some (.pointer (some ⟨hd,0,none⟩))) (h:Pst w M O hd bs us) (i b:Nat) (hb:(hd::bs)[i]?=some b) (hi:i≤1000) :
  Calls Tryz.prog 81 #[.pointer (some ⟨d,0,none⟩),.int .i64 i] w fun r w'=>r=.returned (.pointer (some ⟨b,0,none⟩))∧w'=w:=by
 have HB:=hide hb
 have HX:Hid (∀ (j x:Nat),(hd::bs)[j]?=some x→w.cell? ⟨x,9,none⟩=some (ptr bs[j]?)):=fun j x hx=>(Pst.nx h hx).1
 clear h hb
 go_enter Tryz.func81,Tryz.ntmps81
 go_wp2
 go_loop [5,11] (fun p jv=>∃ j x:Nat,j≤i∧jv=.int .i64 j∧p=.pointer (some ⟨x,0,none⟩)∧Hid ((hd::bs)[j]?=some x)) (fun _ jv=>i-(intOf jv).toNat)
 case atStart=>exact ⟨0,hd,Nat.zero_le _,rfl,rfl,rfl⟩
 case round =>
  obtain ⟨j,x,hj,rfl,rfl,HJ⟩:=hrel
  by_cases hlt:j<i
  ·have hltI:(j:Int)<i:=by omega
   obtain ⟨y,hy⟩:∃ y,bs[j]?=some y:=by
    have:=(List.getElem?_eq_some_iff.1 HB.out).1
    exact ⟨_,List.getElem?_eq_getElem (by simp at this;omega)⟩
   have c9:=HX.out j x HJ.out
   rw [hy] at c9
   simp only [ptr,Option.map_some] at c9
   have HY:Hid ((hd::bs)[j+1]?=some y):=hy
   clear hy
   go_wp2
   go_round
   case rel=>exact ⟨j+1,y,by omega,by go_num,rfl,HY⟩
   case measure=>simp [intOf];omega
  ·have hltI:¬ (j:Int)<i:=by omega
   obtain rfl:j=i:=by omega
   have e:x=b:=by have h1:=HJ.out;have h2:=HB.out;rw [h1] at h2;exact Option.some.inj h2
   subst e
   go_wp2
   go_ret
   exact ⟨rfl,rfl⟩
section
variable {w w':World} {M M':Fz} {O O':Lb} {d hd:Nat} {nb:List Nat} {c:Cl} {pv cv:Value} {bs:List Nat} {us:List MV} {cs:List RV}
theorem Gr.ca (h:Gr w M O d hd nb c pv cv bs us cs):(w.cell? ⟨d,0,none⟩=some (.pointer (some ⟨hd,0,none⟩))∧w.cell? ⟨d,1,none⟩=some (.int .i64 us.length)∧w.cell? ⟨d,2,none⟩=some pv∧w.cell? ⟨d,3,none⟩=some cv∧w.cell? ⟨d,4,none⟩=some (.bool c.conflict)) ∧
  (w.frozen? ⟨d,0,none⟩=false∧w.frozen? ⟨d,1,none⟩=false∧w.frozen? ⟨d,2,none⟩=false∧w.frozen? ⟨d,3,none⟩=false∧w.frozen? ⟨d,4,none⟩=false) :=
 ⟨⟨cell_of h.blk rfl,cell_of h.blk rfl,cell_of h.blk rfl,cell_of h.blk rfl,cell_of h.blk rfl⟩,⟨frozen_of h.blk _,frozen_of h.blk _,frozen_of h.blk _,frozen_of h.blk _,frozen_of h.blk _⟩⟩
theorem Gr.lt (h:Gr w M O d hd nb c pv cv bs us cs):d<w.heap.size:=(h.st.ok d 0 h.own).2
theorem Gr.sent (h:Gr w M O d hd nb c pv cv bs us cs) (x:MV) (hx:RecsM M x.lv x.m.log) {W:World} (hW:Below w.heap.size w W) {l:Nat} (hl:(hd::bs)[us.length]?=some l) :
  Gr (((W.alloc (.cells (letter x none) 79)).setCell ⟨l,9,none⟩ (.pointer (some ⟨W.heap.size,0,none⟩))).setCell ⟨d,1,none⟩ (.int .i64 ((us.length:Int)+1))) M (lab O W.heap.size 2) d hd nb { c with net:=c.net++[x.m] } pv cv (bs++[W.heap.size]) (us++[x]) cs ∧
  Aft (fun l=>l<3) M O w M (lab O W.heap.size 2) (((W.alloc (.cells (letter x none) 79)).setCell ⟨l,9,none⟩ (.pointer (some ⟨W.heap.size,0,none⟩))).setCell ⟨d,1,none⟩ (.int .i64 ((us.length:Int)+1))):=by
 have hsz:=hW.size
 have hlen:=h.post.len
 have hlO:O l=some 2:=h.post.lab l (List.mem_iff_getElem?.2 ⟨_,hl⟩)
 have hll:l<w.heap.size:=(h.st.ok l 2 hlO).2
 have hdl:d<w.heap.size:=Gr.lt h
 have hld:l≠d:=fun e=>by rw [e,h.own] at hlO;cases hlO
 have a1:Aft (fun l=>l<3) M O w M O (W.alloc (.cells (letter x none) 79)):=((Aft.refl _ h.st).below hW).alloc _
 have a2:=a1.label (b:=W.heap.size) (l:=2) hsz (by simp) (h.st.inn.fresh hsz) (by decide)
 have a3:=(a2.set (b:=l) (l:=2) (by rw [lab_ne O 2 (by omega)];exact hlO) (by decide) 9 (.pointer (some ⟨W.heap.size,0,none⟩))).set (b:=d) (l:=0) (by rw [lab_ne O 2 (by omega)];exact h.own) (by decide) 1 (.int .i64 ((us.length:Int)+1))
 refine ⟨?_,a3⟩
 obtain ⟨W2,hW2⟩:∃ W2,W2=W.alloc (.cells (letter x none) 79):=⟨_,rfl⟩
 rw [←hW2] at a3 ⊢
 have hb2:Below w.heap.size w W2:=by rw [hW2];exact hW.alloc hsz _
 have hd2:W2.heap[d]?=some (.cells #[.pointer (some ⟨hd,0,none⟩),.int .i64 us.length,pv,cv,.bool c.conflict] 84 (0,0)):=(hb2.block d hdl).trans h.blk
 refine h.part (c':={ c with net:=c.net++[x.m] }) a3 rfl ?_ ?_ ?_ ?_ h.chosen
 ·have h1:(W2.setCell ⟨l,9,none⟩ (.pointer (some ⟨W.heap.size,0,none⟩))).heap[d]?=some (.cells #[.pointer (some ⟨hd,0,none⟩),.int .i64 us.length,pv,cv,.bool c.conflict] 84 (0,0)):=(Below.heap_setCell _ _ _ d (fun e=>hld e.symm)).trans hd2
  have h2:=set_at h1 1 (.int .i64 ((us.length:Int)+1)) rfl
  rw [h2]
  simp
 ·have hkeep:∀ b,b≠l→b≠d→((W2.setCell ⟨l,9,none⟩ (.pointer (some ⟨W.heap.size,0,none⟩))).setCell ⟨d,1,none⟩ (.int .i64 ((us.length:Int)+1))).heap[b]?=W2.heap[b]? := fun b h1 h2=>by
   rw [Below.heap_setCell _ _ _ b h2,Below.heap_setCell _ _ _ b h1]
  have hold:∀ b∈hd::bs,b<w.heap.size∧b≠d:=fun b hb=>⟨(h.st.ok b 2 (h.post.lab b hb)).2,fun e=>by have:=h.post.lab b hb;rw [e,h.own] at this;cases this⟩
  refine ⟨by simp [hlen],?_,?_,?_,?_⟩
  ·rw [←List.cons_append,List.nodup_append]
   refine ⟨h.post.nodup,by simp,fun a ha b hb => ?_⟩
   simp only [List.mem_singleton] at hb
   have:=(hold a ha).1
   omega
  ·intro b hb
   rw [←List.cons_append,List.mem_append] at hb
   rcases hb with hb | hb
   ·rw [lab_ne O 2 (by have:=(hold b hb).1;omega)];exact h.post.lab b hb
   ·simp only [List.mem_singleton] at hb
    subst hb;exact lab_at _ _ _
  ·intro i b y hb hy
   rw [←List.cons_append] at hb hy
   rcases Nat.lt_or_ge i (us.length+1) with hi | hi
   ·rw [List.getElem?_append_left (by simp;omega)] at hb hy
    have hbm:=hold b (List.mem_iff_getElem?.2 ⟨i,hb⟩)
    have hblk:=(hb2.block b hbm.1).trans (h.post.blk i b y hb hy)
    by_cases e:i=us.length
    ·subst e
     have el:b=l:=by rw [hl] at hb;exact (Option.some.inj hb).symm
     subst el
     rw [Below.heap_setCell _ _ _ b hbm.2]
     have h3:=set_at hblk 9 (.pointer (some ⟨W.heap.size,0,none⟩)) rfl
     rw [h3]
     have e1:bs[us.length]?=none:=List.getElem?_eq_none (by omega)
     have e2:(bs++[W.heap.size])[us.length]?=some W.heap.size:=by rw [List.getElem?_append_right (by omega)];simp [hlen]
     rw [e1,e2]
     rfl
    ·have hbl:b≠l:=fun e'=>by
      subst e'
      have h5:=(List.getElem?_eq_some_iff.1 hb).1
      exact e ((List.getElem?_inj h5 h.post.nodup).1 (by rw [hb,hl]))
     rw [hkeep b hbl hbm.2,hblk,List.getElem?_append_left (by omega)]
   ·have hi2:i=us.length+1:=by
     have:=(List.getElem?_eq_some_iff.1 hy).1
     simp at this
     omega
    subst hi2
    rw [List.getElem?_append_right (by simp [hlen])] at hb
    rw [List.getElem?_append_right (by simp)] at hy
    simp [hlen] at hb hy
    subst hb hy
    rw [hkeep _ (by omega) (by omega),hW2,heap_alloc_new]
    have e1:(bs++[W.heap.size])[us.length+1]?=none:=List.getElem?_eq_none (by simp [hlen])
    rw [e1]
  ·intro y hy
   rcases List.mem_append.1 hy with hy | hy
   ·exact h.post.logs y hy
   ·simp only [List.mem_singleton] at hy
    subst hy;exact hx
 ·simp [h.nets]
 ·have hk:∀ x',O x'=some 1→((W2.setCell ⟨l,9,none⟩ (.pointer (some ⟨W.heap.size,0,none⟩))).setCell ⟨d,1,none⟩ (.int .i64 ((us.length:Int)+1))).heap[x']?=w.heap[x']? := fun x' hx'=>by
   rw [Below.heap_setCell _ _ _ x' (fun e=>by have e:x'=d:=e;rw [e,h.own] at hx';cases hx'),Below.heap_setCell _ _ _ x' (fun e=>by have e:x'=l:=e;rw [e,hlO] at hx';cases hx')]
   exact hb2.block x' (h.st.ok x' 1 hx').2
  exact h.chos.keep hk (Le.refl _) (fun x' hx'=>by rw [lab_ne O 2 (by have:=(h.st.ok x' 1 hx').2;omega)];exact hx')
end
theorem sendC (c:Cl) (m:Msg) (h:c.net.length<200):c.send m={ c with net:=c.net++[m] }:=by unfold Cl.send;rw [if_pos h]
set_option maxRecDepth 20000 in
set_option maxHeartbeats 4000000 in
theorem send_any (w:World) (M:Fz) (O:Lb) (d:Nat) (nb:List Nat) (c:Cl) (h:G w M O d nb c) (m:Msg) (o:Option Addr) (n lc:Nat) (hlv:RecsM M (.slice o n lc) m.log) :
  Calls Tryz.prog 65 #[.pointer (some ⟨d,0,none⟩),.agg #[.int .i64 m.kind,.int .i64 m.frm,.int .i64 m.to,.int .i64 m.term,.int .i64 m.a,.int .i64 m.b,.int .i64 m.c,.bool m.ok,.slice o n lc]] w fun r w'=>r=.returned (.tuple #[])∧Did M O w d nb (c.send m) w':=by
 obtain ⟨hd,pv,cv,bs,us,cs,h⟩:=h
 obtain ⟨W,hW⟩:∃ W,w.alloc (.cells #[.int .i64 m.kind,.int .i64 m.frm,.int .i64 m.to,.int .i64 m.term,.int .i64 m.a,.int .i64 m.b,.int .i64 m.c,.bool m.ok,.slice o n lc] 69)=W:=⟨_,rfl⟩
 have bW:Below w.heap.size w W:=by rw [←hW];exact more (Below.refl _ _) _
 have zW:W.heap.size=w.heap.size+1:=by rw [←hW];simp
 have hbox:W.heap[w.heap.size]?=some (.cells #[.int .i64 m.kind,.int .i64 m.frm,.int .i64 m.to,.int .i64 m.term,.int .i64 m.a,.int .i64 m.b,.int .i64 m.c,.bool m.ok,.slice o n lc] 69 (0,0)):=by rw [←hW];exact heap_alloc_new w _
 have hnl:c.net.length=us.length:=by rw [←h.nets];simp
 have hRW:Gr W M O d hd nb c pv cv bs us cs:=h.keep ((Aft.refl _ h.st).below bW)
 obtain ⟨⟨c0,c1,_⟩,⟨_,f1,_⟩⟩:=Gr.ca hRW
 by_cases hroom:us.length<200
 ·obtain ⟨l,hl⟩:∃ l,(hd::bs)[us.length]?=some l:=⟨_,List.getElem?_eq_getElem (by simp [h.post.len])⟩
  have hnone:bs[us.length]?=none:=List.getElem?_eq_none (by rw [h.post.len];exact Nat.le_refl _)
  obtain ⟨c9,f9⟩:=Pst.nx hRW.post hl
  rw [hnone] at c9
  simp only [ptr,Option.map_none] at c9
  have hlO:O l=some 2:=h.post.lab l (List.mem_iff_getElem?.2 ⟨_,hl⟩)
  have hll:l<W.heap.size:=(hRW.st.ok l 2 hlO).2
  have hdl:d<W.heap.size:=Gr.lt hRW
  have hld:¬ (l=d):=fun e=>by rw [e,h.own] at hlO;cases hlO
  have hne1:W.heap.size≠l:=by omega
  have hne2:W.heap.size≠d:=by omega
  have hne3:¬ (d=l):=fun e=>hld e.symm
  have hne4:W.heap.size≠w.heap.size:=by omega
  have hll0:l<w.heap.size:=(h.st.ok l 2 hlO).2
  have hne5:¬ (l=w.heap.size):=by omega
  have hne6:¬ (w.heap.size=l):=by omega
  have HA:Hid (∀ wx,Below W.heap.size W wx→Calls Tryz.prog 81 #[.pointer (some ⟨d,0,none⟩),.int .i64 us.length] wx fun r w'=>r=.returned (.pointer (some ⟨l,0,none⟩))∧w'=wx):=fun wx hb=>by
   have hx:Gr wx M O d hd nb c pv cv bs us cs:=hRW.keep ((Aft.refl _ hRW.st).below hb)
   exact ahead_any wx M O d hd bs us (Gr.ca hx).1.1 hx.post us.length l hl (by omega)
  have HF:Hid (Did M O w d nb (c.send m) (((W.alloc (.cells #[.int .i64 m.kind,.int .i64 m.frm,.int .i64 m.to,.int .i64 m.term,.int .i64 m.a,.int .i64 m.b,.int .i64 m.c,.bool m.ok,.slice o n lc,.pointer none] 79)).setCell ⟨l,9,none⟩ (.pointer (some ⟨W.heap.size,0,none⟩))).setCell ⟨d,1,none⟩ (.int .i64 ((us.length:Int)+1)))):=by
   obtain ⟨h1,h2⟩:=Gr.sent h ⟨m,.slice o n lc⟩ hlv bW hl
   rw [sendC c m (by omega)]
   exact ⟨M,_,h2.mono (fun _ _=>trivial),hd,pv,cv,_,_,cs,h1⟩
  have HS:Hid (∀ wx,Below W.heap.size W wx→(wx.cell? ⟨d,1,none⟩=some (.int .i64 us.length)∧wx.cell? ⟨w.heap.size,0,none⟩=some (.int .i64 m.kind)∧wx.cell? ⟨w.heap.size,1,none⟩=some (.int .i64 m.frm)∧wx.cell? ⟨w.heap.size,2,none⟩=some (.int .i64 m.to)∧wx.cell? ⟨w.heap.size,3,none⟩=some (.int .i64 m.term)∧wx.cell? ⟨w.heap.size,4,none⟩=some (.int .i64 m.a)∧wx.cell? ⟨w.heap.size,5,none⟩=some (.int .i64 m.b)∧wx.cell? ⟨w.heap.size,6,none⟩=some (.int .i64 m.c)∧wx.cell? ⟨w.heap.size,7,none⟩=some (.bool m.ok)∧wx.cell? ⟨w.heap.size,8,none⟩=some (.slice o n lc))∧Below W.heap.size W wx):=fun wx hb=>by
   have hk:=kept hb hbox (Nat.le_refl _)
   have hx:Gr wx M O d hd nb c pv cv bs us cs:=hRW.keep ((Aft.refl _ hRW.st).below hb)
   exact ⟨⟨(Gr.ca hx).1.2.1,cell_of hk rfl,cell_of hk rfl,cell_of hk rfl,cell_of hk rfl,cell_of hk rfl,cell_of hk rfl,cell_of hk rfl,cell_of hk rfl,cell_of hk rfl⟩,hb⟩
  have hrI:(us.length:Int)<200:=by omega
  have hal:∀ ob,Gr (W.alloc ob) M O d hd nb c pv cv bs us cs:=fun ob=>hRW.keep (((Aft.refl _ hRW.st)).alloc ob)
  have c9a:∀ ob,(W.alloc ob).cell? ⟨l,9,none⟩=some (.pointer none):=fun ob=>by
   have:=(Pst.nx (hal ob).post hl).1
   rw [hnone] at this
   exact this
  have f9a:∀ ob,(W.alloc ob).frozen? ⟨l,9,none⟩=false:=fun ob=>(Pst.nx (hal ob).post hl).2
  have c1a:∀ ob,(W.alloc ob).cell? ⟨d,1,none⟩=some (.int .i64 us.length):=fun ob=>(Gr.ca (hal ob)).1.2.1
  have f1a:∀ ob,(W.alloc ob).frozen? ⟨d,1,none⟩=false:=fun ob=>(Gr.ca (hal ob)).2.2.1
  clear hal
  clear h hRW hbox hl hnone hnl hlv c0 zW bW hll hdl hlO hll0
  generalize us.length=U at *
  go_enter Tryz.func65,Tryz.ntmps65
  go_wp2
  obtain ⟨⟨_,s0,s1,s2,s3,s4,s5,s6,s7,s8⟩,_⟩:=HS.out _ (Below.refl _ W)
  go_region_law (first | (go_simp;go_at_call 81;refine (HA.out _ (by first | exact Below.refl _ _ | exact (Below.refl _ _).drew | exact more (Below.refl _ _) _ | exact (more (Below.refl _ _) _).drew | exact more (Below.refl _ _).drew _)).mono ?_;rintro rr w1 ⟨rfl,hw1⟩;have hw2:=hw1.symm;subst hw2;clear hw1))
  all_goals
   go_wp2
   go_end0
   exact ⟨rfl,HF.out.drew⟩
 ·have hrI:¬ (us.length:Int)<200:=by omega
  have HF:Hid (Did M O w d nb (c.send m) W):=by
   have e:c.send m=c:=by unfold Cl.send;rw [if_neg (by omega)]
   rw [e]
   exact ⟨M,O,(Aft.refl _ h.st).below bW,hd,pv,cv,bs,us,cs,hRW⟩
  clear h hRW hbox hnl hlv c0 zW bW
  generalize us.length=U at *
  go_enter Tryz.func65,Tryz.ntmps65
  go_wp2
  go_end0
  exact ⟨rfl,HF.out⟩
end Go.Proofs.YtcfdmbkiinjmaaaGreat.post
namespace Go.Proofs.YtcfdmbkiinjmaaaGreat.msgs
open Raft mem grp YtcfdmbkiinjmaaaGreat.look ndw grant stand rows2 clone behind post copy own
theorem info44:(Tryz.prog.info? 69).map (fun i=>(i.zero,i.size,i.bytes))=some (some (.agg #[.int .i64 0,.int .i64 0,.int .i64 0,.int .i64 0,.int .i64 0,.int .i64 0,.int .i64 0,.bool false,.slice none 0 0]),9,88):=by kernel_rfl
def MsE (w:World) (M:Fz) (l:List Msg) (r:Ending) (w':World):Prop :=
 ∃ (M':Fz) (o:Option Addr) (n lc:Nat) (ms:List MS),r=.returned (.slice o n lc)∧Le M M'∧In M' w'∧ms.map (·.m)=l∧MsgsS M' w.heap.size (.slice o n lc) ms∧Below w.heap.size w w'∧∀ b,M' b≠none→M b≠none∨w.heap.size≤b
def MI (w:World) (M:Fz) (us:List MV) (k:Nat) (v:Value) (wr:World):Prop:=∃ (M':Fz) (us':List MS),us'.map (·.m)=(us.take k).map (·.m)∧Le M M'∧In M' wr∧wr.ownsRow w.heap.size 69 9 v k ((us'.map MS.mv).flatMap msgCells)∧(∀ g,v.ownBlock=some g→M' g=none)∧(∀ x∈us',RecsS M' w.heap.size x.lv x.us∧x.us.map (·.r)=x.m.log)∧Below w.heap.size w wr∧(∀ b,M' b≠none→M b≠none∨w.heap.size≤b)∧(us'.flatMap (fun x=>recsB x.lv x.us)).Nodup
theorem MI.fin {w wr:World} {M:Fz} {us:List MV} {v:Value} (h:MI w M us us.length v wr):MsE w M (us.map (·.m)) (.returned v) wr:=by
 obtain ⟨M',us',e,h1,h2,h3,h4,h5,h6,h7,h9⟩:=h
 rw [List.take_length] at e
 obtain ⟨M2,q1,q2,q3,q4,q5⟩:=freeze1 h3 h2 h4
 have hv:=fun g (hg:v.ownBlock=some g)=>h4 g hg
 obtain ⟨o,c,rfl⟩:=own_slice h3
 have hl:us.length=us'.length:=by have:=congrArg List.length e;simpa using this.symm
 rw [hl] at q3
 refine ⟨M2,o,us.length,c,us',rfl,h1.trans q1,q2,e,⟨by rw [hl];exact q3,q5,fun x hx=>⟨(h5 x hx).1.le q1,(h5 x hx).2⟩,?_⟩,h6,fun b hb => ?_⟩
 ·refine nd_app (ownB_nd _) h9 (fun b hb hb2 => ?_)
  obtain ⟨x,hx,hb3⟩:=List.mem_flatMap.1 hb2
  exact ((h5 x hx).1.blk hb3).2 (hv b (ownB_mem.1 hb))
 ·rcases q4 b hb with g | g
  ·exact h7 b g
  ·exact .inr (row_lt h3 g).1
theorem MI.step {w wr:World} {M:Fz} {us:List MV} {k:Nat} {v:Value} (h:MI w M us k v wr) {x:MV} (hx:us[k]?=some x) (hd:RecsM M x.lv x.m.log) (hlen:x.m.log.length≤1000) {ro:Option Addr} {rn rc:Nat} (hdv:x.lv=.slice ro rn rc) {W1:World} (hW1:wr.alloc (.cells #[.int .i64 x.m.kind,.int .i64 x.m.frm,.int .i64 x.m.to,.int .i64 x.m.term,.int .i64 x.m.a,.int .i64 x.m.b,.int .i64 x.m.c,.bool x.m.ok,.slice ro rn rc] 69)=W1) :
  Calls Tryz.prog 46 #[.slice ro rn rc] W1 fun r w5=>∃ (o5:Option Addr) (n5 c5:Nat) (X Y:World),r=.returned (.slice o5 n5 c5)∧w5.setCell ⟨wr.heap.size,8,none⟩ (.slice o5 n5 c5)=X∧X.alloc (.cells #[.int .i64 x.m.kind,.int .i64 x.m.frm,.int .i64 x.m.to,.int .i64 x.m.term,.int .i64 x.m.a,.int .i64 x.m.b,.int .i64 x.m.c,.bool x.m.ok,.slice o5 n5 c5] 69)=Y ∧
   (((w5.cell? ⟨wr.heap.size,0,none⟩=some (.int .i64 x.m.kind)∧w5.cell? ⟨wr.heap.size,1,none⟩=some (.int .i64 x.m.frm)∧w5.cell? ⟨wr.heap.size,2,none⟩=some (.int .i64 x.m.to)∧w5.cell? ⟨wr.heap.size,3,none⟩=some (.int .i64 x.m.term)∧w5.cell? ⟨wr.heap.size,4,none⟩=some (.int .i64 x.m.a)∧w5.cell? ⟨wr.heap.size,5,none⟩=some (.int .i64 x.m.b)∧w5.cell? ⟨wr.heap.size,6,none⟩=some (.int .i64 x.m.c)∧w5.cell? ⟨wr.heap.size,7,none⟩=some (.bool x.m.ok)∧w5.cell? ⟨wr.heap.size,8,none⟩=some (.slice ro rn rc))∧w5.frozen? ⟨wr.heap.size,8,none⟩=false) ∧
    (X.cell? ⟨wr.heap.size,0,none⟩=some (.int .i64 x.m.kind)∧X.cell? ⟨wr.heap.size,1,none⟩=some (.int .i64 x.m.frm)∧X.cell? ⟨wr.heap.size,2,none⟩=some (.int .i64 x.m.to)∧X.cell? ⟨wr.heap.size,3,none⟩=some (.int .i64 x.m.term)∧X.cell? ⟨wr.heap.size,4,none⟩=some (.int .i64 x.m.a)∧X.cell? ⟨wr.heap.size,5,none⟩=some (.int .i64 x.m.b)∧X.cell? ⟨wr.heap.size,6,none⟩=some (.int .i64 x.m.c)∧X.cell? ⟨wr.heap.size,7,none⟩=some (.bool x.m.ok)∧X.cell? ⟨wr.heap.size,8,none⟩=some (.slice o5 n5 c5))) ∧
   Hid (∃ ys,Y.ownsRow w.heap.size 69 9 v k ys∧(∀ j u,([.int .i64 x.m.kind,.int .i64 x.m.frm,.int .i64 x.m.to,.int .i64 x.m.term,.int .i64 x.m.a,.int .i64 x.m.b,.int .i64 x.m.c,.bool x.m.ok,.slice o5 n5 c5]:List Value)[j]?=some u→Y.cell? ((⟨X.heap.size,0,none⟩:Addr).add j)=some u)∧w.heap.size≤Y.heap.size ∧
    ∀ g cap w',w'.ownsRow w.heap.size 69 9 (.slice (some ⟨g,0,none⟩) (k+1) cap) (k+1) (ys++[.int .i64 x.m.kind,.int .i64 x.m.frm,.int .i64 x.m.to,.int .i64 x.m.term,.int .i64 x.m.a,.int .i64 x.m.b,.int .i64 x.m.c,.bool x.m.ok,.slice o5 n5 c5])→Y.grownBy w' v.ownBlock→(v.ownBlock=some g∨g=Y.heap.size)→MI w M us (k+1) (.slice (some ⟨g,0,none⟩) (k+1) cap) w'):=by
 obtain ⟨M',us',e,h1,h2,h3,h4,h5,h6,h7,h9⟩:=h
 have b1:Below wr.heap.size wr W1:=by rw [←hW1];exact more (Below.refl _ _) _
 have e1:W1.heap.size=wr.heap.size+1:=by rw [←hW1];exact World.size_alloc ..
 have hB1:W1.heap[wr.heap.size]?=some (.cells #[.int .i64 x.m.kind,.int .i64 x.m.frm,.int .i64 x.m.to,.int .i64 x.m.term,.int .i64 x.m.a,.int .i64 x.m.b,.int .i64 x.m.c,.bool x.m.ok,.slice ro rn rc] 69 (0,0)):=by rw [←hW1];exact heap_alloc_new wr _
 have hIW:=h2.below b1
 obtain ⟨rs,er,hr1,hr2⟩:=hd.le h1
 rw [hdv] at hr1
 refine (copyRecs_any W1 M' (.slice ro rn rc) rs hIW (RecsR.row hIW hr1) hr2 (by rw [←List.length_map (f:=fun (x:RV)=>x.r),er];exact hlen)).mono ?_
 rintro r w5 ⟨M2,o5,n5,c5,qs,rfl,q1,q2,q3,q5,b5,q4⟩
 rw [er] at q3
 have b5w:Below wr.heap.size wr w5:=b1.trans (b5.mono (by omega))
 have hB5:w5.heap[wr.heap.size]?=some (.cells #[.int .i64 x.m.kind,.int .i64 x.m.frm,.int .i64 x.m.to,.int .i64 x.m.term,.int .i64 x.m.a,.int .i64 x.m.b,.int .i64 x.m.c,.bool x.m.ok,.slice ro rn rc] 69 (0,0)):=(b5.block _ (by omega)).trans hB1
 have s5:=b5.size
 obtain ⟨X,hX⟩:∃ X,w5.setCell ⟨wr.heap.size,8,none⟩ (.slice o5 n5 c5)=X:=⟨_,rfl⟩
 obtain ⟨Y,hY⟩:∃ Y,X.alloc (.cells #[.int .i64 x.m.kind,.int .i64 x.m.frm,.int .i64 x.m.to,.int .i64 x.m.term,.int .i64 x.m.a,.int .i64 x.m.b,.int .i64 x.m.c,.bool x.m.ok,.slice o5 n5 c5] 69)=Y:=⟨_,rfl⟩
 have bX:Below wr.heap.size wr X:=by rw [←hX];exact b5w.setCell (Nat.le_refl _) _
 have sX:X.heap.size=w5.heap.size:=by rw [←hX];simp [World.setCell]
 have hBX:X.heap[wr.heap.size]?=some (.cells #[.int .i64 x.m.kind,.int .i64 x.m.frm,.int .i64 x.m.to,.int .i64 x.m.term,.int .i64 x.m.a,.int .i64 x.m.b,.int .i64 x.m.c,.bool x.m.ok,.slice o5 n5 c5] 69 (0,0)):=by
  rw [←hX]
  exact set_at hB5 8 _ (by simp)
 have bY:Below wr.heap.size wr Y:=by rw [←hY];exact bX.alloc (by omega) _
 have sY:Y.heap.size=X.heap.size+1:=by rw [←hY];exact World.size_alloc ..
 have hBY:Y.heap[X.heap.size]?=some (.cells #[.int .i64 x.m.kind,.int .i64 x.m.frm,.int .i64 x.m.to,.int .i64 x.m.term,.int .i64 x.m.a,.int .i64 x.m.b,.int .i64 x.m.c,.bool x.m.ok,.slice o5 n5 c5] 69 (0,0)):=by rw [←hY];exact heap_alloc_new X _
 have hMB:M2 wr.heap.size=none:=by
  cases em:M2 wr.heap.size with
  | none=>rfl
  | some o =>
   rcases q4 wr.heap.size (by rw [em];simp) with g | g
   ·exact absurd (h2.fresh (Nat.le_refl _)) g
   ·omega
 have hIX:In M2 X:=by rw [←hX];exact q2.set hMB _
 have hIY:In M2 Y:=by rw [←hY];exact hIX.below (more (Below.refl _ _) _)
 have hvM:∀ g,v.ownBlock=some g→M2 g=none:=fun g hg=>by
  cases em:M2 g with
  | none=>rfl
  | some o =>
   rcases q4 g (by rw [em];simp) with g' | g'
   ·exact absurd (h4 g hg) g'
   ·have:=(row_lt h3 hg).2;omega
 refine ⟨o5,n5,c5,X,Y,rfl,hX,hY,⟨⟨⟨cell_of hB5 rfl,cell_of hB5 rfl,cell_of hB5 rfl,cell_of hB5 rfl,cell_of hB5 rfl,cell_of hB5 rfl,cell_of hB5 rfl,cell_of hB5 rfl,cell_of hB5 rfl⟩,frozen_of hB5 _⟩,cell_of hBX rfl,cell_of hBX rfl,cell_of hBX rfl,cell_of hBX rfl,cell_of hBX rfl,cell_of hBX rfl,cell_of hBX rfl,cell_of hBX rfl,cell_of hBX rfl⟩,(us'.map MS.mv).flatMap msgCells,row_kept h3 (fun g hg=>bY.block g (row_lt h3 hg).2),?_,Nat.le_trans h6.size bY.size,?_⟩
 ·intro j u hu
  rw [pile.add_at,Nat.zero_add]
  refine cell_of hBY ?_
  simpa using hu
 ·intro g cap w' p1 p2 p3
  have hk:k<us.length:=(List.getElem?_eq_some_iff.1 hx).1
  have hIw:=hIY.grown p2 hvM
  refine ⟨M2,us'++[⟨x.m,.slice o5 n5 c5,qs⟩],?_,h1.trans q1,hIw,?_,?_,?_,?_,?_,?_⟩
  ·rw [List.map_append,e,List.take_add_one,hx]
   simp
  ·rw [List.map_append,List.flatMap_append]
   simpa [msgCells,MS.mv] using p1
  ·intro g' hg'
   obtain rfl:g=g':=by simpa [Value.ownBlock] using hg'
   rcases p3 with p3 | p3
   ·exact hvM g p3
   ·exact hIY.fresh (by omega)
  ·intro y hy
   rcases List.mem_append.1 hy with hy | hy
   ·exact ⟨(h5 y hy).1.le q1,(h5 y hy).2⟩
   ·rw [List.mem_singleton.1 hy]
    exact ⟨q5.mono (by have:=h6.size;omega),q3⟩
  ·exact (h6.trans (bY.mono h6.size)).grown p2 (Nat.le_trans h6.size bY.size) (fun g' hg'=>(row_lt h3 hg').1)
  ·intro b hb
   rcases q4 b hb with g' | g'
   ·exact h7 b g'
   ·right
    have:=h6.size
    omega
  ·rw [List.flatMap_append]
   refine nd_app h9 (by simpa using q5.nd) (fun b hb hb2 => ?_)
   obtain ⟨y,hy,hb3⟩:=List.mem_flatMap.1 hb
   have hlo:=h2.lt (Option.ne_none_iff_exists'.1 ((h5 y hy).1.blk hb3).2).choose_spec
   have hnew:=(q5.blk (b:=b) (by simpa using hb2)).1
   omega
theorem MI.below {w wr:World} {M:Fz} {us:List MV} {k:Nat} {v:Value} (h:MI w M us k v wr):Below w.heap.size w wr:=by
 obtain ⟨_,_,_,_,_,_,_,_,hb,_⟩:=h
 exact hb
set_option maxRecDepth 20000 in
set_option maxHeartbeats 2000000 in
theorem messages_any (w:World) (M:Fz) (O:Lb) (d hd:Nat) (bs:List Nat) (us:List MV) (c0:w.cell? ⟨d,0,none⟩=some (.pointer (some ⟨hd,0,none⟩))) (st:Sta M O w) (h:Pst w M O hd bs us) (hl:us.length≤200) (hg:∀ x∈us,x.m.log.length≤1000) :
  Calls Tryz.prog 45 #[.pointer (some ⟨d,0,none⟩)] w fun r w'=>MsE w M (us.map (·.m)) r w':=by
 have hI:=st.inn
 have hlb:=h.len
 obtain ⟨n,hn⟩:∃ n,n=us.length:=⟨_,rfl⟩
 have HFin:Hid (∀ v wr,MI w M us n v wr→MsE w M (us.map (·.m)) (.returned v) wr):=fun v wr h=>by rw [hn] at h;exact h.fin
 have c9:w.cell? ⟨hd,9,none⟩=some (ptr bs[0]?):=(Pst.nx h (i:=0) (b:=hd) rfl).1
 have HCell:Hid (∀ k,k<n→∃ b x ro rn rc,bs[k]?=some b∧us[k]?=some x∧x.lv=.slice ro rn rc∧RecsM M x.lv x.m.log∧x.m.log.length≤1000∧∀ wr,Below w.heap.size w wr→(wr.cell? ⟨b,0,none⟩=some (.int .i64 x.m.kind)∧wr.cell? ⟨b,1,none⟩=some (.int .i64 x.m.frm)∧wr.cell? ⟨b,2,none⟩=some (.int .i64 x.m.to)∧wr.cell? ⟨b,3,none⟩=some (.int .i64 x.m.term)∧wr.cell? ⟨b,4,none⟩=some (.int .i64 x.m.a)∧wr.cell? ⟨b,5,none⟩=some (.int .i64 x.m.b)∧wr.cell? ⟨b,6,none⟩=some (.int .i64 x.m.c)∧wr.cell? ⟨b,7,none⟩=some (.bool x.m.ok)∧wr.cell? ⟨b,8,none⟩=some (.slice ro rn rc))∧wr.cell? ⟨b,9,none⟩=some (ptr bs[k+1]?)):=fun k hk=>by
  obtain ⟨x,hx⟩:∃ x,us[k]?=some x:=⟨_,List.getElem?_eq_getElem (by omega)⟩
  obtain ⟨b,hb⟩:∃ b,bs[k]?=some b:=⟨_,List.getElem?_eq_getElem (by omega)⟩
  have hblk:=h.blk (k+1) b x hb hx
  have hlg:=h.logs x (List.mem_of_getElem? hx)
  obtain ⟨ro,rn,rc,e⟩:=(show ∃ o n c,x.lv=.slice o n c from by
   obtain ⟨us,_,⟨ao,cap,e,_⟩,_⟩:=id hlg
   exact ⟨_,_,_,e⟩)
  have hlt:b<w.heap.size:=(Array.getElem?_eq_some_iff.1 hblk).1
  refine ⟨b,x,ro,rn,rc,hb,hx,e,hlg,hg x (List.mem_of_getElem? hx),fun wr hbl => ?_⟩
  have hblk2:=(hbl.block b hlt).trans hblk
  unfold letter at hblk2
  rw [e] at hblk2
  exact ⟨⟨cell_of hblk2 rfl,cell_of hblk2 rfl,cell_of hblk2 rfl,cell_of hblk2 rfl,cell_of hblk2 rfl,cell_of hblk2 rfl,cell_of hblk2 rfl,cell_of hblk2 rfl,cell_of hblk2 rfl⟩,cell_of hblk2 rfl⟩
 have H0:Hid (MI w M us 0 (.slice none 0 0) w):=⟨M,[],rfl,Le.refl _,hI,World.ownsRow_nil _ _ _ _,by simp [Value.ownBlock],by simp,Below.refl _ _,fun b hb=>.inl hb,by simp⟩
 obtain ⟨i0,hii,hz0,hz1,hz2⟩:=info_parts info44
 have HI3:Hid (Tryz.prog.info? 69=some i0∧i0.zero=some (.agg #[.int .i64 0,.int .i64 0,.int .i64 0,.int .i64 0,.int .i64 0,.int .i64 0,.int .i64 0,.bool false,.slice none 0 0])∧i0.size=9∧i0.bytes=88):=⟨hii,hz0,hz1,hz2⟩
 have HBn:Hid (bs[n]?=none):=by unfold Hid;rw [List.getElem?_eq_none_iff];omega
 rw [←hn] at hl
 have HSl:Hid (∀ k v wr,MI w M us k v wr→∃ o c,v=.slice o k c):=fun k v wr h=>by
  obtain ⟨_,_,_,_,_,h3,_⟩:=h
  exact own_slice h3
 clear hI hn hii hz0 hz1 hz2 h st hg hlb
 go_enter Tryz.func45,Tryz.ntmps45
 go_wp2
 go_loopw [3,4] (fun v p wr=>∃ (k:Nat) (o:Option Addr) (c:Nat),k≤n∧v=.slice o k c∧p=ptr bs[k]? ∧ Hid (MI w M us k v wr)) (fun v _ _=>match v with | .slice _ m _=>n-m | _=>0)
 case atStart=>exact ⟨0,none,0,Nat.zero_le _,rfl,rfl,H0⟩
 case round =>
  obtain ⟨k,o,c,hk,rfl,rfl,HR⟩:=hrel
  by_cases hlt:k<n
  ·obtain ⟨b,x,ro,rn,rc,hb,hx,edv,hdx,hlx,hfar⟩:=HCell.out k hlt
   obtain ⟨⟨q0,q1,q2,q3,q4,q5,q6,q7,q8⟩,_⟩:=hfar wr HR.out.below
   obtain ⟨W1,hW1⟩:∃ W1,wr.alloc (.cells #[.int .i64 x.m.kind,.int .i64 x.m.frm,.int .i64 x.m.to,.int .i64 x.m.term,.int .i64 x.m.a,.int .i64 x.m.b,.int .i64 x.m.c,.bool x.m.ok,.slice ro rn rc] 69)=W1:=⟨_,rfl⟩
   have HJ:=hide (HR.out.step hx hdx hlx edv hW1)
   have hbox:W1.heap[wr.heap.size]?=some (.cells #[.int .i64 x.m.kind,.int .i64 x.m.frm,.int .i64 x.m.to,.int .i64 x.m.term,.int .i64 x.m.a,.int .i64 x.m.b,.int .i64 x.m.c,.bool x.m.ok,.slice ro rn rc] 69 (0,0)):=by rw [←hW1];exact heap_alloc_new wr _
   have s0:=cell_of (i:=0) hbox (v:=.int .i64 x.m.kind) rfl
   have s1:=cell_of (i:=1) hbox (v:=.int .i64 x.m.frm) rfl
   have s2:=cell_of (i:=2) hbox (v:=.int .i64 x.m.to) rfl
   have s3:=cell_of (i:=3) hbox (v:=.int .i64 x.m.term) rfl
   have s4:=cell_of (i:=4) hbox (v:=.int .i64 x.m.a) rfl
   have s5:=cell_of (i:=5) hbox (v:=.int .i64 x.m.b) rfl
   have s6:=cell_of (i:=6) hbox (v:=.int .i64 x.m.c) rfl
   have s7:=cell_of (i:=7) hbox (v:=.bool x.m.ok) rfl
   have s8:=cell_of (i:=8) hbox (v:=.slice ro rn rc) rfl
   have HNx:Hid (∀ wr,Below w.heap.size w wr→wr.cell? ⟨b,9,none⟩=some (ptr bs[k+1]?)):=fun wr hb=>(hfar wr hb).2
   have HPt:Hid (∀ q:Option Nat,∃ o,ptr q=.pointer o):=fun q=>⟨_,rfl⟩
   rw [hb]
   obtain ⟨pn,hpn⟩:=HPt.out bs[k+1]?
   have HPn:=hide hpn
   rw [hpn] at HNx
   clear hx hdx edv hfar hbox hb hpn hlx
   simp only [ptr,Option.map_some]
   go_wp2_with (first
    | (go_at_call 46;refine HJ.out.mono ?_;rintro rr w5 ⟨o5,n5,c5,X,Y,rfl,hX,hY,⟨⟨⟨t0,t1,t2,t3,t4,t5,t6,t7,t8⟩,t9⟩,u0,u1,u2,u3,u4,u5,u6,u7,u8⟩,HE⟩)
    | (at_builtin;obtain ⟨ys,y1,y2,y3,y4⟩:=HE.out;refine wpList_append_lies _ rfl _ _ 25 rfl w.heap.size 69 i0 (.agg #[.int .i64 0,.int .i64 0,.int .i64 0,.int .i64 0,.int .i64 0,.int .i64 0,.int .i64 0,.bool false,.slice none 0 0]) 9 88 Tryz.underlying25 HI3.out.1 HI3.out.2.1 HI3.out.2.2.1 HI3.out.2.2.2 rfl (by decide) _ k ys rfl y1 ⟨X.heap.size,0,none⟩ 1 1 [.int .i64 x.m.kind,.int .i64 x.m.frm,.int .i64 x.m.to,.int .i64 x.m.term,.int .i64 x.m.a,.int .i64 x.m.b,.int .i64 x.m.c,.bool x.m.ok,.slice o5 n5 c5] rfl rfl y2 (fun u' hu'=>by simp only [List.mem_cons,List.not_mem_nil,or_false] at hu';rcases hu' with rfl | rfl | rfl | rfl | rfl | rfl | rfl | rfl | rfl <;> rfl) (by decide) (by unfold maxLen;omega) (by omega) y3 _ rfl ?_;intro g2 cap2 w2 z1 z2 z3 z4;have HN:=hide (y4 g2 cap2 w2 z1 z2 z3);have t11:=HNx.out w2 HN.out.below;clear z1 z2 z3 z4 y1 y2 y3 y4))
   go_roundw
   case rel=>exact ⟨k+1,_,_,by omega,rfl,HPn.out.symm,HN⟩
   case measure=>show n-(k+1)<n-k;omega
  ·obtain rfl:k=n:=by omega
   rw [HBn.out]
   simp only [ptr,Option.map_none]
   go_wp2
   go_ret
   exact HFin.out _ _ HR.out
end Go.Proofs.YtcfdmbkiinjmaaaGreat.msgs
namespace Go.Proofs.YtcfdmbkiinjmaaaGreat.ntold
open Raft mem grp YtcfdmbkiinjmaaaGreat.look ndw grant stand rows2 clone behind post copy msgs own
structure FP (w:World) (M:Fz) (wx:World) (M':Fz):Prop where
 le:Le M M'
 inn:In M' wx
 below:Below w.heap.size w wx
 new:∀ b,M' b≠none→M b≠none∨w.heap.size≤b
theorem FP.refl {w:World} {M:Fz} (h:In M w):FP w M w M:=⟨Le.refl _,h,Below.refl _ _,fun _ hb=>.inl hb⟩
theorem FP.more {w wx w':World} {M M':Fz} (h:FP w M wx M') (hb:Below wx.heap.size wx w'):FP w M w' M':=⟨h.le,h.inn.below hb,h.below.trans (hb.mono h.below.size),h.new⟩
theorem FP.trans {w wx w':World} {M M' M'':Fz} (h:FP w M wx M') (k:FP wx M' w' M''):FP w M w' M'':=⟨h.le.trans k.le,k.inn,h.below.trans (k.below.mono h.below.size),fun b hb=>by
 rcases k.new b hb with g | g
 ·exact h.new b g
 ·exact .inr (Nat.le_trans h.below.size g)⟩
theorem FP.clone {w wx w':World} {M M':Fz} (h:FP w M wx M') {e sz m:Nat} {xs:List Value} {r:Ending} (hc:CloneE wx e sz m xs r w'):∃ o n c,r=.returned (.slice o n c)∧∃ M'',FP w M w' M''∧Le M' M''∧RowM M'' (.slice o n c) m sz xs∧Own1 M'' wx.heap.size e (.slice o n c):=by
 obtain ⟨v,rfl,hO,hb⟩:=hc
 obtain ⟨M2,h1,h2,h3,h4,h5⟩:=freeze1 hO (h.inn.below hb) (fun g hg=>h.inn.fresh (row_lt hO hg).1)
 obtain ⟨o,c,rfl⟩:=own_slice hO
 exact ⟨o,m,c,rfl,M2,⟨h.le.trans h1,h2,h.below.trans (hb.mono h.below.size),fun b hb'=>by
  rcases h4 b hb' with g | g
  ·exact h.new b g
  ·exact .inr (Nat.le_trans h.below.size (row_lt hO g).1)⟩,h1,h3,h5⟩
theorem row_cells {w:World} {base e:Nat} {v:Value} {n:Nat} {xs:List Value} (h:w.ownsRow base e 1 v n xs):(v=.slice none 0 0∧n=0∧xs=[])∨∃ g cap,v=.slice (some ⟨g,0,none⟩) n cap∧∀ j u,xs[j]?=some u→w.cell? ((⟨g,0,none⟩:Addr).add j)=some u:=by
 obtain ⟨h1,⟨rfl,rfl⟩|⟨g,cap,cur,rfl,hb,hg,hnc,hcm,hcs,ht⟩⟩:=id h
 ·exact .inl ⟨rfl,rfl,List.length_eq_zero_iff.1 (by omega)⟩
 ·exact .inr ⟨g,cap,rfl,World.ownsRow.cells h rfl⟩
theorem cloneB (w:World) (v:Value) (l:List Bool) (h:w.ownsRow 0 4 1 v l.length (l.map Value.bool)) (hl:l.length≤1000):Calls Tryz.prog 71 #[v] w fun r w'=>CloneE w 4 1 l.length (l.map Value.bool) r w':=by
 rcases row_cells h with ⟨rfl,h1,h2⟩|⟨g,cap,rfl,hc⟩
 ·rw [h1,h2];exact clone_bools_nil w
 ·exact clone_bools w _ _ cap _ (by simp) hc (by intro u hu;obtain ⟨y,_,rfl⟩:=List.mem_map.1 hu;rfl) hl
theorem cloneI (w:World) (v:Value) (l:List Nat) (h:w.ownsRow 0 3 1 v l.length (l.map (fun (n:Nat)=>Value.int .i64 (n:Int)))) (hl:l.length≤1000):Calls Tryz.prog 72 #[v] w fun r w'=>CloneE w 3 1 l.length (l.map (fun (n:Nat)=>Value.int .i64 (n:Int))) r w':=by
 rcases row_cells h with ⟨rfl,h1,h2⟩|⟨g,cap,rfl,hc⟩
 ·rw [h1,h2];exact clone_ints_nil w
 ·exact clone_ints w _ _ cap _ (by simp) hc (by intro u hu;obtain ⟨y,_,rfl⟩:=List.mem_map.1 hu;rfl) hl
def PeerM (M:Fz) (p:Peer) (lv vv nv mv:Value):Prop:=RecsM M lv p.log∧RowM M vv p.votes.length 1 (p.votes.map Value.bool)∧RowM M nv p.next.length 1 (p.next.map (fun (n:Nat)=>Value.int .i64 (n:Int)))∧RowM M mv p.mat.length 1 (p.mat.map (fun (n:Nat)=>Value.int .i64 (n:Int)))
def ToldE (w:World) (M:Fz) (p:Peer) (r:Ending) (w':World):Prop :=
 ∃ (a1:Option Addr) (a2 a3:Nat) (b1:Option Addr) (b2 b3:Nat) (c1:Option Addr) (c2 c3:Nat) (d1:Option Addr) (d2 d3:Nat),r=.returned (.agg #[.bool p.up,.int .i64 p.term,.int .i64 p.vote,.int .i64 p.commit,.int .i64 p.role,.slice a1 a2 a3,.slice b1 b2 b3,.slice c1 c2 c3,.slice d1 d2 d3])∧∃ M' us,FP w M w' M'∧PeerS M' w.heap.size ⟨p,.slice a1 a2 a3,.slice b1 b2 b3,.slice c1 c2 c3,.slice d1 d2 d3,us⟩
theorem later {w:World} {M M':Fz} {e:Nat} {v:Value} (h:Own1 M' w.heap.size e v) (hI:In M w) {b:Nat} (hb:M b≠none):b∉ownB v:=fun hv=>by
 have h1:=(h.blk hv).1
 have h2:=hI.lt (Option.ne_none_iff_exists'.1 hb).choose_spec
 omega
end Go.Proofs.YtcfdmbkiinjmaaaGreat.ntold
namespace Go.Proofs.YtcfdmbkiinjmaaaGreat.postb
open Raft mem grp YtcfdmbkiinjmaaaGreat.look ndw grant post
theorem map_erase {α β:Type} (f:α→β):∀ (l:List α) (i:Nat),(l.eraseIdx i).map f=(l.map f).eraseIdx i
 | [],_=>rfl
 | x::l,0=>rfl
 | x::l,i+1=>by simp [map_erase f l i]
section
variable {w w':World} {M M':Fz} {O O':Lb} {d hd:Nat} {nb:List Nat} {c:Cl} {pv cv:Value} {bs:List Nat} {us:List MV} {cs:List RV}
theorem Gr.same (h:Gr w M O d hd nb c pv cv bs us cs) (hI:In M w') (hs:w.heap.size≤w'.heap.size) (hk:∀ b l,O b=some l→w'.heap[b]?=w.heap[b]?):Gr w' M O d hd nb c pv cv bs us cs where
 st:=⟨hI,fun b l hb=>⟨(h.st.ok b l hb).1,Nat.lt_of_lt_of_le (h.st.ok b l hb).2 hs⟩⟩
 blk:=(hk d 0 h.own).trans h.blk
 own:=h.own
 peers:=h.peers
 len:=h.len
 nodes:=fun j b p hb hp=>by
  obtain ⟨us',lv,vv,nv,mv,hnd⟩:=h.nodes j b p hb hp
  exact ⟨us',lv,vv,nv,mv,hnd.keep (fun x hx=>hk x _ hx) (Le.refl _) (fun _ hx=>hx)⟩
 post:=h.post.keep (fun x hx=>hk x _ hx) (Le.refl _) (fun _ hx=>hx)
 nets:=h.nets
 chos:=h.chos.keep (fun x hx=>hk x _ hx) (Le.refl _) (fun _ hx=>hx)
 chosen:=h.chosen
theorem Aft.setNew {S:Nat→Prop} (h:Aft S M O w M' O' w') {b:Nat} (hb:w.heap.size≤b) (hm:M' b=none) (i:Nat) (v:Value):Aft S M O w M' O' (w'.setCell ⟨b,i,none⟩ v) where
 os:=h.os
 tape:=h.tape
 output:=h.output
 size:=by simpa using h.size
 le:=h.le
 inn:=h.inn.set hm v
 lab:=h.lab
 ok:=fun b' l' hl'=>⟨(h.ok b' l' hl').1,by simpa using (h.ok b' l' hl').2⟩
 newM:=h.newM
 newL:=h.newL
 keep:=fun b' hlt hk=>(Below.heap_setCell w' ⟨b,i,none⟩ v b' (fun e=>by have e:b'=b:=e;omega)).trans (h.keep b' hlt hk)
theorem setsNew {S:Nat→Prop} {b:Nat} (hb:w.heap.size≤b) (hm:M' b=none):∀ (l:List (Nat×Value)) {w':World},Aft S M O w M' O' w'→Aft S M O w M' O' (sets w' b l)
 | [],_,h=>h
 | (i,v)::l,_,h=>setsNew hb hm l (Aft.setNew h hb hm i v)
theorem Gr.taken (h:Gr w M O d hd nb c pv cv bs us cs) {W:World} (hW:Below w.heap.size w W) {i b t:Nat} (hb:(hd::bs)[i]?=some b) (ht:bs[i]?=some t) :
  Gr ((W.setCell ⟨b,9,none⟩ (ptr bs[i+1]?)).setCell ⟨d,1,none⟩ (.int .i64 ((us.length:Int)-1))) M O d hd nb { c with net:=c.net.eraseIdx i } pv cv (bs.eraseIdx i) (us.eraseIdx i) cs ∧
  Aft (fun l=>l<3) M O w M O ((W.setCell ⟨b,9,none⟩ (ptr bs[i+1]?)).setCell ⟨d,1,none⟩ (.int .i64 ((us.length:Int)-1))):=by
 have hlen:=h.post.len
 have hit:=(List.getElem?_eq_some_iff.1 ht).1
 have hbO:O b=some 2:=h.post.lab b (List.mem_iff_getElem?.2 ⟨_,hb⟩)
 have hbl:b<w.heap.size:=(h.st.ok b 2 hbO).2
 have hdl:d<w.heap.size:=Gr.lt h
 have hbd:b≠d:=fun e=>by rw [e,h.own] at hbO;cases hbO
 have a1:Aft (fun l=>l<3) M O w M O W:=(Aft.refl _ h.st).below hW
 have a3:=(a1.set (b:=b) (l:=2) hbO (by decide) 9 (ptr bs[i+1]?)).set (b:=d) (l:=0) h.own (by decide) 1 (.int .i64 ((us.length:Int)-1))
 refine ⟨?_,a3⟩
 have hd2:W.heap[d]?=some (.cells #[.pointer (some ⟨hd,0,none⟩),.int .i64 us.length,pv,cv,.bool c.conflict] 84 (0,0)):=(hW.block d hdl).trans h.blk
 refine h.part (c':={ c with net:=c.net.eraseIdx i }) a3 rfl ?_ ?_ ?_ ?_ h.chosen
 ·have h1:(W.setCell ⟨b,9,none⟩ (ptr bs[i+1]?)).heap[d]?=some (.cells #[.pointer (some ⟨hd,0,none⟩),.int .i64 us.length,pv,cv,.bool c.conflict] 84 (0,0)):=(Below.heap_setCell _ _ _ d (fun e=>hbd e.symm)).trans hd2
  have h2:=set_at h1 1 (.int .i64 ((us.length:Int)-1)) rfl
  rw [h2]
  have e:((us.eraseIdx i).length:Int)=(us.length:Int)-1:=by rw [List.length_eraseIdx_of_lt (by omega)];omega
  rw [e]
  rfl
 ·have hold:∀ y∈hd::bs,y<w.heap.size∧y≠d:=fun y hy=>⟨(h.st.ok y 2 (h.post.lab y hy)).2,fun e=>by have:=h.post.lab y hy;rw [e,h.own] at this;cases this⟩
  have hsub:∀ y,y∈hd::bs.eraseIdx i→y∈hd::bs:=fun y hy=>by
   rcases List.mem_cons.1 hy with e | e
   ·exact List.mem_cons.2 (.inl e)
   ·exact List.mem_cons.2 (.inr (List.mem_of_mem_eraseIdx e))
  refine ⟨by rw [List.length_eraseIdx_of_lt hit,List.length_eraseIdx_of_lt (by omega)];omega,?_,fun y hy=>h.post.lab y (hsub y hy),?_,fun y hy=>h.post.logs y (List.mem_of_mem_eraseIdx hy)⟩
  ·have:=h.post.nodup
   rw [List.nodup_cons] at this ⊢
   exact ⟨fun hm=>this.1 (List.mem_of_mem_eraseIdx hm),this.2.sublist (List.eraseIdx_sublist _ _)⟩
  ·intro j y x hy hx
   have key:∀ j',(hd::bs)[j']?=some y→(mv0::us)[j']?=some x→(j'≠i∧bs[j']?=(bs.eraseIdx i)[j]?)∨(j'=i∧(bs.eraseIdx i)[j]?=bs[i+1]?)→((W.setCell ⟨b,9,none⟩ (ptr bs[i+1]?)).setCell ⟨d,1,none⟩ (.int .i64 ((us.length:Int)-1))).heap[y]?=some (.cells (letter x (bs.eraseIdx i)[j]?) 79 (0,0)):=fun j' q1 q2 q3=>by
    have hym:=hold y (List.mem_iff_getElem?.2 ⟨j',q1⟩)
    have hblk:=(hW.block y hym.1).trans (h.post.blk j' y x q1 q2)
    rw [Below.heap_setCell _ _ _ y hym.2]
    rcases q3 with ⟨q3,q4⟩|⟨q3,q4⟩
    ·have hyb:y≠b:=fun e'=>by
      subst e'
      exact q3 ((List.getElem?_inj (List.getElem?_eq_some_iff.1 q1).1 h.post.nodup).1 (by rw [q1,hb]))
     rw [Below.heap_setCell _ _ _ y hyb,hblk,q4]
    ·subst q3
     have e':y=b:=by rw [hb] at q1;exact (Option.some.inj q1).symm
     subst e'
     rw [q4]
     exact set_at hblk 9 _ rfl
   rcases Nat.lt_trichotomy j i with hji | hji | hji
   ·refine key j ?_ ?_ (.inl ⟨by omega,?_⟩)
    ·cases j with
     | zero=>exact hy
     | succ j=>rw [List.getElem?_cons_succ,List.getElem?_eraseIdx_of_lt (by omega)] at hy;exact hy
    ·cases j with
     | zero=>exact hx
     | succ j=>rw [List.getElem?_cons_succ,List.getElem?_eraseIdx_of_lt (by omega)] at hx;exact hx
    ·rw [List.getElem?_eraseIdx_of_lt hji]
   ·subst hji
    refine key j ?_ ?_ (.inr ⟨rfl,by rw [List.getElem?_eraseIdx_of_ge (Nat.le_refl _)]⟩)
    ·cases j with
     | zero=>exact hy
     | succ j=>rw [List.getElem?_cons_succ,List.getElem?_eraseIdx_of_lt (by omega)] at hy;exact hy
    ·cases j with
     | zero=>exact hx
     | succ j=>rw [List.getElem?_cons_succ,List.getElem?_eraseIdx_of_lt (by omega)] at hx;exact hx
   ·cases j with
    | zero=>omega
    | succ j =>
     rw [List.getElem?_cons_succ,List.getElem?_eraseIdx_of_ge (by omega)] at hy hx
     exact key (j+2) hy hx (.inl ⟨by omega,by rw [List.getElem?_eraseIdx_of_ge (by omega)]⟩)
 ·rw [←h.nets];exact map_erase _ us i
 ·have hk:∀ x',O x'=some 1→((W.setCell ⟨b,9,none⟩ (ptr bs[i+1]?)).setCell ⟨d,1,none⟩ (.int .i64 ((us.length:Int)-1))).heap[x']?=w.heap[x']? := fun x' hx'=>by
   rw [Below.heap_setCell _ _ _ x' (fun e=>by have e:x'=d:=e;rw [e,h.own] at hx';cases hx'),Below.heap_setCell _ _ _ x' (fun e=>by have e:x'=b:=e;rw [e,hbO] at hx';cases hx')]
   exact hW.block x' (h.st.ok x' 1 hx').2
  exact h.chos.keep hk (Le.refl _) (fun _ hx'=>hx')
end
set_option maxRecDepth 20000 in
set_option maxHeartbeats 1600000 in
theorem take_core (w W:World) (hW:w.alloc (.cells #[.int .i64 0,.int .i64 0,.int .i64 0,.int .i64 0,.int .i64 0,.int .i64 0,.int .i64 0,.bool false,.slice none 0 0] 69)=W) (d b t i U:Nat) (np:Option Addr) (x:MV) (o:Option Addr) (n lc:Nat) (hU:1≤U) (hU2:U≤200)
  (c1:W.cell? ⟨d,1,none⟩=some (.int .i64 U)) (f1:W.frozen? ⟨d,1,none⟩=false) (cb:W.cell? ⟨b,9,none⟩=some (.pointer (some ⟨t,0,none⟩))) (fb:W.frozen? ⟨b,9,none⟩=false)
  (ct:W.heap[t]?=some (.cells #[.int .i64 x.m.kind,.int .i64 x.m.frm,.int .i64 x.m.to,.int .i64 x.m.term,.int .i64 x.m.a,.int .i64 x.m.b,.int .i64 x.m.c,.bool x.m.ok,.slice o n lc,.pointer np] 79 (0,0)))
  (hbt:¬ (b=t)) (hdt:¬ (d=t)) (hbd:¬ (b=d)) (hb:b<w.heap.size) (ht:t<w.heap.size) (hd:d<w.heap.size)
  (HA:Hid (Calls Tryz.prog 81 #[.pointer (some ⟨d,0,none⟩),.int .i64 i] W fun r w'=>r=.returned (.pointer (some ⟨b,0,none⟩))∧w'=W)) :
  Calls Tryz.prog 64 #[.pointer (some ⟨d,0,none⟩),.int .i64 i] w fun r w'=>r=.returned (.agg #[.int .i64 x.m.kind,.int .i64 x.m.frm,.int .i64 x.m.to,.int .i64 x.m.term,.int .i64 x.m.a,.int .i64 x.m.b,.int .i64 x.m.c,.bool x.m.ok,.slice o n lc])∧w'=sets ((W.setCell ⟨b,9,none⟩ (.pointer np)).setCell ⟨d,1,none⟩ (.int .i64 ((U:Int)-1))) w.heap.size [(0,.int .i64 x.m.kind),(1,.int .i64 x.m.frm),(2,.int .i64 x.m.to),(3,.int .i64 x.m.term),(4,.int .i64 x.m.a),(5,.int .i64 x.m.b),(6,.int .i64 x.m.c),(7,.bool x.m.ok),(8,.slice o n lc)]:=by
 have k0:W.cell? ⟨t,0,none⟩=some (.int .i64 x.m.kind):=cell_of ct rfl
 have k1:W.cell? ⟨t,1,none⟩=some (.int .i64 x.m.frm):=cell_of ct rfl
 have k2:W.cell? ⟨t,2,none⟩=some (.int .i64 x.m.to):=cell_of ct rfl
 have k3:W.cell? ⟨t,3,none⟩=some (.int .i64 x.m.term):=cell_of ct rfl
 have k4:W.cell? ⟨t,4,none⟩=some (.int .i64 x.m.a):=cell_of ct rfl
 have k5:W.cell? ⟨t,5,none⟩=some (.int .i64 x.m.b):=cell_of ct rfl
 have k6:W.cell? ⟨t,6,none⟩=some (.int .i64 x.m.c):=cell_of ct rfl
 have k7:W.cell? ⟨t,7,none⟩=some (.bool x.m.ok):=cell_of ct rfl
 have k8:W.cell? ⟨t,8,none⟩=some (.slice o n lc):=cell_of ct rfl
 have k9:W.cell? ⟨t,9,none⟩=some (.pointer np):=cell_of ct rfl
 have hnb:¬ (w.heap.size=b):=by omega
 have hnd:¬ (w.heap.size=d):=by omega
 have hnt:¬ (w.heap.size=t):=by omega
 have hbn:¬ (b=w.heap.size):=by omega
 have hdn:¬ (d=w.heap.size):=by omega
 have htb:¬ (t=b):=fun e=>hbt e.symm
 have htd:¬ (t=d):=fun e=>hdt e.symm
 have hdb:¬ (d=b):=fun e=>hbd e.symm
 have hUI:(1:Int)≤U:=by omega
 have hUI2:(U:Int)≤200:=by omega
 have hbx:W.heap[w.heap.size]?=some (.cells #[.int .i64 0,.int .i64 0,.int .i64 0,.int .i64 0,.int .i64 0,.int .i64 0,.int .i64 0,.bool false,.slice none 0 0] 69 (0,0)):=by rw [←hW];exact heap_alloc_new w _
 have z0:=cell_of (i:=0) hbx (v:=.int .i64 0) rfl
 have z1:=cell_of (i:=1) hbx (v:=.int .i64 0) rfl
 have z2:=cell_of (i:=2) hbx (v:=.int .i64 0) rfl
 have z3:=cell_of (i:=3) hbx (v:=.int .i64 0) rfl
 have z4:=cell_of (i:=4) hbx (v:=.int .i64 0) rfl
 have z5:=cell_of (i:=5) hbx (v:=.int .i64 0) rfl
 have z6:=cell_of (i:=6) hbx (v:=.int .i64 0) rfl
 have z7:=cell_of (i:=7) hbx (v:=.bool false) rfl
 have z8:=cell_of (i:=8) hbx (v:=.slice none 0 0) rfl
 have y0:=frozen_of hbx 0
 have y1:=frozen_of hbx 1
 have y2:=frozen_of hbx 2
 have y3:=frozen_of hbx 3
 have y4:=frozen_of hbx 4
 have y5:=frozen_of hbx 5
 have y6:=frozen_of hbx 6
 have y7:=frozen_of hbx 7
 have y8:=frozen_of hbx 8
 have HBX:=hide hbx
 clear ct hbx
 go_enter Tryz.func64,Tryz.ntmps64
 go_wp2_with (go_at_call 81;refine HA.out.mono ?_;rintro e w' ⟨rfl,hw'⟩;have hw2:=hw'.symm;subst hw2;clear hw')
 obtain ⟨WF,hWF⟩:∃ WF,sets ((W.setCell ⟨b,9,none⟩ (.pointer np)).setCell ⟨d,1,none⟩ (.int .i64 ((U:Int)-1))) w.heap.size [(0,.int .i64 x.m.kind),(1,.int .i64 x.m.frm),(2,.int .i64 x.m.to),(3,.int .i64 x.m.term),(4,.int .i64 x.m.a),(5,.int .i64 x.m.b),(6,.int .i64 x.m.c),(7,.bool x.m.ok),(8,.slice o n lc)]=WF:=⟨_,rfl⟩
 have hblk:WF.heap[w.heap.size]?=some (.cells #[.int .i64 x.m.kind,.int .i64 x.m.frm,.int .i64 x.m.to,.int .i64 x.m.term,.int .i64 x.m.a,.int .i64 x.m.b,.int .i64 x.m.c,.bool x.m.ok,.slice o n lc] 69 (0,0)):=by
  rw [←hWF]
  have q1:((W.setCell ⟨b,9,none⟩ (.pointer np)).setCell ⟨d,1,none⟩ (.int .i64 ((U:Int)-1))).heap[w.heap.size]?=some (.cells #[.int .i64 0,.int .i64 0,.int .i64 0,.int .i64 0,.int .i64 0,.int .i64 0,.int .i64 0,.bool false,.slice none 0 0] 69 (0,0)):=by
   rw [Below.heap_setCell _ _ _ _ hnd,Below.heap_setCell _ _ _ _ hnb]
   exact HBX.out
  have q2:=sets_at [(0,.int .i64 x.m.kind),(1,.int .i64 x.m.frm),(2,.int .i64 x.m.to),(3,.int .i64 x.m.term),(4,.int .i64 x.m.a),(5,.int .i64 x.m.b),(6,.int .i64 x.m.c),(7,.bool x.m.ok),(8,.slice o n lc)] q1
  have e:setsA #[.int .i64 0,.int .i64 0,.int .i64 0,.int .i64 0,.int .i64 0,.int .i64 0,.int .i64 0,.bool false,.slice none 0 0] [(0,.int .i64 x.m.kind),(1,.int .i64 x.m.frm),(2,.int .i64 x.m.to),(3,.int .i64 x.m.term),(4,.int .i64 x.m.a),(5,.int .i64 x.m.b),(6,.int .i64 x.m.c),(7,.bool x.m.ok),(8,.slice o n lc)]=#[.int .i64 x.m.kind,.int .i64 x.m.frm,.int .i64 x.m.to,.int .i64 x.m.term,.int .i64 x.m.a,.int .i64 x.m.b,.int .i64 x.m.c,.bool x.m.ok,.slice o n lc]:=by simp [setsA]
  rw [e] at q2
  exact q2
 have g0:=cell_of (i:=0) hblk (v:=.int .i64 x.m.kind) rfl
 have g1:=cell_of (i:=1) hblk (v:=.int .i64 x.m.frm) rfl
 have g2:=cell_of (i:=2) hblk (v:=.int .i64 x.m.to) rfl
 have g3:=cell_of (i:=3) hblk (v:=.int .i64 x.m.term) rfl
 have g4:=cell_of (i:=4) hblk (v:=.int .i64 x.m.a) rfl
 have g5:=cell_of (i:=5) hblk (v:=.int .i64 x.m.b) rfl
 have g6:=cell_of (i:=6) hblk (v:=.int .i64 x.m.c) rfl
 have g7:=cell_of (i:=7) hblk (v:=.bool x.m.ok) rfl
 have g8:=cell_of (i:=8) hblk (v:=.slice o n lc) rfl
 unfold sets at hWF
 simp only [sets] at hWF
 rw [hWF]
 refine bodyPost_ret (v:=.agg #[.int .i64 x.m.kind,.int .i64 x.m.frm,.int .i64 x.m.to,.int .i64 x.m.term,.int .i64 x.m.a,.int .i64 x.m.b,.int .i64 x.m.c,.bool x.m.ok,.slice o n lc]) ?_ rfl ⟨rfl,?_⟩
 ·simp [results,Tryz.results64,go_sem,g0,g1,g2,g3,g4,g5,g6,g7,g8]
 ·rw [←hWF];rfl
def TakenE (M:Fz) (O:Lb) (w:World) (d:Nat) (nb:List Nat) (c':Cl) (m:Msg) (r:Ending) (w':World):Prop :=
 ∃ (o:Option Addr) (n lc:Nat),r=.returned (.agg #[.int .i64 m.kind,.int .i64 m.frm,.int .i64 m.to,.int .i64 m.term,.int .i64 m.a,.int .i64 m.b,.int .i64 m.c,.bool m.ok,.slice o n lc])∧RecsM M (.slice o n lc) m.log∧Did M O w d nb c' w'
theorem recs_slice {M:Fz} {v:Value} {l:List Rc} (h:RecsM M v l):∃ o n c,v=.slice o n c:=by
 obtain ⟨us,_,⟨ao,cap,e,_⟩,_⟩:=h
 exact ⟨_,_,_,e⟩
theorem takeOut_any (w:World) (M:Fz) (O:Lb) (d:Nat) (nb:List Nat) (c:Cl) (h:G w M O d nb c) (i:Nat) (m:Msg) (hm:c.net[i]?=some m) (hU:c.net.length≤200) :
  Calls Tryz.prog 64 #[.pointer (some ⟨d,0,none⟩),.int .i64 i] w fun r w'=>TakenE M O w d nb { c with net:=c.net.eraseIdx i } m r w':=by
 obtain ⟨hd,pv,cv,bs,us,cs,h⟩:=h
 have hil:=(List.getElem?_eq_some_iff.1 hm).1
 have hnl:c.net.length=us.length:=by rw [←h.nets];simp
 have hlen:=h.post.len
 rw [←h.nets,List.getElem?_map,Option.map_eq_some_iff] at hm
 obtain ⟨x,hx,rfl⟩:=hm
 obtain ⟨b,hb⟩:∃ b,(hd::bs)[i]?=some b:=⟨_,List.getElem?_eq_getElem (by simp;omega)⟩
 obtain ⟨t,ht⟩:∃ t,bs[i]?=some t:=⟨_,List.getElem?_eq_getElem (by omega)⟩
 have hlog:=h.post.logs x (List.mem_iff_getElem?.2 ⟨i,hx⟩)
 obtain ⟨o,n,lc,ho⟩:=recs_slice hlog
 obtain ⟨W,hW⟩:∃ W,w.alloc (.cells #[.int .i64 0,.int .i64 0,.int .i64 0,.int .i64 0,.int .i64 0,.int .i64 0,.int .i64 0,.bool false,.slice none 0 0] 69)=W:=⟨_,rfl⟩
 have bW:Below w.heap.size w W:=by rw [←hW];exact more (Below.refl _ _) _
 have hRW:Gr W M O d hd nb c pv cv bs us cs:=h.keep ((Aft.refl _ h.st).below bW)
 have hbm:b∈hd::bs:=List.mem_iff_getElem?.2 ⟨_,hb⟩
 have htm:t∈hd::bs:=List.mem_cons.2 (.inr (List.mem_iff_getElem?.2 ⟨_,ht⟩))
 have hbO:=h.post.lab b hbm
 have htO:=h.post.lab t htm
 have ht1:(hd::bs)[i+1]?=some t:=ht
 have hbt:¬ (b=t):=fun e=>by
  subst e
  have:=(List.getElem?_inj (j:=i+1) (List.getElem?_eq_some_iff.1 hb).1 h.post.nodup).1 (by rw [hb,ht1])
  omega
 have hne:∀ y,O y=some 2→y≠d:=fun y hy e=>by rw [e,h.own] at hy;cases hy
 have hct:=hRW.post.blk (i+1) t x ht1 hx
 have hcb:=Pst.nx hRW.post hb
 rw [ht] at hcb
 have hca:=Gr.ca hRW
 refine (take_core w W hW d b t i us.length (bs[i+1]?.map fun b=>⟨b,0,none⟩) x o n lc (by omega) (by omega) hca.1.2.1 hca.2.2.1 hcb.1 hcb.2 (by rw [hct];simp [letter,ho]) hbt (fun e=>hne t htO e.symm) (hne b hbO) (h.st.ok b 2 hbO).2 (h.st.ok t 2 htO).2 (Gr.lt h)
  (ahead_any W M O d hd bs us hca.1.1 hRW.post i b hb (by omega))).mono ?_
 rintro r w' ⟨rfl,rfl⟩
 obtain ⟨h1,h2⟩:=Gr.taken h bW hb ht
 have hfr:=h.st.fresh (Nat.le_refl w.heap.size)
 have a:=setsNew (b:=w.heap.size) (Nat.le_refl _) hfr.2 [(0,.int .i64 x.m.kind),(1,.int .i64 x.m.frm),(2,.int .i64 x.m.to),(3,.int .i64 x.m.term),(4,.int .i64 x.m.a),(5,.int .i64 x.m.b),(6,.int .i64 x.m.c),(7,.bool x.m.ok),(8,.slice o n lc)] h2
 refine ⟨o,n,lc,rfl,by rw [←ho];exact hlog,M,O,a.mono (fun _ _=>trivial),hd,pv,cv,bs.eraseIdx i,us.eraseIdx i,cs,?_⟩
 refine Gr.same h1 a.inn ?_ (fun y l hy=>sets_ne _ _ (fun e=>by rw [e,hfr.1] at hy;cases hy))
 have:=a.size
 have h3:=h1.st
 exact Nat.le_of_eq (by
  clear a h1 h2 this h3
  simp [sets])
set_option maxRecDepth 20000 in
set_option maxHeartbeats 1600000 in
theorem peek_core (w W:World) (hW:w.alloc (.cells #[.int .i64 0,.int .i64 0,.int .i64 0,.int .i64 0,.int .i64 0,.int .i64 0,.int .i64 0,.bool false,.slice none 0 0] 69)=W) (d b t i:Nat) (np:Option Addr) (x:MV) (o:Option Addr) (n lc:Nat)
  (cb:W.cell? ⟨b,9,none⟩=some (.pointer (some ⟨t,0,none⟩)))
  (ct:W.heap[t]?=some (.cells #[.int .i64 x.m.kind,.int .i64 x.m.frm,.int .i64 x.m.to,.int .i64 x.m.term,.int .i64 x.m.a,.int .i64 x.m.b,.int .i64 x.m.c,.bool x.m.ok,.slice o n lc,.pointer np] 79 (0,0))) (ht:t<w.heap.size)
  (HA:Hid (Calls Tryz.prog 81 #[.pointer (some ⟨d,0,none⟩),.int .i64 i] W fun r w'=>r=.returned (.pointer (some ⟨b,0,none⟩))∧w'=W)) :
  Calls Tryz.prog 66 #[.pointer (some ⟨d,0,none⟩),.int .i64 i] w fun r w'=>r=.returned (.agg #[.int .i64 x.m.kind,.int .i64 x.m.frm,.int .i64 x.m.to,.int .i64 x.m.term,.int .i64 x.m.a,.int .i64 x.m.b,.int .i64 x.m.c,.bool x.m.ok,.slice o n lc])∧w'=sets W w.heap.size [(0,.int .i64 x.m.kind),(1,.int .i64 x.m.frm),(2,.int .i64 x.m.to),(3,.int .i64 x.m.term),(4,.int .i64 x.m.a),(5,.int .i64 x.m.b),(6,.int .i64 x.m.c),(7,.bool x.m.ok),(8,.slice o n lc)]:=by
 have k0:W.cell? ⟨t,0,none⟩=some (.int .i64 x.m.kind):=cell_of ct rfl
 have k1:W.cell? ⟨t,1,none⟩=some (.int .i64 x.m.frm):=cell_of ct rfl
 have k2:W.cell? ⟨t,2,none⟩=some (.int .i64 x.m.to):=cell_of ct rfl
 have k3:W.cell? ⟨t,3,none⟩=some (.int .i64 x.m.term):=cell_of ct rfl
 have k4:W.cell? ⟨t,4,none⟩=some (.int .i64 x.m.a):=cell_of ct rfl
 have k5:W.cell? ⟨t,5,none⟩=some (.int .i64 x.m.b):=cell_of ct rfl
 have k6:W.cell? ⟨t,6,none⟩=some (.int .i64 x.m.c):=cell_of ct rfl
 have k7:W.cell? ⟨t,7,none⟩=some (.bool x.m.ok):=cell_of ct rfl
 have k8:W.cell? ⟨t,8,none⟩=some (.slice o n lc):=cell_of ct rfl
 have k9:W.cell? ⟨t,9,none⟩=some (.pointer np):=cell_of ct rfl
 have hnt:¬ (w.heap.size=t):=by omega
 have hbx:W.heap[w.heap.size]?=some (.cells #[.int .i64 0,.int .i64 0,.int .i64 0,.int .i64 0,.int .i64 0,.int .i64 0,.int .i64 0,.bool false,.slice none 0 0] 69 (0,0)):=by rw [←hW];exact heap_alloc_new w _
 have z0:=cell_of (i:=0) hbx (v:=.int .i64 0) rfl
 have z1:=cell_of (i:=1) hbx (v:=.int .i64 0) rfl
 have z2:=cell_of (i:=2) hbx (v:=.int .i64 0) rfl
 have z3:=cell_of (i:=3) hbx (v:=.int .i64 0) rfl
 have z4:=cell_of (i:=4) hbx (v:=.int .i64 0) rfl
 have z5:=cell_of (i:=5) hbx (v:=.int .i64 0) rfl
 have z6:=cell_of (i:=6) hbx (v:=.int .i64 0) rfl
 have z7:=cell_of (i:=7) hbx (v:=.bool false) rfl
 have z8:=cell_of (i:=8) hbx (v:=.slice none 0 0) rfl
 have y0:=frozen_of hbx 0
 have y1:=frozen_of hbx 1
 have y2:=frozen_of hbx 2
 have y3:=frozen_of hbx 3
 have y4:=frozen_of hbx 4
 have y5:=frozen_of hbx 5
 have y6:=frozen_of hbx 6
 have y7:=frozen_of hbx 7
 have y8:=frozen_of hbx 8
 have HBX:=hide hbx
 clear ct hbx
 go_enter Tryz.func66,Tryz.ntmps66
 go_wp2_with (go_at_call 81;refine HA.out.mono ?_;rintro e w' ⟨rfl,hw'⟩;have hw2:=hw'.symm;subst hw2;clear hw')
 obtain ⟨WF,hWF⟩:∃ WF,sets W w.heap.size [(0,.int .i64 x.m.kind),(1,.int .i64 x.m.frm),(2,.int .i64 x.m.to),(3,.int .i64 x.m.term),(4,.int .i64 x.m.a),(5,.int .i64 x.m.b),(6,.int .i64 x.m.c),(7,.bool x.m.ok),(8,.slice o n lc)]=WF:=⟨_,rfl⟩
 have hblk:WF.heap[w.heap.size]?=some (.cells #[.int .i64 x.m.kind,.int .i64 x.m.frm,.int .i64 x.m.to,.int .i64 x.m.term,.int .i64 x.m.a,.int .i64 x.m.b,.int .i64 x.m.c,.bool x.m.ok,.slice o n lc] 69 (0,0)):=by
  rw [←hWF]
  have q2:=sets_at [(0,.int .i64 x.m.kind),(1,.int .i64 x.m.frm),(2,.int .i64 x.m.to),(3,.int .i64 x.m.term),(4,.int .i64 x.m.a),(5,.int .i64 x.m.b),(6,.int .i64 x.m.c),(7,.bool x.m.ok),(8,.slice o n lc)] HBX.out
  have e:setsA #[.int .i64 0,.int .i64 0,.int .i64 0,.int .i64 0,.int .i64 0,.int .i64 0,.int .i64 0,.bool false,.slice none 0 0] [(0,.int .i64 x.m.kind),(1,.int .i64 x.m.frm),(2,.int .i64 x.m.to),(3,.int .i64 x.m.term),(4,.int .i64 x.m.a),(5,.int .i64 x.m.b),(6,.int .i64 x.m.c),(7,.bool x.m.ok),(8,.slice o n lc)]=#[.int .i64 x.m.kind,.int .i64 x.m.frm,.int .i64 x.m.to,.int .i64 x.m.term,.int .i64 x.m.a,.int .i64 x.m.b,.int .i64 x.m.c,.bool x.m.ok,.slice o n lc]:=by simp [setsA]
  rw [e] at q2
  exact q2
 have g0:=cell_of (i:=0) hblk (v:=.int .i64 x.m.kind) rfl
 have g1:=cell_of (i:=1) hblk (v:=.int .i64 x.m.frm) rfl
 have g2:=cell_of (i:=2) hblk (v:=.int .i64 x.m.to) rfl
 have g3:=cell_of (i:=3) hblk (v:=.int .i64 x.m.term) rfl
 have g4:=cell_of (i:=4) hblk (v:=.int .i64 x.m.a) rfl
 have g5:=cell_of (i:=5) hblk (v:=.int .i64 x.m.b) rfl
 have g6:=cell_of (i:=6) hblk (v:=.int .i64 x.m.c) rfl
 have g7:=cell_of (i:=7) hblk (v:=.bool x.m.ok) rfl
 have g8:=cell_of (i:=8) hblk (v:=.slice o n lc) rfl
 simp only [sets] at hWF
 rw [hWF]
 refine bodyPost_ret (v:=.agg #[.int .i64 x.m.kind,.int .i64 x.m.frm,.int .i64 x.m.to,.int .i64 x.m.term,.int .i64 x.m.a,.int .i64 x.m.b,.int .i64 x.m.c,.bool x.m.ok,.slice o n lc]) ?_ rfl ⟨rfl,?_⟩
 ·simp [results,Tryz.results66,go_sem,g0,g1,g2,g3,g4,g5,g6,g7,g8]
 ·rw [←hWF];rfl
def PeekE (M:Fz) (w:World) (m:Msg) (r:Ending) (w':World):Prop :=
 ∃ (o:Option Addr) (n lc:Nat),r=.returned (.agg #[.int .i64 m.kind,.int .i64 m.frm,.int .i64 m.to,.int .i64 m.term,.int .i64 m.a,.int .i64 m.b,.int .i64 m.c,.bool m.ok,.slice o n lc])∧RecsM M (.slice o n lc) m.log∧Below w.heap.size w w'
theorem sets_below (w W:World) (h:Below w.heap.size w W):∀ (l:List (Nat×Value)) (W':World),Below w.heap.size w W'→Below w.heap.size w (sets W' w.heap.size l)
 | [],_,h=>h
 | (i,v)::l,_,h=>sets_below w W ‹_› l _ (h.setCell (Nat.le_refl _) v)
theorem peek_any (w:World) (M:Fz) (O:Lb) (d:Nat) (nb:List Nat) (c:Cl) (h:G w M O d nb c) (i:Nat) (m:Msg) (hm:c.net[i]?=some m) (hU:c.net.length≤200) :
  Calls Tryz.prog 66 #[.pointer (some ⟨d,0,none⟩),.int .i64 i] w fun r w'=>PeekE M w m r w':=by
 obtain ⟨hd,pv,cv,bs,us,cs,h⟩:=h
 have hil:=(List.getElem?_eq_some_iff.1 hm).1
 have hnl:c.net.length=us.length:=by rw [←h.nets];simp
 have hlen:=h.post.len
 rw [←h.nets,List.getElem?_map,Option.map_eq_some_iff] at hm
 obtain ⟨x,hx,rfl⟩:=hm
 obtain ⟨b,hb⟩:∃ b,(hd::bs)[i]?=some b:=⟨_,List.getElem?_eq_getElem (by simp;omega)⟩
 obtain ⟨t,ht⟩:∃ t,bs[i]?=some t:=⟨_,List.getElem?_eq_getElem (by omega)⟩
 have hlog:=h.post.logs x (List.mem_iff_getElem?.2 ⟨i,hx⟩)
 obtain ⟨o,n,lc,ho⟩:=recs_slice hlog
 obtain ⟨W,hW⟩:∃ W,w.alloc (.cells #[.int .i64 0,.int .i64 0,.int .i64 0,.int .i64 0,.int .i64 0,.int .i64 0,.int .i64 0,.bool false,.slice none 0 0] 69)=W:=⟨_,rfl⟩
 have bW:Below w.heap.size w W:=by rw [←hW];exact more (Below.refl _ _) _
 have hRW:Gr W M O d hd nb c pv cv bs us cs:=h.keep ((Aft.refl _ h.st).below bW)
 have htm:t∈hd::bs:=List.mem_cons.2 (.inr (List.mem_iff_getElem?.2 ⟨_,ht⟩))
 have htO:=h.post.lab t htm
 have ht1:(hd::bs)[i+1]?=some t:=ht
 have hct:=hRW.post.blk (i+1) t x ht1 hx
 have hcb:=Pst.nx hRW.post hb
 rw [ht] at hcb
 have hca:=Gr.ca hRW
 refine (peek_core w W hW d b t i (bs[i+1]?.map fun b=>⟨b,0,none⟩) x o n lc hcb.1 (by rw [hct];simp [letter,ho]) (h.st.ok t 2 htO).2
  (ahead_any W M O d hd bs us hca.1.1 hRW.post i b hb (by omega))).mono ?_
 rintro r w' ⟨rfl,rfl⟩
 exact ⟨o,n,lc,rfl,by rw [←ho];exact hlog,sets_below w W bW _ _ bW⟩
end Go.Proofs.YtcfdmbkiinjmaaaGreat.postb
