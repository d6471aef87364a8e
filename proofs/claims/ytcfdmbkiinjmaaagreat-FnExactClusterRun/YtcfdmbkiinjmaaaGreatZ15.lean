import Derived.Test.YtcfdmbkiinjmaaaGreatZ14
import Derived.Test.YtcfdmbkiinjmaaaGreatZ05
import Derived.Test.YtcfdmbkiinjmaaaGreatZ10
import Derived.WalkMore
import Derived.Deep.Cut
import Derived.Deep.CutRange
import Derived.Deep.DeepCutAuto
import Derived.Deep.QuietTactic
import Derived.BigQuiet
import Derived.Deep.RegionLaw
import Derived.Deep.RegionHeldLaw
set_option linter.unusedVariables false
open Go.ChangeShapes Go.WideShapes Go.ChangeAt Go.RowKit
namespace Go.Proofs.YtcfdmbkiinjmaaaGreat.deliv
open Raft mem grp YtcfdmbkiinjmaaaGreat.look ndw grant stand lead rows2 post postb say lookb lookc commit too elect tick vote arrive answ came cameok
theorem fine {n:Nat} {c:Cl} {s:St} (h:Rel n c s) (hB:Bd c) {k:Nat} (hk:k<n):Fine n (c.at k):=by
 have h1:=h.wf k hk
 have h2:=(h.inv.comm k hk).1
 rw [h.abs k hk] at h2
 exact ⟨h1.votes,h1.lists,(hB.peers k).term,h2,(hB.peers k).log⟩
theorem mat_le {n:Nat} {c:Cl} {s:St} (h:Rel n c s) {k:Nat} (hk:k<n) (hr:(c.at k).role=2):∀ x∈(c.at k).mat,x≤(c.at k).log.length:=by
 intro x hx
 obtain ⟨q,hq,e⟩:=List.getElem_of_mem hx
 have hl:=((h.wf k hk).lists hr).2.1
 have h1:=h.inv.leader k hk (by rw [h.abs k hk];exact hr)
 have h2:=h1.2.2 q (by omega)
 have h3:=h.inv.ack_le (s.pr k).term q
 rw [←h1.2.1,h.abs k hk] at h3
 rw [h.abs k hk] at h2
 have h2':(c.at k).mat.getD q 0≤s.ack (c.at k).term q:=h2
 have h3':s.ack (c.at k).term q≤(c.at k).log.length:=h3
 have e2:(c.at k).mat.getD q 0=x:=by rw [List.getD_eq_getElem?_getD,List.getElem?_eq_getElem hq,e];rfl
 omega
theorem idx {n:Nat} {s:St} (h:Inv n s) {m:Msg} (hm:MsgOK n s m) (h3:m.kind=3):∀ (j:Nat) (r:Rc),m.log[j]?=some r→r.index=m.a+j+1:=by
 intro j r hr
 obtain ⟨h1,h2,_,h4,_,_⟩:=hm.recs h3
 have hl:=(h.lead_cl _ _ h1).2.2.2
 rw [h4,List.getElem?_drop,List.getElem?_take] at hr
 split at hr
 ·exact (hl _ r hr).2.2.2.2
 ·cases hr
theorem down_at (c:Cl) (k T:Nat) (h:k<c.peers.length):(c.down k T).at k=downP (c.at k) T:=at_put c k _ h
def seen (c:Cl) (k T:Nat):Cl:=if (c.at k).term<T then c.down k T else c
theorem seen_rel {n:Nat} {c:Cl} {s:St} (h:Rel n c s) (hc:Cov n c) {k:Nat} (hk:k<n) (T:Nat) {m:Msg} (hm:MsgOK n s m):∃ s',Rel n (seen c k T) s'∧Cov n (seen c k T)∧MsgOK n s' m:=by
 unfold seen
 split
 ·obtain ⟨s',h1,h2,h3,_⟩:=h.down hc hk T
  exact ⟨s',h1,h2,hm.ext h3⟩
 ·exact ⟨s,h,hc,hm⟩
theorem seen_bd {c:Cl} (h:Bd c) (k:Nat) {T:Nat} (hT:T≤1000000):Bd (seen c k T):=by
 unfold seen
 split
 ·exact h.down k hT
 ·exact h
theorem deliver_1 (c:Cl) (m:Msg) (hup:(c.at m.to).up=true) (hk:m.kind=1) (hl:m.to<(seen c m.to m.term).peers.length):c.deliver m=(((seen c m.to m.term).put m.to (grantP ((seen c m.to m.term).at m.to) m.frm (okV ((seen c m.to m.term).at m.to) m))).send ⟨2,m.to,m.frm,((seen c m.to m.term).at m.to).term,0,0,0,okV ((seen c m.to m.term).at m.to) m,[]⟩):=by
 unfold Cl.deliver
 rw [if_neg (by rw [hup];decide),if_pos hk]
 show (if okV ((seen c m.to m.term).at m.to) m=true then _ else seen c m.to m.term).send _=_
 congr 1
 unfold grantP
 split
 ·rfl
 ·exact (put_at _ _ hl).symm
theorem deliver_2 (c:Cl) (m:Msg) (hup:(c.at m.to).up=true) (hk:m.kind=2):c.deliver m=(if m.term=((seen c m.to m.term).at m.to).term∧((seen c m.to m.term).at m.to).role=1∧m.ok=true then ((seen c m.to m.term).put m.to { (seen c m.to m.term).at m.to with votes:=((seen c m.to m.term).at m.to).votes.set m.frm true }).elected m.to else seen c m.to m.term):=by
 unfold Cl.deliver
 rw [if_neg (by rw [hup];decide),if_neg (by omega),if_pos hk]
 rfl
theorem deliver_3 (c:Cl) (m:Msg) (hup:(c.at m.to).up=true) (hk:m.kind=3):c.deliver m=(seen c m.to m.term).appended m:=by
 unfold Cl.deliver
 rw [if_neg (by rw [hup];decide),if_neg (by omega),if_neg (by omega),if_pos hk]
 rfl
theorem deliver_4 (c:Cl) (m:Msg) (hup:(c.at m.to).up=true) (hk:m.kind=4):c.deliver m=(if m.term≠((seen c m.to m.term).at m.to).term∨((seen c m.to m.term).at m.to).role≠2 then seen c m.to m.term
  else if m.ok then ((seen c m.to m.term).put m.to { (seen c m.to m.term).at m.to with mat:=((seen c m.to m.term).at m.to).mat.set m.frm (max (((seen c m.to m.term).at m.to).mat.getD m.frm 0) m.a),next:=((seen c m.to m.term).at m.to).next.set m.frm (max (((seen c m.to m.term).at m.to).next.getD m.frm 0) (m.a+1)) }).commits m.to
  else if m.a+1<((seen c m.to m.term).at m.to).next.getD m.frm 0 then ((seen c m.to m.term).put m.to { (seen c m.to m.term).at m.to with next:=((seen c m.to m.term).at m.to).next.set m.frm (max (((seen c m.to m.term).at m.to).mat.getD m.frm 0+1) (m.a+1)) }).records m.to m.frm
  else seen c m.to m.term):=by
 unfold Cl.deliver
 rw [if_neg (by rw [hup];decide),if_neg (by omega),if_neg (by omega),if_neg (by omega),if_pos hk]
 rfl
theorem commit_in {n:Nat} {c:Cl} {s:St} (h:Rel n c s) (hc:Cov n c) {m:Msg} (hm:MsgOK n s m) (h3:m.kind=3) (ht:¬ m.term<(c.at m.to).term) (ha:m.a≤(c.at m.to).log.length) (hb:termAt (c.at m.to).log m.a=m.b) :
  c.appended m=(((c.down m.to m.term).put m.to { (c.down m.to m.term).at m.to with log:=merge (c.at m.to).log m.a m.log,commit:=max (c.at m.to).commit (min m.c (m.a+m.log.length)) }).note m.to).send ⟨4,m.to,m.frm,((c.down m.to m.term).at m.to).term,m.a+m.log.length,0,0,true,[]⟩ ∧
  max (c.at m.to).commit (min m.c (m.a+m.log.length))≤(merge (c.at m.to).log m.a m.log).length:=by
 have hl:m.to<c.peers.length:=by rw [h.len];exact hm.to
 have e1:((c.down m.to m.term).at m.to).log=(c.at m.to).log:=by rw [down_at c _ _ hl];rfl
 have e2:((c.down m.to m.term).at m.to).commit=(c.at m.to).commit:=by rw [down_at c _ _ hl];rfl
 have e:c.appended m=(((c.down m.to m.term).put m.to { (c.down m.to m.term).at m.to with log:=merge (c.at m.to).log m.a m.log,commit:=max (c.at m.to).commit (min m.c (m.a+m.log.length)) }).note m.to).send ⟨4,m.to,m.frm,((c.down m.to m.term).at m.to).term,m.a+m.log.length,0,0,true,[]⟩:=by
  unfold Cl.appended
  dsimp only
  rw [if_neg ht,e1,e2,if_neg (fun g=>g.elim (fun g=>absurd ha (by omega)) (fun g=>g hb))]
 refine ⟨e,?_⟩
 obtain ⟨s',h1,_⟩:=h.appended hc hm h3
 have h2:=(h1.inv.comm m.to hm.to).1
 rw [h1.abs m.to hm.to,e,send_at,(note_at _ _ _).1,at_put _ _ _ (by rw [down_put];show m.to<(c.peers.set _ _).length;rw [List.length_set];exact hl)] at h2
 exact h2
theorem appended_old (c:Cl) (m:Msg) (ht:m.term<(c.at m.to).term):c.appended m=c.send ⟨4,m.to,m.frm,(c.at m.to).term,0,0,0,false,[]⟩:=by
 unfold Cl.appended
 dsimp only
 rw [if_pos ht]
theorem appended_no (c:Cl) (m:Msg) (hl:m.to<c.peers.length) (ht:¬ m.term<(c.at m.to).term) (hno:(c.at m.to).log.length<m.a∨termAt (c.at m.to).log m.a≠m.b):c.appended m=(c.down m.to m.term).send ⟨4,m.to,m.frm,((c.down m.to m.term).at m.to).term,min (m.a-1) (c.at m.to).log.length,0,0,false,[]⟩:=by
 have e1:((c.down m.to m.term).at m.to).log=(c.at m.to).log:=by rw [down_at c _ _ hl];rfl
 unfold Cl.appended
 dsimp only
 rw [if_neg ht,e1,if_pos hno]
theorem arrive_any (w:World) (M:Fz) (O:Lb) (d:Nat) (nb:List Nat) (c:Cl) (h:G w M O d nb c) (n:Nat) (h1:1≤n) (h7:n≤7) (s:St) (hR:Rel n c s) (hC:Cov n c) (hB:Bd c) (m:Msg) (hm:MsgOK n s m) (hmb:MB m) (o:Option Addr) (ln lc:Nat) (hlv:RecsM M (.slice o ln lc) m.log) :
  Calls Tryz.prog 63 #[.pointer (some ⟨d,0,none⟩),.agg #[.int .i64 m.kind,.int .i64 m.frm,.int .i64 m.to,.int .i64 m.term,.int .i64 m.a,.int .i64 m.b,.int .i64 m.c,.bool m.ok,.slice o ln lc]] w fun r w'=>r=.returned (.tuple #[])∧Did M O w d nb (c.deliver m) w':=by
 have hto:m.to<c.peers.length:=by rw [hR.len];exact hm.to
 obtain ⟨b,hb⟩:∃ b,nb[m.to]?=some b:=⟨_,List.getElem?_eq_getElem (by rw [h.len];exact hto)⟩
 cases hup:(c.at m.to).up with
 | false =>
  have e:c.deliver m=c:=by unfold Cl.deliver;rw [if_pos hup]
  rw [e]
  exact arrive_down w M O d nb c h b m hb o ln lc hup
 | true =>
  obtain ⟨s1,hR1,hC1,hm1⟩:=seen_rel hR hC hm.to m.term hm
  have hB1:=seen_bd hB m.to hmb.term
  have hF:=fine hR1 hB1 hm.to
  have hfr:m.frm<(seen c m.to m.term).peers.length:=by rw [hR1.len];exact hm.frm
  have hto1:m.to<(seen c m.to m.term).peers.length:=by rw [hR1.len];exact hm.to
  have ha:=hmb.a
  have hf9:m.frm≤1000:=by have:=hm.frm;omega
  have p1:1≤(seen c m.to m.term).peers.length:=by rw [hR1.len];exact h1
  have p7:(seen c m.to m.term).peers.length≤7:=by rw [hR1.len];exact h7
  have hch:(seen c m.to m.term).chosen.length≤1000:=by have:=hB1.chosen;omega
  have hF':Fine (seen c m.to m.term).peers.length ((seen c m.to m.term).at m.to):=by rw [hR1.len];exact hF
  rcases (show m.kind=1∨m.kind=2∨m.kind=3∨m.kind=4 by have:=hmb.kind;omega) with hk | hk | hk | hk
  ·have e:((m.kind:Nat):Int)=1:=by omega
   rw [deliver_1 c m hup hk hto1,e]
   refine arrive_1 w M O d nb c _ h m.to b m hb o ln lc hup (hide fun wx M1 O1 hle hG => ?_)
   have:=voteAsked_any wx M1 O1 d nb _ hG m.to b hb m o ln lc hf9
   rw [e] at this
   exact this
  ·have e:((m.kind:Nat):Int)=2:=by omega
   rw [deliver_2 c m hup hk,e]
   refine arrive_2 w M O d nb c _ h m.to b m hb o ln lc hup (hide fun wx M1 O1 hle hG => ?_)
   have:=voteCame_any wx M1 O1 d nb (seen c m.to m.term) hG m.to b hb m o ln lc p1 p7 hfr hF' hch
   rw [e] at this
   exact this
  ·have e:((m.kind:Nat):Int)=3:=by omega
   rw [deliver_3 c m hup hk,e]
   refine arrive_3 w M O d nb c _ h m.to b m hb o ln lc hup (hide fun wx M1 O1 hle hG => ?_)
   by_cases ht:m.term<((seen c m.to m.term).at m.to).term
   ·have:=came_old wx M1 O1 d nb (seen c m.to m.term) hG m.to b hb m o ln lc ht
    rw [e] at this
    rw [appended_old _ _ ht]
    exact this
   ·by_cases hno:((seen c m.to m.term).at m.to).log.length<m.a∨termAt ((seen c m.to m.term).at m.to).log m.a≠m.b
    ·have hab:1≤m.a:=by
      rcases Nat.eq_zero_or_pos m.a with z | z
      ·have hz:=(hm1.recs hk).2.2.1
       rcases hno with g | g
       ·omega
       ·exact absurd (by rw [hz,z];rfl) g
      ·exact z
     have:=came_no wx M1 O1 d nb (seen c m.to m.term) hG m.to b hb m o ln lc ht hno hab (by omega) (by have:=hF.log;omega)
     rw [e] at this
     rw [appended_no _ _ hto1 ht hno]
     exact this
    ·have g1:m.a≤((seen c m.to m.term).at m.to).log.length:=by
      rcases Nat.lt_or_ge ((seen c m.to m.term).at m.to).log.length m.a with g | g
      ·exact absurd (.inl g) hno
      ·exact g
     have g2:termAt ((seen c m.to m.term).at m.to).log m.a=m.b:=Classical.byContradiction fun g=>hno (.inr g)
     obtain ⟨q1,q2⟩:=commit_in hR1 hC1 hm1 hk ht g1 g2
     have:=came_ok wx M1 O1 d nb (seen c m.to m.term) hG m.to b hb m o ln lc (hlv.le hle) ht g1 g2 (by have:=hF.log;omega) (by omega) (idx hR1.inv hm1 hk) (by have:=hmb.c;omega) hF.commit hch q2
     rw [e] at this
     rw [q1]
     exact this
  ·have e:((m.kind:Nat):Int)=4:=by omega
   rw [deliver_4 c m hup hk,e]
   refine arrive_4 w M O d nb c _ h m.to b m hb o ln lc hup (hide fun wx M1 O1 hle hG => ?_)
   by_cases hno:m.term≠((seen c m.to m.term).at m.to).term∨((seen c m.to m.term).at m.to).role≠2
   ·have:=answ_no wx M1 O1 d nb (seen c m.to m.term) hG m.to b hb m o ln lc hno
    rw [e] at this
    rw [if_pos hno]
    exact this
   ·rw [if_neg hno]
    have ht:m.term=((seen c m.to m.term).at m.to).term:=Classical.byContradiction fun g=>hno (.inl g)
    have hr:((seen c m.to m.term).at m.to).role=2:=Classical.byContradiction fun g=>hno (.inr g)
    cases hok:m.ok with
    | true =>
     have:=answ_ok wx M1 O1 d nb (seen c m.to m.term) hG m.to b hb m o ln lc p1 p7 hfr hF' hch ht hr hok (by omega) (fun x hx=>by have:=(hB1.peers m.to).mat x hx;omega)
     rw [e,hok] at this
     rw [if_pos rfl]
     exact this
    | false =>
     have:=answ_lo wx M1 O1 d nb (seen c m.to m.term) hG m.to b hb m o ln lc p1 p7 hfr hF' ht hr hok (by omega) (mat_le hR1 hm.to hr)
     rw [e,hok] at this
     rw [if_neg (by decide)]
     exact this
end Go.Proofs.YtcfdmbkiinjmaaaGreat.deliv
namespace Go.Proofs.YtcfdmbkiinjmaaaGreat.sdl0
open Raft mem srun ssend sdown ssmall scopy srecs sapp ssame schos schosen scom sgrow sin sel stk slog sap0
variable {F:Nat→Option Obj}
structure St1 (F:Nat→Option Obj) (w:World) (M:Fz) (base d P pc bt:Nat) (mc:Array Value) (c:Cl) (us:List PV) (ns:List MV) (nv:Value) (cs:List RV) (cv:Value) (M':Fz) (wr:World):Prop where
 run:Run (TS F) wr M' base d P pc c us ns nv cs cv
 le:Le M M'
 bel:Below base w wr
 dom:∀ b,M' b≠none→M b≠none∨base≤b
 b0:wr.heap[w.heap.size]?=some (.cells mc bt (0,0))
 no:∀ b,Mine d P us cv b→b≠w.heap.size
 fz:M' w.heap.size=none
theorem isRow_set {us:List PV} {k:Nat} {x x':PV} (hk:us[k]?=some x) (hr:rows x'=rows x) {b:Nat} (h:IsRow (us.set k x') b):IsRow us b:=by
 obtain ⟨k1,y,i,u,e1,e2,e3⟩:=h
 by_cases e:k1=k
 ·subst e
  rw [List.getElem?_set_self (List.getElem?_eq_some_iff.1 hk).1] at e1
  obtain rfl:=Option.some.inj e1
  exact ⟨k1,x,i,u,hk,hr ▸ e2,e3⟩
 ·rw [List.getElem?_set_ne (Ne.symm e)] at e1
  exact ⟨k1,y,i,u,e1,e2,e3⟩
theorem mine_set {d P:Nat} {us:List PV} {cv:Value} {k:Nat} {x x':PV} (hk:us[k]?=some x) (hr:rows x'=rows x) {b:Nat} (h:Mine d P (us.set k x') cv b):Mine d P us cv b:=by
 rcases h with h | h | h | h
 ·exact .inl h
 ·exact .inr (.inl h)
 ·exact .inr (.inr (.inl (isRow_set hk hr h)))
 ·exact .inr (.inr (.inr h))
theorem mine_low {d P:Nat} {us:List PV} {cv:Value} {k:Nat} {x:PV} {t:Nat} (hk:us[k]?=some x) {b:Nat} (h:Mine d P (us.set k (downV x t)) cv b):Mine d P us cv b:=by
 rcases h with h | h | h | h
 ·exact .inl h
 ·exact .inr (.inl h)
 ·obtain ⟨k1,y,i,u,e1,e2,e3⟩:=h
  by_cases e:k1=k
  ·subst e
   rw [List.getElem?_set_self (List.getElem?_eq_some_iff.1 hk).1] at e1
   obtain rfl:=Option.some.inj e1
   have:u=.slice none 0 0:=by
    rcases i with _ | _ | _ | i <;> simp [rows,downV,lowV] at e2 <;> exact e2.symm
   subst this
   simp [Value.ownBlock] at e3
  ·rw [List.getElem?_set_ne (Ne.symm e)] at e1
   exact .inr (.inr (.inl ⟨k1,y,i,u,e1,e2,e3⟩))
 ·exact .inr (.inr (.inr h))
section
variable {w:World} {M:Fz} {base d P pc bt:Nat} {mc:Array Value} {c:Cl} {us:List PV} {ns:List MV} {nv:Value} {cs:List RV} {cv:Value} {M':Fz} {wr:World}
theorem St1.begin (h:Run (TS F) w M base d P pc c us ns nv cs cv) {W:World} (hW:w.alloc (.cells mc bt)=W):St1 F w M base d P pc bt mc c us ns nv cs cv M W:=by
 have bW:Below w.heap.size w W:=by rw [←hW];exact more (Below.refl _ _) _
 exact ⟨h.below bW,Le.refl M,bW.mono (scom.Run.base_le h),fun b hb=>.inl hb,by rw [←hW];exact heap_alloc_new w _,fun b hb=>by have:=h.mine hb;omega,h.inn.fresh (Nat.le_refl _)⟩
theorem St1.lt (h:St1 F w M base d P pc bt mc c us ns nv cs cv M' wr):w.heap.size<wr.heap.size:=(Array.getElem?_eq_some_iff.1 h.b0).1
theorem St1.low (h:St1 F w M base d P pc bt mc c us ns nv cs cv M' wr):base≤wr.heap.size:=scom.Run.base_le h.run
theorem St1.below (h:St1 F w M base d P pc bt mc c us ns nv cs cv M' wr) {wx:World} (hb:Below wr.heap.size wr wx):St1 F w M base d P pc bt mc c us ns nv cs cv M' wx :=
 ⟨h.run.below hb,h.le,h.bel.trans (hb.mono h.low),h.dom,kept hb h.b0 (Nat.le_refl _),h.no,h.fz⟩
theorem St1.sd (h:St1 F w M base d P pc bt mc c us ns nv cs cv M' wr):SD F w M base d P pc c wr:=⟨M',us,ns,nv,cs,cv,h.le,h.bel,h.run,h.dom⟩
theorem St1.step (h:St1 F w M base d P pc bt mc c us ns nv cs cv M' wr) {c':Cl} {w':World} (hs:SD F wr M' base d P pc c' w'):SD F w M base d P pc c' w':=by
 obtain ⟨M2,us2,ns2,nv2,cs2,cv2,b1,b2,b3,b4⟩:=hs
 refine ⟨M2,us2,ns2,nv2,cs2,cv2,h.le.trans b1,h.bel.trans b2,b3,fun b hb => ?_⟩
 rcases b4 b hb with g | g
 ·exact h.dom b g
 ·exact .inr g
theorem St1.set (h:St1 F w M base d P pc bt mc c us ns nv cs cv M' wr) {g i:Nat} {v:Value} {c':Cl} {us':List PV} (hg:base≤g) (hn:g≠w.heap.size) (hm:∀ b,Mine d P us' cv b→Mine d P us cv b) (hr:Run (TS F) (wr.setCell ⟨g,i,none⟩ v) M' base d P pc c' us' ns nv cs cv):St1 F w M base d P pc bt mc c' us' ns nv cs cv M' (wr.setCell ⟨g,i,none⟩ v) :=
 ⟨hr,h.le,h.bel.setCell hg v,h.dom,(Below.heap_setCell wr ⟨g,i,none⟩ v _ (fun e=>hn e.symm)).trans h.b0,fun b hb=>h.no b (hm b hb),h.fz⟩
theorem St1.peer (h:St1 F w M base d P pc bt mc c us ns nv cs cv M' wr) {k j:Nat} {x:PV} {v:Value} (p':Peer) (hk:us[k]?=some x) (hj:j<9) (hc:peerCells { x with p:=p' }=(peerCells x).set j v)
  (h1:p'.log=x.p.log) (h2:p'.votes=x.p.votes) (h3:p'.next=x.p.next) (h4:p'.mat=x.p.mat) :
  St1 F w M base d P pc bt mc { c with peers:=c.peers.set k p' } (us.set k { x with p:=p' }) ns nv cs cv M' (wr.setCell ⟨P,k*9+j,none⟩ v) :=
 h.set h.run.low.2 (h.no P (.inr (.inl rfl))) (fun b hb=>mine_set hk (by rfl) hb) (Run.setScalar h.run p' hk hj hc h1 h2 h3 h4)
theorem St1.votes (h:St1 F w M base d P pc bt mc c us ns nv cs cv M' wr) {k:Nat} {x:PV} (hk:us[k]?=some x) {g n cap:Nat} (hv:x.vv=.slice (some ⟨g,0,none⟩) n cap) (i:Nat) (a:Bool) :
  St1 F w M base d P pc bt mc { c with peers:=c.peers.set k { x.p with votes:=x.p.votes.set i a } } (us.set k { x with p:={ x.p with votes:=x.p.votes.set i a } }) ns nv cs cv M' (wr.setCell ⟨g,i,none⟩ (.bool a)):=by
 have hr:IsRow us g:=⟨k,x,0,x.vv,hk,rfl,by rw [hv];rfl⟩
 exact h.set (h.run.blocks_lt hr).1 (h.no g (.inr (.inr (.inl hr)))) (fun b hb=>mine_set hk (by rfl) hb) (Run.setVotes h.run hk hv i a)
theorem St1.next (h:St1 F w M base d P pc bt mc c us ns nv cs cv M' wr) {k:Nat} {x:PV} (hk:us[k]?=some x) {g n cap:Nat} (hv:x.nv=.slice (some ⟨g,0,none⟩) n cap) (i a:Nat) :
  St1 F w M base d P pc bt mc { c with peers:=c.peers.set k { x.p with next:=x.p.next.set i a } } (us.set k { x with p:={ x.p with next:=x.p.next.set i a } }) ns nv cs cv M' (wr.setCell ⟨g,i,none⟩ (.int .i64 (a:Int))):=by
 have hr:IsRow us g:=⟨k,x,1,x.nv,hk,rfl,by rw [hv];rfl⟩
 exact h.set (h.run.blocks_lt hr).1 (h.no g (.inr (.inr (.inl hr)))) (fun b hb=>mine_set hk (by rfl) hb) (Run.setNext h.run hk hv i a)
theorem St1.mat (h:St1 F w M base d P pc bt mc c us ns nv cs cv M' wr) {k:Nat} {x:PV} (hk:us[k]?=some x) {g n cap:Nat} (hv:x.mv=.slice (some ⟨g,0,none⟩) n cap) (i a:Nat) :
  St1 F w M base d P pc bt mc { c with peers:=c.peers.set k { x.p with mat:=x.p.mat.set i a } } (us.set k { x with p:={ x.p with mat:=x.p.mat.set i a } }) ns nv cs cv M' (wr.setCell ⟨g,i,none⟩ (.int .i64 (a:Int))):=by
 have hr:IsRow us g:=⟨k,x,2,x.mv,hk,rfl,by rw [hv];rfl⟩
 exact h.set (h.run.blocks_lt hr).1 (h.no g (.inr (.inr (.inl hr)))) (fun b hb=>mine_set hk (by rfl) hb) (Run.setMat h.run hk hv i a)
theorem St1.down (h:St1 F w M base d P pc bt mc c us ns nv cs cv M' wr) (k t:Nat) (x:PV) (hk:us[k]?=some x) :
  Calls Tryz.prog 55 #[.pointer (some ⟨d,0,none⟩),.int .i64 k,.int .i64 t] wr fun r w'=>r=.returned (.tuple #[])∧St1 F w M base d P pc bt mc (c.down k t) (us.set k (downV x t)) ns nv cs cv M' w':=by
 refine (down_any wr M' base d P pc c us ns nv cs cv h.run k t x hk).mono ?_
 rintro r w' ⟨rfl,h1,g⟩
 have hPn:=h.no P (.inr (.inl rfl))
 have hl:=h.lt
 have hP:base≤P:=h.run.low.2
 refine ⟨rfl,h1,h.le,h.bel.trans ⟨g.os,g.tape,g.output,g.size,fun b hb=>g.block b (by have:=h.low;omega) (fun e=>by simp only [Option.some.injEq] at e;omega)⟩,h.dom,?_,fun b hb=>h.no b (mine_low hk hb),h.fz⟩
 exact (g.block _ (by omega) (fun e=>by simp only [Option.some.injEq] at e;omega)).trans h.b0
theorem St1.send (h:St1 F w M base d P pc bt mc c us ns nv cs cv M' wr) (m:Msg) (lo:Option Addr) (ln lc:Nat) (hlv:RecsM M' (.slice lo ln lc) m.log) :
  Calls Tryz.prog 38 #[.pointer (some ⟨d,0,none⟩),.agg #[.int .i64 m.kind,.int .i64 m.frm,.int .i64 m.to,.int .i64 m.term,.int .i64 m.a,.int .i64 m.b,.int .i64 m.c,.bool m.ok,.slice lo ln lc]] wr fun r w'=>r=.returned (.tuple #[])∧SD F w M base d P pc (c.send m) w':=by
 refine (send_any wr M' base d P pc c us ns nv cs cv h.run m lo ln lc hlv).mono ?_
 rintro r w' ⟨rfl,hs⟩
 exact ⟨rfl,SD.sent h.le h.bel h.run h.dom hs⟩
end
def Seen (F:Nat→Option Obj) (w:World) (M:Fz) (base d P pc:Nat) (mc:Array Value) (c:Cl) (us:List PV) (ns:List MV) (nv:Value) (cs:List RV) (cv:Value) (k T:Nat) (us1:List PV) (x1:PV) (wr:World):Prop :=
 St1 F w M base d P pc 69 mc (deliv.seen c k T) us1 ns nv cs cv M wr∧us1[k]?=some x1∧us1.length=us.length∧(deliv.seen c k T).at k=x1.p
theorem seen_not {w:World} {M:Fz} {base d P pc:Nat} {mc:Array Value} {c:Cl} {us:List PV} {ns:List MV} {nv:Value} {cs:List RV} {cv:Value} {wr:World} {k T:Nat} {x:PV} (h:St1 F w M base d P pc 69 mc c us ns nv cs cv M wr) (hk:us[k]?=some x) (ht:¬ x.p.term<T):Seen F w M base d P pc mc c us ns nv cs cv k T us x wr:=by
 have hat:=(sdown.Run.at h.run hk).1
 have e:deliv.seen c k T=c:=by unfold deliv.seen;rw [hat,if_neg ht]
 unfold Seen
 rw [e]
 exact ⟨h,hk,rfl,hat⟩
theorem seen_down {w:World} {M:Fz} {base d P pc:Nat} {mc:Array Value} {c:Cl} {us:List PV} {ns:List MV} {nv:Value} {cs:List RV} {cv:Value} {wr:World} {k T:Nat} {x:PV} (h:St1 F w M base d P pc 69 mc (c.down k T) (us.set k (downV x T)) ns nv cs cv M wr) (hk:us[k]?=some x) (hat:c.at k=x.p) (ht:x.p.term<T):Seen F w M base d P pc mc c us ns nv cs cv k T (us.set k (downV x T)) (downV x T) wr:=by
 have e:deliv.seen c k T=c.down k T:=by unfold deliv.seen;rw [hat,if_pos ht]
 unfold Seen
 rw [e]
 exact ⟨h,got_set hk,by rw [List.length_set],(sdown.Run.at h.run (got_set hk)).1⟩
end Go.Proofs.YtcfdmbkiinjmaaaGreat.sdl0
namespace Go.Proofs.YtcfdmbkiinjmaaaGreat.sdl3
open Raft mem srun ssend sdown ssmall scopy srecs sapp ssame schos schosen scom sgrow sin sel stk slog sap0 sdl0
variable {F:Nat→Option Obj}
theorem kept_cell {w w':World} {a:Addr} {v:Value} (h:Below w.heap.size w w') (hc:w.cell? a=some v):w'.cell? a=some v:=at_below h hc
theorem deliver_none (c:Cl) (m:Msg) (h:(c.at m.to).up=false):c.deliver m=c:=by unfold Cl.deliver;rw [if_pos h]
set_option maxRecDepth 20000 in
set_option maxHeartbeats 2000000 in
theorem deliver_3 (w:World) (M:Fz) (base d P pc:Nat) (c:Cl) (us:List PV) (ns:List MV) (nv:Value) (cs:List RV) (cv:Value) (h:Run (TS F) w M base d P pc c us ns nv cs cv) (m:Msg) (lo:Option Addr) (ln lc:Nat) (hlv:RecsM M (.slice lo ln lc) m.log) (x:PV) (hk:us[m.to]?=some x) (hup:x.p.up=true) (hkd:m.kind=3)
  (happ:∀ us1 x1 wx,Run (TS F) wx M base d P pc (deliv.seen c m.to m.term) us1 ns nv cs cv→us1[m.to]?=some x1→((deliv.seen c m.to m.term).at m.to)=x1.p→Calls Tryz.prog 58 #[.pointer (some ⟨d,0,none⟩),.agg #[.int .i64 m.kind,.int .i64 m.frm,.int .i64 m.to,.int .i64 m.term,.int .i64 m.a,.int .i64 m.b,.int .i64 m.c,.bool m.ok,.slice lo ln lc]] wx fun r w'=>r=.returned (.tuple #[])∧SD F wx M base d P pc ((deliv.seen c m.to m.term).appended m) w') :
  Calls Tryz.prog 36 #[.pointer (some ⟨d,0,none⟩),.agg #[.int .i64 m.kind,.int .i64 m.frm,.int .i64 m.to,.int .i64 m.term,.int .i64 m.a,.int .i64 m.b,.int .i64 m.c,.bool m.ok,.slice lo ln lc]] w fun r w'=>r=.returned (.tuple #[])∧SD F w M base d P pc (c.deliver m) w':=by
 have hlt:m.to<us.length:=(List.getElem?_eq_some_iff.1 hk).1
 have hat:=(sdown.Run.at h hk).1
 have hcap:=h.cap
 unfold maxLen at hcap
 obtain ⟨W,hW⟩:∃ W,w.alloc (.cells #[.int .i64 m.kind,.int .i64 m.frm,.int .i64 m.to,.int .i64 m.term,.int .i64 m.a,.int .i64 m.b,.int .i64 m.c,.bool m.ok,.slice lo ln lc] 69)=W:=⟨_,rfl⟩
 have h0:=St1.begin h hW
 have c0:W.cell? ⟨d,0,none⟩=some (.slice (some ⟨P,0,none⟩) us.length pc):=cell_of h0.run.blk rfl
 have m2:W.cell? ⟨w.heap.size,2,none⟩=some (.int .i64 m.to):=cell_of h0.b0 rfl
 have m3:W.cell? ⟨w.heap.size,3,none⟩=some (.int .i64 m.term):=cell_of h0.b0 rfl
 obtain ⟨p0,f0⟩:=h0.run.peerCell hk (j:=0) (v:=.bool x.p.up) rfl
 rw [hup,Nat.add_zero] at p0
 have p1:=(h0.run.peerCell hk (j:=1) (v:=.int .i64 x.p.term) rfl).1
 have H0:=hide h0
 have HNot:Hid (¬ x.p.term<m.term→∀ wx,St1 F w M base d P pc 69 #[.int .i64 m.kind,.int .i64 m.frm,.int .i64 m.to,.int .i64 m.term,.int .i64 m.a,.int .i64 m.b,.int .i64 m.c,.bool m.ok,.slice lo ln lc] c us ns nv cs cv M wx→∃ us1 x1,Hid (Seen F w M base d P pc #[.int .i64 m.kind,.int .i64 m.frm,.int .i64 m.to,.int .i64 m.term,.int .i64 m.a,.int .i64 m.b,.int .i64 m.c,.bool m.ok,.slice lo ln lc] c us ns nv cs cv m.to m.term us1 x1 wx)):=fun ht wx hx=>⟨us,x,seen_not hx hk ht⟩
 have HDn:Hid (x.p.term<m.term→∀ wx,St1 F w M base d P pc 69 #[.int .i64 m.kind,.int .i64 m.frm,.int .i64 m.to,.int .i64 m.term,.int .i64 m.a,.int .i64 m.b,.int .i64 m.c,.bool m.ok,.slice lo ln lc] c us ns nv cs cv M wx→Calls Tryz.prog 55 #[.pointer (some ⟨d,0,none⟩),.int .i64 m.to,.int .i64 m.term] wx fun r w'=>r=.returned (.tuple #[])∧∃ us1 x1,Hid (Seen F w M base d P pc #[.int .i64 m.kind,.int .i64 m.frm,.int .i64 m.to,.int .i64 m.term,.int .i64 m.a,.int .i64 m.b,.int .i64 m.c,.bool m.ok,.slice lo ln lc] c us ns nv cs cv m.to m.term us1 x1 w')):=fun ht wx hx=>(hx.down m.to m.term x hk).mono (by
  rintro r w' ⟨rfl,hh⟩
  exact ⟨rfl,_,_,seen_down hh hk hat ht⟩)
 have hkI:(m.to:Int)<us.length:=by omega
 have HAp:Hid (∀ us1 x1 wx,Seen F w M base d P pc #[.int .i64 m.kind,.int .i64 m.frm,.int .i64 m.to,.int .i64 m.term,.int .i64 m.a,.int .i64 m.b,.int .i64 m.c,.bool m.ok,.slice lo ln lc] c us ns nv cs cv m.to m.term us1 x1 wx→Calls Tryz.prog 58 #[.pointer (some ⟨d,0,none⟩),.agg #[.int .i64 m.kind,.int .i64 m.frm,.int .i64 m.to,.int .i64 m.term,.int .i64 m.a,.int .i64 m.b,.int .i64 m.c,.bool m.ok,.slice lo ln lc]] wx fun r w'=>r=.returned (.tuple #[])∧SD F w M base d P pc (c.deliver m) w'):=fun us1 x1 wx hx=>by
  obtain ⟨hs,hk1,hl1,ha1⟩:=hx
  rw [deliv.deliver_3 c m (by rw [hat];exact hup) hkd]
  refine (happ us1 x1 wx hs.run hk1 ha1).mono ?_
  rintro r w' ⟨rfl,hsd⟩
  exact ⟨rfl,hs.step hsd⟩
 have k1b:((m.kind:Int) == 1)=false:=by rw [hkd];decide
 have k2b:((m.kind:Int) == 2)=false:=by rw [hkd];decide
 have k3b:((m.kind:Int) == 3)=true:=by rw [hkd];decide
 obtain ⟨U,eU⟩:∃ U,us.length=U:=⟨_,rfl⟩
 rw [eU] at c0 hlt hcap hkI
 clear h hat hk f0 h0 eU hkd
 go_enter Tryz.func36,Tryz.ntmps36
 go_wp2
 (try rw [hW])
 clear hW
 go_quiet (fail)
 obtain ⟨W1,hW1,bW1,sW1⟩:=fold_dn W nq
 (try rw [hW1])
 have H1:=hide (H0.out.below bW1)
 have p0:=(kept_cell bW1 p0)
 have p1:=(kept_cell bW1 p1)
 have m3:=(kept_cell bW1 m3)
 have m2:=(kept_cell bW1 m2)
 clear hW1 bW1 H0 c0
 go_wp2
 go_quiet (fail)
 obtain ⟨W2,hW2,bW2,sW2⟩:=fold_dn W1 nq
 (try rw [hW2])
 have H2:=hide (H1.out.below bW2)
 have m3:=(kept_cell bW2 m3)
 have m2:=(kept_cell bW2 m2)
 clear hW2 bW2 H1 p0 p1
 go_upto_if 27 with fail
 go_cut [] from 27 to 33 (fun wx=>∃ us1 x1,Hid (Seen F w M base d P pc #[.int .i64 m.kind,.int .i64 m.frm,.int .i64 m.to,.int .i64 m.term,.int .i64 m.a,.int .i64 m.b,.int .i64 m.c,.bool m.ok,.slice lo ln lc] c us ns nv cs cv m.to m.term us1 x1 wx))
 case first =>
  by_cases ht:x.p.term<m.term
  ·have htI:(x.p.term:Int)<m.term:=by omega
   have HD:=hide (HDn.out ht _ H2.out)
   clear HDn HNot
   go_wp2_with (go_at_call 55;refine HD.out.mono ?_;rintro rr w3 ⟨rfl,us1,x1,H3⟩)
   go_meet
   exact ⟨us1,x1,H3⟩
  ·have htI:¬ (x.p.term:Int)<m.term:=by omega
   have HD:=HNot.out ht _ H2.out
   clear HDn HNot
   go_wp2_with fail
   go_meet
   exact HD
 case rest =>
  obtain ⟨us1,x1,HSn⟩:=hcut
  clear HDn HNot H2 m2 m3
  have H3:=hide HSn.out.1
  have hk1:=HSn.out.2.1
  have m0:wc.cell? ⟨w.heap.size,0,none⟩=some (.int .i64 m.kind):=cell_of H3.out.b0 rfl
  have m1:wc.cell? ⟨w.heap.size,1,none⟩=some (.int .i64 m.frm):=cell_of H3.out.b0 rfl
  have m2:wc.cell? ⟨w.heap.size,2,none⟩=some (.int .i64 m.to):=cell_of H3.out.b0 rfl
  have m3:wc.cell? ⟨w.heap.size,3,none⟩=some (.int .i64 m.term):=cell_of H3.out.b0 rfl
  have m4:wc.cell? ⟨w.heap.size,4,none⟩=some (.int .i64 m.a):=cell_of H3.out.b0 rfl
  have m5:wc.cell? ⟨w.heap.size,5,none⟩=some (.int .i64 m.b):=cell_of H3.out.b0 rfl
  have m6:wc.cell? ⟨w.heap.size,6,none⟩=some (.int .i64 m.c):=cell_of H3.out.b0 rfl
  have m7:wc.cell? ⟨w.heap.size,7,none⟩=some (.bool m.ok):=cell_of H3.out.b0 rfl
  have m8:wc.cell? ⟨w.heap.size,8,none⟩=some (.slice lo ln lc):=cell_of H3.out.b0 rfl
  have HZ:=hide (HAp.out us1 x1 wc HSn.out)
  clear HAp HSn H3 hk1
  go_wp2_with (go_at_call 58;refine HZ.out.mono ?_;rintro rr w8 ⟨rfl,hsd⟩)
  go_end0
  exact ⟨rfl,hsd⟩
set_option maxRecDepth 20000 in
set_option maxHeartbeats 2000000 in
theorem deliver_off (w:World) (M:Fz) (base d P pc:Nat) (c:Cl) (us:List PV) (ns:List MV) (nv:Value) (cs:List RV) (cv:Value) (h:Run (TS F) w M base d P pc c us ns nv cs cv) (m:Msg) (lo:Option Addr) (ln lc:Nat) (hlv:RecsM M (.slice lo ln lc) m.log) (x:PV) (hk:us[m.to]?=some x) (hup:x.p.up=false) :
  Calls Tryz.prog 36 #[.pointer (some ⟨d,0,none⟩),.agg #[.int .i64 m.kind,.int .i64 m.frm,.int .i64 m.to,.int .i64 m.term,.int .i64 m.a,.int .i64 m.b,.int .i64 m.c,.bool m.ok,.slice lo ln lc]] w fun r w'=>r=.returned (.tuple #[])∧SD F w M base d P pc (c.deliver m) w':=by
 have hlt:m.to<us.length:=(List.getElem?_eq_some_iff.1 hk).1
 have hat:=(sdown.Run.at h hk).1
 have hcap:=h.cap
 unfold maxLen at hcap
 obtain ⟨W,hW⟩:∃ W,w.alloc (.cells #[.int .i64 m.kind,.int .i64 m.frm,.int .i64 m.to,.int .i64 m.term,.int .i64 m.a,.int .i64 m.b,.int .i64 m.c,.bool m.ok,.slice lo ln lc] 69)=W:=⟨_,rfl⟩
 have h0:=St1.begin h hW
 have c0:W.cell? ⟨d,0,none⟩=some (.slice (some ⟨P,0,none⟩) us.length pc):=cell_of h0.run.blk rfl
 have m2:W.cell? ⟨w.heap.size,2,none⟩=some (.int .i64 m.to):=cell_of h0.b0 rfl
 obtain ⟨p0,f0⟩:=h0.run.peerCell hk (j:=0) (v:=.bool x.p.up) rfl
 rw [hup,Nat.add_zero] at p0
 have HE:Hid (∀ wx,Below W.heap.size W wx→SD F w M base d P pc (c.deliver m) wx):=fun wx hx=>by
  rw [deliver_none c m (by rw [hat];exact hup)]
  exact (h0.below hx).sd
 have hkI:(m.to:Int)<us.length:=by omega
 obtain ⟨U,eU⟩:∃ U,us.length=U:=⟨_,rfl⟩
 rw [eU] at c0 hlt hcap hkI
 clear h hat hk f0 h0 eU
 go_enter Tryz.func36,Tryz.ntmps36
 go_wp2
 (try rw [hW])
 clear hW
 go_quiet (fail)
 obtain ⟨W1,hW1,bW1,sW1⟩:=fold_dn W nq
 (try rw [hW1])
 have HF:=hide (HE.out W1 bW1)
 have p0:=(kept_cell bW1 p0)
 clear hW1 bW1 c0 HE m2
 go_wp2
 refine bodyPost_ret (v:=.tuple #[]) (by simp [results,Tryz.results36]) rfl ⟨rfl,HF.out⟩
end Go.Proofs.YtcfdmbkiinjmaaaGreat.sdl3
