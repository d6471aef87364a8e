import Derived.Test.YtcfdmbkiinjmaaaGreatZ01
import Derived.Test.YtcfdmbkiinjmaaaGreatZ04
import Derived.WalkMore
import Derived.Deep.AppendLies
import Derived.Deep.Cut
import Derived.Deep.CutRange
import Derived.Deep.RegionLaw
import Derived.Test.YtcfdmbkiinjmaaaGreatZ02
set_option linter.unusedVariables false
namespace Go.Proofs.YtcfdmbkiinjmaaaGreat.Raft
structure PB (p:Peer):Prop where
 log:p.log.length≤100
 term:p.term≤1000000
 commit:p.commit≤100
 next:∀ x∈p.next,x≤101
 mat:∀ x∈p.mat,x≤100
structure MB (m:Msg):Prop where
 kind:1≤m.kind∧m.kind≤4
 term:m.term≤1000000
 a:m.a+m.log.length≤100
 c:m.c≤100
structure Bd (c:Cl):Prop where
 peers:∀ k,PB (c.at k)
 net:∀ m∈c.net,MB m
 chosen:c.chosen.length≤100
 size:c.net.length≤200
theorem k4:1≤4∧4≤4:=by decide
theorem k2:1≤2∧2≤4:=by decide
theorem PB.zero:PB Peer.zero:=⟨by simp [Peer.zero],by simp [Peer.zero],by simp [Peer.zero],by simp [Peer.zero],by simp [Peer.zero]⟩
theorem at_put_any (c:Cl) (k q:Nat) (p:Peer):(c.put k p).at q=p∨(c.put k p).at q=c.at q:=by
 by_cases h:q=k
 ·subst h
  by_cases hl:q<c.peers.length
  ·exact .inl (at_put c q p hl)
  ·right;simp [Cl.at,Cl.put,List.getD,hl]
 ·exact .inr (at_put_ne c p h)
theorem Bd.put {c:Cl} (h:Bd c) {k:Nat} {p:Peer} (hp:PB p):Bd (c.put k p):=⟨fun q=>by
 rcases at_put_any c k q p with e | e <;> rw [e]
 ·exact hp
 ·exact h.peers q,h.net,h.chosen,h.size⟩
theorem Bd.send {c:Cl} (h:Bd c) {m:Msg} (hm:MB m):Bd (c.send m):=by
 unfold Cl.send
 split
 ·next hl =>
  refine ⟨h.peers,fun x hx => ?_,h.chosen,?_⟩
  ·rcases List.mem_append.1 hx with hx | hx
   ·exact h.net x hx
   ·rw [List.mem_singleton.1 hx];exact hm
  ·simp;omega
 ·exact h
theorem Bd.note {c:Cl} (h:Bd c) (k:Nat):Bd (c.note k):=by
 refine ⟨h.peers,h.net,?_,h.size⟩
 have h1:=h.chosen
 have h2:=(h.peers k).log
 show (c.chosen++((c.at k).log.take (c.at k).commit).drop c.chosen.length).length≤100
 rw [List.length_append,List.length_drop,List.length_take]
 omega
theorem reach_le (p:Peer) (n:Nat):∀ i,reach p n i≤max p.commit i
 | 0=>by simp [reach]
 | i+1=>by
  have:=reach_le p n i
  unfold reach
  split
  ·omega
  ·split <;> omega
theorem PB.commits {p:Peer} (h:PB p) (n:Nat):PB { p with commit:=reach p n p.log.length }:=by
 refine ⟨h.log,h.term,?_,h.next,h.mat⟩
 have:=reach_le p n p.log.length
 have:=h.log
 have:=h.commit
 show reach p n p.log.length≤100
 omega
theorem Bd.commits {c:Cl} (h:Bd c) (k:Nat):Bd (c.commits k):=(h.put ((h.peers k).commits _)).note k
theorem getD_le {l:List Nat} {b:Nat} (h:∀ x∈l,x≤b) (q:Nat):l.getD q 0≤b:=by
 rw [List.getD_eq_getElem?_getD]
 cases e:l[q]? with
 | none=>simp
 | some x=>exact h x (List.mem_of_getElem? e)
theorem Bd.records {c:Cl} (h:Bd c) (k «to» : Nat):Bd (c.records k «to»):=by
 refine h.send ⟨⟨by simp,by simp⟩,(h.peers k).term,?_,(h.peers k).commit⟩
 have h1:=getD_le (h.peers k).next «to»
 have h2:=(h.peers k).log
 show ((c.at k).next.getD «to» 0-1)+((c.at k).log.drop ((c.at k).next.getD «to» 0-1)).length≤100
 rw [List.length_drop]
 omega
theorem Bd.fold {α:Type} (f:Cl→α→Cl) (hf:∀ c a,Bd c→Bd (f c a)):∀ (l:List α) (c:Cl),Bd c→Bd (l.foldl f c)
 | [],_,h=>h
 | a::l,c,h=>Bd.fold f hf l _ (hf c a h)
theorem Bd.toAll {c:Cl} (h:Bd c) (k:Nat):Bd (c.toAll k):=Bd.fold _ (fun _ _ h=>h.records _ _) _ _ h
theorem mem_set {α:Type} {l:List α} {k:Nat} {v x:α} (h:x∈l.set k v):x∈l∨x=v:=List.mem_or_eq_of_mem_set h
theorem Bd.elected {c:Cl} (h:Bd c) (k:Nat):Bd (c.elected k):=by
 unfold Cl.elected
 dsimp only
 have h1:=h.peers k
 have h2:=h1.log
 split
 ·apply Bd.toAll
  apply Bd.commits
  apply h.put
  refine ⟨h1.log,h1.term,h1.commit,fun x hx => ?_,fun x hx => ?_⟩
  ·rw [(List.mem_replicate.1 hx).2];omega
  ·rcases mem_set hx with g | g
   ·rw [(List.mem_replicate.1 g).2];omega
   ·rw [g];exact h1.log
 ·exact h
theorem Bd.tick {c:Cl} (h:Bd c) (k:Nat):Bd (c.tick k):=by
 unfold Cl.tick
 dsimp only
 split
 ·exact h.toAll k
 ·split
  ·exact h
  ·next ht =>
   have h1:=(h.peers k).term
   have h2:=h.peers k
   apply Bd.elected
   apply Bd.fold
   ·intro c2 i hc
    apply hc.send
    refine ⟨⟨Nat.le_refl _,by show 1≤4;omega⟩,?_,?_,Nat.zero_le _⟩
    ·show (c.at k).term+1≤1000000
     omega
    ·show (c.at k).log.length+0≤100
     exact h2.log
   ·apply h.put
    refine ⟨h2.log,?_,h2.commit,h2.next,h2.mat⟩
    show (c.at k).term+1≤1000000
    omega
theorem Bd.down {c:Cl} (h:Bd c) (k:Nat) {T:Nat} (hT:T≤1000000):Bd (c.down k T):=by
 refine h.put ⟨(h.peers k).log,?_,(h.peers k).commit,fun x hx=>(List.not_mem_nil hx).elim,fun x hx=>(List.not_mem_nil hx).elim⟩
 have:=(h.peers k).term
 show max (c.at k).term T≤1000000
 omega
theorem merge_len:∀ (rs l:List Rc) (a:Nat),a≤l.length→a+rs.length≤(merge l a rs).length∧(merge l a rs).length≤max l.length (a+rs.length)
 | [],l,a,h=>by simp [merge];omega
 | r::rs,l,a,h=>by
  unfold merge
  dsimp only
  have key:∀ m:List Rc,a≤m.length→m.length≤l.length→a+(r::rs).length≤(merge (if a=m.length then m++[r] else m) (a+1) rs).length∧(merge (if a=m.length then m++[r] else m) (a+1) rs).length≤max l.length (a+(r::rs).length):=by
   intro m h1 h2
   have hx:a+1≤(if a=m.length then m++[r] else m).length:=by split <;> (try rw [List.length_append,List.length_singleton]) <;> omega
   have hy:(if a=m.length then m++[r] else m).length≤max m.length (a+1):=by split <;> (try rw [List.length_append,List.length_singleton]) <;> omega
   have:=merge_len rs _ (a+1) hx
   rw [List.length_cons]
   omega
  split
  ·refine key (l.take a) ?_ ?_ <;> rw [List.length_take] <;> omega
  ·exact key l h (Nat.le_refl _)
theorem Bd.appended {c:Cl} (h:Bd c) {m:Msg} (hm:MB m):Bd (c.appended m):=by
 unfold Cl.appended
 dsimp only
 split
 ·apply h.send
  exact ⟨k4,(h.peers m.to).term,Nat.zero_le _,Nat.zero_le _⟩
 ·have hd:=h.down m.to hm.term
  generalize c.down m.to m.term=e at hd ⊢
  have h1:=hd.peers m.to
  have h2:=h1.log
  have h3:=hm.a
  split
  ·apply hd.send
   refine ⟨k4,h1.term,?_,Nat.zero_le _⟩
   show min (m.a-1) (e.at m.to).log.length+0≤100
   omega
  ·next hn =>
   have ha:m.a≤(e.at m.to).log.length:=by
    rcases Nat.lt_or_ge (e.at m.to).log.length m.a with g | g
    ·exact absurd (.inl g) hn
    ·exact g
   refine Bd.send (Bd.note (Bd.put hd ?_) m.to) ⟨k4,h1.term,?_,Nat.zero_le _⟩
   ·refine ⟨?_,h1.term,?_,h1.next,h1.mat⟩
    ·have:=merge_len m.log _ m.a ha
     show (merge (e.at m.to).log m.a m.log).length≤100
     omega
    ·have:=h1.commit
     have:=hm.c
     show max (e.at m.to).commit (min m.c (m.a+m.log.length))≤100
     omega
   ·show m.a+m.log.length+0≤100
    omega
theorem Bd.deliver {c:Cl} (h:Bd c) {m:Msg} (hm:MB m):Bd (c.deliver m):=by
 unfold Cl.deliver
 dsimp only
 split
 ·exact h
 ·have hd:Bd (if (c.at m.to).term<m.term then c.down m.to m.term else c):=by
   split
   ·exact h.down m.to hm.term
   ·exact h
  generalize (if (c.at m.to).term<m.term then c.down m.to m.term else c)=e at hd ⊢
  have h1:=hd.peers m.to
  have h3:=hm.a
  have h2:=getD_le h1.next m.frm
  have h4:=getD_le h1.mat m.frm
  split
  ·apply Bd.send
   ·split
    ·apply hd.put
     exact ⟨h1.log,h1.term,h1.commit,h1.next,h1.mat⟩
    ·exact hd
   ·exact ⟨k2,h1.term,Nat.zero_le _,Nat.zero_le _⟩
  ·split
   ·split
    ·apply Bd.elected
     apply hd.put
     exact ⟨h1.log,h1.term,h1.commit,h1.next,h1.mat⟩
    ·exact hd
   ·split
    ·exact hd.appended hm
    ·split
     ·split
      ·exact hd
      ·split
       ·apply Bd.commits
        apply hd.put
        refine ⟨h1.log,h1.term,h1.commit,fun x hx => ?_,fun x hx => ?_⟩
        ·rcases mem_set hx with g | g
         ·exact h1.next x g
         ·omega
        ·rcases mem_set hx with g | g
         ·exact h1.mat x g
         ·omega
       ·split
        ·apply Bd.records
         apply hd.put
         refine ⟨h1.log,h1.term,h1.commit,fun x hx => ?_,h1.mat⟩
         rcases mem_set hx with g | g
         ·exact h1.next x g
         ·omega
        ·exact hd
     ·exact hd
theorem Bd.part {c:Cl} (h:Bd c) {net:List Msg} (hn:∀ m,m∈net→m∈c.net) (hl:net.length≤c.net.length):Bd { c with net:=net }:=⟨h.peers,fun m hm=>h.net m (hn m hm),h.chosen,Nat.le_trans hl h.size⟩
theorem Bd.event {c:Cl} (h:Bd c) (e:Ev):Bd (c.event e).1:=by
 unfold Cl.event
 split
 ·split
  ·exact h
  ·split
   ·exact h
   ·next m hm =>
    have hmm:=h.net m (List.mem_of_getElem? hm)
    have hp:Bd { c with net:=c.net.eraseIdx e.n.toNat }:=h.part (fun m hm=>List.mem_of_mem_eraseIdx hm) (by rw [List.length_eraseIdx];split <;> omega)
    split
    ·exact hp.deliver hmm
    ·split
     ·exact hp
     ·exact h.send hmm
 ·split
  ·split
   ·exact h
   ·dsimp only
    generalize e.n.toNat=k
    have h1:=h.peers k
    split
    ·exact h
    ·split
     ·exact h.tick k
     ·split
      ·apply h.put
       exact ⟨h1.log,h1.term,Nat.zero_le _,fun x hx=>(List.not_mem_nil hx).elim,fun x hx=>(List.not_mem_nil hx).elim⟩
      ·split
       ·apply h.put
        exact ⟨h1.log,h1.term,h1.commit,h1.next,h1.mat⟩
       ·split
        ·exact h
        ·split
         ·exact h
         ·next hs =>
          have h2:=h1.log
          apply Bd.commits
          apply h.put
          refine ⟨?_,h1.term,h1.commit,h1.next,fun x hx => ?_⟩
          ·show ((c.at k).log++[_]).length≤100
           simp
           omega
          ·rcases mem_set hx with g | g
           ·exact h1.mat x g
           ·omega
  ·exact h
theorem Bd.begin (n:Nat):Bd (Cl.begin n):=by
 refine ⟨fun k => ?_,fun m hm=>(List.not_mem_nil hm).elim,by simp [Cl.begin],by simp [Cl.begin]⟩
 by_cases hk:k<n
 ·rw [at_begin n k hk];exact ⟨PB.zero.log,PB.zero.term,PB.zero.commit,PB.zero.next,PB.zero.mat⟩
 ·have:(Cl.begin n).at k=Peer.zero:=by simp [Cl.begin,Cl.at,List.getD,hk]
  rw [this];exact PB.zero
def Good (n:Nat) (c:Cl):Prop:=Bd c∧Cov n c∧∃ s,Rel n c s
theorem Good.begin (n:Nat):Good n (Cl.begin n):=⟨Bd.begin n,(Rel.begin n).2,_,(Rel.begin n).1⟩
theorem Good.event {n:Nat} {c:Cl} (h:Good n c) (e:Ev):Good n (c.event e).1:=by
 obtain ⟨hb,hc,s,hs⟩:=h
 obtain ⟨s',h1,h2⟩:=hs.event hc e
 exact ⟨hb.event e,h2,s',h1⟩
end Go.Proofs.YtcfdmbkiinjmaaaGreat.Raft
namespace Go.Proofs.YtcfdmbkiinjmaaaGreat.Raft
structure PL (n:Nat) (p:Peer):Prop where
 votes:p.votes.length≤n
 next:p.next.length≤n
 mat:p.mat.length≤n
structure LB (n:Nat) (c:Cl):Prop where
 len:c.peers.length=n
 peers:∀ k,PL n (c.at k)
variable {n:Nat} {c:Cl}
theorem PL.zero (n:Nat):PL n Peer.zero:=⟨Nat.zero_le _,Nat.zero_le _,Nat.zero_le _⟩
theorem LB.put (h:LB n c) {k:Nat} {p:Peer} (hp:PL n p):LB n (c.put k p):=⟨by simp [Cl.put];exact h.len,fun q=>by
 rcases at_put_any c k q p with e | e <;> rw [e]
 ·exact hp
 ·exact h.peers q⟩
theorem LB.same (h:LB n c) {d:Cl} (e:d.peers=c.peers):LB n d:=⟨by rw [e];exact h.len,fun k=>by
 have:d.at k=c.at k:=by unfold Cl.at;rw [e]
 rw [this];exact h.peers k⟩
theorem LB.send (h:LB n c) (m:Msg):LB n (c.send m):=by
 unfold Cl.send
 split
 ·exact h.same rfl
 ·exact h
theorem LB.note (h:LB n c) (k:Nat):LB n (c.note k):=h.same rfl
theorem LB.commits (h:LB n c) (k:Nat):LB n (c.commits k):=by
 refine LB.note (LB.put h ?_) k
 exact ⟨(h.peers k).votes,(h.peers k).next,(h.peers k).mat⟩
theorem LB.records (h:LB n c) (k «to» : Nat):LB n (c.records k «to»):=h.send _
theorem LB.fold {α:Type} (f:Cl→α→Cl) (hf:∀ c a,LB n c→LB n (f c a)):∀ (l:List α) (c:Cl),LB n c→LB n (l.foldl f c)
 | [],_,h=>h
 | a::l,c,h=>LB.fold f hf l _ (hf c a h)
theorem LB.toAll (h:LB n c) (k:Nat):LB n (c.toAll k):=LB.fold _ (fun _ _ h=>h.records _ _) _ _ h
theorem LB.elected (h:LB n c) (k:Nat):LB n (c.elected k):=by
 unfold Cl.elected
 dsimp only
 have hl:=h.len
 split
 ·apply LB.toAll
  apply LB.commits
  apply h.put
  exact ⟨Nat.zero_le _,by simp [hl],by simp [hl]⟩
 ·exact h
theorem LB.tick (h:LB n c) (k:Nat):LB n (c.tick k):=by
 unfold Cl.tick
 dsimp only
 have hl:=h.len
 split
 ·exact h.toAll k
 ·split
  ·exact h
  ·have h2:=h.peers k
   apply LB.elected
   apply LB.fold
   ·intro c2 i hc
    exact hc.send _
   ·apply h.put
    exact ⟨by simp [hl],h2.next,h2.mat⟩
theorem LB.down (h:LB n c) (k T:Nat):LB n (c.down k T):=h.put ⟨Nat.zero_le _,Nat.zero_le _,Nat.zero_le _⟩
theorem LB.appended (h:LB n c) (m:Msg):LB n (c.appended m):=by
 unfold Cl.appended
 dsimp only
 split
 ·exact h.send _
 ·have hd:=h.down m.to m.term
  generalize c.down m.to m.term=e at hd ⊢
  have h1:=hd.peers m.to
  split
  ·exact hd.send _
  ·refine LB.send (LB.note (LB.put hd ?_) m.to) _
   exact ⟨h1.votes,h1.next,h1.mat⟩
theorem LB.deliver (h:LB n c) (m:Msg):LB n (c.deliver m):=by
 unfold Cl.deliver
 dsimp only
 split
 ·exact h
 ·have hd:LB n (if (c.at m.to).term<m.term then c.down m.to m.term else c):=by
   split
   ·exact h.down m.to _
   ·exact h
  generalize (if (c.at m.to).term<m.term then c.down m.to m.term else c)=e at hd ⊢
  have h1:=hd.peers m.to
  split
  ·apply LB.send
   split
   ·apply hd.put
    exact ⟨h1.votes,h1.next,h1.mat⟩
   ·exact hd
  ·split
   ·split
    ·apply LB.elected
     apply hd.put
     exact ⟨by simp;exact h1.votes,h1.next,h1.mat⟩
    ·exact hd
   ·split
    ·exact hd.appended m
    ·split
     ·split
      ·exact hd
      ·split
       ·apply LB.commits
        apply hd.put
        exact ⟨h1.votes,by simp;exact h1.next,by simp;exact h1.mat⟩
       ·split
        ·apply LB.records
         apply hd.put
         exact ⟨h1.votes,by simp;exact h1.next,h1.mat⟩
        ·exact hd
     ·exact hd
theorem LB.event (h:LB n c) (e:Ev):LB n (c.event e).1:=by
 unfold Cl.event
 split
 ·split
  ·exact h
  ·split
   ·exact h
   ·have hp:LB n { c with net:=c.net.eraseIdx e.n.toNat }:=h.same rfl
    split
    ·exact hp.deliver _
    ·split
     ·exact hp
     ·exact h.send _
 ·split
  ·split
   ·exact h
   ·dsimp only
    generalize e.n.toNat=k
    have h1:=h.peers k
    split
    ·exact h
    ·split
     ·exact h.tick k
     ·split
      ·apply h.put
       exact ⟨Nat.zero_le _,Nat.zero_le _,Nat.zero_le _⟩
      ·split
       ·apply h.put
        exact ⟨h1.votes,h1.next,h1.mat⟩
       ·split
        ·exact h
        ·split
         ·exact h
         ·apply LB.commits
          apply h.put
          exact ⟨h1.votes,h1.next,by simp;exact h1.mat⟩
  ·exact h
theorem LB.begin (n:Nat):LB n (Cl.begin n):=by
 refine ⟨by simp [Cl.begin],fun k => ?_⟩
 by_cases hk:k<n
 ·rw [at_begin n k hk];exact ⟨Nat.zero_le _,Nat.zero_le _,Nat.zero_le _⟩
 ·have:(Cl.begin n).at k=Peer.zero:=by simp [Cl.begin,Cl.at,List.getD,hk]
  rw [this];exact PL.zero n
end Go.Proofs.YtcfdmbkiinjmaaaGreat.Raft
namespace Go.Proofs.YtcfdmbkiinjmaaaGreat.gt8
open Go.ChangeShapes Go.WideShapes Go.ChangeAt Go.RowKit
open Raft mem grp YtcfdmbkiinjmaaaGreat.look ndw grant stand rows2 clone behind post copy msgs postb ntold gtold own
theorem sets_belowB {B:Nat} {A:World} {b:Nat} (hb:B≤b):∀ (l:List (Nat×Value)) (W':World),Below B A W'→Below B A (sets W' b l)
 | [],_,h=>h
 | (i,v)::l,_,h=>sets_belowB hb l _ (h.setCell hb v)
def CluV (M:Fz) (c:Cl) (pv nv cv:Value):Prop:=∃ (ps:List PV) (us:List MV),ps.map (·.p)=c.peers∧PeersV M pv ps∧us.map (·.m)=c.net∧MsgsV M nv us∧RecsM M cv c.chosen
def CluE (w:World) (M:Fz) (c:Cl) (r:Ending) (w':World):Prop :=
 ∃ (p1:Option Addr) (p2 p3:Nat) (n1:Option Addr) (n2 n3:Nat) (c1:Option Addr) (c2 c3:Nat),r=.returned (.agg #[.slice p1 p2 p3,.slice n1 n2 n3,.slice c1 c2 c3,.bool c.conflict])∧∃ M',FP w M w' M'∧CluV M' c (.slice p1 p2 p3) (.slice n1 n2 n3) (.slice c1 c2 c3)
def msgsB (v:Value) (ms:List MS):List Nat:=ownB v++ms.flatMap (fun x=>recsB x.lv x.us)
def CluS (M:Fz) (lo:Nat) (c:Cl) (pv nv cv:Value) (ps:List PS) (ms:List MS) (us:List RV):Prop:=ps.map (·.p)=c.peers∧PeersS M lo pv ps∧ms.map (·.m)=c.net∧MsgsS M lo nv ms∧us.map (·.r)=c.chosen∧RecsS M lo cv us∧(peersB pv ps++(msgsB nv ms++recsB cv us)).Nodup
theorem CluS.clu {M:Fz} {lo:Nat} {c:Cl} {pv nv cv:Value} {ps:List PS} {ms:List MS} {us:List RV} (h:CluS M lo c pv nv cv ps ms us):CluV M c pv nv cv:=by
 obtain ⟨h1,h2,h3,h4,h5,h6,_⟩:=h
 exact ⟨ps.map PS.pv,ms.map MS.mv,by rw [List.map_map];exact h1,h2.peers,by rw [List.map_map];exact h3,h4.msgs,us,h5,h6.rd⟩
def CluT (w:World) (M:Fz) (c:Cl) (r:Ending) (w':World):Prop :=
 ∃ (p1:Option Addr) (p2 p3:Nat) (n1:Option Addr) (n2 n3:Nat) (c1:Option Addr) (c2 c3:Nat),r=.returned (.agg #[.slice p1 p2 p3,.slice n1 n2 n3,.slice c1 c2 c3,.bool c.conflict])∧∃ M' ps ms us,FP w M w' M'∧CluS M' w.heap.size c (.slice p1 p2 p3) (.slice n1 n2 n3) (.slice c1 c2 c3) ps ms us
def N1 (W:World) (M:Fz) (c:Cl) (wx w1:World) (nv:Value):Prop:=∃ M1 ms,FP W M w1 M1∧(∀ b,M1 b≠none→M b≠none∨wx.heap.size≤b)∧ms.map (·.m)=c.net∧MsgsS M1 W.heap.size nv ms
def NC (M:Fz) (lo:Nat) (c:Cl) (nv cv:Value) (ms:List MS) (us:List RV):Prop:=ms.map (·.m)=c.net∧MsgsS M lo nv ms∧us.map (·.r)=c.chosen∧RecsS M lo cv us∧(msgsB nv ms++recsB cv us).Nodup
def N2 (W:World) (M:Fz) (c:Cl) (wx w1 wy w2:World) (nv cv:Value):Prop:=∃ M1 M2,FP W M w2 M2∧(∀ b,M1 b≠none→M b≠none∨wx.heap.size≤b)∧In M1 w1∧(∀ b,M2 b≠none→M1 b≠none∨wy.heap.size≤b)∧∃ ms us,NC M2 W.heap.size c nv cv ms us
def RB (W:World) (M:Fz) (c:Cl) (bx:Nat) (nv cv:Value) (wx:World):Prop:=∃ M2,FP W M wx M2∧M2 bx=none∧bx<wx.heap.size∧W.heap.size≤bx∧wx.heap[bx]?=some (.cells #[.slice none 0 0,nv,cv,.bool c.conflict] 28 (0,0))∧∃ ms us,NC M2 W.heap.size c nv cv ms us
theorem RB.set {W:World} {M:Fz} {c:Cl} {wx w1 wy w2:World} {nv cv:Value} (h:N2 W M c wx w1 wy w2 nv cv) {bx:Nat} (hbx:w2.heap[bx]?=some (.cells #[.slice none 0 0,.slice none 0 0,.slice none 0 0,.bool false] 28 (0,0))) (h1:W.heap.size≤bx) (h2:(bx<wx.heap.size∧wx.heap.size≤wy.heap.size∧M bx=none)∨(w1.heap.size≤bx∧bx<wy.heap.size)) :
  RB W M c bx nv cv (sets w2 bx [(0,.slice none 0 0),(1,nv),(2,cv),(3,.bool c.conflict)]):=by
 obtain ⟨M1,M2,f,g1,g2,g3,g4⟩:=h
 have hM:M2 bx=none:=by
  cases e:M2 bx with
  | none=>rfl
  | some o =>
   rcases g3 bx (by rw [e];simp) with g | g
   ·rcases h2 with h2 | h2
    ·rcases g1 bx g with g' | g'
     ·exact absurd h2.2.2 g'
     ·omega
    ·exact absurd (g2.fresh h2.1) g
   ·rcases h2 with h2 | h2
    ·omega
    ·omega
 have hlt:bx<w2.heap.size:=(Array.getElem?_eq_some_iff.1 hbx).1
 refine ⟨M2,⟨f.le,?_,sets_belowB h1 _ _ f.below,f.new⟩,hM,?_,h1,?_,g4⟩
 ·intro x o hx
  refine (sets_ne _ w2 ?_).trans (f.inn x o hx)
  rintro rfl
  rw [hM] at hx;cases hx
 ·simp [sets,hlt]
 ·have q2:=sets_at [(0,.slice none 0 0),(1,nv),(2,cv),(3,.bool c.conflict)] hbx
  have e:setsA #[.slice none 0 0,.slice none 0 0,.slice none 0 0,.bool false] [(0,.slice none 0 0),(1,nv),(2,cv),(3,.bool c.conflict)]=#[.slice none 0 0,nv,cv,.bool c.conflict]:=by simp [setsA]
  rw [e] at q2
  exact q2
theorem info61:(Tryz.prog.info? 66).map (fun i=>(i.zero,i.size,i.bytes))=some (some (.agg #[.bool false,.int .i64 0,.int .i64 0,.int .i64 0,.int .i64 0,.slice none 0 0,.slice none 0 0,.slice none 0 0,.slice none 0 0]),9,136):=by kernel_rfl
def LI (W:World) (M M1:Fz) (c:Cl) (bx:Nat) (nv cv:Value) (k:Nat) (v:Value) (wr:World):Prop:=TI W M M1 bx c.peers k v wr∧wr.heap[bx]?=some (.cells #[v,nv,cv,.bool c.conflict] 28 (0,0))
theorem zA {W w1:World} (hx:Below (W.alloc (.cells #[.slice none 0 0,.slice none 0 0,.slice none 0 0,.bool false] 28)).drew.heap.size (W.alloc (.cells #[.slice none 0 0,.slice none 0 0,.slice none 0 0,.bool false] 28)).drew w1):w1.heap[W.heap.size]?=some (.cells #[.slice none 0 0,.slice none 0 0,.slice none 0 0,.bool false] 28 (0,0)):=(hx.block W.heap.size (by show W.heap.size<(W.alloc (.cells #[.slice none 0 0,.slice none 0 0,.slice none 0 0,.bool false] 28)).heap.size;rw [World.size_alloc];exact Nat.lt_succ_self _)).trans (heap_alloc_new W _)
theorem zB {w1 w2:World} (hx:Below (w1.alloc (.cells #[.slice none 0 0,.slice none 0 0,.slice none 0 0,.bool false] 28)).heap.size (w1.alloc (.cells #[.slice none 0 0,.slice none 0 0,.slice none 0 0,.bool false] 28)) w2):w2.heap[w1.heap.size]?=some (.cells #[.slice none 0 0,.slice none 0 0,.slice none 0 0,.bool false] 28 (0,0)):=(hx.block w1.heap.size (by rw [World.size_alloc];exact Nat.lt_succ_self _)).trans (heap_alloc_new w1 _)
theorem zK {W wx w1 w2:World} (hz:w1.heap[W.heap.size]?=some (.cells #[.slice none 0 0,.slice none 0 0,.slice none 0 0,.bool false] 28 (0,0))) (h1:Below wx.heap.size wx w1) (h2:Below w1.heap.size w1 w2):w2.heap[W.heap.size]?=some (.cells #[.slice none 0 0,.slice none 0 0,.slice none 0 0,.bool false] 28 (0,0)):=(h2.block _ (Array.getElem?_eq_some_iff.1 hz).1).trans hz
theorem set4 {B b:Nat} {A w:World} {u0 u1 u2 u3:Value} {i0 i1 i2 i3:Nat} (hb:B≤b) (h:Below B A w):Below B A ((((w.setCell ⟨b,i0,none⟩ u0).setCell ⟨b,i1,none⟩ u1).setCell ⟨b,i2,none⟩ u2).setCell ⟨b,i3,none⟩ u3):=(((h.setCell hb u0).setCell hb u1).setCell hb u2).setCell hb u3
theorem RB.new {W:World} {M:Fz} {c:Cl} {wx w1 wy w2:World} {nv cv:Value} (h:N2 W M c wx w1 wy w2 nv cv) :
  RB W M c w2.heap.size nv cv (w2.alloc (.cells #[.slice none 0 0,nv,cv,.bool c.conflict] 28)):=by
 obtain ⟨M1,M2,f,g1,g2,g3,g4⟩:=h
 refine ⟨M2,f.more (more (Below.refl _ _) _),f.inn.fresh (Nat.le_refl _),?_,f.below.size,heap_alloc_new w2 _,g4⟩
 rw [World.size_alloc];omega
set_option maxRecDepth 20000 in
set_option maxHeartbeats 2000000 in
theorem gtold_any (w:World) (M:Fz) (O:Lb) (d:Nat) (nb:List Nat) (c:Cl) (hG:G w M O d nb c) (hB:Bd c) (n:Nat) (h1n:1≤n) (hn7:n≤7) (hL:LB n c) :
  Calls Tryz.prog 23 #[.pointer (some ⟨d,0,none⟩)] w fun r w'=>CluT w M c r w':=by
 obtain ⟨hd,pv,cv,bs,us,cs,g⟩:=hG
 obtain ⟨co,cc,rfl⟩:=own_slice g.chos.row
 obtain ⟨po,pc,rfl,hpc1,hpc2,hpl,hpn,hpe⟩:=id g.peers
 have hdl:=(g.st.ok d _ g.own).2
 obtain ⟨W,hW⟩:∃ W,w.alloc (.cells #[.slice none 0 0,.slice none 0 0,.slice none 0 0,.bool false] 28)=W:=⟨_,rfl⟩
 have bW:Below w.heap.size w W:=by rw [←hW];exact more (Below.refl _ _) _
 have sW:W.heap.size=w.heap.size+1:=by rw [←hW];exact World.size_alloc ..
 have hbx:W.heap[w.heap.size]?=some (.cells #[.slice none 0 0,.slice none 0 0,.slice none 0 0,.bool false] 28 (0,0)):=by rw [←hW];exact heap_alloc_new w _
 have hF0:FP W M W M:=FP.refl (g.st.inn.below bW)
 have kp:∀ wx,Below W.heap.size W wx→Below w.heap.size w wx:=fun wx hx=>bW.trans (hx.mono bW.size)
 obtain ⟨cn,ecn⟩:∃ cn,cn=cs.length:=⟨_,rfl⟩
 obtain ⟨kn,ekn⟩:∃ kn,kn=nb.length:=⟨_,rfl⟩
 have HB2:Hid (∀ wx,Below W.heap.size W wx→wx.heap[d]?=some (.cells #[.pointer (some ⟨hd,0,none⟩),.int .i64 us.length,.slice po kn pc,.slice co cn cc,.bool c.conflict] 84 (0,0))):=fun wx hx=>by
  rw [ecn,ekn]
  exact ((kp wx hx).block d hdl).trans g.blk
 have HMs:Hid (∀ wx,Below W.heap.size W wx→Calls Tryz.prog 45 #[.pointer (some ⟨d,0,none⟩)] wx fun r w1=>∃ (n1:Option Addr) (n2 n3:Nat),r=.returned (.slice n1 n2 n3)∧Below W.heap.size W w1∧Below wx.heap.size wx w1∧Hid (N1 W M c wx w1 (.slice n1 n2 n3))):=fun wx hx=>by
  have fx:=hF0.more hx
  have fw:FP w M wx M:=(FP.refl g.st.inn).more (kp wx hx)
  refine (messages_any wx M O d hd bs us (cell_of (HB2.out wx hx) rfl) (FP.sta fw g.st) (g.post.keep (fun x hxx=>(kp wx hx).block x (g.st.ok x _ hxx).2) (Le.refl _) (fun _ hxx=>hxx)) ?_ ?_).mono ?_
  ·have:=congrArg List.length g.nets;rw [List.length_map] at this;have:=hB.size;omega
  ·intro x hxx
   have:=(hB.net x.m (by rw [←g.nets];exact List.mem_map_of_mem hxx)).a
   omega
  ·rintro r w' ⟨M',o,m,lc,ms',rfl,q1,q2,e',q3,q4,q5⟩
   exact ⟨o,m,lc,rfl,hx.trans (q4.mono hx.size),q4,M',ms',fx.trans ⟨q1,q2,q4,q5⟩,q5,e'.trans g.nets,q3.mono hx.size⟩
 have HCh:Hid (∀ wx w1 wy nv,N1 W M c wx w1 nv→Below w1.heap.size w1 wy→Calls Tryz.prog 46 #[.slice co cn cc] wy fun r w2=>∃ (c1:Option Addr) (c2 c3:Nat),r=.returned (.slice c1 c2 c3)∧Below W.heap.size W w2∧Below wy.heap.size wy w2∧Hid (N2 W M c wx w1 wy w2 nv (.slice c1 c2 c3))):=fun wx w1 wy nv h1 hy=>by
  obtain ⟨M1,us1,f1,g1,e1,v1⟩:=h1
  have fy:=f1.more hy
  rw [ecn]
  refine (copyRecs_any wy M1 _ cs fy.inn (RecsR.own (row_kept g.chos.row (fun x hg=>(kp wy fy.below).block x (row_lt g.chos.row hg).2))) (fun x hx=>⟨(g.chos.data x hx).1.le fy.le,(g.chos.data x hx).2⟩) ?_).mono ?_
  ·have:=congrArg List.length g.chosen;rw [List.length_map] at this;have:=hB.chosen;omega
  ·rintro r w' ⟨M',o,m,lc,qs,rfl,q1,q2,q3,q6,q4,q5⟩
   rw [g.chosen] at q3
   have f2:=fy.trans ⟨q1,q2,q4,q5⟩
   refine ⟨o,m,lc,rfl,f2.below,q4,M1,M',f2,g1,f1.inn,q5,us1,qs,e1,v1.le q1,q3,q6.mono fy.below.size,nd_app v1.nd q6.nd (fun b hb hb2 => ?_)⟩
   have hlo:=fy.inn.lt (Option.ne_none_iff_exists'.1 (v1.blk hb).2).choose_spec
   have hhi:=(q6.blk hb2).1
   omega
 have HMW:Hid (M W.heap.size=none):=hF0.inn.fresh (Nat.le_refl _)
 have hz:=HB2.out W (Below.refl _ _)
 have HS:Hid (∀ wx,Below W.heap.size W wx→((wx.cell? ⟨d,3,none⟩=some (.slice co cn cc)∧wx.cell? ⟨d,4,none⟩=some (.bool c.conflict))∧Below W.heap.size W wx)):=fun wx hx=>⟨⟨cell_of (HB2.out wx hx) rfl,cell_of (HB2.out wx hx) rfl⟩,hx⟩
 go_enter Tryz.func23,Tryz.ntmps23
 go_upto_region 1 with fail
 try rw [hW]
 go_cut [3] from 6 (fun v wx=>∃ (bx:Nat) (n1:Option Addr) (n2 n3:Nat) (c1:Option Addr) (c2 c3:Nat),v=.pointer (some ⟨bx,0,none⟩)∧Hid (RB W M c bx (.slice n1 n2 n3) (.slice c1 c2 c3) wx))
 case first =>
  have hbW:=hide (Below.refl W.heap.size W)
  clear g hB hL hbx hF0 kp hpe hpn hz ecn ekn sW hW bW hdl hpl hpc1
  go_region_held_law (fun wx=>(wx.cell? ⟨d,3,none⟩=some (.slice co cn cc)∧wx.cell? ⟨d,4,none⟩=some (.bool c.conflict))∧Below W.heap.size W wx)
   ((refine HS.out _ ?_;first | (with_reducible assumption) | (with_reducible exact hbW.out) | (with_reducible exact hbW.out.drew) | (with_reducible exact (more hbW.out _).drew) | (with_reducible exact more hb1 _) | (with_reducible exact more hb2 _) | (refine set4 (Nat.le_refl _) ?_;with_reducible assumption) | (refine set4 hb1.size ?_;with_reducible assumption)))
   (first
   | (go_at_call 45;refine (HMs.out _ (by first | (with_reducible exact hbW.out.drew) | (with_reducible exact (more hbW.out _).drew))).mono ?_;rintro rr w1 ⟨n1,n2,n3,rfl,hb1,hx1,H1⟩;first | (have hz1:=zA hx1) | skip)
   | (go_at_call 46;refine (HCh.out _ _ _ _ H1.out (by first | (with_reducible exact Below.refl _ _) | (with_reducible exact more (Below.refl _ _) _))).mono ?_;rintro rr w2 ⟨c1,c2,c3,rfl,hb2,hx2,H2⟩;first | (have hz2:=zK hz1 hx1 hx2;have zz0:=cell_of (i:=0) hz2 (v:=.slice none 0 0) rfl;have zf0:=frozen_of hz2 0;have zz1:=cell_of (i:=1) hz2 (v:=.slice none 0 0) rfl;have zf1:=frozen_of hz2 1;have zz2:=cell_of (i:=2) hz2 (v:=.slice none 0 0) rfl;have zf2:=frozen_of hz2 2;have zz3:=cell_of (i:=3) hz2 (v:=.bool false) rfl;have zf3:=frozen_of hz2 3) | (have hz2:=zB hx2;have zz0:=cell_of (i:=0) hz2 (v:=.slice none 0 0) rfl;have zf0:=frozen_of hz2 0;have zz1:=cell_of (i:=1) hz2 (v:=.slice none 0 0) rfl;have zf1:=frozen_of hz2 1;have zz2:=cell_of (i:=2) hz2 (v:=.slice none 0 0) rfl;have zf2:=frozen_of hz2 2;have zz3:=cell_of (i:=3) hz2 (v:=.bool false) rfl;have zf3:=frozen_of hz2 3) | skip))
  all_goals (go_wp2_with fail;go_meet)
  ·exact ⟨_,_,_,_,_,_,_,rfl,RB.new H2.out⟩
  ·exact ⟨_,_,_,_,_,_,_,rfl,RB.set H2.out hz2 hb1.size (.inr ⟨Nat.le_refl _,by rw [World.size_alloc];omega⟩)⟩
  ·refine ⟨_,_,_,_,_,_,_,rfl,RB.set H2.out hz2 (Nat.le_refl _) (.inl ⟨?_,hx1.size,HMW.out⟩)⟩
   show W.heap.size<(W.alloc _).heap.size
   rw [World.size_alloc];omega
 case rest =>
  obtain ⟨bx,n1,n2,n3,c1,c2,c3,rfl,HR0⟩:=hcut
  obtain ⟨M2,f2,hM2,hlt2,hle2,hbk,msn,csn,hnc⟩:=HR0.out
  have H0:Hid (LI W M M2 c bx (.slice n1 n2 n3) (.slice c1 c2 c3) 0 (.slice none 0 0) wc):=⟨TI.begin c.peers f2 hM2 hlt2 hle2,hbk⟩
  have hz9:=HB2.out wc f2.below
  have cp:=cell_of (i:=2) hz9 (v:=.slice po kn pc) rfl
  have hknn:kn=n:=by rw [ekn,g.len,hL.len]
  obtain ⟨pb,off,rfl,hpe2⟩:=hpe (by omega)
  have HSt:Hid (∀ k v wr,LI W M M2 c bx (.slice n1 n2 n3) (.slice c1 c2 c3) k v wr→(∃ so sc,v=.slice so k sc)∧(∀ wx,Below wr.heap.size wr wx→wx.cell? ⟨bx,0,none⟩=some v)∧(∀ b,nb[k]?=some b→wr.cell? ⟨pb,off+k,none⟩=some (.pointer (some ⟨b,0,none⟩)))):=fun k v wr h=>by
   obtain ⟨⟨M',us',q1,q2,q3,q4,q5,q6,q7,q8,q9,_⟩,hbk⟩:=h
   refine ⟨own_slice q3,fun wx hx=>cell_of (i:=0) ((hx.block bx q8).trans hbk) rfl,fun b hb => ?_⟩
   refine (q2.inn.below (Below.refl _ _)).cell (q2.le.cell (hpe2 k _ ?_))
   rw [List.getElem?_map,hb];rfl
  have HSt2:Hid (∀ k so sc wr,k<kn→LI W M M2 c bx (.slice n1 n2 n3) (.slice c1 c2 c3) k (.slice so k sc) wr→∃ b,nb[k]?=some b∧∀ wx,Below wr.heap.size wr wx→Calls Tryz.prog 47 #[.pointer (some ⟨b,0,none⟩)] wx fun r w5=>∃ (p:Peer) (a1:Option Addr) (a2 a3:Nat) (b1:Option Addr) (b2 b3:Nat) (e1:Option Addr) (e2 e3:Nat) (d1:Option Addr) (d2 d3:Nat) (Y:World),r=.returned (.agg #[.bool p.up,.int .i64 p.term,.int .i64 p.vote,.int .i64 p.commit,.int .i64 p.role,.slice a1 a2 a3,.slice b1 b2 b3,.slice e1 e2 e3,.slice d1 d2 d3])∧w5.alloc (.cells #[.bool p.up,.int .i64 p.term,.int .i64 p.vote,.int .i64 p.commit,.int .i64 p.role,.slice a1 a2 a3,.slice b1 b2 b3,.slice e1 e2 e3,.slice d1 d2 d3] 66)=Y∧(w5.cell? ⟨bx,0,none⟩=some (.slice so k sc)∧Y.cell? ⟨bx,0,none⟩=some (.slice so k sc)) ∧
    Hid (∃ ys,Y.ownsRow W.heap.size 66 9 (.slice so k sc) k ys∧(∀ j u,([.bool p.up,.int .i64 p.term,.int .i64 p.vote,.int .i64 p.commit,.int .i64 p.role,.slice a1 a2 a3,.slice b1 b2 b3,.slice e1 e2 e3,.slice d1 d2 d3]:List Value)[j]?=some u→Y.cell? ((⟨w5.heap.size,0,none⟩:Addr).add j)=some u)∧W.heap.size≤Y.heap.size ∧
     ∀ g cap w',w'.ownsRow W.heap.size 66 9 (.slice (some ⟨g,0,none⟩) (k+1) cap) (k+1) (ys++[.bool p.up,.int .i64 p.term,.int .i64 p.vote,.int .i64 p.commit,.int .i64 p.role,.slice a1 a2 a3,.slice b1 b2 b3,.slice e1 e2 e3,.slice d1 d2 d3])→Y.grownBy w' (Value.slice so k sc).ownBlock→((Value.slice so k sc).ownBlock=some g∨g=Y.heap.size)→w'.heap[bx]?=some (.cells #[.slice so k sc,.slice n1 n2 n3,.slice c1 c2 c3,.bool c.conflict] 28 (0,0))∧LI W M M2 c bx (.slice n1 n2 n3) (.slice c1 c2 c3) (k+1) (.slice (some ⟨g,0,none⟩) (k+1) cap) (w'.setCell ⟨bx,0,none⟩ (.slice (some ⟨g,0,none⟩) (k+1) cap)))):=fun k so sc wr hk h=>by
   have hlr:bx<wr.heap.size:=by obtain ⟨⟨M',us',q1,q2,q3,q4,q5,q6,q7,q8,q9,_⟩,hbk⟩:=h;exact q8
   have hkl:k<nb.length:=by omega
   have hkp:k<c.peers.length:=by rw [←g.len];exact hkl
   obtain ⟨b,hb⟩:∃ b,nb[k]?=some b:=⟨_,List.getElem?_eq_getElem hkl⟩
   obtain ⟨p,hp⟩:∃ p,c.peers[k]?=some p:=⟨_,List.getElem?_eq_getElem hkp⟩
   have hat:c.at k=p:=by unfold Cl.at;rw [List.getD_eq_getElem?_getD,hp];rfl
   have hpb:=hB.peers k
   have hpl2:=hL.peers k
   rw [hat] at hpb hpl2
   have stW:Sta M O W:=FP.sta ((FP.refl g.st.inn).more bW) g.st
   have ndW:Nod W M O b k p:=FP.nod ((FP.refl g.st.inn).more bW) g.st (g.nodes k b p hb hp)
   refine ⟨b,hb,fun wx hx=>(TI.step h.1 h.2 stW hp ndW (by have:=hpb.log;omega) (by have:=hpl2.votes;omega) (by have:=hpl2.next;omega) (by have:=hpl2.mat;omega) hx).mono ?_⟩
   rintro r w5 ⟨a1,a2,a3,b1,b2,b3,e1,e2,e3,d1,d2,d3,Y,rfl,hY,b5,ys,y1,y2,y3,y4⟩
   have bY:Below wr.heap.size wr Y:=by rw [←hY];exact b5.alloc b5.size _
   refine ⟨p,a1,a2,a3,b1,b2,b3,e1,e2,e3,d1,d2,d3,Y,rfl,hY,⟨cell_of (i:=0) ((b5.block bx hlr).trans h.2) rfl,cell_of (i:=0) ((bY.block bx hlr).trans h.2) rfl⟩,ys,y1,y2,y3,fun g2 cap w' z1 z2 z3 => ?_⟩
   obtain ⟨t1,t2⟩:=y4 g2 cap w' z1 z2 z3
   exact ⟨t2,t1.store t2 0 _,set_at t2 0 _ rfl⟩
  have HFin:Hid (∀ po' pc' wr,LI W M M2 c bx (.slice n1 n2 n3) (.slice c1 c2 c3) kn (.slice po' kn pc') wr→(wr.heap[w.heap.size]?=some (.cells #[.slice none 0 0,.slice none 0 0,.slice none 0 0,.bool false] 28 (0,0))∧wr.heap[bx]?=some (.cells #[.slice po' kn pc',.slice n1 n2 n3,.slice c1 c2 c3,.bool c.conflict] 28 (0,0)))∧CluT w M c (.returned (.agg #[.slice po' kn pc',.slice n1 n2 n3,.slice c1 c2 c3,.bool c.conflict])) (sets wr w.heap.size [(0,.slice po' kn pc'),(1,.slice n1 n2 n3),(2,.slice c1 c2 c3),(3,.bool c.conflict)])):=fun po' pc' wr h=>by
   obtain ⟨h1,h2⟩:=h
   have e:kn=c.peers.length:=by rw [ekn,g.len]
   rw [e] at h1 ⊢
   obtain ⟨M',ps,f,q1,q2,q3,q4⟩:=TI.fin h1
   obtain ⟨en,vn,ec9,vc,hnd⟩:=hnc
   rw [←e] at q2 q4 ⊢
   have hw9:wr.heap[w.heap.size]?=some (.cells #[.slice none 0 0,.slice none 0 0,.slice none 0 0,.bool false] 28 (0,0)):=(f.below.block _ (by omega)).trans hbx
   refine ⟨⟨hw9,h2⟩,po',kn,pc',n1,n2,n3,c1,c2,c3,rfl,M',ps,msn,csn,⟨f.le,?_,sets_belowB (Nat.le_refl _) _ _ (kp wr f.below),fun b hb => ?_⟩,q1,q2.mono (by omega),en,(vn.le q3).mono (by omega),ec9,(vc.le q3).mono (by omega),nd_app q2.nd hnd (fun b hb hb2 => ?_)⟩
   ·intro x o hx
    refine (sets_ne _ wr ?_).trans (f.inn x o hx)
    rintro rfl
    rcases f.new _ (by rw [hx];simp) with g' | g'
    ·exact g' (g.st.inn.fresh (Nat.le_refl _))
    ·omega
   ·rcases f.new b hb with g' | g'
    ·exact .inl g'
    ·exact .inr (by omega)
   ·have h9:=q4 b hb
    rcases List.mem_append.1 hb2 with hb2 | hb2
    ·exact (vn.blk hb2).2 h9
    ·exact (vc.blk hb2).2 h9
  obtain ⟨i0,hii,hz0,hz1,hz2⟩:=info_parts info61
  have HI3:Hid (Tryz.prog.info? 66=some i0∧i0.zero=some (.agg #[.bool false,.int .i64 0,.int .i64 0,.int .i64 0,.int .i64 0,.slice none 0 0,.slice none 0 0,.slice none 0 0,.slice none 0 0])∧i0.size=9∧i0.bytes=136):=⟨hii,hz0,hz1,hz2⟩
  have hkn7:kn≤7:=by omega
  clear hii hz0 hz1 hz2 g hB hL hbx hF0 kp hpe2 hpn ecn ekn hknn sW hW bW hdl hpl hpc1 HB2 HMs HCh hz HS hz9 HR0 f2 hM2 hlt2 hle2 hbk hnc hn7 h1n
  go_wp2
  go_loopw [25] (fun i wr=>∃ (k:Nat) (v:Value),k≤kn∧i=.int .i64 k∧Hid (LI W M M2 c bx (.slice n1 n2 n3) (.slice c1 c2 c3) k v wr)) (fun i _=>kn-(intOf i).toNat)
  case atStart=>exact ⟨0,_,Nat.zero_le _,rfl,H0⟩
  case round =>
   obtain ⟨k,v,hk,rfl,HR⟩:=hrel
   obtain ⟨⟨so,sc,rfl⟩,hc0,hcp⟩:=HSt.out _ _ _ HR.out
   by_cases hlt:k<kn
   ·have hltI:(k:Int)<kn:=by omega
    obtain ⟨b,hb,hT⟩:=HSt2.out k so sc wr hlt HR.out
    have hcp2:=hcp b hb
    have c0:=hc0 wr (Below.refl _ _)
    have HT:=hide hT
    clear hc0 hcp hT hb
    go_upto_region 5 with fail
    go_region_law (first
     | (go_simp;go_at_call 47;refine (HT.out _ (by first | (with_reducible exact (Below.refl _ _).drew) | (with_reducible exact Below.refl _ _))).mono ?_;rintro rr w5 ⟨p,a1,a2,a3,b1,b2,b3,e1,e2,e3,d1,d2,d3,Y,rfl,hY,⟨c5,cY⟩,HE⟩)
     | (obtain ⟨ys,y1,y2,y3,y4⟩:=HE.out;refine step_append_lies _ rfl _ _ 24 rfl W.heap.size 66 i0 (.agg #[.bool false,.int .i64 0,.int .i64 0,.int .i64 0,.int .i64 0,.slice none 0 0,.slice none 0 0,.slice none 0 0,.slice none 0 0]) 9 136 Tryz.underlying24 HI3.out.1 HI3.out.2.1 HI3.out.2.2.1 HI3.out.2.2.2 rfl (by decide) _ k ys rfl y1 ⟨w5.heap.size,0,none⟩ 1 1 [.bool p.up,.int .i64 p.term,.int .i64 p.vote,.int .i64 p.commit,.int .i64 p.role,.slice a1 a2 a3,.slice b1 b2 b3,.slice e1 e2 e3,.slice d1 d2 d3] rfl rfl y2 (fun u' hu'=>by simp only [List.mem_cons,List.not_mem_nil,or_false] at hu';rcases hu' with rfl | rfl | rfl | rfl | rfl | rfl | rfl | rfl | rfl <;> rfl) (by decide) (by unfold maxLen;omega) (by omega) y3 _ rfl ?_;intro g2 cap2 w2 z1 z2 z3 z4;obtain ⟨hbb,hLI⟩:=y4 g2 cap2 w2 z1 z2 z3;have HN:=hide hLI;have t0:=cell_of (i:=0) hbb (v:=.slice so k sc) rfl;have t1:=frozen_of hbb 0;clear z1 z2 z3 z4 y1 y2 y3 y4 hbb hLI))
    all_goals
     go_wp2
     go_roundw
    all_goals first
     | exact ⟨k+1,_,by omega,by go_num,HN⟩
     | (simp [intOf];omega)
   ·have hlt2:¬ (k:Int)<kn:=by omega
    obtain rfl:k=kn:=by omega
    obtain ⟨⟨hr1,hr2⟩,hE⟩:=HFin.out so sc wr HR.out
    have g0:=cell_of (i:=0) hr2 (v:=.slice so k sc) rfl
    have g1:=cell_of (i:=1) hr2 (v:=.slice n1 n2 n3) rfl
    have g2:=cell_of (i:=2) hr2 (v:=.slice c1 c2 c3) rfl
    have g3:=cell_of (i:=3) hr2 (v:=.bool c.conflict) rfl
    have z0:=cell_of (i:=0) hr1 (v:=.slice none 0 0) rfl
    have z1:=cell_of (i:=1) hr1 (v:=.slice none 0 0) rfl
    have z2:=cell_of (i:=2) hr1 (v:=.slice none 0 0) rfl
    have z3:=cell_of (i:=3) hr1 (v:=.bool false) rfl
    have f0:=frozen_of hr1 0
    have f1:=frozen_of hr1 1
    have f2:=frozen_of hr1 2
    have f3:=frozen_of hr1 3
    obtain ⟨WF,hWF⟩:∃ WF,sets wr w.heap.size [(0,.slice so k sc),(1,.slice n1 n2 n3),(2,.slice c1 c2 c3),(3,.bool c.conflict)]=WF:=⟨_,rfl⟩
    have hblk:WF.heap[w.heap.size]?=some (.cells #[.slice so k sc,.slice n1 n2 n3,.slice c1 c2 c3,.bool c.conflict] 28 (0,0)):=by
     rw [←hWF]
     have q2:=sets_at [(0,.slice so k sc),(1,.slice n1 n2 n3),(2,.slice c1 c2 c3),(3,.bool c.conflict)] hr1
     have e:setsA #[.slice none 0 0,.slice none 0 0,.slice none 0 0,.bool false] [(0,.slice so k sc),(1,.slice n1 n2 n3),(2,.slice c1 c2 c3),(3,.bool c.conflict)]=#[.slice so k sc,.slice n1 n2 n3,.slice c1 c2 c3,.bool c.conflict]:=by simp [setsA]
     rw [e] at q2
     exact q2
    have k0:=cell_of (i:=0) hblk (v:=.slice so k sc) rfl
    have k1:=cell_of (i:=1) hblk (v:=.slice n1 n2 n3) rfl
    have k2:=cell_of (i:=2) hblk (v:=.slice c1 c2 c3) rfl
    have k3:=cell_of (i:=3) hblk (v:=.bool c.conflict) rfl
    have HE:=hide hE
    clear hE hr1 hr2 hblk hc0 hcp
    go_wp2
    have HT2:=HE.out
    rw [hWF] at HT2
    simp only [sets] at hWF
    rw [hWF]
    refine bodyPost_ret (v:=.agg #[.slice so k sc,.slice n1 n2 n3,.slice c1 c2 c3,.bool c.conflict]) ?_ rfl HT2
    simp [results,Tryz.results23,go_sem,k0,k1,k2,k3]
end Go.Proofs.YtcfdmbkiinjmaaaGreat.gt8
namespace Go.Proofs.YtcfdmbkiinjmaaaGreat.shp
open Go.ChangeShapes Go.WideShapes Go.ChangeAt Go.RowKit
open Raft mem own shape mk2 mk3 mk5 gtold gt8
theorem flat_apart {α:Type} (f:α→List Nat):∀ (l:List α),(l.flatMap f).Nodup→∀ (j k:Nat) (a b:α),j<k→l[j]?=some a→l[k]?=some b→∀ x∈f a,x∉f b
 | [],_,j,k,a,b,_,h,_=>by simp at h
 | y::l,hn,0,k+1,a,b,_,h,h2=>by
  intro x hx hx2
  simp only [List.getElem?_cons_zero,Option.some.injEq] at h
  subst h
  rw [List.getElem?_cons_succ] at h2
  rw [List.flatMap_cons,List.nodup_append] at hn
  exact hn.2.2 x hx x (List.mem_flatMap.2 ⟨b,List.mem_of_getElem? h2,hx2⟩) rfl
 | y::l,hn,j+1,k+1,a,b,hj,h,h2=>by
  rw [List.getElem?_cons_succ] at h h2
  rw [List.flatMap_cons,List.nodup_append] at hn
  exact flat_apart f l hn.2.1 j k a b (by omega) h h2
 | y::l,hn,j+1,0,a,b,hj,h,h2=>by omega
theorem nd_right {a b:List Nat} (h:(a++b).Nodup):b.Nodup:=(List.nodup_append.1 h).2.1
theorem nd_apart {a b:List Nat} (h:(a++b).Nodup) {x:Nat} (hx:x∈a):x∉b:=fun hb=>(List.nodup_append.1 h).2.2 x hx x hb rfl
theorem rowE_nd (f:Nat→List En) (g o sz:Nat) (B:Nat→List Nat):∀ n,(∀ k,k<n→shape.Nd (f k))→(∀ k,k<n→∀ e∈f k,(e.at.1=g∧o+k*sz≤e.at.2∧e.at.2<o+k*sz+sz)∨e.at.1∈B k)→(∀ k,k<n→g∉B k)→(∀ j k,j<k→k<n→∀ b∈B j,b∉B k)→shape.Nd (rowE f n)
 | 0,_,_,_,_=>by simp [rowE,shape.Nd]
 | n+1,h1,h2,h3,h4=>by
  refine Nd.mk (rowE_nd f g o sz B n (fun k hk=>h1 k (by omega)) (fun k hk=>h2 k (by omega)) (fun k hk=>h3 k (by omega)) (fun j k hj hk=>h4 j k hj (by omega))) (h1 n (by omega)) (fun x hx e he e' => ?_)
  obtain ⟨k,hk,hx⟩:=rowE_mem hx
  have q1:x.at.1=e.at.1:=by rw [e']
  have q2:x.at.2=e.at.2:=by rw [e']
  rcases h2 k (by omega) x hx with a1 | a1 <;> rcases h2 n (by omega) e he with a2 | a2
  ·have:k*sz+sz≤n*sz:=by rw [←Nat.succ_mul];exact Nat.mul_le_mul_right _ hk
   omega
  ·exact h3 n (by omega) (by rw [←a1.1,q1];exact a2)
  ·exact h3 k (by omega) (by rw [←a2.1,←q1];exact a1)
  ·exact h4 k n hk (by omega) _ a1 (by rw [q1];exact a2)
def slOf:Value→Sl
 | .slice (some a) n cap=>⟨some a,a.block,0,n,cap⟩
 | .slice none n cap=>⟨none,0,0,n,cap⟩
 | _=>zS
theorem row_facts {M:Fz} {w:World} {lo e n sz:Nat} {v:Value} {xs:List Value} (hI:In M w) (hr:RowM M v n sz xs) (ho:Own1 M lo e v):(v=.slice none 0 0∧n=0)∨∃ g cap,v=.slice (some ⟨g,0,none⟩) n cap∧n≤cap∧cap≤maxLen∧lo≤g∧xs.length=n*sz∧(∀ i u,xs[i]?=some u→w.cell? ⟨g,i,none⟩=some u)∧∀ i,w.frozen? ⟨g,i,none⟩=false:=by
 obtain ⟨ao,cap,rfl,h1,h2,h3,h4,h5⟩:=hr
 rcases ho with ho | ⟨g,n',cap',cur,ho,hlo,hM⟩
 ·simp only [Value.slice.injEq] at ho
  obtain ⟨rfl,rfl,rfl⟩:=ho
  exact .inl ⟨rfl,rfl⟩
 ·simp only [Value.slice.injEq] at ho
  obtain ⟨rfl,rfl,rfl⟩:=ho
  refine .inr ⟨g,cap,rfl,h1,h2,hlo,h3,fun i u hu => ?_,fun i=>grp.frozen_of (hI g _ hM) i⟩
  have hp:0<n:=by
   have:=(List.getElem?_eq_some_iff.1 hu).1
   rw [h3] at this
   rcases Nat.eq_zero_or_pos n with e | e
   ·subst e;simp at this
   ·exact e
  obtain ⟨b,off,e1,e2⟩:=h5 hp
  simp only [Option.some.injEq,Addr.mk.injEq] at e1
  obtain ⟨rfl,rfl,_⟩:=e1
  have:=e2 i u hu
  rw [Nat.zero_add] at this
  exact hI.cell this
theorem sl_facts {M:Fz} {w:World} {lo e n:Nat} {v:Value} {xs:List Value} (hI:In M w) (hr:RowM M v n 1 xs) (ho:Own1 M lo e v) (kd:Kd):v=.slice (slOf v).ao (slOf v).n (slOf v).cap∧(slOf v).n=n∧(slOf v).Good∧Ok w (plain (slOf v).b kd (slOf v).o (slOf v).n)∧∀ x∈plain (slOf v).b kd (slOf v).o (slOf v).n,x.at.1∈ownB v:=by
 rcases row_facts hI hr ho with ⟨rfl,rfl⟩|⟨g,cap,rfl,h1,h2,h3,h4,h5,h6⟩
 ·exact ⟨rfl,rfl,⟨by simp [slOf],by simp [slOf],by simp [slOf,maxLen]⟩,by simp [slOf,plain,Ok],by simp [slOf,plain]⟩
 ·refine ⟨rfl,rfl,⟨fun _=>rfl,h1,h2⟩,fun x hx => ?_,fun x hx => ?_⟩
  ·obtain ⟨j,hj,rfl⟩:=plain_mem hx
   simp only [slOf] at hj
   obtain ⟨u,hu⟩:∃ u,xs[j]?=some u:=⟨_,List.getElem?_eq_getElem (by omega)⟩
   refine ⟨⟨u,?_⟩,?_⟩
   ·show w.cell? ⟨g,0+j,none⟩=some u
    rw [Nat.zero_add];exact h5 j u hu
   ·exact h6 _
  ·obtain ⟨j,hj,rfl⟩:=plain_mem hx
   simp [En.at,slOf,ownB,Value.ownBlock]
def rsOf (v:Value) (us:List RV):Rs:=⟨(slOf v).ao,(slOf v).b,0,(slOf v).cap,us.map (fun x=>slOf x.dv)⟩
theorem getD_map {α β:Type} (f:α→β) (l:List α) (d:β) {k:Nat} {a:α} (h:l[k]?=some a):(l.map f).getD k d=f a:=by
 rw [List.getD_eq_getElem?_getD,List.getElem?_map,h];rfl
theorem nd3 (b o:Nat) (k1 k2:Kd) (v:Value):shape.Nd [.leaf b o k1,.leaf b (o+1) k2,.head b (o+2) v]:=by simp [shape.Nd,En.at]
set_option maxHeartbeats 400000 in
theorem rs_facts {M:Fz} {w:World} {lo:Nat} {v:Value} {us:List RV} (hI:In M w) (h:RecsS M lo v us):v=.slice (rsOf v us).ao (rsOf v us).xs.length (rsOf v us).cap∧(rsOf v us).Good∧Ok w (rsOf v us).es∧shape.Nd (rsOf v us).es∧(∀ e∈(rsOf v us).es,e.at.1∈recsB v us)∧count (rsOf v us).es≤us.length*1002:=by
 have sub:∀ x∈us,x.dv=.slice (slOf x.dv).ao (slOf x.dv).n (slOf x.dv).cap∧(slOf x.dv).n=x.r.data.length∧(slOf x.dv).Good∧Ok w (plain (slOf x.dv).b .byte (slOf x.dv).o (slOf x.dv).n)∧∀ y∈plain (slOf x.dv).b .byte (slOf x.dv).o (slOf x.dv).n,y.at.1∈ownB x.dv:=fun x hx=>sl_facts hI (h.rd.2 x hx).1.1 (h.data x hx) .byte
 have hcnt:∀ n,n≤us.length→count (rowE (rsOf v us).f n)≤n*1002:=by
  intro n
  induction n with
  | zero=>intro _;simp [rowE,count]
  | succ n ih =>
   intro hn
   rw [rowE_count]
   have:=ih (by omega)
   obtain ⟨x,hx⟩:∃ x,us[n]?=some x:=⟨_,List.getElem?_eq_getElem (by omega)⟩
   have hm:=List.mem_of_getElem? hx
   have:count ((rsOf v us).f n)=(slOf x.dv).n+1+1:=by
    show count (recE _ _ ((us.map (fun x=>slOf x.dv)).getD n zS))=_
    rw [getD_map _ _ _ hx,recE_count]
   have h2:=(sub x hm).2.1
   have h3:=(h.rd.2 x hm).2
   omega
 rcases row_facts hI h.rd.1 h.row with ⟨rfl,h0⟩|⟨g,cap,rfl,h1,h2,h3,h4,h5,h6⟩
 ·obtain rfl:us=[]:=List.length_eq_zero_iff.1 h0
  exact ⟨rfl,⟨by simp [rsOf],⟨by simp [rsOf],by simp [rsOf,slOf,maxLen]⟩,by simp [rsOf]⟩,by simp [Rs.es,rsOf,rowE,Ok],by simp [Rs.es,rsOf,rowE,shape.Nd],by simp [Rs.es,rsOf,rowE],by simp [Rs.es,rsOf,rowE,count]⟩
 have hf:∀ (k:Nat) (x:RV),us[k]?=some x→(rsOf (.slice (some ⟨g,0,none⟩) us.length cap) us).f k=[.leaf g (0+k*3) .int,.leaf g (0+k*3+1) .int,.head g (0+k*3+2) (.slice (slOf x.dv).ao (slOf x.dv).n (slOf x.dv).cap)]++plain (slOf x.dv).b .byte (slOf x.dv).o (slOf x.dv).n:=fun k x hx=>by
  show recE g (0+k*3) ((us.map (fun x=>slOf x.dv)).getD k zS)=_
  rw [getD_map _ _ _ hx]
  rfl
 have hlen:(rsOf (.slice (some ⟨g,0,none⟩) us.length cap) us).xs.length=us.length:=by simp [rsOf]
 have hg:∀ (k:Nat) (x:RV),us[k]?=some x→g∉ownB x.dv:=fun k x hx=>by
  have:=h.nd
  refine fun hb=>nd_apart this (x:=g) (by simp [ownB,Value.ownBlock]) (List.mem_flatMap.2 ⟨x,List.mem_of_getElem? hx,hb⟩)
 have he:∀ k,k<us.length→∃ x,us[k]?=some x:=fun k hk=>⟨_,List.getElem?_eq_getElem hk⟩
 have hr:(slOf (.slice (some ⟨g,0,none⟩) us.length cap)).cap=cap:=rfl
 have hmem:∀ (k:Nat) (x:RV),us[k]?=some x→∀ e∈(rsOf (.slice (some ⟨g,0,none⟩) us.length cap) us).f k,(e.at.1=g∧0+k*3≤e.at.2∧e.at.2<0+k*3+3)∨e.at.1∈ownB x.dv:=fun k x hx e hm=>by
  rw [hf k x hx] at hm
  rcases List.mem_append.1 hm with hm | hm
  ·left
   simp only [List.mem_cons,List.not_mem_nil,or_false] at hm
   rcases hm with rfl | rfl | rfl <;> simp [En.at] <;> omega
  ·exact .inr ((sub x (List.mem_of_getElem? hx)).2.2.2.2 e hm)
 refine ⟨by rw [hlen];rfl,⟨fun _=>rfl,⟨by rw [hlen];exact h1,h2⟩,fun s hs => ?_⟩,fun e hm => ?_,?_,fun e hm => ?_,by have:=hcnt us.length (Nat.le_refl _);unfold Rs.es;rw [hlen];exact this⟩
 ·obtain ⟨x,hx,rfl⟩:=List.mem_map.1 hs
  exact (sub x hx).2.2.1
 ·obtain ⟨k,hk,hm⟩:=rowE_mem hm
  rw [hlen] at hk
  obtain ⟨x,hx⟩:=he k hk
  rw [hf k x hx] at hm
  have hfl:=fun i hi=>flat_get recCells 3 recCells_len us k i x hx hi
  rcases List.mem_append.1 hm with hm | hm
  ·simp only [List.mem_cons,List.not_mem_nil,or_false] at hm
   rcases hm with rfl | rfl | rfl
   ·refine ⟨⟨.int .i64 x.r.term,?_⟩,h6 _⟩
    rw [Nat.zero_add]
    exact h5 (k*3+0) _ (by rw [hfl 0 (by decide)];rfl)
   ·refine ⟨⟨.int .i64 x.r.index,?_⟩,h6 _⟩
    rw [Nat.zero_add]
    exact h5 (k*3+1) _ (by rw [hfl 1 (by decide)];rfl)
   ·show w.cell? ⟨g,0+k*3+2,none⟩=_
    rw [Nat.zero_add,←(sub x (List.mem_of_getElem? hx)).1]
    exact h5 (k*3+2) _ (by rw [hfl 2 (by decide)];rfl)
  ·exact (sub x (List.mem_of_getElem? hx)).2.2.2.1 e hm
 ·unfold Rs.es
  rw [hlen]
  refine rowE_nd _ g 0 3 (fun k=>ownB (us.getD k ⟨⟨0,0,[]⟩,.slice none 0 0⟩).dv) us.length (fun k hk => ?_) (fun k hk e hm => ?_) (fun k hk => ?_) (fun j k hj hk b hb => ?_)
  ·obtain ⟨x,hx⟩:=he k hk
   rw [hf k x hx]
   refine Nd.mk (nd3 ..) (plain_nd ..) (fun a ha e hm e' => ?_)
   have q1:a.at.1=e.at.1:=by rw [e']
   have q2:=(sub x (List.mem_of_getElem? hx)).2.2.2.2 e hm
   refine hg k x hx ?_
   rw [←q1] at q2
   simp only [List.mem_cons,List.not_mem_nil,or_false] at ha
   rcases ha with rfl | rfl | rfl <;> exact q2
  ·obtain ⟨x,hx⟩:=he k hk
   rcases hmem k x hx e hm with a | a
   ·exact .inl a
   ·exact .inr (by rw [List.getD_eq_getElem?_getD,hx];exact a)
  ·obtain ⟨x,hx⟩:=he k hk
   rw [List.getD_eq_getElem?_getD,hx]
   exact hg k x hx
  ·obtain ⟨x,hx⟩:=he k hk
   obtain ⟨y,hy⟩:=he j (by omega)
   rw [List.getD_eq_getElem?_getD,hx]
   rw [List.getD_eq_getElem?_getD,hy] at hb
   exact flat_apart (fun x=>ownB x.dv) us (nd_right h.nd) j k y x hj hy hx b hb
 ·obtain ⟨k,hk,hm⟩:=rowE_mem hm
  rw [hlen] at hk
  obtain ⟨x,hx⟩:=he k hk
  rcases hmem k x hx e hm with a | a
  ·rw [a.1];simp [recsB,ownB,Value.ownBlock]
  ·exact List.mem_append.2 (.inr (List.mem_flatMap.2 ⟨x,List.mem_of_getElem? hx,a⟩))
end Go.Proofs.YtcfdmbkiinjmaaaGreat.shp
namespace Go.Proofs.YtcfdmbkiinjmaaaGreat.shp
open Go.ChangeShapes Go.WideShapes Go.ChangeAt Go.RowKit
open Raft mem own shape mk2 mk3 mk5 gtold gt8
theorem rowE_most (f:Nat→List En) (z:Nat):∀ n,(∀ k,k<n→count (f k)≤z)→count (rowE f n)≤n*z
 | 0,_=>by simp [rowE,count]
 | n+1,h=>by
  rw [rowE_count,Nat.succ_mul]
  have:=rowE_most f z n (fun k hk=>h k (by omega))
  have:=h n (by omega)
  omega
def msOf (v:Value) (ms:List MS):Ms:=⟨(slOf v).ao,(slOf v).b,0,(slOf v).cap,ms.map (fun x=>rsOf x.lv x.us)⟩
set_option maxHeartbeats 1000000 in
theorem ms_facts {M:Fz} {w:World} {lo:Nat} {v:Value} {ms:List MS} (hI:In M w) (h:MsgsS M lo v ms) (hl:∀ x∈ms,x.us.length≤1000):v=.slice (msOf v ms).ao (msOf v ms).xs.length (msOf v ms).cap∧(msOf v ms).Good∧Ok w (msOf v ms).es∧shape.Nd (msOf v ms).es∧(∀ e∈(msOf v ms).es,e.at.1∈msgsB v ms)∧count (msOf v ms).es≤ms.length*1002008:=by
 have sub:=fun x hx=>rs_facts hI (h.each x hx).1
 have hcnt:count (msOf v ms).es≤ms.length*1002008:=by
  have e:(msOf v ms).xs.length=ms.length:=by simp [msOf]
  unfold Ms.es
  rw [e]
  refine rowE_most _ _ _ (fun k hk => ?_)
  obtain ⟨x,hx⟩:∃ x,ms[k]?=some x:=⟨_,List.getElem?_eq_getElem hk⟩
  have:count ((msOf v ms).f k)=count (rsOf x.lv x.us).es+8:=by
   show count (msgE _ _ ((ms.map (fun x=>rsOf x.lv x.us)).getD k zR))=_
   rw [getD_map _ _ _ hx,msgE_count]
  have h2:=(sub x (List.mem_of_getElem? hx)).2.2.2.2.2
  have h3:=hl x (List.mem_of_getElem? hx)
  have h4:=Nat.mul_le_mul_right 1002 h3
  omega
 rcases row_facts hI h.rd h.row with ⟨rfl,h0⟩|⟨g,cap,rfl,h1,h2,h3,h4,h5,h6⟩
 ·obtain rfl:ms=[]:=List.length_eq_zero_iff.1 h0
  exact ⟨rfl,⟨by simp [msOf],⟨by simp [msOf],by simp [msOf,slOf,maxLen]⟩,by simp [msOf]⟩,by simp [Ms.es,msOf,rowE,Ok],by simp [Ms.es,msOf,rowE,shape.Nd],by simp [Ms.es,msOf,rowE],hcnt⟩
 have hf:∀ (k:Nat) (x:MS),ms[k]?=some x→(msOf (.slice (some ⟨g,0,none⟩) ms.length cap) ms).f k=[.leaf g (0+k*9) .int,.leaf g (0+k*9+1) .int,.leaf g (0+k*9+2) .int,.leaf g (0+k*9+3) .int,.leaf g (0+k*9+4) .int,.leaf g (0+k*9+5) .int,.leaf g (0+k*9+6) .int,.leaf g (0+k*9+7) .bool,.head g (0+k*9+8) (.slice (rsOf x.lv x.us).ao (rsOf x.lv x.us).xs.length (rsOf x.lv x.us).cap)]++(rsOf x.lv x.us).es:=fun k x hx=>by
  show msgE g (0+k*9) ((ms.map (fun x=>rsOf x.lv x.us)).getD k zR)=_
  rw [getD_map _ _ _ hx]
  rfl
 have hlen:(msOf (.slice (some ⟨g,0,none⟩) ms.length cap) ms).xs.length=ms.length:=by simp [msOf]
 have hg:∀ (k:Nat) (x:MS),ms[k]?=some x→g∉recsB x.lv x.us:=fun k x hx hb=>nd_apart h.nd (x:=g) (by simp [ownB,Value.ownBlock]) (List.mem_flatMap.2 ⟨x,List.mem_of_getElem? hx,hb⟩)
 have he:∀ k,k<ms.length→∃ x,ms[k]?=some x:=fun k hk=>⟨_,List.getElem?_eq_getElem hk⟩
 have hmem:∀ (k:Nat) (x:MS),ms[k]?=some x→∀ e∈(msOf (.slice (some ⟨g,0,none⟩) ms.length cap) ms).f k,(e.at.1=g∧0+k*9≤e.at.2∧e.at.2<0+k*9+9)∨e.at.1∈recsB x.lv x.us:=fun k x hx e hm=>by
  rw [hf k x hx] at hm
  rcases List.mem_append.1 hm with hm | hm
  ·left
   simp only [List.mem_cons,List.not_mem_nil,or_false] at hm
   rcases hm with rfl | rfl | rfl | rfl | rfl | rfl | rfl | rfl | rfl <;> simp [En.at] <;> omega
  ·exact .inr ((sub x (List.mem_of_getElem? hx)).2.2.2.2.1 e hm)
 refine ⟨by rw [hlen];rfl,⟨fun _=>rfl,⟨by rw [hlen];exact h1,h2⟩,fun s hs => ?_⟩,fun e hm => ?_,?_,fun e hm => ?_,hcnt⟩
 ·obtain ⟨x,hx,rfl⟩:=List.mem_map.1 hs
  exact (sub x hx).2.1
 ·obtain ⟨k,hk,hm⟩:=rowE_mem hm
  rw [hlen] at hk
  obtain ⟨x,hx⟩:=he k hk
  rw [hf k x hx] at hm
  have hfl:=fun i hi=>flat_get msgCells 9 msgCells_len (ms.map MS.mv) k i x.mv (by rw [List.getElem?_map,hx];rfl) hi
  rcases List.mem_append.1 hm with hm | hm
  ·simp only [List.mem_cons,List.not_mem_nil,or_false] at hm
   rcases hm with rfl | rfl | rfl | rfl | rfl | rfl | rfl | rfl | rfl
   ·refine ⟨⟨.int .i64 x.m.kind,?_⟩,h6 _⟩
    rw [Nat.zero_add]
    exact h5 (k*9+0) _ (by rw [hfl 0 (by decide)];rfl)
   ·refine ⟨⟨.int .i64 x.m.frm,?_⟩,h6 _⟩
    rw [Nat.zero_add]
    exact h5 (k*9+1) _ (by rw [hfl 1 (by decide)];rfl)
   ·refine ⟨⟨.int .i64 x.m.to,?_⟩,h6 _⟩
    rw [Nat.zero_add]
    exact h5 (k*9+2) _ (by rw [hfl 2 (by decide)];rfl)
   ·refine ⟨⟨.int .i64 x.m.term,?_⟩,h6 _⟩
    rw [Nat.zero_add]
    exact h5 (k*9+3) _ (by rw [hfl 3 (by decide)];rfl)
   ·refine ⟨⟨.int .i64 x.m.a,?_⟩,h6 _⟩
    rw [Nat.zero_add]
    exact h5 (k*9+4) _ (by rw [hfl 4 (by decide)];rfl)
   ·refine ⟨⟨.int .i64 x.m.b,?_⟩,h6 _⟩
    rw [Nat.zero_add]
    exact h5 (k*9+5) _ (by rw [hfl 5 (by decide)];rfl)
   ·refine ⟨⟨.int .i64 x.m.c,?_⟩,h6 _⟩
    rw [Nat.zero_add]
    exact h5 (k*9+6) _ (by rw [hfl 6 (by decide)];rfl)
   ·refine ⟨⟨.bool x.m.ok,?_⟩,h6 _⟩
    rw [Nat.zero_add]
    exact h5 (k*9+7) _ (by rw [hfl 7 (by decide)];rfl)
   ·show w.cell? ⟨g,0+k*9+8,none⟩=_
    rw [Nat.zero_add,←(sub x (List.mem_of_getElem? hx)).1]
    exact h5 (k*9+8) _ (by rw [hfl 8 (by decide)];rfl)
  ·exact (sub x (List.mem_of_getElem? hx)).2.2.1 e hm
 ·unfold Ms.es
  rw [hlen]
  refine rowE_nd _ g 0 9 (fun k=>recsB (ms.getD k ⟨⟨0,0,0,0,0,0,0,false,[]⟩,.slice none 0 0,[]⟩).lv (ms.getD k ⟨⟨0,0,0,0,0,0,0,false,[]⟩,.slice none 0 0,[]⟩).us) ms.length (fun k hk => ?_) (fun k hk e hm => ?_) (fun k hk => ?_) (fun j k hj hk b hb => ?_)
  ·obtain ⟨x,hx⟩:=he k hk
   rw [hf k x hx]
   refine Nd.mk (by simp [shape.Nd,En.at]) (sub x (List.mem_of_getElem? hx)).2.2.2.1 (fun a ha e hm e' => ?_)
   have q1:a.at.1=e.at.1:=by rw [e']
   have q2:=(sub x (List.mem_of_getElem? hx)).2.2.2.2.1 e hm
   refine hg k x hx ?_
   rw [←q1] at q2
   simp only [List.mem_cons,List.not_mem_nil,or_false] at ha
   rcases ha with rfl | rfl | rfl | rfl | rfl | rfl | rfl | rfl | rfl <;> exact q2
  ·obtain ⟨x,hx⟩:=he k hk
   rcases hmem k x hx e hm with a | a
   ·exact .inl a
   ·exact .inr (by rw [List.getD_eq_getElem?_getD,hx];exact a)
  ·obtain ⟨x,hx⟩:=he k hk
   rw [List.getD_eq_getElem?_getD,hx]
   exact hg k x hx
  ·obtain ⟨x,hx⟩:=he k hk
   obtain ⟨y,hy⟩:=he j (by omega)
   rw [List.getD_eq_getElem?_getD,hx]
   rw [List.getD_eq_getElem?_getD,hy] at hb
   exact flat_apart (fun x=>recsB x.lv x.us) ms (nd_right h.nd) j k y x hj hy hx b hb
 ·obtain ⟨k,hk,hm⟩:=rowE_mem hm
  rw [hlen] at hk
  obtain ⟨x,hx⟩:=he k hk
  rcases hmem k x hx e hm with a | a
  ·rw [a.1];simp [msgsB,ownB,Value.ownBlock]
  ·exact List.mem_append.2 (.inr (List.mem_flatMap.2 ⟨x,List.mem_of_getElem? hx,a⟩))
end Go.Proofs.YtcfdmbkiinjmaaaGreat.shp
namespace Go.Proofs.YtcfdmbkiinjmaaaGreat.shp
open Go.ChangeShapes Go.WideShapes Go.ChangeAt Go.RowKit
open Raft mem own shape mk2 mk3 mk5 gtold gt8
def peOf (x:PS):Pe:=⟨rsOf x.lv x.us,slOf x.vv,slOf x.nv,slOf x.mv⟩
def psOf (v:Value) (ps:List PS):Ps:=⟨(slOf v).ao,(slOf v).b,0,(slOf v).cap,ps.map peOf⟩
theorem Nd.cons {e:En} {es:List En} (h:shape.Nd es) (hn:∀ x∈es,e.at≠x.at):shape.Nd (e::es):=Nd.mk (a:=[e]) (by simp [shape.Nd]) h (fun x hx y hy=>by rw [List.mem_singleton.1 hx];exact hn y hy)
set_option maxHeartbeats 2000000 in
theorem ps_facts {M:Fz} {w:World} {lo:Nat} {v:Value} {ps:List PS} (hI:In M w) (h:PeersS M lo v ps) (hl:∀ x∈ps,x.us.length≤1000∧x.p.votes.length≤1000∧x.p.next.length≤1000∧x.p.mat.length≤1000):v=.slice (psOf v ps).ao (psOf v ps).xs.length (psOf v ps).cap∧(psOf v ps).Good∧Ok w (psOf v ps).es∧shape.Nd (psOf v ps).es∧(∀ e∈(psOf v ps).es,e.at.1∈peersB v ps)∧count (psOf v ps).es≤ps.length*1005005:=by
 have sub:=fun x hx=>rs_facts hI (h.each x hx).log
 have sv:=fun x hx=>sl_facts hI (h.each x hx).votes.1 (h.each x hx).votes.2 .bool
 have sn:=fun x hx=>sl_facts hI (h.each x hx).next.1 (h.each x hx).next.2 .int
 have sm:=fun x hx=>sl_facts hI (h.each x hx).mat.1 (h.each x hx).mat.2 .int
 have hcnt:count (psOf v ps).es≤ps.length*1005005:=by
  have e:(psOf v ps).xs.length=ps.length:=by simp [psOf]
  unfold Ps.es
  rw [e]
  refine rowE_most _ _ _ (fun k hk => ?_)
  obtain ⟨x,hx⟩:∃ x,ps[k]?=some x:=⟨_,List.getElem?_eq_getElem hk⟩
  have hm:=List.mem_of_getElem? hx
  have:count ((psOf v ps).f k)=5+count (rsOf x.lv x.us).es+(slOf x.vv).n+(slOf x.nv).n+(slOf x.mv).n:=by
   show count (peerE _ _ ((ps.map peOf).getD k zP))=_
   rw [getD_map _ _ _ hx,peerE_count]
   rfl
  have h2:=(sub x hm).2.2.2.2.2
  have h3:=hl x hm
  have h4:=Nat.mul_le_mul_right 1002 h3.1
  have:=(sv x hm).2.1
  have:=(sn x hm).2.1
  have:=(sm x hm).2.1
  omega
 rcases row_facts hI h.rd h.row with ⟨rfl,h0⟩|⟨g,cap,rfl,h1,h2,h3,h4,h5,h6⟩
 ·obtain rfl:ps=[]:=List.length_eq_zero_iff.1 h0
  exact ⟨rfl,⟨by simp [psOf],⟨by simp [psOf],by simp [psOf,slOf,maxLen]⟩,by simp [psOf]⟩,by simp [Ps.es,psOf,rowE,Ok],by simp [Ps.es,psOf,rowE,shape.Nd],by simp [Ps.es,psOf,rowE],hcnt⟩
 have hf:∀ (k:Nat) (x:PS),ps[k]?=some x→(psOf (.slice (some ⟨g,0,none⟩) ps.length cap) ps).f k=[.leaf g (0+k*9) .bool,.leaf g (0+k*9+1) .int,.leaf g (0+k*9+2) .int,.leaf g (0+k*9+3) .int,.leaf g (0+k*9+4) .int]++.head g (0+k*9+5) (.slice (rsOf x.lv x.us).ao (rsOf x.lv x.us).xs.length (rsOf x.lv x.us).cap)::((rsOf x.lv x.us).es++.head g (0+k*9+6) (.slice (slOf x.vv).ao (slOf x.vv).n (slOf x.vv).cap)::(plain (slOf x.vv).b .bool (slOf x.vv).o (slOf x.vv).n++.head g (0+k*9+7) (.slice (slOf x.nv).ao (slOf x.nv).n (slOf x.nv).cap)::(plain (slOf x.nv).b .int (slOf x.nv).o (slOf x.nv).n++.head g (0+k*9+8) (.slice (slOf x.mv).ao (slOf x.mv).n (slOf x.mv).cap)::plain (slOf x.mv).b .int (slOf x.mv).o (slOf x.mv).n))):=fun k x hx=>by
  show peerE g (0+k*9) ((ps.map peOf).getD k zP)=_
  rw [getD_map _ _ _ hx]
  rfl
 have hlen:(psOf (.slice (some ⟨g,0,none⟩) ps.length cap) ps).xs.length=ps.length:=by simp [psOf]
 have hg:∀ (k:Nat) (x:PS),ps[k]?=some x→g∉x.bl:=fun k x hx hb=>nd_apart h.nd (x:=g) (by simp [ownB,Value.ownBlock]) (List.mem_flatMap.2 ⟨x,List.mem_of_getElem? hx,hb⟩)
 have he:∀ k,k<ps.length→∃ x,ps[k]?=some x:=fun k hk=>⟨_,List.getElem?_eq_getElem hk⟩
 have b1:∀ x∈ps,∀ e∈(rsOf x.lv x.us).es,e.at.1∈recsB x.lv x.us:=fun x hx=>(sub x hx).2.2.2.2.1
 have b2:=fun x hx=>(sv x hx).2.2.2.2
 have b3:=fun x hx=>(sn x hx).2.2.2.2
 have b4:=fun x hx=>(sm x hx).2.2.2.2
 have hmem:∀ (k:Nat) (x:PS),ps[k]?=some x→∀ e∈(psOf (.slice (some ⟨g,0,none⟩) ps.length cap) ps).f k,(e.at.1=g∧0+k*9≤e.at.2∧e.at.2<0+k*9+9)∨e.at.1∈x.bl:=fun k x hx e hm=>by
  have hxm:=List.mem_of_getElem? hx
  rw [hf k x hx] at hm
  simp only [List.mem_append,List.mem_cons,List.not_mem_nil,or_false] at hm
  rcases hm with (rfl | rfl | rfl | rfl | rfl) | rfl | hm | rfl | hm | rfl | hm | rfl | hm
  ·left;simp [En.at]
  ·left;simp [En.at]
  ·left;simp [En.at]
  ·left;simp [En.at]
  ·left;simp [En.at]
  ·left;simp [En.at]
  ·right;have:=b1 x hxm e hm;simp [PS.bl,this]
  ·left;simp [En.at]
  ·right;have:=b2 x hxm e hm;simp [PS.bl,this]
  ·left;simp [En.at]
  ·right;have:=b3 x hxm e hm;simp [PS.bl,this]
  ·left;simp [En.at]
  ·right;have:=b4 x hxm e hm;simp [PS.bl,this]
 refine ⟨by rw [hlen];rfl,⟨fun _=>rfl,⟨by rw [hlen];exact h1,h2⟩,fun s hs => ?_⟩,fun e hm => ?_,?_,fun e hm => ?_,hcnt⟩
 ·obtain ⟨x,hx,rfl⟩:=List.mem_map.1 hs
  exact ⟨(sub x hx).2.1,(sv x hx).2.2.1,(sn x hx).2.2.1,(sm x hx).2.2.1⟩
 ·obtain ⟨k,hk,hm⟩:=rowE_mem hm
  rw [hlen] at hk
  obtain ⟨x,hx⟩:=he k hk
  have hxm:=List.mem_of_getElem? hx
  rw [hf k x hx] at hm
  have hfl:=fun i hi=>flat_get peerCells 9 peerCells_len (ps.map PS.pv) k i (PS.pv x) (by rw [List.getElem?_map,hx];rfl) hi
  simp only [List.mem_append,List.mem_cons,List.not_mem_nil,or_false] at hm
  rcases hm with (rfl | rfl | rfl | rfl | rfl) | rfl | hm | rfl | hm | rfl | hm | rfl | hm
  ·refine ⟨⟨.bool x.p.up,?_⟩,h6 _⟩
   rw [Nat.zero_add]
   exact h5 (k*9+0) _ (by rw [hfl 0 (by decide)];rfl)
  ·refine ⟨⟨.int .i64 x.p.term,?_⟩,h6 _⟩
   rw [Nat.zero_add]
   exact h5 (k*9+1) _ (by rw [hfl 1 (by decide)];rfl)
  ·refine ⟨⟨.int .i64 x.p.vote,?_⟩,h6 _⟩
   rw [Nat.zero_add]
   exact h5 (k*9+2) _ (by rw [hfl 2 (by decide)];rfl)
  ·refine ⟨⟨.int .i64 x.p.commit,?_⟩,h6 _⟩
   rw [Nat.zero_add]
   exact h5 (k*9+3) _ (by rw [hfl 3 (by decide)];rfl)
  ·refine ⟨⟨.int .i64 x.p.role,?_⟩,h6 _⟩
   rw [Nat.zero_add]
   exact h5 (k*9+4) _ (by rw [hfl 4 (by decide)];rfl)
  ·show w.cell? ⟨g,0+k*9+5,none⟩=_
   rw [Nat.zero_add,←(sub x hxm).1]
   exact h5 (k*9+5) _ (by rw [hfl 5 (by decide)];rfl)
  ·exact (sub x hxm).2.2.1 e hm
  ·show w.cell? ⟨g,0+k*9+6,none⟩=_
   rw [Nat.zero_add,←(sv x hxm).1]
   exact h5 (k*9+6) _ (by rw [hfl 6 (by decide)];rfl)
  ·exact (sv x hxm).2.2.2.1 e hm
  ·show w.cell? ⟨g,0+k*9+7,none⟩=_
   rw [Nat.zero_add,←(sn x hxm).1]
   exact h5 (k*9+7) _ (by rw [hfl 7 (by decide)];rfl)
  ·exact (sn x hxm).2.2.2.1 e hm
  ·show w.cell? ⟨g,0+k*9+8,none⟩=_
   rw [Nat.zero_add,←(sm x hxm).1]
   exact h5 (k*9+8) _ (by rw [hfl 8 (by decide)];rfl)
  ·exact (sm x hxm).2.2.2.1 e hm
 ·unfold Ps.es
  rw [hlen]
  refine rowE_nd _ g 0 9 (fun k=>PS.bl (ps.getD k ⟨Cl.at ⟨[],[],[],false⟩ 0,.slice none 0 0,.slice none 0 0,.slice none 0 0,.slice none 0 0,[]⟩)) ps.length (fun k hk => ?_) (fun k hk e hm => ?_) (fun k hk => ?_) (fun j k hj hk b hb => ?_)
  ·obtain ⟨x,hx⟩:=he k hk
   have hxm:=List.mem_of_getElem? hx
   rw [hf k x hx]
   have hnd:=(h.each x hxm).nd
   have hgx:=hg k x hx
   simp only [PS.bl,List.mem_append,not_or] at hgx
   obtain ⟨g1,g2,g3,g4⟩:=hgx
   have far:∀ {L:List En} {B:List Nat} (hL:∀ e∈L,e.at.1∈B) (hB:g∉B) (i:Nat) (e:En),e∈L→((g,i):Nat×Nat)≠e.at:=fun hL hB i e he' e'=>hB (by have:=hL e he';rw [←e'] at this;exact this)
   have r1:=b1 x hxm
   have r2:=b2 x hxm
   have r3:=b3 x hxm
   have r4:=b4 x hxm
   have a12:∀ b∈recsB x.lv x.us,b∉ownB x.vv∧b∉ownB x.nv∧b∉ownB x.mv:=fun b hb=>by
    have:=nd_apart hnd hb
    simpa only [List.mem_append,not_or] using this
   have a23:∀ b∈ownB x.vv,b∉ownB x.nv∧b∉ownB x.mv:=fun b hb=>by
    have:=nd_apart (nd_right hnd) hb
    simpa only [List.mem_append,not_or] using this
   have a34:∀ b∈ownB x.nv,b∉ownB x.mv:=fun b hb=>nd_apart (nd_right (nd_right hnd)) hb
   have bl:∀ {L L':List En} {B B':List Nat} (hL:∀ e∈L,e.at.1∈B) (hL':∀ e∈L',e.at.1∈B') (hB:∀ b∈B,b∉B') (e e':En),e∈L→e'∈L'→e.at≠e'.at:=fun hL hL' hB e e' h1 h2 h3=>hB _ (hL e h1) (by rw [h3];exact hL' e' h2)
   have ix:∀ i j:Nat,i≠j→((g,i):Nat×Nat)≠(g,j):=fun i j hij e=>hij (by simpa using e)
   have s4:shape.Nd (.head g (0+k*9+8) (.slice (slOf x.mv).ao (slOf x.mv).n (slOf x.mv).cap)::plain (slOf x.mv).b .int (slOf x.mv).o (slOf x.mv).n):=Nd.cons (plain_nd ..) (fun e he'=>far r4 g4 _ e he')
   have s3:=Nd.cons (e:=.head g (0+k*9+7) (.slice (slOf x.nv).ao (slOf x.nv).n (slOf x.nv).cap)) (Nd.mk (plain_nd (slOf x.nv).b .int (slOf x.nv).o (slOf x.nv).n) s4 (fun e he' y hy=>by
    rcases List.mem_cons.1 hy with rfl | hy
    ·exact fun e'=>far r3 g3 _ e he' e'.symm
    ·exact bl r3 r4 a34 e y he' hy)) (fun y hy=>by
    rcases List.mem_append.1 hy with hy | hy
    ·exact far r3 g3 _ y hy
    ·rcases List.mem_cons.1 hy with rfl | hy
     ·exact ix _ _ (by omega)
     ·exact far r4 g4 _ y hy)
   have s2:=Nd.cons (e:=.head g (0+k*9+6) (.slice (slOf x.vv).ao (slOf x.vv).n (slOf x.vv).cap)) (Nd.mk (plain_nd (slOf x.vv).b .bool (slOf x.vv).o (slOf x.vv).n) s3 (fun e he' y hy=>by
    simp only [List.mem_append,List.mem_cons] at hy
    rcases hy with rfl | hy | rfl | hy
    ·exact fun e'=>far r2 g2 _ e he' e'.symm
    ·exact bl r2 r3 (fun b hb=>(a23 b hb).1) e y he' hy
    ·exact fun e'=>far r2 g2 _ e he' e'.symm
    ·exact bl r2 r4 (fun b hb=>(a23 b hb).2) e y he' hy)) (fun y hy=>by
    simp only [List.mem_append,List.mem_cons] at hy
    rcases hy with hy | rfl | hy | rfl | hy
    ·exact far r2 g2 _ y hy
    ·exact ix _ _ (by omega)
    ·exact far r3 g3 _ y hy
    ·exact ix _ _ (by omega)
    ·exact far r4 g4 _ y hy)
   have s1:=Nd.cons (e:=.head g (0+k*9+5) (.slice (rsOf x.lv x.us).ao (rsOf x.lv x.us).xs.length (rsOf x.lv x.us).cap)) (Nd.mk (sub x hxm).2.2.2.1 s2 (fun e he' y hy=>by
    simp only [List.mem_append,List.mem_cons] at hy
    rcases hy with rfl | hy | rfl | hy | rfl | hy
    ·exact fun e'=>far r1 g1 _ e he' e'.symm
    ·exact bl r1 r2 (fun b hb=>(a12 b hb).1) e y he' hy
    ·exact fun e'=>far r1 g1 _ e he' e'.symm
    ·exact bl r1 r3 (fun b hb=>(a12 b hb).2.1) e y he' hy
    ·exact fun e'=>far r1 g1 _ e he' e'.symm
    ·exact bl r1 r4 (fun b hb=>(a12 b hb).2.2) e y he' hy)) (fun y hy=>by
    simp only [List.mem_append,List.mem_cons] at hy
    rcases hy with hy | rfl | hy | rfl | hy | rfl | hy
    ·exact far r1 g1 _ y hy
    ·exact ix _ _ (by omega)
    ·exact far r2 g2 _ y hy
    ·exact ix _ _ (by omega)
    ·exact far r3 g3 _ y hy
    ·exact ix _ _ (by omega)
    ·exact far r4 g4 _ y hy)
   refine Nd.mk (by simp [shape.Nd,En.at]) s1 (fun a ha y hy => ?_)
   have ea:∃ i,a.at=(g,i)∧i<0+k*9+5:=by
    simp only [List.mem_cons,List.not_mem_nil,or_false] at ha
    rcases ha with rfl | rfl | rfl | rfl | rfl
    ·exact ⟨_,rfl,by omega⟩
    ·exact ⟨_,rfl,by omega⟩
    ·exact ⟨_,rfl,by omega⟩
    ·exact ⟨_,rfl,by omega⟩
    ·exact ⟨_,rfl,by omega⟩
   obtain ⟨i,ea,hi⟩:=ea
   rw [ea]
   simp only [List.mem_append,List.mem_cons] at hy
   rcases hy with rfl | hy | rfl | hy | rfl | hy | rfl | hy
   ·exact ix _ _ (by omega)
   ·exact far r1 g1 _ y hy
   ·exact ix _ _ (by omega)
   ·exact far r2 g2 _ y hy
   ·exact ix _ _ (by omega)
   ·exact far r3 g3 _ y hy
   ·exact ix _ _ (by omega)
   ·exact far r4 g4 _ y hy
  ·obtain ⟨x,hx⟩:=he k hk
   rcases hmem k x hx e hm with a | a
   ·exact .inl a
   ·exact .inr (by rw [List.getD_eq_getElem?_getD,hx];exact a)
  ·obtain ⟨x,hx⟩:=he k hk
   rw [List.getD_eq_getElem?_getD,hx]
   exact hg k x hx
  ·obtain ⟨x,hx⟩:=he k hk
   obtain ⟨y,hy⟩:=he j (by omega)
   rw [List.getD_eq_getElem?_getD,hx]
   rw [List.getD_eq_getElem?_getD,hy] at hb
   exact flat_apart PS.bl ps (nd_right h.nd) j k y x hj hy hx b hb
 ·obtain ⟨k,hk,hm⟩:=rowE_mem hm
  rw [hlen] at hk
  obtain ⟨x,hx⟩:=he k hk
  rcases hmem k x hx e hm with a | a
  ·rw [a.1];simp [peersB,ownB,Value.ownBlock]
  ·exact List.mem_append.2 (.inr (List.mem_flatMap.2 ⟨x,List.mem_of_getElem? hx,a⟩))
def cuOf (pv nv cv:Value) (ps:List PS) (ms:List MS) (us:List RV):Cu:=⟨psOf pv ps,msOf nv ms,rsOf cv us⟩
theorem cu_facts {M:Fz} {w:World} {lo:Nat} {c:Cl} {pv nv cv:Value} {ps:List PS} {ms:List MS} {us:List RV} (hI:In M w) (h:CluS M lo c pv nv cv ps ms us) (hp:∀ x∈c.peers,x.log.length≤1000∧x.votes.length≤1000∧x.next.length≤1000∧x.mat.length≤1000) (hm:∀ x∈c.net,x.log.length≤1000) (hc:c.chosen.length≤1000∧c.net.length≤1000∧c.peers.length≤1000) :
  (pv=.slice (cuOf pv nv cv ps ms us).p.ao (cuOf pv nv cv ps ms us).p.xs.length (cuOf pv nv cv ps ms us).p.cap∧nv=.slice (cuOf pv nv cv ps ms us).m.ao (cuOf pv nv cv ps ms us).m.xs.length (cuOf pv nv cv ps ms us).m.cap∧cv=.slice (cuOf pv nv cv ps ms us).c.ao (cuOf pv nv cv ps ms us).c.xs.length (cuOf pv nv cv ps ms us).c.cap)∧(cuOf pv nv cv ps ms us).Good∧Ok w (cuOf pv nv cv ps ms us).es∧shape.Nd (cuOf pv nv cv ps ms us).es∧(∀ e∈(cuOf pv nv cv ps ms us).es,e.at.1∈peersB pv ps++(msgsB nv ms++recsB cv us))∧shape.count (cuOf pv nv cv ps ms us).es≤3000000000:=by
 obtain ⟨h1,h2,h3,h4,h5,h6,h7⟩:=h
 have lenE:∀ {l:List RV} {r:List Rc},l.map (·.r)=r→l.length=r.length:=fun e=>by rw [←e];simp
 obtain ⟨p1,p2,p3,p4,p5,p6⟩:=ps_facts hI h2 (fun x hx=>by
  have q:=hp x.p (by rw [←h1];exact List.mem_map_of_mem hx)
  exact ⟨by rw [lenE (h2.each x hx).recs];exact q.1,q.2⟩)
 obtain ⟨m1,m2,m3,m4,m5,m6⟩:=ms_facts hI h4 (fun x hx=>by
  rw [lenE (h4.each x hx).2]
  exact hm x.m (by rw [←h3];exact List.mem_map_of_mem hx))
 obtain ⟨c1,c2,c3,c4,c5,c6⟩:=rs_facts hI h6
 have l1:ps.length=c.peers.length:=by rw [←h1];simp
 have l2:ms.length=c.net.length:=by rw [←h3];simp
 have l3:=lenE h5
 refine ⟨⟨p1,m1,c1⟩,⟨p2,m2,c2⟩,fun e he => ?_,?_,fun e he => ?_,?_⟩
 ·rcases List.mem_append.1 he with he | he
  ·exact p3 e he
  ·rcases List.mem_append.1 he with he | he
   ·exact m3 e he
   ·exact c3 e he
 ·refine Nd.mk p4 (Nd.mk m4 c4 (fun a ha b hb e' => ?_)) (fun a ha b hb e' => ?_)
  ·exact nd_apart (nd_right h7) (m5 a ha) (by rw [e'];exact c5 b hb)
  ·rcases List.mem_append.1 hb with hb | hb
   ·exact nd_apart h7 (p5 a ha) (by rw [e'];exact List.mem_append.2 (.inl (m5 b hb)))
   ·exact nd_apart h7 (p5 a ha) (by rw [e'];exact List.mem_append.2 (.inr (c5 b hb)))
 ·rcases List.mem_append.1 he with he | he
  ·exact List.mem_append.2 (.inl (p5 e he))
  ·rcases List.mem_append.1 he with he | he
   ·exact List.mem_append.2 (.inr (List.mem_append.2 (.inl (m5 e he))))
   ·exact List.mem_append.2 (.inr (List.mem_append.2 (.inr (c5 e he))))
 ·rw [Cu.count]
  show count (psOf pv ps).es+count (msOf nv ms).es+count (rsOf cv us).es≤_
  have:=Nat.mul_le_mul_right 1005005 (show ps.length≤1000 by omega)
  have:=Nat.mul_le_mul_right 1002008 (show ms.length≤1000 by omega)
  have:=Nat.mul_le_mul_right 1002 (show us.length≤1000 by omega)
  omega
end Go.Proofs.YtcfdmbkiinjmaaaGreat.shp
namespace Go.Proofs.YtcfdmbkiinjmaaaGreat.srun
open Go.ChangeShapes Go.WideShapes Go.ChangeAt Go.RowKit
open Raft mem
structure PV where
 p:Peer
 lv:Value
 vv:Value
 nv:Value
 mv:Value
def peerCells (x:PV):List Value:=[.bool x.p.up,.int .i64 x.p.term,.int .i64 x.p.vote,.int .i64 x.p.commit,.int .i64 x.p.role,x.lv,x.vv,x.nv,x.mv]
theorem peerCells_len (x:PV):(peerCells x).length=9:=rfl
def rows (x:PV):List Value:=[x.vv,x.nv,x.mv]
def IsRow (us:List PV) (b:Nat):Prop:=∃ (k:Nat) (x:PV) (j:Nat) (v:Value),us[k]?=some x∧(rows x)[j]?=some v∧v.ownBlock=some b
def Lone (us:List PV):Prop:=∀ (k k':Nat) (x x':PV) (j j':Nat) (v v':Value) (b:Nat),us[k]?=some x→us[k']?=some x'→(rows x)[j]?=some v→(rows x')[j']?=some v'→v.ownBlock=some b→v'.ownBlock=some b→k=k'∧j=j'
def Mine (d P:Nat) (us:List PV) (cv:Value) (b:Nat):Prop:=b=d∨b=P∨IsRow us b∨cv.ownBlock=some b
structure Ty where
 run:Nat
 peer:Nat
 rc:Nat
 far:Nat→Option Obj
structure Run (T:Ty) (w:World) (M:Fz) (base d P pc:Nat) (c:Cl) (us:List PV) (ns:List MV) (nv:Value) (cs:List RV) (cv:Value):Prop where
 inn:In M w
 blk:w.heap[d]?=some (.cells #[.slice (some ⟨P,0,none⟩) us.length pc,nv,cv,.bool c.conflict] T.run (0,0))
 row:∃ cur,w.heap[P]?=some (.cells cur T.peer (0,0))∧cur.size=pc*9∧cur.toList.take (us.length*9)=us.flatMap peerCells
 cap:us.length≤pc∧pc≤maxLen
 peers:us.map (·.p)=c.peers
 logs:∀ x∈us,RecsM M x.lv x.p.log
 votes:∀ x∈us,w.ownsRow base 4 1 x.vv x.p.votes.length (x.p.votes.map Value.bool)
 next:∀ x∈us,w.ownsRow base 3 1 x.nv x.p.next.length (x.p.next.map fun (n:Nat)=>Value.int .i64 (n:Int))
 mat:∀ x∈us,w.ownsRow base 3 1 x.mv x.p.mat.length (x.p.mat.map fun (n:Nat)=>Value.int .i64 (n:Int))
 lone:Lone us
 free:∀ b,Mine d P us cv b→M b=none
 net:MsgsV M nv ns
 nets:ns.map (·.m)=c.net
 chos:w.ownsRow base T.rc 3 cv cs.length (cs.flatMap recCells)
 chosen:cs.map (·.r)=c.chosen
 data:∀ x∈cs,BytesM M x.dv x.r.data∧x.r.data.length≤1000
 low:base≤d∧base≤P
 apart:d≠P∧¬ IsRow us d∧¬ IsRow us P∧cv.ownBlock≠some d∧cv.ownBlock≠some P∧∀ b,IsRow us b→cv.ownBlock≠some b
 far:∀ b o,T.far b=some o→w.heap[b]?=some o∧M b=none∧¬ Mine d P us cv b
theorem row_kept {w w':World} {base e sz:Nat} {v:Value} {n:Nat} {xs:List Value} (h:w.ownsRow base e sz v n xs) (hk:∀ g,v.ownBlock=some g→w'.heap[g]?=w.heap[g]?):w'.ownsRow base e sz v n xs:=by
 obtain ⟨h1,h2 | ⟨g,cap,cur,rfl,hb,hg,r⟩⟩:=h
 ·exact ⟨h1,.inl h2⟩
 ·exact ⟨h1,.inr ⟨g,cap,cur,rfl,hb,(hk g rfl).trans hg,r⟩⟩
theorem row_lt {w:World} {base e sz:Nat} {v:Value} {n:Nat} {xs:List Value} (h:w.ownsRow base e sz v n xs) {g:Nat} (hg:v.ownBlock=some g):base≤g∧g<w.heap.size:=by
 obtain ⟨h1,⟨rfl,_⟩|⟨g',cap,cur,rfl,hb,hh,_⟩⟩:=h
 ·simp [Value.ownBlock] at hg
 ·simp only [Value.ownBlock,Option.some.injEq] at hg
  subst hg
  exact ⟨hb,(Array.getElem?_eq_some_iff.1 hh).1⟩
theorem mem_blocks {us:List PV} {x:PV} {v:Value} {g:Nat} (hx:x∈us) (hv:v∈rows x) (hg:v.ownBlock=some g):IsRow us g:=by
 obtain ⟨k,hk⟩:=List.mem_iff_getElem?.1 hx
 obtain ⟨j,hj⟩:=List.mem_iff_getElem?.1 hv
 exact ⟨k,x,j,v,hk,hj,hg⟩
section
variable {T:Ty} {w:World} {M:Fz} {base d P pc:Nat} {c:Cl} {us:List PV} {ns:List MV} {nv:Value} {cs:List RV} {cv:Value}
theorem Run.lt (h:Run T w M base d P pc c us ns nv cs cv):d<w.heap.size∧P<w.heap.size:=by
 obtain ⟨cur,hc,_⟩:=h.row
 exact ⟨(Array.getElem?_eq_some_iff.1 h.blk).1,(Array.getElem?_eq_some_iff.1 hc).1⟩
theorem Run.blocks_lt (h:Run T w M base d P pc c us ns nv cs cv) {b:Nat} (hb:IsRow us b):base≤b∧b<w.heap.size:=by
 obtain ⟨k,x,j,v,hk,hj,hg⟩:=hb
 have hx:x∈us:=List.mem_iff_getElem?.2 ⟨k,hk⟩
 have hv:v∈rows x:=List.mem_iff_getElem?.2 ⟨j,hj⟩
 simp only [rows,List.mem_cons,List.not_mem_nil,or_false] at hv
 rcases hv with rfl | rfl | rfl
 ·exact row_lt (h.votes x hx) hg
 ·exact row_lt (h.next x hx) hg
 ·exact row_lt (h.mat x hx) hg
theorem Run.farN (h:Run T w M base d P pc c us ns nv cs cv) {b:Nat} (hb:w.heap.size≤b):T.far b=none:=by
 cases e:T.far b with
 | none=>rfl
 | some o=>have:=(Array.getElem?_eq_some_iff.1 (h.far b o e).1).1;omega
theorem Run.farL (h:Run T w M base d P pc c us ns nv cs cv) {b:Nat} {o:Obj} (e:T.far b=some o):b<w.heap.size:=(Array.getElem?_eq_some_iff.1 (h.far b o e).1).1
theorem Run.keep {w':World} {M':Fz} (h:Run T w M base d P pc c us ns nv cs cv) (hl:Le M M') (hI:In M' w') (hb:∀ b,Mine d P us cv b→w'.heap[b]?=w.heap[b]?)
  (hf:∀ b,Mine d P us cv b→M' b=none) (hx:∀ b o,T.far b=some o→w'.heap[b]?=some o∧M' b=none):Run T w' M' base d P pc c us ns nv cs cv where
 inn:=hI
 blk:=(hb d (.inl rfl)).trans h.blk
 row:=by
  obtain ⟨cur,h1,h2⟩:=h.row
  exact ⟨cur,(hb P (.inr (.inl rfl))).trans h1,h2⟩
 cap:=h.cap
 peers:=h.peers
 logs:=fun x hx=>(h.logs x hx).le hl
 votes:=fun x hx=>row_kept (h.votes x hx) fun g hg=>hb g (.inr (.inr (.inl (mem_blocks hx (by simp [rows]) hg))))
 next:=fun x hx=>row_kept (h.next x hx) fun g hg=>hb g (.inr (.inr (.inl (mem_blocks hx (by simp [rows]) hg))))
 mat:=fun x hx=>row_kept (h.mat x hx) fun g hg=>hb g (.inr (.inr (.inl (mem_blocks hx (by simp [rows]) hg))))
 lone:=h.lone
 free:=hf
 net:=h.net.le hl
 nets:=h.nets
 chos:=row_kept h.chos fun g hg=>hb g (.inr (.inr (.inr hg)))
 chosen:=h.chosen
 data:=fun x hx=>⟨(h.data x hx).1.le hl,(h.data x hx).2⟩
 low:=h.low
 apart:=h.apart
 far:=fun b o hb=>⟨(hx b o hb).1,(hx b o hb).2,(h.far b o hb).2.2⟩
theorem Run.mine (h:Run T w M base d P pc c us ns nv cs cv) {b:Nat} (hb:Mine d P us cv b):b<w.heap.size:=by
 rcases hb with rfl | rfl | hb | hb
 ·exact h.lt.1
 ·exact h.lt.2
 ·exact (h.blocks_lt hb).2
 ·exact (row_lt h.chos hb).2
theorem Run.below {w':World} (h:Run T w M base d P pc c us ns nv cs cv) (hb:Below w.heap.size w w'):Run T w' M base d P pc c us ns nv cs cv :=
 h.keep (Le.refl M) (h.inn.below hb) (fun b hm=>hb.block b (h.mine hm)) h.free (fun b o e=>⟨(hb.block b (h.farL e)).trans (h.far b o e).1,(h.far b o e).2.1⟩)
theorem Run.setNet {W:World} {M':Fz} {ns':List MV} {v:Value} (h:Run T w M base d P pc c us ns nv cs cv) (hb:Below w.heap.size w W) (hl:Le M M') (hI:In M' W)
  (hd:∀ b,M' b≠none→M b≠none∨w.heap.size≤b) (hn:MsgsV M' v ns') :
  Run T (W.setCell ⟨d,1,none⟩ v) M' base d P pc { c with net:=ns'.map (·.m) } us ns' v cs cv∧Below base w (W.setCell ⟨d,1,none⟩ v):=by
 have hf:∀ b,Mine d P us cv b→M' b=none:=fun b hm=>by
  cases e:M' b with
  | none=>rfl
  | some o =>
   rcases hd b (by rw [e];simp) with h1 | h1
   ·exact absurd (h.free b hm) h1
   ·have:=h.mine hm;omega
 have h1:Run T W M' base d P pc c us ns nv cs cv:=h.keep hl hI (fun b hm=>hb.block b (h.mine hm)) hf (fun b o e=>⟨(hb.block b (h.farL e)).trans (h.far b o e).1,by
  cases e2:M' b with
  | none=>rfl
  | some q =>
   rcases hd b (by rw [e2];simp) with g | g
   ·exact absurd (h.far b o e).2.1 g
   ·have:=h.farL e;omega⟩)
 have hds:d<W.heap.size:=h1.lt.1
 refine ⟨?_,?_⟩
 ·have hne:∀ b,b≠d→(W.setCell ⟨d,1,none⟩ v).heap[b]?=W.heap[b]? := fun b hb'=>Below.heap_setCell W ⟨d,1,none⟩ v b hb'
  exact {
   inn:=hI.set (hf d (.inl rfl)) v
   blk:=by
    have:=heap_setCell_same W d 1 _ T.run v h1.blk
    simpa using this
   row:=by
    obtain ⟨cur,q1,q2⟩:=h1.row
    exact ⟨cur,(hne P (Ne.symm h.apart.1)).trans q1,q2⟩
   cap:=h.cap
   peers:=h.peers
   logs:=h1.logs
   votes:=fun x hx=>row_kept (h1.votes x hx) fun g hg=>hne g (fun e=>h.apart.2.1 (e ▸ mem_blocks hx (by simp [rows]) hg))
   next:=fun x hx=>row_kept (h1.next x hx) fun g hg=>hne g (fun e=>h.apart.2.1 (e ▸ mem_blocks hx (by simp [rows]) hg))
   mat:=fun x hx=>row_kept (h1.mat x hx) fun g hg=>hne g (fun e=>h.apart.2.1 (e ▸ mem_blocks hx (by simp [rows]) hg))
   lone:=h.lone
   free:=hf
   net:=hn
   nets:=rfl
   chos:=row_kept h1.chos fun g hg=>hne g (fun e=>h.apart.2.2.2.1 (e ▸ hg))
   chosen:=h.chosen
   data:=h1.data
   low:=h.low
   apart:=h.apart
   far:=fun b o e=>⟨(hne b (fun q=>(h.far b o e).2.2 (.inl q))).trans (h1.far b o e).1,(h1.far b o e).2.1,(h.far b o e).2.2⟩ }
 ·exact (hb.mono (by have:=h.low.1;have:=h.lt.1;omega)).setCell (by exact h.low.1) v
theorem cell_flat {us:List PV} {k j:Nat} {x:PV} {v:Value} (hk:us[k]?=some x) (hj:(peerCells x)[j]?=some v):(us.flatMap peerCells)[k*9+j]?=some v:=by
 have h9:j<9:=by have:=(List.getElem?_eq_some_iff.1 hj).1;rw [peerCells_len] at this;exact this
 rw [flat_get peerCells 9 peerCells_len us k j x hk h9]
 exact hj
theorem flat_set {us:List PV} {k j:Nat} {x x':PV} {v:Value} (hk:us[k]?=some x) (hj:j<9) (hc:peerCells x'=(peerCells x).set j v):(us.set k x').flatMap peerCells=(us.flatMap peerCells).set (k*9+j) v:=by
 induction us generalizing k with
 | nil=>simp at hk
 | cons y us ih =>
  cases k with
  | zero =>
   simp only [List.getElem?_cons_zero,Option.some.injEq] at hk
   subst hk
   rw [List.set_cons_zero,List.flatMap_cons,List.flatMap_cons,hc,Nat.zero_mul,Nat.zero_add,List.set_append_left _ _ (by rw [peerCells_len];exact hj)]
  | succ k =>
   rw [List.getElem?_cons_succ] at hk
   rw [List.set_cons_succ,List.flatMap_cons,List.flatMap_cons,ih hk,List.set_append_right _ _ (by rw [peerCells_len,Nat.succ_mul];omega),peerCells_len]
   congr 2
   rw [Nat.succ_mul]
   omega
theorem Run.peerCell (h:Run T w M base d P pc c us ns nv cs cv) {k j:Nat} {x:PV} {v:Value} (hk:us[k]?=some x) (hj:(peerCells x)[j]?=some v):w.cell? ⟨P,k*9+j,none⟩=some v∧w.frozen? ⟨P,k*9+j,none⟩=false:=by
 obtain ⟨cur,h1,h2,h3⟩:=h.row
 have hf:=cell_flat hk hj
 rw [←h3] at hf
 have hl:=(List.getElem?_eq_some_iff.1 hf).1
 rw [List.length_take] at hl
 rw [List.getElem?_take_of_lt (by omega)] at hf
 refine ⟨?_,by simp [World.frozen?,h1]⟩
 simp only [World.cell?,h1]
 simpa using hf
theorem Run.setPeer (h:Run T w M base d P pc c us ns nv cs cv) {k j:Nat} {x x':PV} {v:Value} (hk:us[k]?=some x) (hj:j<9) (hc:peerCells x'=(peerCells x).set j v)
  (hlog:RecsM M x'.lv x'.p.log) (hv:w.ownsRow base 4 1 x'.vv x'.p.votes.length (x'.p.votes.map Value.bool)) (hn:w.ownsRow base 3 1 x'.nv x'.p.next.length (x'.p.next.map fun (n:Nat)=>Value.int .i64 (n:Int)))
  (hm:w.ownsRow base 3 1 x'.mv x'.p.mat.length (x'.p.mat.map fun (n:Nat)=>Value.int .i64 (n:Int)))
  (hrow:∀ (i:Nat) (u:Value) (b:Nat),(rows x')[i]?=some u→u.ownBlock=some b→(rows x)[i]?=some u∨(¬ Mine d P us cv b∧(M b=none∧T.far b=none)∧∀ (i':Nat) (u':Value),(rows x')[i']?=some u'→u'.ownBlock=some b→i=i')) :
  Run T (w.setCell ⟨P,k*9+j,none⟩ v) M base d P pc { c with peers:=c.peers.set k x'.p } (us.set k x') ns nv cs cv:=by
 have hlt:k<us.length:=(List.getElem?_eq_some_iff.1 hk).1
 have hxm:x∈us:=List.mem_iff_getElem?.2 ⟨k,hk⟩
 have hne:∀ b,b≠P→(w.setCell ⟨P,k*9+j,none⟩ v).heap[b]?=w.heap[b]? := fun b hb=>Below.heap_setCell w ⟨P,k*9+j,none⟩ v b hb
 have hat:∀ k1 y,(us.set k x')[k1]?=some y→(k1=k∧y=x')∨(k1≠k∧us[k1]?=some y):=fun k1 y hy=>by
  by_cases e:k1=k
  ·subst e
   rw [List.getElem?_set_self hlt] at hy
   exact .inl ⟨rfl,(Option.some.inj hy).symm⟩
  ·rw [List.getElem?_set_ne (Ne.symm e)] at hy
   exact .inr ⟨e,hy⟩
 have hrows:∀ b,IsRow (us.set k x') b→IsRow us b∨(¬ Mine d P us cv b∧(M b=none∧T.far b=none)):=fun b ⟨k1,y,i,u,h1,h2,h3⟩=>by
  rcases hat k1 y h1 with ⟨rfl,rfl⟩|⟨_,h1⟩
  ·rcases hrow i u b h2 h3 with h4 | ⟨h4,h5,_⟩
   ·exact .inl ⟨k1,x,i,u,hk,h4,h3⟩
   ·exact .inr ⟨h4,h5⟩
  ·exact .inl ⟨k1,y,i,u,h1,h2,h3⟩
 have hmine:∀ b,Mine d P (us.set k x') cv b→M b=none:=fun b hb=>by
  rcases hb with hb | hb | hb | hb
  ·exact h.free b (.inl hb)
  ·exact h.free b (.inr (.inl hb))
  ·rcases hrows b hb with h1 | h1
   ·exact h.free b (.inr (.inr (.inl h1)))
   ·exact h1.2.1
  ·exact h.free b (.inr (.inr (.inr hb)))
 have hPr:∀ b,IsRow (us.set k x') b→b≠P:=fun b hb e=>by
  rcases hrows b hb with h1 | h1
  ·exact h.apart.2.2.1 (e ▸ h1)
  ·exact h1.1 (.inr (.inl e))
 have hmem:∀ y,y∈us.set k x'→(y=x'∨y∈us):=fun y hy=>by
  rcases List.mem_or_eq_of_mem_set hy with h1 | h1
  ·exact .inr h1
  ·exact .inl h1
 exact {
  inn:=h.inn.set (h.free P (.inr (.inl rfl))) v
  blk:=by rw [hne d h.apart.1,List.length_set];exact h.blk
  row:=by
   obtain ⟨cur,q1,q2,q3⟩:=h.row
   refine ⟨cur.setIfInBounds (k*9+j) v,heap_setCell_same w P (k*9+j) cur T.peer v q1,by simpa using q2,?_⟩
   rw [List.length_set,flat_set hk hj hc,←q3,Array.toList_setIfInBounds,List.take_set]
  cap:=by rw [List.length_set];exact h.cap
  peers:=by rw [List.map_set,h.peers]
  logs:=fun y hy=>by
   rcases hmem y hy with rfl | hy
   ·exact hlog
   ·exact h.logs y hy
  votes:=fun y hy=>by
   refine row_kept (w:=w) ?_ fun g hg=>hne g (hPr g (mem_blocks hy (by simp [rows]) hg))
   rcases hmem y hy with rfl | hy
   ·exact hv
   ·exact h.votes y hy
  next:=fun y hy=>by
   refine row_kept (w:=w) ?_ fun g hg=>hne g (hPr g (mem_blocks hy (by simp [rows]) hg))
   rcases hmem y hy with rfl | hy
   ·exact hn
   ·exact h.next y hy
  mat:=fun y hy=>by
   refine row_kept (w:=w) ?_ fun g hg=>hne g (hPr g (mem_blocks hy (by simp [rows]) hg))
   rcases hmem y hy with rfl | hy
   ·exact hm
   ·exact h.mat y hy
  lone:=fun k1 k2 y1 y2 i1 i2 u1 u2 b g1 g2 g3 g4 g5 g6=>by
   rcases hat k1 y1 g1 with ⟨rfl,rfl⟩|⟨n1,g1'⟩
   ·rcases hat k2 y2 g2 with ⟨rfl,rfl⟩|⟨n2,g2'⟩
    ·refine ⟨rfl,?_⟩
     rcases hrow i1 u1 b g3 g5 with e1 | ⟨_,_,e1⟩
     ·rcases hrow i2 u2 b g4 g6 with e2 | ⟨_,_,e2⟩
      ·exact (h.lone k2 k2 x x i1 i2 u1 u2 b hk hk e1 e2 g5 g6).2
      ·exact (e2 i1 u1 g3 g5).symm
     ·exact e1 i2 u2 g4 g6
    ·rcases hrow i1 u1 b g3 g5 with e1 | ⟨e1,_⟩
     ·exact h.lone k1 k2 x y2 i1 i2 u1 u2 b hk g2' e1 g4 g5 g6
     ·exact absurd (.inr (.inr (.inl ⟨k2,y2,i2,u2,g2',g4,g6⟩))) e1
   ·rcases hat k2 y2 g2 with ⟨rfl,rfl⟩|⟨n2,g2'⟩
    ·rcases hrow i2 u2 b g4 g6 with e1 | ⟨e1,_⟩
     ·exact h.lone k1 k2 y1 x i1 i2 u1 u2 b g1' hk g3 e1 g5 g6
     ·exact absurd (.inr (.inr (.inl ⟨k1,y1,i1,u1,g1',g3,g5⟩))) e1
    ·exact h.lone k1 k2 y1 y2 i1 i2 u1 u2 b g1' g2' g3 g4 g5 g6
  free:=hmine
  net:=h.net
  nets:=h.nets
  chos:=row_kept h.chos fun g hg=>hne g (fun e=>h.apart.2.2.2.2.1 (e ▸ hg))
  chosen:=h.chosen
  data:=h.data
  low:=h.low
  apart:=⟨h.apart.1,fun e=>by
    rcases hrows d e with h1 | h1
    ·exact h.apart.2.1 h1
    ·exact h1.1 (.inl rfl),fun e=>hPr P e rfl,h.apart.2.2.2.1,h.apart.2.2.2.2.1,fun b hb e=>by
    rcases hrows b hb with h1 | h1
    ·exact h.apart.2.2.2.2.2 b h1 e
    ·exact h1.1 (.inr (.inr (.inr e)))⟩
  far:=fun b o e=>⟨(hne b (fun q=>(h.far b o e).2.2 (.inr (.inl q)))).trans (h.far b o e).1,(h.far b o e).2.1,fun hm=>by
   rcases hm with hm | hm | hm | hm
   ·exact (h.far b o e).2.2 (.inl hm)
   ·exact (h.far b o e).2.2 (.inr (.inl hm))
   ·rcases hrows b hm with g | g
    ·exact (h.far b o e).2.2 (.inr (.inr (.inl g)))
    ·rw [g.2.2] at e;cases e
   ·exact (h.far b o e).2.2 (.inr (.inr (.inr hm)))⟩ }
end
end Go.Proofs.YtcfdmbkiinjmaaaGreat.srun
