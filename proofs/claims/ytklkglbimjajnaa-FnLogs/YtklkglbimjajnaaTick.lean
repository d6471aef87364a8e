/- A peer's tick. -/
import Derived.Test.YtklkglbimjajnaaElect
namespace Go.Proofs.Ytklkglbimjajnaa.tick
open Go.ChangeShapes Go.WideShapes Go.ChangeAt Go.RowKit
open Go.Proofs.Ytklkglbimjajnaa.Raft Go.Proofs.Ytklkglbimjajnaa.mem Go.Proofs.Ytklkglbimjajnaa.grp Go.Proofs.Ytklkglbimjajnaa.look Go.Proofs.Ytklkglbimjajnaa.ndw Go.Proofs.Ytklkglbimjajnaa.grant Go.Proofs.Ytklkglbimjajnaa.stand Go.Proofs.Ytklkglbimjajnaa.lead Go.Proofs.Ytklkglbimjajnaa.post Go.Proofs.Ytklkglbimjajnaa.postb Go.Proofs.Ytklkglbimjajnaa.lookb Go.Proofs.Ytklkglbimjajnaa.lookc Go.Proofs.Ytklkglbimjajnaa.commit Go.Proofs.Ytklkglbimjajnaa.too Go.Proofs.Ytklkglbimjajnaa.elect
set_option linter.unusedVariables false

/-- What a peer's numbers are within. -/
structure Fine (n : Nat) (p : Peer) : Prop where
  votes : p.role = 1 → p.votes.length = n
  lists : p.role = 2 → p.next.length = n ∧ p.mat.length = n ∧ ∀ q, q < n → 1 ≤ p.next.getD q 0 ∧ p.next.getD q 0 ≤ p.log.length + 1
  term : p.term ≤ 1000000
  commit : p.commit ≤ p.log.length
  log : p.log.length ≤ 100
theorem getD_get {l : List Nat} {i : Nat} (h : i < l.length) : l[i]? = some (l.getD i 0) := by
  rw [List.getD_eq_getElem?_getD, List.getElem?_eq_getElem h]; rfl
theorem foldl_send (f : Nat → Msg) (c : Cl) : ∀ l : List Nat, (l.foldl (fun c i => c.send (f i)) c).peers = c.peers ∧ (l.foldl (fun c i => c.send (f i)) c).chosen = c.chosen := fun l => by
  induction l generalizing c with
  | nil => exact ⟨rfl, rfl⟩
  | cons x l ih => rw [List.foldl_cons]; exact ⟨(ih _).1.trans (send_peers _ _), (ih _).2.trans (send_chosen _ _).1⟩
theorem at_of_peers {c c' : Cl} (h : c'.peers = c.peers) (k : Nat) : c'.at k = c.at k := by unfold Cl.at; rw [h]

set_option maxHeartbeats 1000000 in
theorem tick_any (w : World) (M : Fz) (O : Lb) (d : Nat) (nb : List Nat) (c : Cl) (h : G w M O d nb c) (k b : Nat) (hb : nb[k]? = some b) (h1 : 1 ≤ c.peers.length) (h7 : c.peers.length ≤ 7) (hF : Fine c.peers.length (c.at k)) (hch : c.chosen.length ≤ 1000) :
    Calls Try.prog 94 #[.pointer (some ⟨d, 0, none⟩), .pointer (some ⟨b, 0, none⟩)] w fun r w' => r = .returned (.tuple #[]) ∧ Did M O w d nb (c.tick k) w' := by
  have st := h.sta
  have hkl : k < c.peers.length := by have := (List.getElem?_eq_some_iff.1 hb).1; have := h.len; omega
  have hnode := h.at hb
  obtain ⟨us, lv, vv, nv, mv, hn⟩ := id hnode
  obtain ⟨⟨c0, _, _, _, _, _, c6, _⟩, _⟩ := Nd.cs hn
  have hlog := hF.log
  by_cases hr : (c.at k).role = 2
  · have hrI : (((c.at k).role : Int) == 2) = true := by simp; omega
    have hT : c.tick k = c.toAll k := by unfold Cl.tick; simp only [hr, if_true]
    rw [hT]
    have HTo : Hid (Calls Try.prog 133 #[.pointer (some ⟨d, 0, none⟩), .pointer (some ⟨b, 0, none⟩), .func (.func 134) #[.pointer (some ⟨d, 0, none⟩)] #[]] w fun r w' => r = .returned (.tuple #[]) ∧ Did M O w d nb (c.toAll k) w') :=
      toAll_any w M O d nb c h k b hb h7 (by omega) (fun i hi => by
        obtain ⟨q1, q2, q3⟩ := hF.lists hr
        exact ⟨_, getD_get (by omega), q3 i hi⟩)
    generalize (c.at k).role = R at *
    clear hn hnode st h hT hF
    go_enter Try.func94, Try.ntmps94
    go_wp2_with (go_at_call 133; refine HTo.out.mono ?_; rintro rr w5 ⟨rfl, hd5⟩; have HD5 := hide hd5; clear hd5)
    go_end0
    exact ⟨rfl, HD5.out⟩
  · have hrI : (((c.at k).role : Int) == 2) = false := by simp; omega
    by_cases ht : (c.at k).term = 1000000
    · have htI : ¬ (((c.at k).term : Int) < 1000000) := by omega
      have hT : c.tick k = c := by unfold Cl.tick; simp only [hr, ht, if_true, if_false]
      rw [hT]
      have HF : Hid (Did M O w d nb c w) := ⟨M, O, Aft.refl _ st, h⟩
      generalize (c.at k).role = R at *
      generalize (c.at k).term = T at *
      clear hn hnode st h hT hF
      go_enter Try.func94, Try.ntmps94
      go_wp2
      go_end0
      exact ⟨rfl, HF.out⟩
    · have htI : (((c.at k).term : Int) < 1000000) := by have := hF.term; omega
      obtain ⟨c1, hc1⟩ : ∃ c1, c1 = c.put k (standP (c.at k) k c.peers.length) := ⟨_, rfl⟩
      have hc1k : c1.at k = standP (c.at k) k c.peers.length := by rw [hc1]; exact at_put c k _ hkl
      have hc1n : c1.peers.length = c.peers.length := by rw [hc1]; exact put_len _ _ _
      obtain ⟨c2, hc2⟩ : ∃ c2, c2 = (others c1.peers.length k).foldl (fun c' i => c'.send ⟨1, k, i, (c1.at k).term, (c1.at k).log.length, lastTerm (c1.at k).log, 0, false, []⟩) c1 := ⟨_, rfl⟩
      have hp2 : c2.peers = c1.peers ∧ c2.chosen = c1.chosen := by rw [hc2]; exact foldl_send (fun i => ⟨1, k, i, (c1.at k).term, (c1.at k).log.length, lastTerm (c1.at k).log, 0, false, []⟩) c1 _
      have hc2k : c2.at k = standP (c.at k) k c.peers.length := (at_of_peers hp2.1 k).trans hc1k
      have hT : c.tick k = c2.elected k := by
        unfold Cl.tick
        simp only [hr, ht, if_false]
        rw [hc2, hc1n, hc1k, hc1]
        rfl
      rw [hT]
      have HSt : Hid (Calls Try.prog 135 #[.pointer (some ⟨b, 0, none⟩), .int .i64 c.peers.length] w fun r w' => r = .returned (.tuple #[]) ∧ Did M O w d nb c1 w') := by
        refine (stand_any w M O b k c.peers.length _ st hnode hkl h7 (by have := hF.term; omega)).mono ?_
        rintro r w' ⟨rfl, hd⟩
        rw [hc1]
        exact ⟨rfl, NDid.lift hd h hb⟩
      have HAs : Hid (∀ wx, Did M O w d nb c1 wx → Calls Try.prog 133 #[.pointer (some ⟨d, 0, none⟩), .pointer (some ⟨b, 0, none⟩), .func (.func 136) #[.pointer (some ⟨d, 0, none⟩)] #[]] wx fun r w' => r = .returned (.tuple #[]) ∧ Did M O w d nb c2 w') := fun wx hx => by
        obtain ⟨M1, O1, a1, g1⟩ := hx
        refine (askAll_any wx M1 O1 d nb c1 g1 k b hb (by omega)).mono ?_
        rintro r w' ⟨rfl, hd⟩
        rw [← hc2] at hd
        exact ⟨rfl, Did.trans a1 hd⟩
      have HEl : Hid (∀ wx, Did M O w d nb c2 wx → Calls Try.prog 137 #[.pointer (some ⟨d, 0, none⟩), .pointer (some ⟨b, 0, none⟩)] wx fun r w' => r = .returned (.tuple #[]) ∧ Did M O w d nb (c2.elected k) w') := fun wx hx => by
        obtain ⟨M1, O1, a1, g1⟩ := hx
        have hn2 : c2.peers.length = c.peers.length := by rw [hp2.1]; exact hc1n
        refine (elect_any wx M1 O1 d nb c2 g1 k b hb (by omega) (by omega) (by rw [hc2k]; rfl) (by rw [hc2k]; simp [standP]; omega) (by rw [hc2k]; exact hF.commit) (by rw [hc2k]; show (c.at k).log.length ≤ 1000; omega) (by rw [hp2.2, hc1]; exact hch)).mono ?_
        rintro r w' ⟨rfl, hd⟩
        exact ⟨rfl, Did.trans a1 hd⟩
      obtain ⟨hd0, pv, cv, bs, us', cs, hg⟩ := h
      obtain ⟨o, cp, rfl, _, h3⟩ := Gr.pvs hg
      unfold maxLen at h3
      obtain ⟨⟨_, _, x2, _⟩, _⟩ := Gr.ca hg
      generalize (c.at k).role = R at *
      generalize (c.at k).term = T at *
      generalize c.peers.length = n at *
      clear hn hnode st hg hT hF hc2k hp2 hc2 hc1n hc1k hc1
      go_enter Try.func94, Try.ntmps94
      go_wp2_with (first
        | (go_at_call 135; refine HSt.out.mono ?_; rintro rr w3 ⟨rfl, hd3⟩; have HD3 := hide hd3; clear hd3)
        | (go_at_call 133; refine (HAs.out _ HD3.out).mono ?_; rintro rr w4 ⟨rfl, hd4⟩; have HD4 := hide hd4; clear hd4)
        | (go_at_call 137; refine (HEl.out _ HD4.out).mono ?_; rintro rr w5 ⟨rfl, hd5⟩; have HD5 := hide hd5; clear hd5))
      go_end0
      exact ⟨rfl, HD5.out⟩
end Go.Proofs.Ytklkglbimjajnaa.tick
