/- A candidate may be elected. -/
import Derived.Test.YtklkglbimjajnaaCommit
import Derived.Test.YtklkglbimjajnaaLead
import Derived.Test.YtklkglbimjajnaaToo
namespace Go.Proofs.Ytklkglbimjajnaa.elect
open Go.ChangeShapes Go.WideShapes Go.ChangeAt Go.RowKit
open Go.Proofs.Ytklkglbimjajnaa.Raft Go.Proofs.Ytklkglbimjajnaa.mem Go.Proofs.Ytklkglbimjajnaa.grp Go.Proofs.Ytklkglbimjajnaa.look Go.Proofs.Ytklkglbimjajnaa.ndw Go.Proofs.Ytklkglbimjajnaa.grant Go.Proofs.Ytklkglbimjajnaa.stand Go.Proofs.Ytklkglbimjajnaa.lead Go.Proofs.Ytklkglbimjajnaa.post Go.Proofs.Ytklkglbimjajnaa.postb Go.Proofs.Ytklkglbimjajnaa.lookb Go.Proofs.Ytklkglbimjajnaa.lookc Go.Proofs.Ytklkglbimjajnaa.commit Go.Proofs.Ytklkglbimjajnaa.too
set_option linter.unusedVariables false

theorem note_at (c : Cl) (k q : Nat) : (c.note k).at q = c.at q ∧ (c.note k).peers = c.peers := ⟨rfl, rfl⟩
theorem commits_at (c : Cl) {k : Nat} (h : k < c.peers.length) : (c.commits k).at k = { c.at k with commit := reach (c.at k) c.peers.length (c.at k).log.length } ∧ (c.commits k).peers.length = c.peers.length := by
  unfold Cl.commits
  exact ⟨((note_at _ k k).1).trans (at_put c k _ h), by rw [(note_at _ k k).2]; simp [Cl.put]⟩
theorem put_len (c : Cl) (k : Nat) (p : Peer) : (c.put k p).peers.length = c.peers.length := by simp [Cl.put]
/-- A call on a peer within the group. -/
theorem NDid.did {M M1 : Fz} {O O1 : Lb} {w w1 w' : World} {d b k : Nat} {nb : List Nat} {c : Cl} {p' : Peer} (a : Aft (fun _ => True) M O w M1 O1 w1) (hg : G w1 M1 O1 d nb c) (hb : nb[k]? = some b) (h : NDid M1 O1 w1 b k p' w') : Did M O w d nb (c.put k p') w' := Did.trans a (NDid.lift h hg hb)

set_option maxHeartbeats 1000000 in
theorem elect_any (w : World) (M : Fz) (O : Lb) (d : Nat) (nb : List Nat) (c : Cl) (h : G w M O d nb c) (k b : Nat) (hb : nb[k]? = some b) (h1 : 1 ≤ c.peers.length) (h7 : c.peers.length ≤ 7) (hr : (c.at k).role = 1) (hv : (c.at k).votes.length ≤ 7) (hcm : (c.at k).commit ≤ (c.at k).log.length) (hl : (c.at k).log.length ≤ 1000) (hch : c.chosen.length ≤ 1000) :
    Calls Try.prog 137 #[.pointer (some ⟨d, 0, none⟩), .pointer (some ⟨b, 0, none⟩)] w fun r w' => r = .returned (.tuple #[]) ∧ Did M O w d nb (c.elected k) w' := by
  have st := h.sta
  have hkl : k < c.peers.length := by have := (List.getElem?_eq_some_iff.1 hb).1; have := h.len; omega
  have hnode := h.at hb
  have HV := hide (votesHad_any w M O b k _ hnode hv)
  have HM := hide (most_any w M O d nb c h h1 h7)
  by_cases hq : most c.peers.length ≤ (c.at k).votes.countP id
  · have hqI : ¬ (((c.at k).votes.countP id : Int) < most c.peers.length) := by omega
    obtain ⟨c2, hc2⟩ : ∃ c2, c2 = c.put k (leadP (c.at k) k c.peers.length) := ⟨_, rfl⟩
    have hc2k : c2.at k = leadP (c.at k) k c.peers.length := by rw [hc2]; exact at_put c k _ hkl
    have hc2n : c2.peers.length = c.peers.length := by rw [hc2]; exact put_len _ _ _
    have hel : c.elected k = (c2.commits k).toAll k := by
      unfold Cl.elected
      simp only [hr, hq, and_self, if_true]
      rw [hc2]
      rfl
    rw [hel]
    have HLd : Hid (Calls Try.prog 153 #[.pointer (some ⟨b, 0, none⟩), .int .i64 c.peers.length] w fun r w' => r = .returned (.tuple #[]) ∧ Did M O w d nb c2 w') := by
      refine (lead_any w M O b k c.peers.length _ st hnode hkl h7 hl).mono ?_
      rintro r w' ⟨rfl, hd⟩
      rw [hc2]
      exact ⟨rfl, NDid.lift hd h hb⟩
    have HCm : Hid (∀ wx, Did M O w d nb c2 wx → Calls Try.prog 140 #[.pointer (some ⟨d, 0, none⟩), .pointer (some ⟨b, 0, none⟩)] wx fun r w' => r = .returned (.tuple #[]) ∧ Did M O w d nb (c2.commits k) w') := fun wx hx => by
      obtain ⟨M1, O1, a1, g1⟩ := hx
      refine (commits_any wx M1 O1 d nb c2 g1 k b hb (by omega) (by omega) (by rw [hc2k]; simp [leadP]; omega) (by rw [hc2k]; exact hcm) (by rw [hc2k]; exact hl) (by rw [hc2]; exact hch)).mono ?_
      rintro r w' ⟨rfl, hd⟩
      exact ⟨rfl, Did.trans a1 hd⟩
    have HTo : Hid (∀ wx, Did M O w d nb (c2.commits k) wx → Calls Try.prog 133 #[.pointer (some ⟨d, 0, none⟩), .pointer (some ⟨b, 0, none⟩), .func (.func 134) #[.pointer (some ⟨d, 0, none⟩)] #[]] wx fun r w' => r = .returned (.tuple #[]) ∧ Did M O w d nb ((c2.commits k).toAll k) w') := fun wx hx => by
      obtain ⟨M1, O1, a1, g1⟩ := hx
      have hca := commits_at c2 (k := k) (by omega)
      refine (toAll_any wx M1 O1 d nb (c2.commits k) g1 k b hb (by omega) (by rw [hca.1, hc2k]; exact hl) (fun i hi => ⟨(c.at k).log.length + 1, ?_, by omega, ?_⟩)).mono ?_
      · rw [hca.1, hc2k]
        show (List.replicate c.peers.length ((c.at k).log.length + 1))[i]? = _
        rw [List.getElem?_replicate, if_pos (by omega)]
      · rw [hca.1, hc2k]; exact Nat.le_refl _
      · rintro r w' ⟨rfl, hd⟩
        exact ⟨rfl, Did.trans a1 hd⟩
    have HPe : Hid (∀ wx, Did M O w d nb c2 wx → True) := fun _ _ => trivial
    obtain ⟨hd0, pv, cv, bs, us, cs, hg⟩ := h
    obtain ⟨o, cp, rfl, _, h3⟩ := Gr.pvs hg
    unfold maxLen at h3
    obtain ⟨⟨_, _, x2, _⟩, _⟩ := Gr.ca hg
    generalize (c.at k).votes.countP id = V at *
    generalize most c.peers.length = mo at *
    generalize c.peers.length = n at *
    clear hg hnode st hel hc2n hc2k hc2
    go_enter Try.func137, Try.ntmps137
    go_wp2_with (first
      | (go_at_call 151; refine HV.out.mono ?_; rintro rr w' ⟨rfl, hw'⟩; have hw2 := hw'.symm; subst hw2; clear hw')
      | (go_at_call 152; refine HM.out.mono ?_; rintro rr w' ⟨rfl, hw'⟩; have hw2 := hw'.symm; subst hw2; clear hw')
      | (go_at_call 153; refine HLd.out.mono ?_; rintro rr w3 ⟨rfl, hd3⟩; have HD3 := hide hd3; clear hd3)
      | (go_at_call 140; refine (HCm.out _ HD3.out).mono ?_; rintro rr w4 ⟨rfl, hd4⟩; have HD4 := hide hd4; clear hd4)
      | (go_at_call 133; refine (HTo.out _ HD4.out).mono ?_; rintro rr w5 ⟨rfl, hd5⟩; have HD5 := hide hd5; clear hd5))
    go_end0
    exact ⟨rfl, HD5.out⟩
  · have hqI : (((c.at k).votes.countP id : Int) < most c.peers.length) := by omega
    have HF : Hid (Did M O w d nb (c.elected k) w) := by
      have e : c.elected k = c := by
        unfold Cl.elected
        simp only [hq, and_false, if_false]
      rw [e]
      exact ⟨M, O, Aft.refl _ st, h⟩
    generalize (c.at k).votes.countP id = V at *
    generalize most c.peers.length = mo at *
    clear hnode st h
    go_enter Try.func137, Try.ntmps137
    go_wp2_with (first
      | (go_at_call 151; refine HV.out.mono ?_; rintro rr w' ⟨rfl, hw'⟩; have hw2 := hw'.symm; subst hw2; clear hw')
      | (go_at_call 152; refine HM.out.mono ?_; rintro rr w' ⟨rfl, hw'⟩; have hw2 := hw'.symm; subst hw2; clear hw'))
    refine bodyPost_ret (results_none rfl _ _ _) rfl ?_
    exact ⟨rfl, HF.out⟩
end Go.Proofs.Ytklkglbimjajnaa.elect
