/- A letter arrives: all cases put together. -/
import Derived.Test.YtklkglbimjajnaaArrive
import Derived.Test.YtklkglbimjajnaaBounds
namespace Go.Proofs.Ytklkglbimjajnaa.deliv
open Go.ChangeShapes Go.WideShapes Go.ChangeAt Go.RowKit
open Go.Proofs.Ytklkglbimjajnaa.Raft Go.Proofs.Ytklkglbimjajnaa.mem Go.Proofs.Ytklkglbimjajnaa.grp Go.Proofs.Ytklkglbimjajnaa.look Go.Proofs.Ytklkglbimjajnaa.ndw Go.Proofs.Ytklkglbimjajnaa.grant Go.Proofs.Ytklkglbimjajnaa.stand Go.Proofs.Ytklkglbimjajnaa.lead Go.Proofs.Ytklkglbimjajnaa.rows2 Go.Proofs.Ytklkglbimjajnaa.post Go.Proofs.Ytklkglbimjajnaa.postb Go.Proofs.Ytklkglbimjajnaa.say Go.Proofs.Ytklkglbimjajnaa.lookb Go.Proofs.Ytklkglbimjajnaa.lookc Go.Proofs.Ytklkglbimjajnaa.commit Go.Proofs.Ytklkglbimjajnaa.too Go.Proofs.Ytklkglbimjajnaa.elect Go.Proofs.Ytklkglbimjajnaa.tick Go.Proofs.Ytklkglbimjajnaa.vote Go.Proofs.Ytklkglbimjajnaa.arrive Go.Proofs.Ytklkglbimjajnaa.answ Go.Proofs.Ytklkglbimjajnaa.came Go.Proofs.Ytklkglbimjajnaa.cameok
set_option linter.unusedVariables false

theorem fine {n : Nat} {c : Cl} {s : St} (h : Rel n c s) (hB : Bd c) {k : Nat} (hk : k < n) : Fine n (c.at k) := by
  have h1 := h.wf k hk
  have h2 := (h.inv.comm k hk).1
  rw [h.abs k hk] at h2
  exact ⟨h1.votes, h1.lists, (hB.peers k).term, h2, (hB.peers k).log⟩
theorem mat_le {n : Nat} {c : Cl} {s : St} (h : Rel n c s) {k : Nat} (hk : k < n) (hr : (c.at k).role = 2) : ∀ x ∈ (c.at k).mat, x ≤ (c.at k).log.length := by
  intro x hx
  obtain ⟨q, hq, e⟩ := List.getElem_of_mem hx
  have hl := ((h.wf k hk).lists hr).2.1
  have h1 := h.inv.leader k hk (by rw [h.abs k hk]; exact hr)
  have h2 := h1.2.2 q (by omega)
  have h3 := h.inv.ack_le (s.pr k).term q
  rw [← h1.2.1, h.abs k hk] at h3
  rw [h.abs k hk] at h2
  have h2' : (c.at k).mat.getD q 0 ≤ s.ack (c.at k).term q := h2
  have h3' : s.ack (c.at k).term q ≤ (c.at k).log.length := h3
  have e2 : (c.at k).mat.getD q 0 = x := by rw [List.getD_eq_getElem?_getD, List.getElem?_eq_getElem hq, e]; rfl
  omega
theorem idx {n : Nat} {s : St} (h : Inv n s) {m : Msg} (hm : MsgOK n s m) (h3 : m.kind = 3) : ∀ (j : Nat) (r : Rc), m.log[j]? = some r → r.index = m.a + j + 1 := by
  intro j r hr
  obtain ⟨h1, h2, _, h4, _, _⟩ := hm.recs h3
  have hl := (h.lead_cl _ _ h1).2.2.2
  rw [h4, List.getElem?_drop, List.getElem?_take] at hr
  split at hr
  · exact (hl _ r hr).2.2.2.2
  · cases hr
theorem down_at (c : Cl) (k T : Nat) (h : k < c.peers.length) : (c.down k T).at k = downP (c.at k) T := at_put c k _ h
/-- The cluster once a peer has seen a letter's term. -/
def seen (c : Cl) (k T : Nat) : Cl := if (c.at k).term < T then c.down k T else c
theorem seen_rel {n : Nat} {c : Cl} {s : St} (h : Rel n c s) (hc : Cov n c) {k : Nat} (hk : k < n) (T : Nat) {m : Msg} (hm : MsgOK n s m) : ∃ s', Rel n (seen c k T) s' ∧ Cov n (seen c k T) ∧ MsgOK n s' m := by
  unfold seen
  split
  · obtain ⟨s', h1, h2, h3, _⟩ := h.down hc hk T
    exact ⟨s', h1, h2, hm.ext h3⟩
  · exact ⟨s, h, hc, hm⟩
theorem seen_bd {c : Cl} (h : Bd c) (k : Nat) {T : Nat} (hT : T ≤ 1000000) : Bd (seen c k T) := by
  unfold seen
  split
  · exact h.down k hT
  · exact h
theorem deliver_1 (c : Cl) (m : Msg) (hup : (c.at m.to).up = true) (hk : m.kind = 1) (hl : m.to < (seen c m.to m.term).peers.length) : c.deliver m = (((seen c m.to m.term).put m.to (grantP ((seen c m.to m.term).at m.to) m.frm (okV ((seen c m.to m.term).at m.to) m))).send ⟨2, m.to, m.frm, ((seen c m.to m.term).at m.to).term, 0, 0, 0, okV ((seen c m.to m.term).at m.to) m, []⟩) := by
  unfold Cl.deliver
  rw [if_neg (by rw [hup]; decide), if_pos hk]
  show (if okV ((seen c m.to m.term).at m.to) m = true then _ else seen c m.to m.term).send _ = _
  congr 1
  unfold grantP
  split
  · rfl
  · exact (put_at _ _ hl).symm
theorem deliver_2 (c : Cl) (m : Msg) (hup : (c.at m.to).up = true) (hk : m.kind = 2) : c.deliver m = (if m.term = ((seen c m.to m.term).at m.to).term ∧ ((seen c m.to m.term).at m.to).role = 1 ∧ m.ok = true then ((seen c m.to m.term).put m.to { (seen c m.to m.term).at m.to with votes := ((seen c m.to m.term).at m.to).votes.set m.frm true }).elected m.to else seen c m.to m.term) := by
  unfold Cl.deliver
  rw [if_neg (by rw [hup]; decide), if_neg (by omega), if_pos hk]
  rfl
theorem deliver_3 (c : Cl) (m : Msg) (hup : (c.at m.to).up = true) (hk : m.kind = 3) : c.deliver m = (seen c m.to m.term).appended m := by
  unfold Cl.deliver
  rw [if_neg (by rw [hup]; decide), if_neg (by omega), if_neg (by omega), if_pos hk]
  rfl
theorem deliver_4 (c : Cl) (m : Msg) (hup : (c.at m.to).up = true) (hk : m.kind = 4) : c.deliver m = (if m.term ≠ ((seen c m.to m.term).at m.to).term ∨ ((seen c m.to m.term).at m.to).role ≠ 2 then seen c m.to m.term
    else if m.ok then ((seen c m.to m.term).put m.to { (seen c m.to m.term).at m.to with mat := ((seen c m.to m.term).at m.to).mat.set m.frm (max (((seen c m.to m.term).at m.to).mat.getD m.frm 0) m.a), next := ((seen c m.to m.term).at m.to).next.set m.frm (max (((seen c m.to m.term).at m.to).next.getD m.frm 0) (m.a + 1)) }).commits m.to
    else if m.a + 1 < ((seen c m.to m.term).at m.to).next.getD m.frm 0 then ((seen c m.to m.term).put m.to { (seen c m.to m.term).at m.to with next := ((seen c m.to m.term).at m.to).next.set m.frm (max (((seen c m.to m.term).at m.to).mat.getD m.frm 0 + 1) (m.a + 1)) }).records m.to m.frm
    else seen c m.to m.term) := by
  unfold Cl.deliver
  rw [if_neg (by rw [hup]; decide), if_neg (by omega), if_neg (by omega), if_neg (by omega), if_pos hk]
  rfl
theorem commit_in {n : Nat} {c : Cl} {s : St} (h : Rel n c s) (hc : Cov n c) {m : Msg} (hm : MsgOK n s m) (h3 : m.kind = 3) (ht : ¬ m.term < (c.at m.to).term) (ha : m.a ≤ (c.at m.to).log.length) (hb : termAt (c.at m.to).log m.a = m.b) :
    c.appended m = (((c.down m.to m.term).put m.to { (c.down m.to m.term).at m.to with log := merge (c.at m.to).log m.a m.log, commit := max (c.at m.to).commit (min m.c (m.a + m.log.length)) }).note m.to).send ⟨4, m.to, m.frm, ((c.down m.to m.term).at m.to).term, m.a + m.log.length, 0, 0, true, []⟩ ∧
    max (c.at m.to).commit (min m.c (m.a + m.log.length)) ≤ (merge (c.at m.to).log m.a m.log).length := by
  have hl : m.to < c.peers.length := by rw [h.len]; exact hm.to
  have e1 : ((c.down m.to m.term).at m.to).log = (c.at m.to).log := by rw [down_at c _ _ hl]; rfl
  have e2 : ((c.down m.to m.term).at m.to).commit = (c.at m.to).commit := by rw [down_at c _ _ hl]; rfl
  have e : c.appended m = (((c.down m.to m.term).put m.to { (c.down m.to m.term).at m.to with log := merge (c.at m.to).log m.a m.log, commit := max (c.at m.to).commit (min m.c (m.a + m.log.length)) }).note m.to).send ⟨4, m.to, m.frm, ((c.down m.to m.term).at m.to).term, m.a + m.log.length, 0, 0, true, []⟩ := by
    unfold Cl.appended
    dsimp only
    rw [if_neg ht, e1, e2, if_neg (fun g => g.elim (fun g => absurd ha (by omega)) (fun g => g hb))]
  refine ⟨e, ?_⟩
  obtain ⟨s', h1, _⟩ := h.appended hc hm h3
  have h2 := (h1.inv.comm m.to hm.to).1
  rw [h1.abs m.to hm.to, e, send_at, (note_at _ _ _).1, at_put _ _ _ (by rw [down_put]; show m.to < (c.peers.set _ _).length; rw [List.length_set]; exact hl)] at h2
  exact h2
theorem appended_old (c : Cl) (m : Msg) (ht : m.term < (c.at m.to).term) : c.appended m = c.send ⟨4, m.to, m.frm, (c.at m.to).term, 0, 0, 0, false, []⟩ := by
  unfold Cl.appended
  dsimp only
  rw [if_pos ht]
theorem appended_no (c : Cl) (m : Msg) (hl : m.to < c.peers.length) (ht : ¬ m.term < (c.at m.to).term) (hno : (c.at m.to).log.length < m.a ∨ termAt (c.at m.to).log m.a ≠ m.b) : c.appended m = (c.down m.to m.term).send ⟨4, m.to, m.frm, ((c.down m.to m.term).at m.to).term, min (m.a - 1) (c.at m.to).log.length, 0, 0, false, []⟩ := by
  have e1 : ((c.down m.to m.term).at m.to).log = (c.at m.to).log := by rw [down_at c _ _ hl]; rfl
  unfold Cl.appended
  dsimp only
  rw [if_neg ht, e1, if_pos hno]

theorem arrive_any (w : World) (M : Fz) (O : Lb) (d : Nat) (nb : List Nat) (c : Cl) (h : G w M O d nb c) (n : Nat) (h1 : 1 ≤ n) (h7 : n ≤ 7) (s : St) (hR : Rel n c s) (hC : Cov n c) (hB : Bd c) (m : Msg) (hm : MsgOK n s m) (hmb : MB m) (o : Option Addr) (ln lc : Nat) (hlv : RecsM M (.slice o ln lc) m.log) :
    Calls Try.prog 90 #[.pointer (some ⟨d, 0, none⟩), .agg #[.int .i64 m.kind, .int .i64 m.frm, .int .i64 m.to, .int .i64 m.term, .int .i64 m.a, .int .i64 m.b, .int .i64 m.c, .bool m.ok, .slice o ln lc]] w fun r w' => r = .returned (.tuple #[]) ∧ Did M O w d nb (c.deliver m) w' := by
  have hto : m.to < c.peers.length := by rw [hR.len]; exact hm.to
  obtain ⟨b, hb⟩ : ∃ b, nb[m.to]? = some b := ⟨_, List.getElem?_eq_getElem (by rw [h.len]; exact hto)⟩
  cases hup : (c.at m.to).up with
  | false =>
    have e : c.deliver m = c := by unfold Cl.deliver; rw [if_pos hup]
    rw [e]
    exact arrive_down w M O d nb c h b m hb o ln lc hup
  | true =>
    obtain ⟨s1, hR1, hC1, hm1⟩ := seen_rel hR hC hm.to m.term hm
    have hB1 := seen_bd hB m.to hmb.term
    have hF := fine hR1 hB1 hm.to
    have hfr : m.frm < (seen c m.to m.term).peers.length := by rw [hR1.len]; exact hm.frm
    have hto1 : m.to < (seen c m.to m.term).peers.length := by rw [hR1.len]; exact hm.to
    have ha := hmb.a
    have hf9 : m.frm ≤ 1000 := by have := hm.frm; omega
    have p1 : 1 ≤ (seen c m.to m.term).peers.length := by rw [hR1.len]; exact h1
    have p7 : (seen c m.to m.term).peers.length ≤ 7 := by rw [hR1.len]; exact h7
    have hch : (seen c m.to m.term).chosen.length ≤ 1000 := by have := hB1.chosen; omega
    have hF' : Fine (seen c m.to m.term).peers.length ((seen c m.to m.term).at m.to) := by rw [hR1.len]; exact hF
    rcases (show m.kind = 1 ∨ m.kind = 2 ∨ m.kind = 3 ∨ m.kind = 4 by have := hmb.kind; omega) with hk | hk | hk | hk
    · have e : ((m.kind : Nat) : Int) = 1 := by omega
      rw [deliver_1 c m hup hk hto1, e]
      refine arrive_1 w M O d nb c _ h m.to b m hb o ln lc hup (hide fun wx M1 O1 hle hG => ?_)
      have := voteAsked_any wx M1 O1 d nb _ hG m.to b hb m o ln lc hf9
      rw [e] at this
      exact this
    · have e : ((m.kind : Nat) : Int) = 2 := by omega
      rw [deliver_2 c m hup hk, e]
      refine arrive_2 w M O d nb c _ h m.to b m hb o ln lc hup (hide fun wx M1 O1 hle hG => ?_)
      have := voteCame_any wx M1 O1 d nb (seen c m.to m.term) hG m.to b hb m o ln lc p1 p7 hfr hF' hch
      rw [e] at this
      exact this
    · have e : ((m.kind : Nat) : Int) = 3 := by omega
      rw [deliver_3 c m hup hk, e]
      refine arrive_3 w M O d nb c _ h m.to b m hb o ln lc hup (hide fun wx M1 O1 hle hG => ?_)
      by_cases ht : m.term < ((seen c m.to m.term).at m.to).term
      · have := came_old wx M1 O1 d nb (seen c m.to m.term) hG m.to b hb m o ln lc ht
        rw [e] at this
        rw [appended_old _ _ ht]
        exact this
      · by_cases hno : ((seen c m.to m.term).at m.to).log.length < m.a ∨ termAt ((seen c m.to m.term).at m.to).log m.a ≠ m.b
        · have hab : 1 ≤ m.a := by
            rcases Nat.eq_zero_or_pos m.a with z | z
            · have hz := (hm1.recs hk).2.2.1
              rcases hno with g | g
              · omega
              · exact absurd (by rw [hz, z]; rfl) g
            · exact z
          have := came_no wx M1 O1 d nb (seen c m.to m.term) hG m.to b hb m o ln lc ht hno hab (by omega) (by have := hF.log; omega)
          rw [e] at this
          rw [appended_no _ _ hto1 ht hno]
          exact this
        · have g1 : m.a ≤ ((seen c m.to m.term).at m.to).log.length := by
            rcases Nat.lt_or_ge ((seen c m.to m.term).at m.to).log.length m.a with g | g
            · exact absurd (.inl g) hno
            · exact g
          have g2 : termAt ((seen c m.to m.term).at m.to).log m.a = m.b := Classical.byContradiction fun g => hno (.inr g)
          obtain ⟨q1, q2⟩ := commit_in hR1 hC1 hm1 hk ht g1 g2
          have := came_ok wx M1 O1 d nb (seen c m.to m.term) hG m.to b hb m o ln lc (hlv.le hle) ht g1 g2 (by have := hF.log; omega) (by omega) (idx hR1.inv hm1 hk) (by have := hmb.c; omega) hF.commit hch q2
          rw [e] at this
          rw [q1]
          exact this
    · have e : ((m.kind : Nat) : Int) = 4 := by omega
      rw [deliver_4 c m hup hk, e]
      refine arrive_4 w M O d nb c _ h m.to b m hb o ln lc hup (hide fun wx M1 O1 hle hG => ?_)
      by_cases hno : m.term ≠ ((seen c m.to m.term).at m.to).term ∨ ((seen c m.to m.term).at m.to).role ≠ 2
      · have := answ_no wx M1 O1 d nb (seen c m.to m.term) hG m.to b hb m o ln lc hno
        rw [e] at this
        rw [if_pos hno]
        exact this
      · rw [if_neg hno]
        have ht : m.term = ((seen c m.to m.term).at m.to).term := Classical.byContradiction fun g => hno (.inl g)
        have hr : ((seen c m.to m.term).at m.to).role = 2 := Classical.byContradiction fun g => hno (.inr g)
        cases hok : m.ok with
        | true =>
          have := answ_ok wx M1 O1 d nb (seen c m.to m.term) hG m.to b hb m o ln lc p1 p7 hfr hF' hch ht hr hok (by omega) (fun x hx => by have := (hB1.peers m.to).mat x hx; omega)
          rw [e, hok] at this
          rw [if_pos rfl]
          exact this
        | false =>
          have := answ_lo wx M1 O1 d nb (seen c m.to m.term) hG m.to b hb m o ln lc p1 p7 hfr hF' ht hr hok (by omega) (mat_le hR1 hm.to hr)
          rw [e, hok] at this
          rw [if_neg (by decide)]
          exact this
end Go.Proofs.Ytklkglbimjajnaa.deliv
