import Derived.Test.YtklkglbimjajnaaQ09
import Derived.Test.YtklkglbimjajnaaQ04
import Derived.Test.YtklkglbimjajnaaQ05
import Derived.Test.YtklkglbimjajnaaQ07
import Derived.Laws.EntriesVeiled
set_option linter.unusedVariables false
open Go.ChangeShapes Go.WideShapes Go.ChangeAt Go.RowKit
namespace Go.Proofs.Ytklkglbimjajnaa.deliv
open Raft mem grp Ytklkglbimjajnaa.look ndw grant stand lead rows2 post postb say lookb lookc commit too elect tick vote arrive answ came cameok
theorem fine {n : Nat} {c : Cl} {s : St} (h : Rel n c s) (hB : Bd c) {k : Nat} (hk : k < n) : Fine n (c.at k) := by
  have h1 := h.wf k hk
  have h2 := (h.inv.comm k hk).1
  rw [h.abs k hk] at h2
  exact ⟨h1.votes, h1.lists, (hB.peers k).term, h2, (hB.peers k).log⟩
theorem mat_le {n : Nat} {c : Cl} {s : St} (h : Rel n c s) {k : Nat} (hk : k < n) (hr : (c.at k).role = 2) : ∀ x ∈ (c.at k).mat, x ≤ (c.at k).log.length := by
  intro x hx
  obtain ⟨q, hq, e⟩ := List.getElem_of_mem hx
  have hl := ((h.wf k hk).lists hr).2.1
  have h1 := h.inv.leader k hk (by rw [h.abs k hk]; exact hr)
  have h2 := h1.2.2 q (by omega)
  have h3 := h.inv.ack_le (s.pr k).term q
  rw [← h1.2.1, h.abs k hk] at h3
  rw [h.abs k hk] at h2
  have h2' : (c.at k).mat.getD q 0 ≤ s.ack (c.at k).term q := h2
  have h3' : s.ack (c.at k).term q ≤ (c.at k).log.length := h3
  have e2 : (c.at k).mat.getD q 0 = x := by rw [List.getD_eq_getElem?_getD, List.getElem?_eq_getElem hq, e]; rfl
  omega
theorem idx {n : Nat} {s : St} (h : Inv n s) {m : Msg} (hm : MsgOK n s m) (h3 : m.kind = 3) : ∀ (j : Nat) (r : Rc), m.log[j]? = some r → r.index = m.a + j + 1 := by
  intro j r hr
  obtain ⟨h1, h2, _, h4, _, _⟩ := hm.recs h3
  have hl := (h.lead_cl _ _ h1).2.2.2
  rw [h4, List.getElem?_drop, List.getElem?_take] at hr
  split at hr
  · exact (hl _ r hr).2.2.2.2
  · cases hr
theorem down_at (c : Cl) (k T : Nat) (h : k < c.peers.length) : (c.down k T).at k = downP (c.at k) T := at_put c k _ h
def seen (c : Cl) (k T : Nat) : Cl := if (c.at k).term < T then c.down k T else c
theorem seen_rel {n : Nat} {c : Cl} {s : St} (h : Rel n c s) (hc : Cov n c) {k : Nat} (hk : k < n) (T : Nat) {m : Msg} (hm : MsgOK n s m) : ∃ s', Rel n (seen c k T) s' ∧ Cov n (seen c k T) ∧ MsgOK n s' m := by
  unfold seen
  split
  · obtain ⟨s', h1, h2, h3, _⟩ := h.down hc hk T
    exact ⟨s', h1, h2, hm.ext h3⟩
  · exact ⟨s, h, hc, hm⟩
theorem seen_bd {c : Cl} (h : Bd c) (k : Nat) {T : Nat} (hT : T ≤ 1000000) : Bd (seen c k T) := by
  unfold seen
  split
  · exact h.down k hT
  · exact h
theorem deliver_1 (c : Cl) (m : Msg) (hup : (c.at m.to).up = true) (hk : m.kind = 1) (hl : m.to < (seen c m.to m.term).peers.length) : c.deliver m = (((seen c m.to m.term).put m.to (grantP ((seen c m.to m.term).at m.to) m.frm (okV ((seen c m.to m.term).at m.to) m))).send ⟨2, m.to, m.frm, ((seen c m.to m.term).at m.to).term, 0, 0, 0, okV ((seen c m.to m.term).at m.to) m, []⟩) := by
  unfold Cl.deliver
  rw [if_neg (by rw [hup]; decide), if_pos hk]
  show (if okV ((seen c m.to m.term).at m.to) m = true then _ else seen c m.to m.term).send _ = _
  congr 1
  unfold grantP
  split
  · rfl
  · exact (put_at _ _ hl).symm
theorem deliver_2 (c : Cl) (m : Msg) (hup : (c.at m.to).up = true) (hk : m.kind = 2) : c.deliver m = (if m.term = ((seen c m.to m.term).at m.to).term ∧ ((seen c m.to m.term).at m.to).role = 1 ∧ m.ok = true then ((seen c m.to m.term).put m.to { (seen c m.to m.term).at m.to with votes := ((seen c m.to m.term).at m.to).votes.set m.frm true }).elected m.to else seen c m.to m.term) := by
  unfold Cl.deliver
  rw [if_neg (by rw [hup]; decide), if_neg (by omega), if_pos hk]
  rfl
theorem deliver_3 (c : Cl) (m : Msg) (hup : (c.at m.to).up = true) (hk : m.kind = 3) : c.deliver m = (seen c m.to m.term).appended m := by
  unfold Cl.deliver
  rw [if_neg (by rw [hup]; decide), if_neg (by omega), if_neg (by omega), if_pos hk]
  rfl
theorem deliver_4 (c : Cl) (m : Msg) (hup : (c.at m.to).up = true) (hk : m.kind = 4) : c.deliver m = (if m.term ≠ ((seen c m.to m.term).at m.to).term ∨ ((seen c m.to m.term).at m.to).role ≠ 2 then seen c m.to m.term
    else if m.ok then ((seen c m.to m.term).put m.to { (seen c m.to m.term).at m.to with mat := ((seen c m.to m.term).at m.to).mat.set m.frm (max (((seen c m.to m.term).at m.to).mat.getD m.frm 0) m.a), next := ((seen c m.to m.term).at m.to).next.set m.frm (max (((seen c m.to m.term).at m.to).next.getD m.frm 0) (m.a + 1)) }).commits m.to
    else if m.a + 1 < ((seen c m.to m.term).at m.to).next.getD m.frm 0 then ((seen c m.to m.term).put m.to { (seen c m.to m.term).at m.to with next := ((seen c m.to m.term).at m.to).next.set m.frm (max (((seen c m.to m.term).at m.to).mat.getD m.frm 0 + 1) (m.a + 1)) }).records m.to m.frm
    else seen c m.to m.term) := by
  unfold Cl.deliver
  rw [if_neg (by rw [hup]; decide), if_neg (by omega), if_neg (by omega), if_neg (by omega), if_pos hk]
  rfl
theorem commit_in {n : Nat} {c : Cl} {s : St} (h : Rel n c s) (hc : Cov n c) {m : Msg} (hm : MsgOK n s m) (h3 : m.kind = 3) (ht : ¬ m.term < (c.at m.to).term) (ha : m.a ≤ (c.at m.to).log.length) (hb : termAt (c.at m.to).log m.a = m.b) :
    c.appended m = (((c.down m.to m.term).put m.to { (c.down m.to m.term).at m.to with log := merge (c.at m.to).log m.a m.log, commit := max (c.at m.to).commit (min m.c (m.a + m.log.length)) }).note m.to).send ⟨4, m.to, m.frm, ((c.down m.to m.term).at m.to).term, m.a + m.log.length, 0, 0, true, []⟩ ∧
    max (c.at m.to).commit (min m.c (m.a + m.log.length)) ≤ (merge (c.at m.to).log m.a m.log).length := by
  have hl : m.to < c.peers.length := by rw [h.len]; exact hm.to
  have e1 : ((c.down m.to m.term).at m.to).log = (c.at m.to).log := by rw [down_at c _ _ hl]; rfl
  have e2 : ((c.down m.to m.term).at m.to).commit = (c.at m.to).commit := by rw [down_at c _ _ hl]; rfl
  have e : c.appended m = (((c.down m.to m.term).put m.to { (c.down m.to m.term).at m.to with log := merge (c.at m.to).log m.a m.log, commit := max (c.at m.to).commit (min m.c (m.a + m.log.length)) }).note m.to).send ⟨4, m.to, m.frm, ((c.down m.to m.term).at m.to).term, m.a + m.log.length, 0, 0, true, []⟩ := by
    unfold Cl.appended
    dsimp only
    rw [if_neg ht, e1, e2, if_neg (fun g => g.elim (fun g => absurd ha (by omega)) (fun g => g hb))]
  refine ⟨e, ?_⟩
  obtain ⟨s', h1, _⟩ := h.appended hc hm h3
  have h2 := (h1.inv.comm m.to hm.to).1
  rw [h1.abs m.to hm.to, e, send_at, (note_at _ _ _).1, at_put _ _ _ (by rw [down_put]; show m.to < (c.peers.set _ _).length; rw [List.length_set]; exact hl)] at h2
  exact h2
theorem appended_old (c : Cl) (m : Msg) (ht : m.term < (c.at m.to).term) : c.appended m = c.send ⟨4, m.to, m.frm, (c.at m.to).term, 0, 0, 0, false, []⟩ := by
  unfold Cl.appended
  dsimp only
  rw [if_pos ht]
theorem appended_no (c : Cl) (m : Msg) (hl : m.to < c.peers.length) (ht : ¬ m.term < (c.at m.to).term) (hno : (c.at m.to).log.length < m.a ∨ termAt (c.at m.to).log m.a ≠ m.b) : c.appended m = (c.down m.to m.term).send ⟨4, m.to, m.frm, ((c.down m.to m.term).at m.to).term, min (m.a - 1) (c.at m.to).log.length, 0, 0, false, []⟩ := by
  have e1 : ((c.down m.to m.term).at m.to).log = (c.at m.to).log := by rw [down_at c _ _ hl]; rfl
  unfold Cl.appended
  dsimp only
  rw [if_neg ht, e1, if_pos hno]
theorem arrive_any (w : World) (M : Fz) (O : Lb) (d : Nat) (nb : List Nat) (c : Cl) (h : G w M O d nb c) (n : Nat) (h1 : 1 ≤ n) (h7 : n ≤ 7) (s : St) (hR : Rel n c s) (hC : Cov n c) (hB : Bd c) (m : Msg) (hm : MsgOK n s m) (hmb : MB m) (o : Option Addr) (ln lc : Nat) (hlv : RecsM M (.slice o ln lc) m.log) :
    Calls Try.prog 90 #[.pointer (some ⟨d, 0, none⟩), .agg #[.int .i64 m.kind, .int .i64 m.frm, .int .i64 m.to, .int .i64 m.term, .int .i64 m.a, .int .i64 m.b, .int .i64 m.c, .bool m.ok, .slice o ln lc]] w fun r w' => r = .returned (.tuple #[]) ∧ Did M O w d nb (c.deliver m) w' := by
  have hto : m.to < c.peers.length := by rw [hR.len]; exact hm.to
  obtain ⟨b, hb⟩ : ∃ b, nb[m.to]? = some b := ⟨_, List.getElem?_eq_getElem (by rw [h.len]; exact hto)⟩
  cases hup : (c.at m.to).up with
  | false =>
    have e : c.deliver m = c := by unfold Cl.deliver; rw [if_pos hup]
    rw [e]
    exact arrive_down w M O d nb c h b m hb o ln lc hup
  | true =>
    obtain ⟨s1, hR1, hC1, hm1⟩ := seen_rel hR hC hm.to m.term hm
    have hB1 := seen_bd hB m.to hmb.term
    have hF := fine hR1 hB1 hm.to
    have hfr : m.frm < (seen c m.to m.term).peers.length := by rw [hR1.len]; exact hm.frm
    have hto1 : m.to < (seen c m.to m.term).peers.length := by rw [hR1.len]; exact hm.to
    have ha := hmb.a
    have hf9 : m.frm ≤ 1000 := by have := hm.frm; omega
    have p1 : 1 ≤ (seen c m.to m.term).peers.length := by rw [hR1.len]; exact h1
    have p7 : (seen c m.to m.term).peers.length ≤ 7 := by rw [hR1.len]; exact h7
    have hch : (seen c m.to m.term).chosen.length ≤ 1000 := by have := hB1.chosen; omega
    have hF' : Fine (seen c m.to m.term).peers.length ((seen c m.to m.term).at m.to) := by rw [hR1.len]; exact hF
    rcases (show m.kind = 1 ∨ m.kind = 2 ∨ m.kind = 3 ∨ m.kind = 4 by have := hmb.kind; omega) with hk | hk | hk | hk
    · have e : ((m.kind : Nat) : Int) = 1 := by omega
      rw [deliver_1 c m hup hk hto1, e]
      refine arrive_1 w M O d nb c _ h m.to b m hb o ln lc hup (hide fun wx M1 O1 hle hG => ?_)
      have := voteAsked_any wx M1 O1 d nb _ hG m.to b hb m o ln lc hf9
      rw [e] at this
      exact this
    · have e : ((m.kind : Nat) : Int) = 2 := by omega
      rw [deliver_2 c m hup hk, e]
      refine arrive_2 w M O d nb c _ h m.to b m hb o ln lc hup (hide fun wx M1 O1 hle hG => ?_)
      have := voteCame_any wx M1 O1 d nb (seen c m.to m.term) hG m.to b hb m o ln lc p1 p7 hfr hF' hch
      rw [e] at this
      exact this
    · have e : ((m.kind : Nat) : Int) = 3 := by omega
      rw [deliver_3 c m hup hk, e]
      refine arrive_3 w M O d nb c _ h m.to b m hb o ln lc hup (hide fun wx M1 O1 hle hG => ?_)
      by_cases ht : m.term < ((seen c m.to m.term).at m.to).term
      · have := came_old wx M1 O1 d nb (seen c m.to m.term) hG m.to b hb m o ln lc ht
        rw [e] at this
        rw [appended_old _ _ ht]
        exact this
      · by_cases hno : ((seen c m.to m.term).at m.to).log.length < m.a ∨ termAt ((seen c m.to m.term).at m.to).log m.a ≠ m.b
        · have hab : 1 ≤ m.a := by
            rcases Nat.eq_zero_or_pos m.a with z | z
            · have hz := (hm1.recs hk).2.2.1
              rcases hno with g | g
              · omega
              · exact absurd (by rw [hz, z]; rfl) g
            · exact z
          have := came_no wx M1 O1 d nb (seen c m.to m.term) hG m.to b hb m o ln lc ht hno hab (by omega) (by have := hF.log; omega)
          rw [e] at this
          rw [appended_no _ _ hto1 ht hno]
          exact this
        · have g1 : m.a ≤ ((seen c m.to m.term).at m.to).log.length := by
            rcases Nat.lt_or_ge ((seen c m.to m.term).at m.to).log.length m.a with g | g
            · exact absurd (.inl g) hno
            · exact g
          have g2 : termAt ((seen c m.to m.term).at m.to).log m.a = m.b := Classical.byContradiction fun g => hno (.inr g)
          obtain ⟨q1, q2⟩ := commit_in hR1 hC1 hm1 hk ht g1 g2
          have := came_ok wx M1 O1 d nb (seen c m.to m.term) hG m.to b hb m o ln lc (hlv.le hle) ht g1 g2 (by have := hF.log; omega) (by omega) (idx hR1.inv hm1 hk) (by have := hmb.c; omega) hF.commit hch q2
          rw [e] at this
          rw [q1]
          exact this
    · have e : ((m.kind : Nat) : Int) = 4 := by omega
      rw [deliver_4 c m hup hk, e]
      refine arrive_4 w M O d nb c _ h m.to b m hb o ln lc hup (hide fun wx M1 O1 hle hG => ?_)
      by_cases hno : m.term ≠ ((seen c m.to m.term).at m.to).term ∨ ((seen c m.to m.term).at m.to).role ≠ 2
      · have := answ_no wx M1 O1 d nb (seen c m.to m.term) hG m.to b hb m o ln lc hno
        rw [e] at this
        rw [if_pos hno]
        exact this
      · rw [if_neg hno]
        have ht : m.term = ((seen c m.to m.term).at m.to).term := Classical.byContradiction fun g => hno (.inl g)
        have hr : ((seen c m.to m.term).at m.to).role = 2 := Classical.byContradiction fun g => hno (.inr g)
        cases hok : m.ok with
        | true =>
          have := answ_ok wx M1 O1 d nb (seen c m.to m.term) hG m.to b hb m o ln lc p1 p7 hfr hF' hch ht hr hok (by omega) (fun x hx => by have := (hB1.peers m.to).mat x hx; omega)
          rw [e, hok] at this
          rw [if_pos rfl]
          exact this
        | false =>
          have := answ_lo wx M1 O1 d nb (seen c m.to m.term) hG m.to b hb m o ln lc p1 p7 hfr hF' ht hr hok (by omega) (mat_le hR1 hm.to hr)
          rw [e, hok] at this
          rw [if_neg (by decide)]
          exact this
end Go.Proofs.Ytklkglbimjajnaa.deliv
namespace Go.Proofs.Ytklkglbimjajnaa.add
open Raft mem grp Ytklkglbimjajnaa.look ndw grant stand rows2 clone lookc logs
set_option maxRecDepth 20000 in
set_option maxHeartbeats 2000000 in
theorem add_any (w : World) (M : Fz) (O : Lb) (b k : Nat) (p : Peer) (st : Sta M O w) (h : Nod w M O b k p) (xs : List Int) (o : Option Addr) (n lc : Nat) (hd : BytesM M (.slice o n lc) xs) (hx : xs.length ≤ 1000) (hl : p.log.length ≤ 1000) :
    Calls Try.prog 139 #[.pointer (some ⟨b, 0, none⟩), .slice o n lc] w fun r w' => r = .returned (.tuple #[]) ∧ NDid M O w b k { p with log := p.log ++ [⟨p.term, p.log.length + 1, xs⟩] } w' := by
  have hnode := h
  obtain ⟨us, lv, vv, nv, mv, h⟩ := h
  have hus : us.length = p.log.length := by rw [← h.recs]; simp
  obtain ⟨co, cc, ecv⟩ := own_slice h.log
  subst ecv
  have hcap := (own_cap h.log).2.2
  unfold maxLen at hcap
  obtain ⟨⟨c0, _, c2, _⟩, ⟨_, _, f2, _⟩⟩ := Nd.cs h
  obtain ⟨i0, hii, hz0, hz1, hz2⟩ := info_parts info35
  have HI3 : Hid (Try.prog.info? 38 = some i0 ∧ i0.zero = some (.agg #[.int .i64 0, .int .i64 0, .slice none 0 0]) ∧ i0.size = 3 ∧ i0.bytes = 40) := ⟨hii, hz0, hz1, hz2⟩
  obtain ⟨OB, hOB⟩ : ∃ OB : Obj, OB = .cells #[.int .i64 p.term, .int .i64 ((p.log.length : Int) + 1), .slice o n lc] 38 := ⟨_, rfl⟩
  have hbl := (st.ok b _ h.own).2
  have HRow : Hid (((w.alloc OB).drew).ownsRow 0 38 3 (.slice co us.length cc) us.length (us.flatMap recCells)) := row_kept h.log fun g' hg' => (more (Below.refl _ _) OB).block g' (row_lt h.log hg').2
  have HNw : Hid (∀ (j : Nat) (u : Value), ([.int .i64 p.term, .int .i64 ((p.log.length : Int) + 1), .slice o n lc] : List Value)[j]? = some u → ((w.alloc OB).drew).cell? ((⟨w.heap.size, 0, none⟩ : Addr).add j) = some u) := fun j u hu => by
    rw [addr_add, Nat.zero_add]
    have h7 : (w.alloc OB).cell? ⟨w.heap.size, j, none⟩ = some u := by rw [hOB]; exact cell_of (heap_alloc_new w _) (by simpa using hu)
    exact h7
  have HD : Hid (∀ (w2 : World), ((w.alloc OB).drew).grownBy w2 (Value.slice co us.length cc).ownBlock → w2.heap[b]? = w.heap[b]?) := fun w2 hg => (hg.block b (by have e7 : ((w.alloc OB).drew).heap.size = (w.alloc OB).heap.size := rfl; have := (more (Below.refl _ w) OB).size; omega) (fun e => h.ne.1 e.symm)).trans ((more (Below.refl _ _) OB).block b hbl)
  have HDb := hide h.blk
  have HFin : Hid (∀ (w2 : World) (g2 n2 cap2 : Nat), ((w.alloc OB).drew).grownBy w2 (Value.slice co us.length cc).ownBlock → w2.ownsRow 0 38 3 (.slice (some ⟨g2, 0, none⟩) n2 cap2) (us.length + 1) (us.flatMap recCells ++ [.int .i64 p.term, .int .i64 ((p.log.length : Int) + 1), .slice o n lc]) → ((Value.slice co us.length cc).ownBlock = some g2 ∨ g2 = ((w.alloc OB).drew).heap.size) → NDid M O w b k { p with log := p.log ++ [⟨p.term, p.log.length + 1, xs⟩] } (w2.setCell ⟨b, 2, none⟩ (.slice (some ⟨g2, 0, none⟩) n2 cap2))) := fun w2 g2 n2 cap2 p1 p2 p3 =>
    NDid.push st h (more (Below.refl _ _) OB).drew (y := ⟨⟨p.term, p.log.length + 1, xs⟩, .slice o n lc⟩) ⟨hd, hx⟩ p2 p1 p3
  have HL : Hid (∀ wx, Below w.heap.size w wx → Calls Try.prog 138 #[.pointer (some ⟨b, 0, none⟩)] wx fun r w' => r = .returned (.int .i64 (p.log.length : Nat)) ∧ w' = wx) := fun wx hb => last_any wx M O b k p (Nod.below st hnode hb)
  have hlI : (p.log.length : Int) ≤ 1000 := by omega
  rw [hOB] at HRow HNw HD HFin
  rw [hus] at c2 HRow HD HFin
  have hLl : p.log.length ≤ 1000 := hl
  generalize p.log.length = L at *
  have hwr : IntKind.i64.wrap ((L : Int) + 1) = (L : Int) + 1 := by rw [IntKind.wrap_i64]; omega
  clear hii hz0 hz1 hz2 h hnode st hus hOB hd
  go_enter Try.func139, Try.ntmps139
  go_wp2
  go_region_law (first
    | (go_simp; go_at_call 138; refine (HL.out _ (by first | exact (Below.refl _ _).drew | exact Below.refl _ _ | exact (more (Below.refl _ _) _).drew)).mono ?_; rintro rr w1 ⟨rfl, hw1⟩; have hw2 := hw1.symm; subst hw2; clear hw1)
    | (refine step_append_lies _ rfl _ _ 28 rfl 0 38 i0 (.agg #[.int .i64 0, .int .i64 0, .slice none 0 0]) 3 40 Try.underlying28 HI3.out.1 HI3.out.2.1 HI3.out.2.2.1 HI3.out.2.2.2 rfl (by decide) _ L (us.flatMap recCells) rfl HRow.out ⟨w.heap.size, 0, none⟩ 1 1 [.int .i64 p.term, .int .i64 ((L : Int) + 1), .slice o n lc] rfl rfl HNw.out (fun u' hu' => by simp only [List.mem_cons, List.not_mem_nil, or_false] at hu'; rcases hu' with rfl | rfl | rfl <;> rfl) (by decide) (by unfold maxLen; omega) (by omega) (Nat.zero_le _) _ rfl ?_
       intro g2 cap2 w2 O2 G2 hg2 hgl2
       have HN2 := hide (HFin.out w2 g2 _ cap2 G2 O2 hg2)
       have k2 := (HD.out w2 G2).trans HDb.out
       have t0 := cell_of (i := 2) k2 (v := .slice co _ cc) rfl
       have t1 := frozen_of k2 2
       clear O2 G2 hg2 hgl2 k2))
  all_goals
    go_wp2
    go_end0
    exact ⟨rfl, HN2.out⟩
end Go.Proofs.Ytklkglbimjajnaa.add
namespace Go.Proofs.Ytklkglbimjajnaa.prop
open Raft mem grp Ytklkglbimjajnaa.look ndw grant stand lead rows2 post postb say lookb lookc commit too elect tick add
theorem bytes_len {M : Fz} {o : Option Addr} {n lc : Nat} {xs : List Int} (h : BytesM M (.slice o n lc) xs) : n = xs.length ∧ lc ≤ 9223372036854775807 ∧ n ≤ lc := by
  obtain ⟨⟨ao, cap, e, e1, e2, _⟩, _⟩ := h
  simp only [Value.slice.injEq] at e
  obtain ⟨_, rfl, rfl⟩ := e
  unfold maxLen at e2
  exact ⟨rfl, by omega, e1⟩
set_option maxHeartbeats 1000000 in
theorem prop_stale (w : World) (M : Fz) (O : Lb) (d : Nat) (nb : List Nat) (c : Cl) (h : G w M O d nb c) (k b : Nat) (hb : nb[k]? = some b) (dv : Value) (hr : (c.at k).role ≠ 2) :
    Calls Try.prog 96 #[.pointer (some ⟨d, 0, none⟩), .pointer (some ⟨b, 0, none⟩), dv] w fun r w' => r = .returned (.int .i64 15) ∧ w' = w := by
  obtain ⟨us, lv, vv, nv, mv, hn⟩ := h.at hb
  have c6 := (Nd.cs hn).1.2.2.2.2.2.2.1
  have e1 : (((c.at k).role : Int) != 2) = true := by simp; omega
  generalize (c.at k).role = R at *
  clear hn h hr
  go_enter Try.func96, Try.ntmps96
  go_wp2
  go_ret
  exact ⟨rfl, rfl⟩
set_option maxHeartbeats 1000000 in
theorem prop_size (w : World) (M : Fz) (O : Lb) (d : Nat) (nb : List Nat) (c : Cl) (h : G w M O d nb c) (k b : Nat) (hb : nb[k]? = some b) (xs : List Int) (o : Option Addr) (n lc : Nat) (hd : BytesM M (.slice o n lc) xs) (hr : (c.at k).role = 2) (hs : 1000 < xs.length ∨ (c.at k).log.length = 100) :
    Calls Try.prog 96 #[.pointer (some ⟨d, 0, none⟩), .pointer (some ⟨b, 0, none⟩), .slice o n lc] w fun r w' => r = .returned (.int .i64 14) ∧ w' = w := by
  have HL := hide (last_any w M O b k _ (h.at hb))
  obtain ⟨us, lv, vv, nv, mv, hn⟩ := h.at hb
  have c6 := (Nd.cs hn).1.2.2.2.2.2.2.1
  have e1 : (((c.at k).role : Int) != 2) = false := by simp; omega
  obtain ⟨hnl, hlc, _⟩ := bytes_len hd
  rw [← hnl] at hs
  by_cases hx : 1000 < n
  · have hxI : (1000 : Int) < n := by omega
    generalize (c.at k).role = R at *
    clear hn h hr hnl hd hs
    go_enter Try.func96, Try.ntmps96
    go_wp2
    go_ret
    exact ⟨rfl, rfl⟩
  · have hxI : ¬ (1000 : Int) < n := by omega
    have hL : (c.at k).log.length = 100 := by omega
    rw [hL] at HL
    generalize (c.at k).role = R at *
    clear hn h hr hnl hd hs hL
    go_enter Try.func96, Try.ntmps96
    go_wp2_with (go_at_call 138; refine HL.out.mono ?_; rintro rr w1 ⟨rfl, hw1⟩; have hw2 := hw1.symm; subst hw2; clear hw1)
    go_ret
    exact ⟨rfl, rfl⟩
set_option maxHeartbeats 2000000 in
theorem prop_ok (w : World) (M : Fz) (O : Lb) (d : Nat) (nb : List Nat) (c : Cl) (h : G w M O d nb c) (k b : Nat) (hb : nb[k]? = some b) (xs : List Int) (o : Option Addr) (n lc : Nat) (hd : BytesM M (.slice o n lc) xs) (h1 : 1 ≤ c.peers.length) (h7 : c.peers.length ≤ 7) (hF : Fine c.peers.length (c.at k)) (hch : c.chosen.length ≤ 1000) (hr : (c.at k).role = 2) (hs : ¬ (1000 < xs.length ∨ (c.at k).log.length = 100)) :
    Calls Try.prog 96 #[.pointer (some ⟨d, 0, none⟩), .pointer (some ⟨b, 0, none⟩), .slice o n lc] w fun r w' => r = .returned (.int .i64 0) ∧ Did M O w d nb ((c.put k { c.at k with log := (c.at k).log ++ [⟨(c.at k).term, (c.at k).log.length + 1, xs⟩], mat := (c.at k).mat.set k ((c.at k).log.length + 1) }).commits k) w' := by
  have st := h.sta
  have hkl : k < c.peers.length := by have := (List.getElem?_eq_some_iff.1 hb).1; have := h.len; omega
  have HL := hide (last_any w M O b k _ (h.at hb))
  obtain ⟨us, lv, vv, nv, mv, hn⟩ := h.at hb
  have c6 := (Nd.cs hn).1.2.2.2.2.2.2.1
  have e1 : (((c.at k).role : Int) != 2) = false := by simp; omega
  obtain ⟨hnl, hlc, _⟩ := bytes_len hd
  have hxI : ¬ (1000 : Int) < n := by omega
  have hll := hF.log
  obtain ⟨q1, q2, q3⟩ := hF.lists hr
  obtain ⟨c1, hc1⟩ : ∃ c1, c1 = c.put k { c.at k with log := (c.at k).log ++ [⟨(c.at k).term, (c.at k).log.length + 1, xs⟩] } := ⟨_, rfl⟩
  have hc1k : c1.at k = { c.at k with log := (c.at k).log ++ [⟨(c.at k).term, (c.at k).log.length + 1, xs⟩] } := by rw [hc1]; exact at_put c k _ hkl
  have hc1n : c1.peers.length = c.peers.length := by rw [hc1]; exact put_len _ _ _
  obtain ⟨c2, hc2⟩ : ∃ c2, c2 = c.put k { c.at k with log := (c.at k).log ++ [⟨(c.at k).term, (c.at k).log.length + 1, xs⟩], mat := (c.at k).mat.set k ((c.at k).log.length + 1) } := ⟨_, rfl⟩
  have hc2k : c2.at k = { c.at k with log := (c.at k).log ++ [⟨(c.at k).term, (c.at k).log.length + 1, xs⟩], mat := (c.at k).mat.set k ((c.at k).log.length + 1) } := by rw [hc2]; exact at_put c k _ hkl
  rw [← hc2]
  have HAd : Hid (Calls Try.prog 139 #[.pointer (some ⟨b, 0, none⟩), .slice o n lc] w fun r w' => r = .returned (.tuple #[]) ∧ Did M O w d nb c1 w') := by
    refine (add_any w M O b k _ st (h.at hb) xs o n lc hd (by omega) (by omega)).mono ?_
    rintro r w' ⟨rfl, h2⟩
    rw [hc1]
    exact ⟨rfl, NDid.lift h2 h hb⟩
  obtain ⟨V, hV⟩ : ∃ V, V = (c.at k).log.length + 1 := ⟨_, rfl⟩
  have HSt : Hid (∀ wx, Did M O w d nb c1 wx → ∃ g cap ML, (wx.cell? ⟨b, 9, none⟩ = some (.slice (some ⟨g, 0, none⟩) ML cap) ∧ wx.cell? ⟨b, 3, none⟩ = some (.int .i64 k) ∧ (∃ z : Int, wx.cell? ⟨g, k, none⟩ = some (.int .i64 z)) ∧ wx.frozen? ⟨g, k, none⟩ = false) ∧ k < ML ∧ Hid (∀ q, Did M O w d nb c2 ((wx.drewN q).setCell ⟨g, k, none⟩ (.int .i64 V))) ∧ Hid (∀ q, Calls Try.prog 138 #[.pointer (some ⟨b, 0, none⟩)] (wx.drewN q) fun r w' => r = .returned (.int .i64 (V : Nat)) ∧ w' = wx.drewN q)) := fun wx hx => by
    obtain ⟨M1, O1, a1, g1⟩ := hx
    obtain ⟨us1, lv1, vv1, nv1, mv1, hn1⟩ := g1.at hb
    have hml : (c1.at k).mat.length = c.peers.length := by rw [hc1k]; exact q2
    obtain ⟨g, cap, rfl, hg1, hg2, hcells, hfz⟩ := own_at hn1.mat (by omega)
    have hcs := Nd.cs hn1
    refine ⟨g, cap, _, ⟨hcs.1.2.2.2.2.2.2.2.2.2, hcs.1.2.2.2.1, ⟨_, hcells k _ (by rw [List.getElem?_map, getD_get (by omega)]; rfl)⟩, hfz k⟩, by omega, fun q => ?_, fun q => ?_⟩
    · have hGq := g1.below (drewN_below wx q)
      have h2 := NDid.lift (NDid.setMat hGq.sta (hn1.keep (w' := wx.drewN q) (fun _ _ => rfl) (Le.refl _) (fun _ h => h)) k V) hGq hb
      have e9 : c1.put k { c1.at k with mat := (c1.at k).mat.set k V } = c2 := by
        rw [hc1k, hc1, hc2, hV]
        simp [Cl.put, List.set_set]
      rw [e9] at h2
      exact Did.trans (a1.below (drewN_below wx q)) h2
    · have h9 := last_any (wx.drewN q) M1 O1 b k _ ((g1.below (drewN_below wx q)).at hb)
      rw [hc1k] at h9
      have e9 : ({ c.at k with log := (c.at k).log ++ [⟨(c.at k).term, (c.at k).log.length + 1, xs⟩] } : Peer).log.length = V := by simp [hV]
      rw [e9] at h9
      exact h9
  have HCm : Hid (∀ wx, Did M O w d nb c2 wx → Calls Try.prog 140 #[.pointer (some ⟨d, 0, none⟩), .pointer (some ⟨b, 0, none⟩)] wx fun r w' => r = .returned (.tuple #[]) ∧ Did M O w d nb (c2.commits k) w') := fun wx hx => by
    obtain ⟨M1, O1, a1, g1⟩ := hx
    have hn2 : c2.peers.length = c.peers.length := by rw [hc2]; exact put_len _ _ _
    refine (commits_any wx M1 O1 d nb c2 g1 k b hb (by omega) (by omega) (by rw [hc2k]; simp; omega) (by rw [hc2k]; have := hF.commit; simp; omega) (by rw [hc2k]; simp; omega) (by rw [hc2]; exact hch)).mono ?_
    rintro r w' ⟨rfl, h2⟩
    exact ⟨rfl, Did.trans a1 h2⟩
  have hLI : (((c.at k).log.length : Int) == 100) = false := by simp; omega
  generalize (c.at k).role = R at *
  generalize (c.at k).log.length = L at *
  clear hn h hr hnl hd hs q1 q2 q3 st hc1 hc1k hc2 hc2k hF hV
  go_enter Try.func96, Try.ntmps96
  go_wp2_with (first
    | (go_at_call 138; refine HL.out.mono ?_; rintro rr w1 ⟨rfl, hw1⟩; have hw2 := hw1.symm; subst hw2; clear hw1)
    | (go_at_call 139; refine HAd.out.mono ?_; rintro rr w3 ⟨rfl, hd3⟩; have HD3 := hide hd3; clear hd3))
  obtain ⟨g, cap, ML, ⟨x9, x3, ⟨z, xg⟩, fg⟩, hkM, HS3, HL3⟩ := HSt.out _ HD3.out
  have hkMI : (k : Int) < ML := by omega
  go_region_law (first | (go_simp; go_at_call 138; refine (HL3.out 1).mono ?_; rintro rr w9 ⟨rfl, hw9⟩; have hw2 := hw9.symm; subst hw2; clear hw9))
  all_goals
    go_wp2_with (go_at_call 140; refine (HCm.out _ (by first | exact HS3.out _ | exact (HS3.out 0).drew)).mono ?_; rintro rr w5 ⟨rfl, hd5⟩; have HD5 := hide hd5; clear hd5)
    go_ret
    exact ⟨rfl, HD5.out⟩
end Go.Proofs.Ytklkglbimjajnaa.prop
namespace Go.Proofs.Ytklkglbimjajnaa.onmsg
open Raft mem grp Ytklkglbimjajnaa.look ndw grant stand lead rows2 post postb say lookb lookc commit too elect tick vote arrive deliv prop
theorem G.size {w : World} {M : Fz} {O : Lb} {d : Nat} {nb : List Nat} {c : Cl} (h : G w M O d nb c) : w.cell? ⟨d, 1, none⟩ = some (.int .i64 (c.net.length : Nat)) := by
  obtain ⟨hd, pv, cv, bs, us, cs, hg⟩ := h
  rw [← hg.nets, List.length_map]
  exact (Gr.ca hg).1.2.1
def Taken (M : Fz) (O : Lb) (w : World) (d : Nat) (nb : List Nat) (c' : Cl) (m : Msg) (w' : World) (o : Option Addr) (n lc : Nat) : Prop :=
  ∃ M1 O1, Aft (fun _ => True) M O w M1 O1 w' ∧ G w' M1 O1 d nb c' ∧ RecsM M1 (.slice o n lc) m.log
set_option maxHeartbeats 1000000 in
theorem onMsg_none (w : World) (M : Fz) (O : Lb) (d : Nat) (nb : List Nat) (c : Cl) (h : G w M O d nb c) (K N : Int) (hN : N < 0 ∨ (c.net.length : Int) ≤ N) (eo : Option Addr) (el ec : Nat) :
    Calls Try.prog 44 #[.pointer (some ⟨d, 0, none⟩), .agg #[.int .i64 K, .int .i64 N, .slice eo el ec]] w fun r w' => r = .returned (.int .i64 6) ∧ Did M O w d nb c w' := by
  have st := h.sta
  obtain ⟨W, hW⟩ : ∃ W, w.alloc (.cells #[.int .i64 K, .int .i64 N, .slice eo el ec] 58) = W := ⟨_, rfl⟩
  have bW : Below w.heap.size w W := by rw [← hW]; exact more (Below.refl _ _) _
  have hbox : W.heap[w.heap.size]? = some (.cells #[.int .i64 K, .int .i64 N, .slice eo el ec] 58 (0, 0)) := by rw [← hW]; exact heap_alloc_new w _
  have hGW := h.below bW
  have m0 := cell_of (i := 0) hbox (v := .int .i64 K) rfl
  have m1 := cell_of (i := 1) hbox (v := .int .i64 N) rfl
  have m2 := cell_of (i := 2) hbox (v := .slice eo el ec) rfl
  have p1 := G.size hGW
  have HF : Hid (∀ q, Did M O w d nb c (W.drewN q)) := fun q => ⟨M, O, ((Aft.refl _ st).below bW).below (drewN_below W q), hGW.below (drewN_below W q)⟩
  generalize c.net.length = NL at *
  clear hbox hGW bW h st
  by_cases hneg : N < 0
  · go_enter Try.func44, Try.ntmps44
    go_wp2
    go_quiet (fail)
    go_wp2
    go_ret
    exact ⟨rfl, HF.out _⟩
  · have hge : (NL : Int) ≤ N := by omega
    clear hN
    go_enter Try.func44, Try.ntmps44
    go_wp2
    go_quiet (fail)
    go_wp2
    go_ret
    exact ⟨rfl, HF.out _⟩
set_option maxRecDepth 20000 in
set_option maxHeartbeats 2000000 in
theorem onMsg_2 (w : World) (M : Fz) (O : Lb) (d : Nat) (nb : List Nat) (c : Cl) (h : G w M O d nb c) (n : Nat) (h1 : 1 ≤ n) (h7 : n ≤ 7) (s : St) (hR : Rel n c s) (hC : Cov n c) (hB : Bd c) (N : Nat) (m : Msg) (hm : c.net[N]? = some m) (eo : Option Addr) (el ec : Nat) :
    Calls Try.prog 44 #[.pointer (some ⟨d, 0, none⟩), .agg #[.int .i64 2, .int .i64 (N : Nat), .slice eo el ec]] w fun r w' => r = .returned (.int .i64 0) ∧ Did M O w d nb (({ c with net := c.net.eraseIdx N } : Cl).deliver m) w' := by
  have st := h.sta
  obtain ⟨W, hW⟩ : ∃ W, w.alloc (.cells #[.int .i64 2, .int .i64 N, .slice eo el ec] 58) = W := ⟨_, rfl⟩
  have bW : Below w.heap.size w W := by rw [← hW]; exact more (Below.refl _ _) _
  have hbox : W.heap[w.heap.size]? = some (.cells #[.int .i64 2, .int .i64 N, .slice eo el ec] 58 (0, 0)) := by rw [← hW]; exact heap_alloc_new w _
  have hGW := h.below bW
  have m0 := cell_of (i := 0) hbox (v := .int .i64 2) rfl
  have m1 := cell_of (i := 1) hbox (v := .int .i64 N) rfl
  have m2 := cell_of (i := 2) hbox (v := .slice eo el ec) rfl
  have p1 := G.size hGW
  have hlt : (N : Int) < c.net.length := by have := (List.getElem?_eq_some_iff.1 hm).1; omega
  have HTk : Hid (∀ wx, Below W.heap.size W wx → Calls Try.prog 91 #[.pointer (some ⟨d, 0, none⟩), .int .i64 (N : Nat)] wx fun r w' => ∃ (o : Option Addr) (n lc : Nat), r = .returned (.agg #[.int .i64 m.kind, .int .i64 m.frm, .int .i64 m.to, .int .i64 m.term, .int .i64 m.a, .int .i64 m.b, .int .i64 m.c, .bool m.ok, .slice o n lc]) ∧ Hid (Taken M O w d nb { c with net := c.net.eraseIdx N } m w' o n lc)) := fun wx hx => by
    refine (takeOut_any wx M O d nb c (hGW.below hx) N m hm hB.size).mono ?_
    rintro r w' ⟨o, n, lc, rfl, hr, M1, O1, a1, g1⟩
    exact ⟨o, n, lc, rfl, M1, O1, Aft.trans (((Aft.refl _ st).below bW).below hx) a1, g1, hr.le a1.le⟩
  have HAr : Hid (∀ wx o n lc, Taken M O w d nb { c with net := c.net.eraseIdx N } m wx o n lc → Calls Try.prog 90 #[.pointer (some ⟨d, 0, none⟩), .agg #[.int .i64 m.kind, .int .i64 m.frm, .int .i64 m.to, .int .i64 m.term, .int .i64 m.a, .int .i64 m.b, .int .i64 m.c, .bool m.ok, .slice o n lc]] wx fun r w' => r = .returned (.tuple #[]) ∧ Did M O w d nb (({ c with net := c.net.eraseIdx N } : Cl).deliver m) w') := fun wx o ln lc hx => by
    obtain ⟨M1, O1, a1, g1, hr⟩ := hx
    refine (arrive_any wx M1 O1 d nb _ g1 n h1 h7 s (hR.part (fun x hx => List.mem_of_mem_eraseIdx hx)) hC (hB.part (fun x hx => List.mem_of_mem_eraseIdx hx) (by rw [List.length_eraseIdx]; split <;> omega)) m (hR.msgs m (List.mem_of_getElem? hm)) (hB.net m (List.mem_of_getElem? hm)) o ln lc hr).mono ?_
    rintro r w' ⟨rfl, hd⟩
    exact ⟨rfl, Did.trans a1 hd⟩
  generalize c.net.length = NL at *
  clear hbox hGW bW h st hR hC hB hm
  go_enter Try.func44, Try.ntmps44
  go_wp2
  go_quiet (fail)
  go_wp2
  go_region_law (first
    | (go_simp; go_at_call 91; refine (HTk.out _ (by first | exact (drewN_below W _).drew | exact drewN_below W _)).mono ?_; rintro rr w1 ⟨o, n, lc, rfl, HT1⟩)
    | (go_simp; go_at_call 90; refine (HAr.out _ _ _ _ HT1.out).mono ?_; rintro rr w3 ⟨rfl, hd3⟩; have HD3 := hide hd3; clear hd3))
  all_goals
    go_wp2
    go_ret
    exact ⟨rfl, HD3.out⟩
set_option maxRecDepth 20000 in
set_option maxHeartbeats 2000000 in
theorem onMsg_3 (w : World) (M : Fz) (O : Lb) (d : Nat) (nb : List Nat) (c : Cl) (h : G w M O d nb c) (hB : Bd c) (N : Nat) (m : Msg) (hm : c.net[N]? = some m) (eo : Option Addr) (el ec : Nat) :
    Calls Try.prog 44 #[.pointer (some ⟨d, 0, none⟩), .agg #[.int .i64 3, .int .i64 (N : Nat), .slice eo el ec]] w fun r w' => r = .returned (.int .i64 0) ∧ Did M O w d nb ({ c with net := c.net.eraseIdx N } : Cl) w' := by
  have st := h.sta
  obtain ⟨W, hW⟩ : ∃ W, w.alloc (.cells #[.int .i64 3, .int .i64 N, .slice eo el ec] 58) = W := ⟨_, rfl⟩
  have bW : Below w.heap.size w W := by rw [← hW]; exact more (Below.refl _ _) _
  have hbox : W.heap[w.heap.size]? = some (.cells #[.int .i64 3, .int .i64 N, .slice eo el ec] 58 (0, 0)) := by rw [← hW]; exact heap_alloc_new w _
  have hGW := h.below bW
  have m0 := cell_of (i := 0) hbox (v := .int .i64 3) rfl
  have m1 := cell_of (i := 1) hbox (v := .int .i64 N) rfl
  have m2 := cell_of (i := 2) hbox (v := .slice eo el ec) rfl
  have p1 := G.size hGW
  have hlt : (N : Int) < c.net.length := by have := (List.getElem?_eq_some_iff.1 hm).1; omega
  have HTk : Hid (∀ wx, Below W.heap.size W wx → Calls Try.prog 91 #[.pointer (some ⟨d, 0, none⟩), .int .i64 (N : Nat)] wx fun r w' => ∃ (o : Option Addr) (n lc : Nat), r = .returned (.agg #[.int .i64 m.kind, .int .i64 m.frm, .int .i64 m.to, .int .i64 m.term, .int .i64 m.a, .int .i64 m.b, .int .i64 m.c, .bool m.ok, .slice o n lc]) ∧ Hid (Taken M O w d nb { c with net := c.net.eraseIdx N } m w' o n lc)) := fun wx hx => by
    refine (takeOut_any wx M O d nb c (hGW.below hx) N m hm hB.size).mono ?_
    rintro r w' ⟨o, n, lc, rfl, hr, M1, O1, a1, g1⟩
    exact ⟨o, n, lc, rfl, M1, O1, Aft.trans (((Aft.refl _ st).below bW).below hx) a1, g1, hr.le a1.le⟩
  have HE : Hid (∀ wx o n lc, Taken M O w d nb { c with net := c.net.eraseIdx N } m wx o n lc → Did M O w d nb { c with net := c.net.eraseIdx N } wx) := fun wx o ln lc hx => by
    obtain ⟨M1, O1, a1, g1, hr⟩ := hx
    exact ⟨M1, O1, a1, g1⟩
  generalize c.net.length = NL at *
  clear hbox hGW bW h st hB hm
  go_enter Try.func44, Try.ntmps44
  go_wp2
  go_quiet (fail)
  go_wp2
  go_region_law (first
    | (go_simp; go_at_call 91; refine (HTk.out _ (by first | exact (drewN_below W _).drew | exact drewN_below W _)).mono ?_; rintro rr w1 ⟨o, n, lc, rfl, HT1⟩))
  all_goals
    go_wp2
    go_ret
    exact ⟨rfl, HE.out _ _ _ _ HT1.out⟩
set_option maxRecDepth 20000 in
set_option maxHeartbeats 2000000 in
theorem onMsg_4 (w : World) (M : Fz) (O : Lb) (d : Nat) (nb : List Nat) (c : Cl) (h : G w M O d nb c) (hB : Bd c) (N : Nat) (m : Msg) (hm : c.net[N]? = some m) (eo : Option Addr) (el ec : Nat) :
    Calls Try.prog 44 #[.pointer (some ⟨d, 0, none⟩), .agg #[.int .i64 4, .int .i64 (N : Nat), .slice eo el ec]] w fun r w' => r = .returned (.int .i64 0) ∧ Did M O w d nb (c.send m) w' := by
  have st := h.sta
  obtain ⟨W, hW⟩ : ∃ W, w.alloc (.cells #[.int .i64 4, .int .i64 N, .slice eo el ec] 58) = W := ⟨_, rfl⟩
  have bW : Below w.heap.size w W := by rw [← hW]; exact more (Below.refl _ _) _
  have hbox : W.heap[w.heap.size]? = some (.cells #[.int .i64 4, .int .i64 N, .slice eo el ec] 58 (0, 0)) := by rw [← hW]; exact heap_alloc_new w _
  have hGW := h.below bW
  have m0 := cell_of (i := 0) hbox (v := .int .i64 4) rfl
  have m1 := cell_of (i := 1) hbox (v := .int .i64 N) rfl
  have m2 := cell_of (i := 2) hbox (v := .slice eo el ec) rfl
  have p1 := G.size hGW
  have hlt : (N : Int) < c.net.length := by have := (List.getElem?_eq_some_iff.1 hm).1; omega
  have HTk : Hid (∀ wx, Below W.heap.size W wx → Calls Try.prog 93 #[.pointer (some ⟨d, 0, none⟩), .int .i64 (N : Nat)] wx fun r w' => ∃ (o : Option Addr) (n lc : Nat), r = .returned (.agg #[.int .i64 m.kind, .int .i64 m.frm, .int .i64 m.to, .int .i64 m.term, .int .i64 m.a, .int .i64 m.b, .int .i64 m.c, .bool m.ok, .slice o n lc]) ∧ Hid (Taken M O w d nb c m w' o n lc)) := fun wx hx => by
    refine (peek_any wx M O d nb c (hGW.below hx) N m hm hB.size).mono ?_
    rintro r w' ⟨o, n, lc, rfl, hr, hb⟩
    exact ⟨o, n, lc, rfl, M, O, (((Aft.refl _ st).below bW).below hx).below hb, (hGW.below hx).below hb, hr⟩
  have HAr : Hid (∀ wx o n lc, Taken M O w d nb c m wx o n lc → Calls Try.prog 92 #[.pointer (some ⟨d, 0, none⟩), .agg #[.int .i64 m.kind, .int .i64 m.frm, .int .i64 m.to, .int .i64 m.term, .int .i64 m.a, .int .i64 m.b, .int .i64 m.c, .bool m.ok, .slice o n lc]] wx fun r w' => r = .returned (.tuple #[]) ∧ Did M O w d nb (c.send m) w') := fun wx o ln lc hx => by
    obtain ⟨M1, O1, a1, g1, hr⟩ := hx
    refine (send_any wx M1 O1 d nb _ g1 m o ln lc hr).mono ?_
    rintro r w' ⟨rfl, hd⟩
    exact ⟨rfl, Did.trans a1 hd⟩
  generalize c.net.length = NL at *
  clear hbox hGW bW h st hB hm
  go_enter Try.func44, Try.ntmps44
  go_wp2
  go_quiet (fail)
  go_wp2
  go_region_law (first
    | (go_simp; go_at_call 93; refine (HTk.out _ (by first | exact (drewN_below W _).drew | exact drewN_below W _)).mono ?_; rintro rr w1 ⟨o, n, lc, rfl, HT1⟩)
    | (go_simp; go_at_call 92; refine (HAr.out _ _ _ _ HT1.out).mono ?_; rintro rr w3 ⟨rfl, hd3⟩; have HD3 := hide hd3; clear hd3))
  all_goals
    go_wp2
    go_ret
    exact ⟨rfl, HD3.out⟩
end Go.Proofs.Ytklkglbimjajnaa.onmsg
