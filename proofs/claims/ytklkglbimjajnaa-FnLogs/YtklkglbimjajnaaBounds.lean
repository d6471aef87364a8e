/- What the cluster's numbers stay below. -/
import Derived.Test.YtklkglbimjajnaaRaftF
namespace Go.Proofs.Ytklkglbimjajnaa.Raft
set_option linter.unusedVariables false
structure PB (p : Peer) : Prop where
  log : p.log.length ≤ 100
  term : p.term ≤ 1000000
  commit : p.commit ≤ 100
  next : ∀ x ∈ p.next, x ≤ 101
  mat : ∀ x ∈ p.mat, x ≤ 100
structure MB (m : Msg) : Prop where
  kind : 1 ≤ m.kind ∧ m.kind ≤ 4
  term : m.term ≤ 1000000
  a : m.a + m.log.length ≤ 100
  c : m.c ≤ 100
structure Bd (c : Cl) : Prop where
  peers : ∀ k, PB (c.at k)
  net : ∀ m ∈ c.net, MB m
  chosen : c.chosen.length ≤ 100
  size : c.net.length ≤ 200
theorem k4 : 1 ≤ 4 ∧ 4 ≤ 4 := by decide
theorem k2 : 1 ≤ 2 ∧ 2 ≤ 4 := by decide
theorem PB.zero : PB Peer.zero := ⟨by simp [Peer.zero], by simp [Peer.zero], by simp [Peer.zero], by simp [Peer.zero], by simp [Peer.zero]⟩
theorem at_put_any (c : Cl) (k q : Nat) (p : Peer) : (c.put k p).at q = p ∨ (c.put k p).at q = c.at q := by
  by_cases h : q = k
  · subst h
    by_cases hl : q < c.peers.length
    · exact .inl (at_put c q p hl)
    · right; simp [Cl.at, Cl.put, List.getD, hl]
  · exact .inr (at_put_ne c p h)
theorem Bd.put {c : Cl} (h : Bd c) {k : Nat} {p : Peer} (hp : PB p) : Bd (c.put k p) := ⟨fun q => by
  rcases at_put_any c k q p with e | e <;> rw [e]
  · exact hp
  · exact h.peers q, h.net, h.chosen, h.size⟩
theorem Bd.send {c : Cl} (h : Bd c) {m : Msg} (hm : MB m) : Bd (c.send m) := by
  unfold Cl.send
  split
  · next hl =>
    refine ⟨h.peers, fun x hx => ?_, h.chosen, ?_⟩
    · rcases List.mem_append.1 hx with hx | hx
      · exact h.net x hx
      · rw [List.mem_singleton.1 hx]; exact hm
    · simp; omega
  · exact h
theorem Bd.note {c : Cl} (h : Bd c) (k : Nat) : Bd (c.note k) := by
  refine ⟨h.peers, h.net, ?_, h.size⟩
  have h1 := h.chosen
  have h2 := (h.peers k).log
  show (c.chosen ++ ((c.at k).log.take (c.at k).commit).drop c.chosen.length).length ≤ 100
  rw [List.length_append, List.length_drop, List.length_take]
  omega
theorem reach_le (p : Peer) (n : Nat) : ∀ i, reach p n i ≤ max p.commit i
  | 0 => by simp [reach]
  | i + 1 => by
    have := reach_le p n i
    unfold reach
    split
    · omega
    · split <;> omega
theorem PB.commits {p : Peer} (h : PB p) (n : Nat) : PB { p with commit := reach p n p.log.length } := by
  refine ⟨h.log, h.term, ?_, h.next, h.mat⟩
  have := reach_le p n p.log.length
  have := h.log
  have := h.commit
  show reach p n p.log.length ≤ 100
  omega
theorem Bd.commits {c : Cl} (h : Bd c) (k : Nat) : Bd (c.commits k) := (h.put ((h.peers k).commits _)).note k
theorem getD_le {l : List Nat} {b : Nat} (h : ∀ x ∈ l, x ≤ b) (q : Nat) : l.getD q 0 ≤ b := by
  rw [List.getD_eq_getElem?_getD]
  cases e : l[q]? with
  | none => simp
  | some x => exact h x (List.mem_of_getElem? e)
theorem Bd.records {c : Cl} (h : Bd c) (k to : Nat) : Bd (c.records k to) := by
  refine h.send ⟨⟨by simp, by simp⟩, (h.peers k).term, ?_, (h.peers k).commit⟩
  have h1 := getD_le (h.peers k).next to
  have h2 := (h.peers k).log
  show ((c.at k).next.getD to 0 - 1) + ((c.at k).log.drop ((c.at k).next.getD to 0 - 1)).length ≤ 100
  rw [List.length_drop]
  omega
theorem Bd.fold {α : Type} (f : Cl → α → Cl) (hf : ∀ c a, Bd c → Bd (f c a)) : ∀ (l : List α) (c : Cl), Bd c → Bd (l.foldl f c)
  | [], _, h => h
  | a :: l, c, h => Bd.fold f hf l _ (hf c a h)
theorem Bd.toAll {c : Cl} (h : Bd c) (k : Nat) : Bd (c.toAll k) := Bd.fold _ (fun _ _ h => h.records _ _) _ _ h
theorem mem_set {α : Type} {l : List α} {k : Nat} {v x : α} (h : x ∈ l.set k v) : x ∈ l ∨ x = v := List.mem_or_eq_of_mem_set h
theorem Bd.elected {c : Cl} (h : Bd c) (k : Nat) : Bd (c.elected k) := by
  unfold Cl.elected
  dsimp only
  have h1 := h.peers k
  have h2 := h1.log
  split
  · apply Bd.toAll
    apply Bd.commits
    apply h.put
    refine ⟨h1.log, h1.term, h1.commit, fun x hx => ?_, fun x hx => ?_⟩
    · rw [(List.mem_replicate.1 hx).2]; omega
    · rcases mem_set hx with g | g
      · rw [(List.mem_replicate.1 g).2]; omega
      · rw [g]; exact h1.log
  · exact h
theorem Bd.tick {c : Cl} (h : Bd c) (k : Nat) : Bd (c.tick k) := by
  unfold Cl.tick
  dsimp only
  split
  · exact h.toAll k
  · split
    · exact h
    · next ht =>
      have h1 := (h.peers k).term
      have h2 := h.peers k
      apply Bd.elected
      apply Bd.fold
      · intro c2 i hc
        apply hc.send
        refine ⟨⟨Nat.le_refl _, by show 1 ≤ 4; omega⟩, ?_, ?_, Nat.zero_le _⟩
        · show (c.at k).term + 1 ≤ 1000000
          omega
        · show (c.at k).log.length + 0 ≤ 100
          exact h2.log
      · apply h.put
        refine ⟨h2.log, ?_, h2.commit, h2.next, h2.mat⟩
        show (c.at k).term + 1 ≤ 1000000
        omega
theorem Bd.down {c : Cl} (h : Bd c) (k : Nat) {T : Nat} (hT : T ≤ 1000000) : Bd (c.down k T) := by
  refine h.put ⟨(h.peers k).log, ?_, (h.peers k).commit, fun x hx => (List.not_mem_nil hx).elim, fun x hx => (List.not_mem_nil hx).elim⟩
  have := (h.peers k).term
  show max (c.at k).term T ≤ 1000000
  omega
theorem merge_len : ∀ (rs l : List Rc) (a : Nat), a ≤ l.length → a + rs.length ≤ (merge l a rs).length ∧ (merge l a rs).length ≤ max l.length (a + rs.length)
  | [], l, a, h => by simp [merge]; omega
  | r :: rs, l, a, h => by
    unfold merge
    dsimp only
    have key : ∀ m : List Rc, a ≤ m.length → m.length ≤ l.length → a + (r :: rs).length ≤ (merge (if a = m.length then m ++ [r] else m) (a + 1) rs).length ∧ (merge (if a = m.length then m ++ [r] else m) (a + 1) rs).length ≤ max l.length (a + (r :: rs).length) := by
      intro m h1 h2
      have hx : a + 1 ≤ (if a = m.length then m ++ [r] else m).length := by split <;> (try rw [List.length_append, List.length_singleton]) <;> omega
      have hy : (if a = m.length then m ++ [r] else m).length ≤ max m.length (a + 1) := by split <;> (try rw [List.length_append, List.length_singleton]) <;> omega
      have := merge_len rs _ (a + 1) hx
      rw [List.length_cons]
      omega
    split
    · refine key (l.take a) ?_ ?_ <;> rw [List.length_take] <;> omega
    · exact key l h (Nat.le_refl _)
theorem Bd.appended {c : Cl} (h : Bd c) {m : Msg} (hm : MB m) : Bd (c.appended m) := by
  unfold Cl.appended
  dsimp only
  split
  · apply h.send
    exact ⟨k4, (h.peers m.to).term, Nat.zero_le _, Nat.zero_le _⟩
  · have hd := h.down m.to hm.term
    generalize c.down m.to m.term = e at hd ⊢
    have h1 := hd.peers m.to
    have h2 := h1.log
    have h3 := hm.a
    split
    · apply hd.send
      refine ⟨k4, h1.term, ?_, Nat.zero_le _⟩
      show min (m.a - 1) (e.at m.to).log.length + 0 ≤ 100
      omega
    · next hn =>
      have ha : m.a ≤ (e.at m.to).log.length := by
        rcases Nat.lt_or_ge (e.at m.to).log.length m.a with g | g
        · exact absurd (.inl g) hn
        · exact g
      refine Bd.send (Bd.note (Bd.put hd ?_) m.to) ⟨k4, h1.term, ?_, Nat.zero_le _⟩
      · refine ⟨?_, h1.term, ?_, h1.next, h1.mat⟩
        · have := merge_len m.log _ m.a ha
          show (merge (e.at m.to).log m.a m.log).length ≤ 100
          omega
        · have := h1.commit
          have := hm.c
          show max (e.at m.to).commit (min m.c (m.a + m.log.length)) ≤ 100
          omega
      · show m.a + m.log.length + 0 ≤ 100
        omega
theorem Bd.deliver {c : Cl} (h : Bd c) {m : Msg} (hm : MB m) : Bd (c.deliver m) := by
  unfold Cl.deliver
  dsimp only
  split
  · exact h
  · have hd : Bd (if (c.at m.to).term < m.term then c.down m.to m.term else c) := by
      split
      · exact h.down m.to hm.term
      · exact h
    generalize (if (c.at m.to).term < m.term then c.down m.to m.term else c) = e at hd ⊢
    have h1 := hd.peers m.to
    have h3 := hm.a
    have h2 := getD_le h1.next m.frm
    have h4 := getD_le h1.mat m.frm
    split
    · apply Bd.send
      · split
        · apply hd.put
          exact ⟨h1.log, h1.term, h1.commit, h1.next, h1.mat⟩
        · exact hd
      · exact ⟨k2, h1.term, Nat.zero_le _, Nat.zero_le _⟩
    · split
      · split
        · apply Bd.elected
          apply hd.put
          exact ⟨h1.log, h1.term, h1.commit, h1.next, h1.mat⟩
        · exact hd
      · split
        · exact hd.appended hm
        · split
          · split
            · exact hd
            · split
              · apply Bd.commits
                apply hd.put
                refine ⟨h1.log, h1.term, h1.commit, fun x hx => ?_, fun x hx => ?_⟩
                · rcases mem_set hx with g | g
                  · exact h1.next x g
                  · omega
                · rcases mem_set hx with g | g
                  · exact h1.mat x g
                  · omega
              · split
                · apply Bd.records
                  apply hd.put
                  refine ⟨h1.log, h1.term, h1.commit, fun x hx => ?_, h1.mat⟩
                  rcases mem_set hx with g | g
                  · exact h1.next x g
                  · omega
                · exact hd
          · exact hd
theorem Bd.part {c : Cl} (h : Bd c) {net : List Msg} (hn : ∀ m, m ∈ net → m ∈ c.net) (hl : net.length ≤ c.net.length) : Bd { c with net := net } := ⟨h.peers, fun m hm => h.net m (hn m hm), h.chosen, Nat.le_trans hl h.size⟩
theorem Bd.event {c : Cl} (h : Bd c) (e : Ev) : Bd (c.event e).1 := by
  unfold Cl.event
  split
  · split
    · exact h
    · split
      · exact h
      · next m hm =>
        have hmm := h.net m (List.mem_of_getElem? hm)
        have hp : Bd { c with net := c.net.eraseIdx e.n.toNat } := h.part (fun m hm => List.mem_of_mem_eraseIdx hm) (by rw [List.length_eraseIdx]; split <;> omega)
        split
        · exact hp.deliver hmm
        · split
          · exact hp
          · exact h.send hmm
  · split
    · split
      · exact h
      · dsimp only
        generalize e.n.toNat = k
        have h1 := h.peers k
        split
        · exact h
        · split
          · exact h.tick k
          · split
            · apply h.put
              exact ⟨h1.log, h1.term, Nat.zero_le _, fun x hx => (List.not_mem_nil hx).elim, fun x hx => (List.not_mem_nil hx).elim⟩
            · split
              · apply h.put
                exact ⟨h1.log, h1.term, h1.commit, h1.next, h1.mat⟩
              · split
                · exact h
                · split
                  · exact h
                  · next hs =>
                    have h2 := h1.log
                    apply Bd.commits
                    apply h.put
                    refine ⟨?_, h1.term, h1.commit, h1.next, fun x hx => ?_⟩
                    · show ((c.at k).log ++ [_]).length ≤ 100
                      simp
                      omega
                    · rcases mem_set hx with g | g
                      · exact h1.mat x g
                      · omega
    · exact h
theorem Bd.run : ∀ (es : List Ev) (c : Cl), Bd c → Bd (c.run es).1
  | [], _, h => h
  | e :: es, c, h => Bd.run es _ (h.event e)
theorem Bd.begin (n : Nat) : Bd (Cl.begin n) := by
  refine ⟨fun k => ?_, fun m hm => (List.not_mem_nil hm).elim, by simp [Cl.begin], by simp [Cl.begin]⟩
  by_cases hk : k < n
  · rw [at_begin n k hk]; exact ⟨PB.zero.log, PB.zero.term, PB.zero.commit, PB.zero.next, PB.zero.mat⟩
  · have : (Cl.begin n).at k = Peer.zero := by simp [Cl.begin, Cl.at, List.getD, hk]
    rw [this]; exact PB.zero
/-- A cluster that keeps all. -/
def Good (n : Nat) (c : Cl) : Prop := Bd c ∧ Cov n c ∧ ∃ s, Rel n c s
theorem Good.begin (n : Nat) : Good n (Cl.begin n) := ⟨Bd.begin n, (Rel.begin n).2, _, (Rel.begin n).1⟩
theorem Good.event {n : Nat} {c : Cl} (h : Good n c) (e : Ev) : Good n (c.event e).1 := by
  obtain ⟨hb, hc, s, hs⟩ := h
  obtain ⟨s', h1, h2⟩ := hs.event hc e
  exact ⟨hb.event e, h2, s', h1⟩
end Go.Proofs.Ytklkglbimjajnaa.Raft
