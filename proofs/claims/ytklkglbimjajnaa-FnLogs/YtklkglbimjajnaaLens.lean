/- How long the lists of a peer are, whatever comes. -/
import Derived.Test.YtklkglbimjajnaaBounds
namespace Go.Proofs.Ytklkglbimjajnaa.Raft
set_option linter.unusedVariables false
structure PL (n : Nat) (p : Peer) : Prop where
  votes : p.votes.length ≤ n
  next : p.next.length ≤ n
  mat : p.mat.length ≤ n
structure LB (n : Nat) (c : Cl) : Prop where
  len : c.peers.length = n
  peers : ∀ k, PL n (c.at k)
variable {n : Nat} {c : Cl}
theorem PL.zero (n : Nat) : PL n Peer.zero := ⟨Nat.zero_le _, Nat.zero_le _, Nat.zero_le _⟩
theorem LB.put (h : LB n c) {k : Nat} {p : Peer} (hp : PL n p) : LB n (c.put k p) := ⟨by simp [Cl.put]; exact h.len, fun q => by
  rcases at_put_any c k q p with e | e <;> rw [e]
  · exact hp
  · exact h.peers q⟩
theorem LB.same (h : LB n c) {d : Cl} (e : d.peers = c.peers) : LB n d := ⟨by rw [e]; exact h.len, fun k => by
  have : d.at k = c.at k := by unfold Cl.at; rw [e]
  rw [this]; exact h.peers k⟩
theorem LB.send (h : LB n c) (m : Msg) : LB n (c.send m) := by
  unfold Cl.send
  split
  · exact h.same rfl
  · exact h
theorem LB.note (h : LB n c) (k : Nat) : LB n (c.note k) := h.same rfl
theorem LB.commits (h : LB n c) (k : Nat) : LB n (c.commits k) := by
  refine LB.note (LB.put h ?_) k
  exact ⟨(h.peers k).votes, (h.peers k).next, (h.peers k).mat⟩
theorem LB.records (h : LB n c) (k to : Nat) : LB n (c.records k to) := h.send _
theorem LB.fold {α : Type} (f : Cl → α → Cl) (hf : ∀ c a, LB n c → LB n (f c a)) : ∀ (l : List α) (c : Cl), LB n c → LB n (l.foldl f c)
  | [], _, h => h
  | a :: l, c, h => LB.fold f hf l _ (hf c a h)
theorem LB.toAll (h : LB n c) (k : Nat) : LB n (c.toAll k) := LB.fold _ (fun _ _ h => h.records _ _) _ _ h
theorem LB.elected (h : LB n c) (k : Nat) : LB n (c.elected k) := by
  unfold Cl.elected
  dsimp only
  have hl := h.len
  split
  · apply LB.toAll
    apply LB.commits
    apply h.put
    exact ⟨Nat.zero_le _, by simp [hl], by simp [hl]⟩
  · exact h
theorem LB.tick (h : LB n c) (k : Nat) : LB n (c.tick k) := by
  unfold Cl.tick
  dsimp only
  have hl := h.len
  split
  · exact h.toAll k
  · split
    · exact h
    · have h2 := h.peers k
      apply LB.elected
      apply LB.fold
      · intro c2 i hc
        exact hc.send _
      · apply h.put
        exact ⟨by simp [hl], h2.next, h2.mat⟩
theorem LB.down (h : LB n c) (k T : Nat) : LB n (c.down k T) := h.put ⟨Nat.zero_le _, Nat.zero_le _, Nat.zero_le _⟩
theorem LB.appended (h : LB n c) (m : Msg) : LB n (c.appended m) := by
  unfold Cl.appended
  dsimp only
  split
  · exact h.send _
  · have hd := h.down m.to m.term
    generalize c.down m.to m.term = e at hd ⊢
    have h1 := hd.peers m.to
    split
    · exact hd.send _
    · refine LB.send (LB.note (LB.put hd ?_) m.to) _
      exact ⟨h1.votes, h1.next, h1.mat⟩
theorem LB.deliver (h : LB n c) (m : Msg) : LB n (c.deliver m) := by
  unfold Cl.deliver
  dsimp only
  split
  · exact h
  · have hd : LB n (if (c.at m.to).term < m.term then c.down m.to m.term else c) := by
      split
      · exact h.down m.to _
      · exact h
    generalize (if (c.at m.to).term < m.term then c.down m.to m.term else c) = e at hd ⊢
    have h1 := hd.peers m.to
    split
    · apply LB.send
      split
      · apply hd.put
        exact ⟨h1.votes, h1.next, h1.mat⟩
      · exact hd
    · split
      · split
        · apply LB.elected
          apply hd.put
          exact ⟨by simp; exact h1.votes, h1.next, h1.mat⟩
        · exact hd
      · split
        · exact hd.appended m
        · split
          · split
            · exact hd
            · split
              · apply LB.commits
                apply hd.put
                exact ⟨h1.votes, by simp; exact h1.next, by simp; exact h1.mat⟩
              · split
                · apply LB.records
                  apply hd.put
                  exact ⟨h1.votes, by simp; exact h1.next, h1.mat⟩
                · exact hd
          · exact hd
theorem LB.event (h : LB n c) (e : Ev) : LB n (c.event e).1 := by
  unfold Cl.event
  split
  · split
    · exact h
    · split
      · exact h
      · have hp : LB n { c with net := c.net.eraseIdx e.n.toNat } := h.same rfl
        split
        · exact hp.deliver _
        · split
          · exact hp
          · exact h.send _
  · split
    · split
      · exact h
      · dsimp only
        generalize e.n.toNat = k
        have h1 := h.peers k
        split
        · exact h
        · split
          · exact h.tick k
          · split
            · apply h.put
              exact ⟨Nat.zero_le _, Nat.zero_le _, Nat.zero_le _⟩
            · split
              · apply h.put
                exact ⟨h1.votes, h1.next, h1.mat⟩
              · split
                · exact h
                · split
                  · exact h
                  · apply LB.commits
                    apply h.put
                    exact ⟨h1.votes, h1.next, by simp; exact h1.mat⟩
    · exact h
theorem LB.begin (n : Nat) : LB n (Cl.begin n) := by
  refine ⟨by simp [Cl.begin], fun k => ?_⟩
  by_cases hk : k < n
  · rw [at_begin n k hk]; exact ⟨Nat.zero_le _, Nat.zero_le _, Nat.zero_le _⟩
  · have : (Cl.begin n).at k = Peer.zero := by simp [Cl.begin, Cl.at, List.getD, hk]
    rw [this]; exact PL.zero n
end Go.Proofs.Ytklkglbimjajnaa.Raft
