/- A cluster that agrees: its elections and commits are safe; an abstract state with a history beside it. -/
namespace Go.Proofs.Ytklkglbimjajnaa.Raft
structure Rc where
  term : Nat
  index : Nat
  data : List Int
  deriving DecidableEq
def quorum (n : Nat) (Q : Nat → Bool) : Prop := n / 2 + 1 ≤ (List.range n).countP Q
theorem count_apart (P Q : Nat → Bool) : ∀ l : List Nat, (∀ x ∈ l, P x = true → Q x = true → False) → l.countP P + l.countP Q ≤ l.length
  | [], _ => by simp
  | x :: l, h => by
    have := count_apart P Q l (fun y hy => h y (List.mem_cons_of_mem _ hy))
    have hx := h x List.mem_cons_self
    simp only [List.countP_cons, List.length_cons]
    cases hp : P x <;> cases hq : Q x <;> simp_all <;> omega
theorem quorum_meet {n : Nat} {P Q : Nat → Bool} (hP : quorum n P) (hQ : quorum n Q) : ∃ q, q < n ∧ P q = true ∧ Q q = true := by
  refine Classical.byContradiction fun hn => ?_
  have := count_apart P Q (List.range n) (fun x hx h1 h2 => hn ⟨x, List.mem_range.1 hx, h1, h2⟩)
  unfold quorum at hP hQ
  simp at this
  omega
structure Pr where
  term : Nat
  vote : Nat
  commit : Nat
  role : Nat
  log : List Rc
  votes : Nat → Bool
  mat : Nat → Nat
structure St where
  pr : Nat → Pr
  lead : Nat → Option Nat
  llog : Nat → List Rc
  ini : Nat → Nat
  ack : Nat → Nat → Nat
  vt : Nat → Nat → Option (Nat × List Rc)
  cl : Nat → Nat → Option (List Rc)
def lastTerm (l : List Rc) : Nat := match l.getLast? with
  | some r => r.term
  | none => 0
/-- A candidate's log is at least as far as a voter's. -/
def Far (c v : List Rc) : Prop := lastTerm v < lastTerm c ∨ (lastTerm v = lastTerm c ∧ v.length ≤ c.length)
/-- A log whose every record stands as in the log of its term's leader. -/
def LM (s : St) (l : List Rc) (T : Nat) : Prop := ∀ i r, l[i]? = some r → 1 ≤ r.term ∧ r.term ≤ T ∧ (∃ k, s.lead r.term = some k) ∧ l.take (i + 1) = (s.llog r.term).take (i + 1) ∧ r.index = i + 1
def Chos (n : Nat) (s : St) (T i : Nat) : Prop := ∃ Q, quorum n Q ∧ ∀ q, q < n → Q q = true → i ≤ s.ack T q ∨ (s.pr q).term ≤ T
def Comm (n : Nat) (s : St) (l : List Rc) (T : Nat) : Prop := l = [] ∨ ∃ T0 i, T0 ≤ T ∧ s.ini T0 < i ∧ i ≤ (s.llog T0).length ∧ (∃ Q, quorum n Q ∧ ∀ q, q < n → Q q = true → i ≤ s.ack T0 q) ∧ l.length ≤ i ∧ l = (s.llog T0).take l.length
structure Inv (n : Nat) (s : St) : Prop where
  vote_of : ∀ p c, p < n → (s.pr p).vote = c + 1 → ∃ l, s.vt (s.pr p).term p = some (c, l)
  vote_is : ∀ p c l, p < n → s.vt (s.pr p).term p = some (c, l) → (s.pr p).vote = c + 1
  vt_term : ∀ p U x, p < n → s.vt U p = some x → U ≤ (s.pr p).term
  cl_term : ∀ p U x, p < n → s.cl U p = some x → U ≤ (s.pr p).term
  cl_lm : ∀ p U l, s.cl U p = some l → p < n ∧ 1 ≤ U ∧ LM s l (U - 1)
  vt_cl : ∀ q U c l, q < n → s.vt U q = some (c, l) → LM s l U ∧ ∃ k, s.cl U c = some k ∧ Far k l
  cand : ∀ p, p < n → (s.pr p).role = 1 → s.cl (s.pr p).term p = some (s.pr p).log ∧ s.lead (s.pr p).term ≠ some p ∧ ∀ q, q < n → (s.pr p).votes q = true → ∃ l, s.vt (s.pr p).term q = some (p, l)
  lead_q : ∀ U k, s.lead U = some k → k < n ∧ U ≤ (s.pr k).term ∧ ∃ Q, quorum n Q ∧ ∀ q, q < n → Q q = true → ∃ l, s.vt U q = some (k, l)
  lead_cl : ∀ U k, s.lead U = some k → s.cl U k = some ((s.llog U).take (s.ini U)) ∧ s.ini U ≤ (s.llog U).length ∧ (∀ i r, s.ini U ≤ i → (s.llog U)[i]? = some r → r.term = U) ∧ LM s (s.llog U) U
  llog_none : ∀ U, s.lead U = none → s.llog U = []
  leader : ∀ p, p < n → (s.pr p).role = 2 → s.lead (s.pr p).term = some p ∧ (s.pr p).log = s.llog (s.pr p).term ∧ ∀ q, q < n → (s.pr p).mat q ≤ s.ack (s.pr p).term q
  log_lm : ∀ p, p < n → LM s (s.pr p).log (s.pr p).term
  ack_le : ∀ T q, s.ack T q ≤ (s.llog T).length
  ack_term : ∀ T q, q < n → 0 < s.ack T q → T ≤ (s.pr q).term
  acked : ∀ T q i, q < n → s.ini T < i → i ≤ s.ack T q → Chos n s T i → (s.pr q).log.take i = (s.llog T).take i
  ackedV : ∀ T U q c l i, q < n → s.vt U q = some (c, l) → T < U → s.ini T < i → i ≤ s.ack T q → Chos n s T i → l.take i = (s.llog T).take i
  whole : ∀ T U k i, s.lead U = some k → T < U → s.ini T < i → i ≤ (s.llog T).length → Chos n s T i → i ≤ s.ini U ∧ (s.llog U).take i = (s.llog T).take i
  comm : ∀ p, p < n → (s.pr p).commit ≤ (s.pr p).log.length ∧ Comm n s ((s.pr p).log.take (s.pr p).commit) (s.pr p).term
/-- What a step may do: terms rise, records are acknowledged by a peer of that term alone. -/
theorem Chos.back {n : Nat} {s s' : St} {T i : Nat} (ht : ∀ q, q < n → (s.pr q).term ≤ (s'.pr q).term) (ha : ∀ q, q < n → i ≤ s'.ack T q → i ≤ s.ack T q ∨ (s.pr q).term ≤ T) (h : Chos n s' T i) : Chos n s T i := by
  obtain ⟨Q, hQ, h⟩ := h
  refine ⟨Q, hQ, fun q hq hQq => ?_⟩
  rcases h q hq hQq with h | h
  · exact ha q hq h
  · exact .inr (Nat.le_trans (ht q hq) h)
theorem LM.weaken {s : St} {l : List Rc} {T T' : Nat} (h : LM s l T) (ht : T ≤ T') : LM s l T' := fun i r hr => by
  obtain ⟨h1, h2, h3⟩ := h i r hr
  exact ⟨h1, by omega, h3⟩
/-- Leaders' logs that only grow keep what stands as in them. -/
theorem LM.grow {s s' : St} {l : List Rc} {T : Nat} (h : LM s l T) (hl : ∀ U k, s.lead U = some k → s'.lead U = some k) (hg : ∀ U k, s.lead U = some k → ∃ t, s'.llog U = s.llog U ++ t) : LM s' l T := fun i r hr => by
  obtain ⟨h1, h2, ⟨k, h3⟩, h4, h5⟩ := h i r hr
  refine ⟨h1, h2, ⟨k, hl _ _ h3⟩, ?_, h5⟩
  obtain ⟨t, e⟩ := hg _ _ h3
  have hi : i < l.length := by
    rw [List.getElem?_eq_some_iff] at hr; exact hr.1
  have hlen : i + 1 ≤ (s.llog r.term).length := by
    have := congrArg List.length h4
    simp at this
    omega
  rw [e, List.take_append_of_le_length hlen]
  exact h4
theorem LM.take {s : St} {l : List Rc} {T : Nat} (h : LM s l T) (m : Nat) : LM s (l.take m) T := fun i r hr => by
  rw [List.getElem?_take] at hr
  split at hr
  · next hi =>
    obtain ⟨h1, h2, h3, h4, h5⟩ := h i r hr
    refine ⟨h1, h2, h3, ?_, h5⟩
    rw [List.take_take, Nat.min_eq_left (by omega)]
    exact h4
  · cases hr
/-- Two logs with one term at an index are the same up to it. -/
theorem LM.same {s : St} {l m : List Rc} {T U i : Nat} {r x : Rc} (h : LM s l T) (h2 : LM s m U) (hr : l[i]? = some r) (hx : m[i]? = some x) (e : r.term = x.term) : l.take (i + 1) = m.take (i + 1) := by
  rw [(h i r hr).2.2.2.1, (h2 i x hx).2.2.2.1, e]
theorem LM.length {s : St} {l : List Rc} {T i : Nat} {r : Rc} (h : LM s l T) (hr : l[i]? = some r) : i + 1 ≤ (s.llog r.term).length := by
  have hi : i < l.length := by rw [List.getElem?_eq_some_iff] at hr; exact hr.1
  have := congrArg List.length (h i r hr).2.2.2.1
  simp at this
  omega
theorem Comm.grow {n : Nat} {s s' : St} {l : List Rc} {T T' : Nat} (h : Comm n s l T) (ht : T ≤ T') (hi : ∀ U, s.llog U ≠ [] → s'.ini U = s.ini U) (hg : ∀ U, ∃ t, s'.llog U = s.llog U ++ t) (ha : ∀ U q, q < n → s.ack U q ≤ s'.ack U q) : Comm n s' l T' := by
  rcases h with h | ⟨T0, i, h1, h2, h3, ⟨Q, hQ, h4⟩, h5, h6⟩
  · exact .inl h
  · obtain ⟨t, e⟩ := hg T0
    have hne : s.llog T0 ≠ [] := by intro c; rw [c] at h3; simp at h3; omega
    refine .inr ⟨T0, i, by omega, by rw [hi _ hne]; exact h2, by rw [e, List.length_append]; omega, ⟨Q, hQ, fun q hq hQq => Nat.le_trans (h4 q hq hQq) (ha _ q hq)⟩, h5, ?_⟩
    rw [e, List.take_append_of_le_length (by omega)]
    exact h6
theorem Comm.prefix {n : Nat} {s : St} {l : List Rc} {T : Nat} (h : Comm n s l T) (m : Nat) : Comm n s (l.take m) T := by
  rcases h with h | ⟨T0, i, h1, h2, h3, h4, h5, h6⟩
  · exact .inl (by rw [h]; simp)
  · refine .inr ⟨T0, i, h1, h2, h3, h4, by simp; omega, ?_⟩
    conv => lhs; rw [h6, List.take_take]
    congr 1
    simp
/-- A peer is another one now; all else as it was. -/
def St.setP (s : St) (p : Nat) (x : Pr) : St := { s with pr := fun q => if q = p then x else s.pr q }
theorem setP_self (s : St) (p : Nat) (x : Pr) : (s.setP p x).pr p = x := by simp [St.setP]
theorem setP_ne (s : St) {p q : Nat} (x : Pr) (h : q ≠ p) : (s.setP p x).pr q = s.pr q := by simp [St.setP, h]
theorem LM.setP {s : St} {l : List Rc} {T p : Nat} {x : Pr} (h : LM s l T) : LM (s.setP p x) l T := h
theorem Comm.setP {n : Nat} {s : St} {l : List Rc} {T p : Nat} {x : Pr} (h : Comm n s l T) : Comm n (s.setP p x) l T := h
theorem setP_term {n : Nat} {s : St} {p : Nat} {x : Pr} (ht : (s.pr p).term ≤ x.term) : ∀ q, q < n → (s.pr q).term ≤ ((s.setP p x).pr q).term := fun q _ => by
  by_cases c : q = p
  · subst c; rw [setP_self]; exact ht
  · rw [setP_ne s x c]; exact Nat.le_refl _
theorem Chos.setP {n : Nat} {s : St} {p : Nat} {x : Pr} {T i : Nat} (ht : (s.pr p).term ≤ x.term) (h : Chos n (s.setP p x) T i) : Chos n s T i :=
  Chos.back (setP_term ht) (fun _ _ h => .inl h) h
/-- A peer that is set anew with its own log: whatever is told of it alone. -/
theorem Inv.setP {n : Nat} {s : St} (h : Inv n s) {p : Nat} {x : Pr} (ht : (s.pr p).term ≤ x.term) (hl : x.log = (s.pr p).log) (hc : x.commit ≤ (s.pr p).commit ∨ (x.commit ≤ x.log.length ∧ Comm n s (x.log.take x.commit) x.term))
    (hv : p < n → (x.term = (s.pr p).term ∧ x.vote = (s.pr p).vote) ∨ ((s.pr p).term < x.term ∧ x.vote = 0))
    (hr : p < n → (x.role ≠ 1 ∧ x.role ≠ 2) ∨ (x.role = (s.pr p).role ∧ x.term = (s.pr p).term ∧ (x.role = 1 → ∀ q, q < n → x.votes q = true → ∃ l, s.vt x.term q = some (p, l)) ∧ (x.role = 2 → ∀ q, q < n → x.mat q ≤ s.ack x.term q))) : Inv n (s.setP p x) where
  vote_of := fun q c hq e => by
    by_cases d : q = p
    · subst d
      rw [setP_self] at e ⊢
      rcases hv hq with ⟨h1, h2⟩ | ⟨h1, h2⟩
      · rw [h1]; exact h.vote_of q c hq (h2 ▸ e)
      · omega
    · rw [setP_ne s x d] at e ⊢; exact h.vote_of q c hq e
  vote_is := fun q c l hq e => by
    by_cases d : q = p
    · subst d
      rw [setP_self] at e ⊢
      rcases hv hq with ⟨h1, h2⟩ | ⟨h1, h2⟩
      · rw [h2]; rw [h1] at e; exact h.vote_is q c l hq e
      · have := h.vt_term q _ _ hq e; omega
    · rw [setP_ne s x d] at e ⊢; exact h.vote_is q c l hq e
  vt_term := fun q U y hq e => Nat.le_trans (h.vt_term q U y hq e) (setP_term ht q hq)
  cl_term := fun q U y hq e => Nat.le_trans (h.cl_term q U y hq e) (setP_term ht q hq)
  cl_lm := h.cl_lm
  vt_cl := h.vt_cl
  cand := fun q hq e => by
    by_cases d : q = p
    · subst d
      rw [setP_self] at e ⊢
      rcases hr hq with ⟨h1, h2⟩ | ⟨h1, h2, h3, _⟩
      · exact absurd e h1
      · have := h.cand q hq (h1 ▸ e)
        rw [h2, hl]
        refine ⟨this.1, this.2.1, fun r hr hv => ?_⟩
        have := h3 e r hr hv
        rw [h2] at this
        exact this
    · rw [setP_ne s x d] at e ⊢; exact h.cand q hq e
  lead_q := fun U k e => by
    have := h.lead_q U k e
    exact ⟨this.1, Nat.le_trans this.2.1 (setP_term ht k this.1), this.2.2⟩
  lead_cl := h.lead_cl
  llog_none := h.llog_none
  leader := fun q hq e => by
    by_cases d : q = p
    · subst d
      rw [setP_self] at e ⊢
      rcases hr hq with ⟨h1, h2⟩ | ⟨h1, h2, _, h3⟩
      · exact absurd e h2
      · have := h.leader q hq (h1 ▸ e)
        rw [hl]
        refine ⟨by rw [h2]; exact this.1, by rw [h2]; exact this.2.1, fun r hr => ?_⟩
        exact h3 e r hr
    · rw [setP_ne s x d] at e ⊢; exact h.leader q hq e
  log_lm := fun q hq => by
    by_cases d : q = p
    · subst d
      rw [setP_self, hl]; exact ((h.log_lm q hq).weaken ht).setP
    · rw [setP_ne s x d]; exact (h.log_lm q hq).setP
  ack_le := h.ack_le
  ack_term := fun T q hq e => Nat.le_trans (h.ack_term T q hq e) (setP_term ht q hq)
  acked := fun T q i hq h1 h2 h3 => by
    have := h.acked T q i hq h1 h2 (h3.setP ht)
    by_cases d : q = p
    · subst d
      rw [setP_self, hl]; exact this
    · rw [setP_ne s x d]; exact this
  ackedV := fun T U q c l i hq h1 h2 h3 h4 h5 => h.ackedV T U q c l i hq h1 h2 h3 h4 (h5.setP ht)
  whole := fun T U k i h1 h2 h3 h4 h5 => h.whole T U k i h1 h2 h3 h4 (h5.setP ht)
  comm := fun q hq => by
    by_cases d : q = p
    · subst d
      rw [setP_self]
      rcases hc with hc | hc
      · have := h.comm q hq
        rw [hl]
        refine ⟨by omega, ?_⟩
        have e : (s.pr q).log.take x.commit = ((s.pr q).log.take (s.pr q).commit).take x.commit := by rw [List.take_take, Nat.min_eq_left hc]
        rw [e]
        exact Comm.prefix ((this.2.grow ht (fun _ _ => rfl) (fun _ => ⟨[], by simp⟩) (fun _ _ _ => Nat.le_refl _)).setP) _
      · exact ⟨hc.1, hc.2.setP⟩
    · rw [setP_ne s x d]; exact ⟨(h.comm q hq).1, (h.comm q hq).2.setP⟩
theorem len_of_take {l m : List Rc} {i : Nat} (h : l.take i = m.take i) (hm : i ≤ m.length) : i ≤ l.length := by
  have := congrArg List.length h
  simp at this
  omega
theorem take_le {l m : List Rc} {i j : Nat} (h : l.take j = m.take j) (hi : i ≤ j) : l.take i = m.take i := by
  have := congrArg (List.take i) h
  simpa [List.take_take, Nat.min_eq_left hi] using this
theorem get_take {l m : List Rc} {i j : Nat} (h : l.take j = m.take j) (hi : i < j) : l[i]? = m[i]? := by
  have := congrArg (fun x => x[i]?) h
  simpa [List.getElem?_take, hi] using this
theorem Inv.led {n : Nat} {s : St} (h : Inv n s) {T : Nat} (hl : s.llog T ≠ []) : ∃ k, s.lead T = some k := by
  cases e : s.lead T with
  | none => exact absurd (h.llog_none T e) hl
  | some k => exact ⟨k, rfl⟩
theorem ne_of_len {l : List Rc} {i : Nat} (h : i ≤ l.length) (h0 : 0 < i) : l ≠ [] := by intro c; rw [c] at h; simp at h; omega
/-- A vote is given. -/
def St.grant (s : St) (q c : Nat) : St := { s.setP q { s.pr q with vote := c + 1 } with vt := fun T r => if T = (s.pr q).term ∧ r = q then some (c, (s.pr q).log) else s.vt T r }
theorem Inv.grant {n : Nat} {s : St} (h : Inv n s) {q c : Nat} {k : List Rc} (hq : q < n) (h0 : (s.pr q).vote = 0) (hc : s.cl (s.pr q).term c = some k) (hf : Far k (s.pr q).log) : Inv n (s.grant q c) := by
  have hnone : s.vt (s.pr q).term q = none := by
    cases e : s.vt (s.pr q).term q with
    | none => rfl
    | some x => have := h.vote_is q x.1 x.2 hq e; omega
  have hkeep : ∀ T r y, s.vt T r = some y → (s.grant q c).vt T r = some y := by
    intro T r y e
    show (if T = (s.pr q).term ∧ r = q then _ else s.vt T r) = _
    rw [if_neg]
    · exact e
    · rintro ⟨rfl, rfl⟩; rw [hnone] at e; cases e
  have hpr : ∀ r, ((s.grant q c).pr r).term = (s.pr r).term ∧ ((s.grant q c).pr r).log = (s.pr r).log ∧ ((s.grant q c).pr r).role = (s.pr r).role ∧ ((s.grant q c).pr r).commit = (s.pr r).commit ∧ ((s.grant q c).pr r).votes = (s.pr r).votes ∧ ((s.grant q c).pr r).mat = (s.pr r).mat := by
    intro r
    show (ite _ _ _ : Pr).term = _ ∧ (ite _ _ _ : Pr).log = _ ∧ (ite _ _ _ : Pr).role = _ ∧ (ite _ _ _ : Pr).commit = _ ∧ (ite _ _ _ : Pr).votes = _ ∧ (ite _ _ _ : Pr).mat = _
    by_cases d : r = q
    · subst d; simp
    · simp [d]
  have hch : ∀ T i, Chos n (s.grant q c) T i → Chos n s T i := fun T i => Chos.back (fun r _ => by rw [(hpr r).1]; exact Nat.le_refl _) (fun _ _ h => .inl h)
  have hvt : ∀ T r y, (s.grant q c).vt T r = some y → (T = (s.pr q).term ∧ r = q ∧ y = (c, (s.pr q).log)) ∨ s.vt T r = some y := by
    intro T r y e
    by_cases d : T = (s.pr q).term ∧ r = q
    · have e2 : (if T = (s.pr q).term ∧ r = q then some (c, (s.pr q).log) else s.vt T r) = some y := e
      rw [if_pos d] at e2
      injection e2 with e2
      exact .inl ⟨d.1, d.2, e2.symm⟩
    · have e2 : (if T = (s.pr q).term ∧ r = q then some (c, (s.pr q).log) else s.vt T r) = some y := e
      rw [if_neg d] at e2
      exact .inr e2
  refine { vote_of := ?_, vote_is := ?_, vt_term := ?_, cl_term := ?_, cl_lm := h.cl_lm, vt_cl := ?_, cand := ?_, lead_q := ?_, lead_cl := h.lead_cl, llog_none := h.llog_none, leader := ?_, log_lm := ?_, ack_le := h.ack_le, ack_term := ?_, acked := ?_, ackedV := ?_, whole := ?_, comm := ?_ }
  · intro p x hp e
    rw [(hpr p).1]
    by_cases d : p = q
    · subst d
      have e2 : c + 1 = x + 1 := by
        have : ((s.grant p c).pr p).vote = c + 1 := by show (ite _ _ _ : Pr).vote = _; simp
        rw [← this]; exact e
      have : c = x := by omega
      subst this
      exact ⟨(s.pr p).log, by show (if _ then _ else _) = _; simp⟩
    · have : ((s.grant q c).pr p).vote = (s.pr p).vote := by show (ite _ _ _ : Pr).vote = _; simp [d]
      rw [this] at e
      obtain ⟨l, hl⟩ := h.vote_of p x hp e
      exact ⟨l, hkeep _ _ _ hl⟩
  · intro p x l hp e
    rw [(hpr p).1] at e
    by_cases d : p = q
    · subst d
      have : ((s.grant p c).pr p).vote = c + 1 := by show (ite _ _ _ : Pr).vote = _; simp
      rw [this]
      rcases hvt _ _ _ e with ⟨_, _, e2⟩ | e2
      · injection e2 with e2 _; rw [e2]
      · rw [hnone] at e2; cases e2
    · have : ((s.grant q c).pr p).vote = (s.pr p).vote := by show (ite _ _ _ : Pr).vote = _; simp [d]
      rw [this]
      rcases hvt _ _ _ e with ⟨_, e2, _⟩ | e2
      · exact absurd e2 d
      · exact h.vote_is p x l hp e2
  · intro p U y hp e
    rw [(hpr p).1]
    rcases hvt _ _ _ e with ⟨e1, e2, _⟩ | e2
    · rw [e1, e2]; exact Nat.le_refl _
    · exact h.vt_term p U y hp e2
  · intro p U y hp e
    rw [(hpr p).1]; exact h.cl_term p U y hp e
  · intro r U x l hr e
    rcases hvt _ _ _ e with ⟨e1, e2, e3⟩ | e2
    · injection e3 with e3 e4
      subst e1 e3 e4
      exact ⟨h.log_lm q hq, k, hc, hf⟩
    · exact h.vt_cl r U x l hr e2
  · intro p hp e
    rw [(hpr p).2.2.1] at e
    rw [(hpr p).1, (hpr p).2.1, (hpr p).2.2.2.2.1]
    have := h.cand p hp e
    refine ⟨this.1, this.2.1, fun r hr hv => ?_⟩
    obtain ⟨l, hl⟩ := this.2.2 r hr hv
    exact ⟨l, hkeep _ _ _ hl⟩
  · intro U x e
    obtain ⟨h1, h2, Q, h3, h4⟩ := h.lead_q U x e
    refine ⟨h1, by rw [(hpr x).1]; exact h2, Q, h3, fun r hr hv => ?_⟩
    obtain ⟨l, hl⟩ := h4 r hr hv
    exact ⟨l, hkeep _ _ _ hl⟩
  · intro p hp e
    rw [(hpr p).2.2.1] at e
    rw [(hpr p).1, (hpr p).2.1, (hpr p).2.2.2.2.2]
    exact h.leader p hp e
  · intro p hp
    rw [(hpr p).1, (hpr p).2.1]; exact h.log_lm p hp
  · intro T p hp e
    rw [(hpr p).1]; exact h.ack_term T p hp e
  · intro T p i hp h1 h2 h3
    rw [(hpr p).2.1]; exact h.acked T p i hp h1 h2 (hch T i h3)
  · intro T U p x l i hp h1 h2 h3 h4 h5
    rcases hvt _ _ _ h1 with ⟨e1, e2, e3⟩ | e2
    · injection e3 with e3 e4
      subst e2 e4
      exact h.acked T p i hp h3 h4 (hch T i h5)
    · exact h.ackedV T U p x l i hp e2 h2 h3 h4 (hch T i h5)
  · intro T U x i h1 h2 h3 h4 h5
    exact h.whole T U x i h1 h2 h3 h4 (hch T i h5)
  · intro p hp
    rw [(hpr p).1, (hpr p).2.1, (hpr p).2.2.2.1]
    exact h.comm p hp
/-- A peer stands for election. -/
def St.stand (s : St) (p : Nat) : St := { s.setP p { s.pr p with term := (s.pr p).term + 1, vote := p + 1, role := 1, votes := fun q => decide (q = p) } with
  vt := fun T r => if T = (s.pr p).term + 1 ∧ r = p then some (p, (s.pr p).log) else s.vt T r
  cl := fun T r => if T = (s.pr p).term + 1 ∧ r = p then some (s.pr p).log else s.cl T r }
theorem Far.refl (l : List Rc) : Far l l := .inr ⟨rfl, Nat.le_refl _⟩
theorem Inv.stand {n : Nat} {s : St} (h : Inv n s) {p : Nat} (hp : p < n) : Inv n (s.stand p) := by
  have hvn : s.vt ((s.pr p).term + 1) p = none := by
    cases e : s.vt ((s.pr p).term + 1) p with
    | none => rfl
    | some x => have := h.vt_term p _ x hp e; omega
  have hcn : s.cl ((s.pr p).term + 1) p = none := by
    cases e : s.cl ((s.pr p).term + 1) p with
    | none => rfl
    | some x => have := h.cl_term p _ x hp e; omega
  have hself : (s.stand p).pr p = { s.pr p with term := (s.pr p).term + 1, vote := p + 1, role := 1, votes := fun q => decide (q = p) } := by
    show (if p = p then _ else _) = _
    rw [if_pos rfl]
  have hne : ∀ r, r ≠ p → (s.stand p).pr r = s.pr r := by
    intro r hr
    show (if r = p then _ else _) = _
    rw [if_neg hr]
  have hterm : ∀ r, r < n → (s.pr r).term ≤ ((s.stand p).pr r).term := by
    intro r _
    by_cases d : r = p
    · subst d; rw [hself]; exact Nat.le_succ _
    · rw [hne r d]; exact Nat.le_refl _
  have hlog : ∀ r, ((s.stand p).pr r).log = (s.pr r).log := by
    intro r
    by_cases d : r = p
    · subst d; rw [hself]
    · rw [hne r d]
  have hkeep : ∀ T r y, s.vt T r = some y → (s.stand p).vt T r = some y := by
    intro T r y e
    show (if T = (s.pr p).term + 1 ∧ r = p then _ else s.vt T r) = _
    rw [if_neg]
    · exact e
    · rintro ⟨rfl, rfl⟩; rw [hvn] at e; cases e
  have hkeepc : ∀ T r y, s.cl T r = some y → (s.stand p).cl T r = some y := by
    intro T r y e
    show (if T = (s.pr p).term + 1 ∧ r = p then _ else s.cl T r) = _
    rw [if_neg]
    · exact e
    · rintro ⟨rfl, rfl⟩; rw [hcn] at e; cases e
  have hvt : ∀ T r y, (s.stand p).vt T r = some y → (T = (s.pr p).term + 1 ∧ r = p ∧ y = (p, (s.pr p).log)) ∨ s.vt T r = some y := by
    intro T r y e
    by_cases d : T = (s.pr p).term + 1 ∧ r = p
    · have e2 : (if T = (s.pr p).term + 1 ∧ r = p then some (p, (s.pr p).log) else s.vt T r) = some y := e
      rw [if_pos d] at e2
      injection e2 with e2
      exact .inl ⟨d.1, d.2, e2.symm⟩
    · have e2 : (if T = (s.pr p).term + 1 ∧ r = p then some (p, (s.pr p).log) else s.vt T r) = some y := e
      rw [if_neg d] at e2
      exact .inr e2
  have hcl : ∀ T r y, (s.stand p).cl T r = some y → (T = (s.pr p).term + 1 ∧ r = p ∧ y = (s.pr p).log) ∨ s.cl T r = some y := by
    intro T r y e
    by_cases d : T = (s.pr p).term + 1 ∧ r = p
    · have e2 : (if T = (s.pr p).term + 1 ∧ r = p then some (s.pr p).log else s.cl T r) = some y := e
      rw [if_pos d] at e2
      injection e2 with e2
      exact .inl ⟨d.1, d.2, e2.symm⟩
    · have e2 : (if T = (s.pr p).term + 1 ∧ r = p then some (s.pr p).log else s.cl T r) = some y := e
      rw [if_neg d] at e2
      exact .inr e2
  have hch : ∀ T i, Chos n (s.stand p) T i → Chos n s T i := fun T i => Chos.back hterm (fun _ _ h => .inl h)
  have hvp : (s.stand p).vt ((s.pr p).term + 1) p = some (p, (s.pr p).log) := by
    show (if _ then _ else _) = _
    rw [if_pos ⟨rfl, rfl⟩]
  have hcp : (s.stand p).cl ((s.pr p).term + 1) p = some (s.pr p).log := by
    show (if _ then _ else _) = _
    rw [if_pos ⟨rfl, rfl⟩]
  refine { vote_of := ?_, vote_is := ?_, vt_term := ?_, cl_term := ?_, cl_lm := ?_, vt_cl := ?_, cand := ?_, lead_q := ?_, lead_cl := ?_, llog_none := h.llog_none, leader := ?_, log_lm := ?_, ack_le := h.ack_le, ack_term := ?_, acked := ?_, ackedV := ?_, whole := ?_, comm := ?_ }
  · intro r x hr e
    by_cases d : r = p
    · subst d
      rw [hself] at e ⊢
      have : r = x := by have e : r + 1 = x + 1 := e; omega
      subst this
      exact ⟨_, hvp⟩
    · rw [hne r d] at e ⊢
      obtain ⟨l, hl⟩ := h.vote_of r x hr e
      exact ⟨l, hkeep _ _ _ hl⟩
  · intro r x l hr e
    by_cases d : r = p
    · subst d
      rw [hself] at e ⊢
      have e : (s.stand r).vt ((s.pr r).term + 1) r = some (x, l) := e
      rw [hvp] at e
      injection e with e
      injection e with e _
      show r + 1 = x + 1
      rw [e]
    · rw [hne r d] at e ⊢
      rcases hvt _ _ _ e with ⟨_, e2, _⟩ | e2
      · exact absurd e2 d
      · exact h.vote_is r x l hr e2
  · intro r U y hr e
    rcases hvt _ _ _ e with ⟨e1, e2, _⟩ | e2
    · subst e2; rw [hself, e1]; exact Nat.le_refl _
    · exact Nat.le_trans (h.vt_term r U y hr e2) (hterm r hr)
  · intro r U y hr e
    rcases hcl _ _ _ e with ⟨e1, e2, _⟩ | e2
    · subst e2; rw [hself, e1]; exact Nat.le_refl _
    · exact Nat.le_trans (h.cl_term r U y hr e2) (hterm r hr)
  · intro r U l e
    rcases hcl _ _ _ e with ⟨e1, e2, e3⟩ | e2
    · subst e1 e2 e3
      exact ⟨hp, by omega, h.log_lm r hp⟩
    · exact h.cl_lm r U l e2
  · intro r U x l hr e
    rcases hvt _ _ _ e with ⟨e1, e2, e3⟩ | e2
    · injection e3 with e3 e4
      subst e1 e3 e4
      exact ⟨(h.log_lm x hp).weaken (Nat.le_succ _), _, hcp, Far.refl _⟩
    · obtain ⟨h1, k, h2, h3⟩ := h.vt_cl r U x l hr e2
      exact ⟨h1, k, hkeepc _ _ _ h2, h3⟩
  · intro r hr e
    by_cases d : r = p
    · subst d
      rw [hself]
      refine ⟨hcp, ?_, fun q hq hv => ?_⟩
      · intro c
        have := (h.lead_q _ _ c).2.1
        have e : (s.pr r).term + 1 ≤ (s.pr r).term := this
        omega
      · have : q = r := by simpa using hv
        subst this
        exact ⟨_, hvp⟩
    · rw [hne r d] at e ⊢
      have := h.cand r hr e
      refine ⟨hkeepc _ _ _ this.1, this.2.1, fun q hq hv => ?_⟩
      obtain ⟨l, hl⟩ := this.2.2 q hq hv
      exact ⟨l, hkeep _ _ _ hl⟩
  · intro U x e
    obtain ⟨h1, h2, Q, h3, h4⟩ := h.lead_q U x e
    refine ⟨h1, Nat.le_trans h2 (hterm x h1), Q, h3, fun r hr hv => ?_⟩
    obtain ⟨l, hl⟩ := h4 r hr hv
    exact ⟨l, hkeep _ _ _ hl⟩
  · intro U x e
    obtain ⟨h1, h2⟩ := h.lead_cl U x e
    exact ⟨hkeepc _ _ _ h1, h2⟩
  · intro r hr e
    by_cases d : r = p
    · subst d; rw [hself] at e; cases e
    · rw [hne r d] at e ⊢; exact h.leader r hr e
  · intro r hr
    rw [hlog r]; exact (h.log_lm r hr).weaken (hterm r hr)
  · intro T r hr e
    exact Nat.le_trans (h.ack_term T r hr e) (hterm r hr)
  · intro T r i hr h1 h2 h3
    rw [hlog r]; exact h.acked T r i hr h1 h2 (hch T i h3)
  · intro T U r x l i hr h1 h2 h3 h4 h5
    rcases hvt _ _ _ h1 with ⟨e1, e2, e3⟩ | e2
    · injection e3 with e3 e4
      subst e2 e4
      exact h.acked T r i hr h3 h4 (hch T i h5)
    · exact h.ackedV T U r x l i hr e2 h2 h3 h4 (hch T i h5)
  · intro T U x i h1 h2 h3 h4 h5
    exact h.whole T U x i h1 h2 h3 h4 (hch T i h5)
  · intro r hr
    have hc : ((s.stand p).pr r).commit = (s.pr r).commit := by
      by_cases d : r = p
      · subst d; rw [hself]
      · rw [hne r d]
    rw [hlog r, hc]
    exact ⟨(h.comm r hr).1, (h.comm r hr).2.grow (hterm r hr) (fun _ _ => rfl) (fun _ => ⟨[], by simp [St.stand, St.setP]⟩) (fun _ _ _ => Nat.le_refl _)⟩
/-- The terms of a log do not rise above its last one. -/
theorem Inv.last {n : Nat} {s : St} (h : Inv n s) {l : List Rc} {T i : Nat} {r : Rc} (hl : LM s l T) (hr : l[i]? = some r) : r.term ≤ lastTerm l ∧ (∃ k, s.lead (lastTerm l) = some k) ∧ l = (s.llog (lastTerm l)).take l.length ∧ lastTerm l ≤ T ∧ l[l.length - 1]?.map (·.term) = some (lastTerm l) := by
  have hi : i < l.length := by rw [List.getElem?_eq_some_iff] at hr; exact hr.1
  obtain ⟨x, hx⟩ : ∃ x, l[l.length - 1]? = some x := ⟨_, List.getElem?_eq_getElem (by omega)⟩
  have hlast : lastTerm l = x.term := by
    unfold lastTerm
    rw [List.getLast?_eq_getElem?, hx]
  have := hl _ _ hx
  have e : l.length - 1 + 1 = l.length := by omega
  rw [e] at this
  obtain ⟨h1, h2, ⟨k, h3⟩, h4, h5⟩ := this
  rw [List.take_of_length_le (Nat.le_refl _)] at h4
  rw [hlast]
  refine ⟨?_, ⟨k, h3⟩, h4, h2, by rw [hx]; rfl⟩
  have h6 : (s.llog x.term)[i]? = some r := by
    rw [← hr]
    have : (s.llog x.term).take l.length = l.take l.length := by rw [List.take_of_length_le (Nat.le_refl l.length)]; exact h4.symm
    exact get_take this hi
  exact ((h.lead_cl _ _ h3).2.2.2 i r h6).2.1
theorem Inv.before {n : Nat} {s : St} (h : Inv n s) {U k i : Nat} {r : Rc} (hl : s.lead U = some k) (hr : (s.llog U)[i]? = some r) (ht : r.term = U) : s.ini U ≤ i := by
  refine Classical.byContradiction fun c => ?_
  obtain ⟨h1, h2, _⟩ := h.lead_cl U k hl
  obtain ⟨_, h3, h4⟩ := h.cl_lm k U _ h1
  have : ((s.llog U).take (s.ini U))[i]? = some r := by rw [List.getElem?_take, if_pos (by omega)]; exact hr
  have := (h4 i r this).2.1
  omega
/-- What a new leader must have: whatever can have been chosen ahead of its term. -/
theorem Inv.elects {n : Nat} {s : St} (h : Inv n s) {p : Nat} (hp : p < n) (hr : (s.pr p).role = 1) (hQ : quorum n (s.pr p).votes) {T i : Nat} (hT : T < (s.pr p).term) (h1 : s.ini T < i) (h2 : i ≤ (s.llog T).length) (hC : Chos n s T i) : i ≤ (s.pr p).log.length ∧ (s.pr p).log.take i = (s.llog T).take i := by
  obtain ⟨hcl, hnl, hvs⟩ := h.cand p hp hr
  obtain ⟨Q, hQ2, hq⟩ := hC
  obtain ⟨q, hqn, hq1, hq2⟩ := quorum_meet hQ hQ2
  obtain ⟨vl, hvl⟩ := hvs q hqn hq1
  have hut := h.vt_term q _ _ hqn hvl
  have hack : i ≤ s.ack T q := by rcases hq q hqn hq2 with c | c <;> omega
  have hv := h.ackedV T _ q p vl i hqn hvl hT h1 hack ⟨Q, hQ2, hq⟩
  obtain ⟨hvlm, k, hk, hfar⟩ := h.vt_cl q _ p vl hqn hvl
  rw [hcl] at hk
  injection hk with hk
  subst hk
  have hvlen : i ≤ vl.length := len_of_take hv h2
  obtain ⟨kT, hkT⟩ := h.led (ne_of_len h2 (by omega))
  obtain ⟨r, hr0⟩ : ∃ r, (s.llog T)[i - 1]? = some r := ⟨_, List.getElem?_eq_getElem (by omega)⟩
  have hrT : r.term = T := (h.lead_cl T kT hkT).2.2.1 (i - 1) r (by omega) hr0
  have hr1 : vl[i - 1]? = some r := by rw [← hr0]; exact get_take hv (by omega)
  obtain ⟨hl1, ⟨kW, hkW⟩, hl3, hl4, hl5⟩ := h.last hvlm hr1
  have hplm := (h.cl_lm p _ _ hcl).2.2
  rcases hfar with hfar | ⟨hf1, hf2⟩
  · have hne : (s.pr p).log ≠ [] := by intro c; rw [c] at hfar; simp [lastTerm] at hfar
    obtain ⟨x, hx⟩ : ∃ x, (s.pr p).log[(s.pr p).log.length - 1]? = some x := ⟨_, List.getElem?_eq_getElem (by have := List.length_pos_iff.2 hne; omega)⟩
    obtain ⟨_, ⟨kX, hkX⟩, m3, m4, m5⟩ := h.last hplm hx
    have hpos := List.length_pos_iff.2 hne
    have hcu := (h.cl_lm p _ _ hcl).2.1
    have hTW : T < lastTerm (s.pr p).log := by omega
    obtain ⟨w1, w2⟩ := h.whole T _ kX i hkX hTW h1 h2 ⟨Q, hQ2, hq⟩
    rw [hx] at m5
    have m5 : x.term = lastTerm (s.pr p).log := by simpa using m5
    have hxl : (s.llog (lastTerm (s.pr p).log))[(s.pr p).log.length - 1]? = some x := by
      rw [← hx]
      have : (s.llog (lastTerm (s.pr p).log)).take (s.pr p).log.length = (s.pr p).log.take (s.pr p).log.length := by
        rw [List.take_of_length_le (Nat.le_refl (s.pr p).log.length)]; exact m3.symm
      exact get_take this (by omega)
    have := h.before hkX hxl m5
    refine ⟨by omega, ?_⟩
    rw [m3, List.take_take, Nat.min_eq_left (by omega)]
    exact w2
  · have hne : (s.pr p).log ≠ [] := by intro c; rw [c] at hf2; simp at hf2; rw [hf2] at hvlen; simp at hvlen; omega
    obtain ⟨x, hx⟩ : ∃ x, (s.pr p).log[(s.pr p).log.length - 1]? = some x := ⟨_, List.getElem?_eq_getElem (by have := List.length_pos_iff.2 hne; omega)⟩
    obtain ⟨_, ⟨kX, hkX⟩, m3, m4, m5⟩ := h.last hplm hx
    refine ⟨by omega, ?_⟩
    rw [← hv, m3, hl3, List.take_take, List.take_take, Nat.min_eq_left (by omega), Nat.min_eq_left (by omega), hf1]
/-- A candidate with votes of most is a leader. -/
def St.elect (s : St) (p : Nat) : St := { s.setP p { s.pr p with role := 2, votes := fun _ => false, mat := fun q => if q = p then (s.pr p).log.length else 0 } with
  lead := fun T => if T = (s.pr p).term then some p else s.lead T
  llog := fun T => if T = (s.pr p).term then (s.pr p).log else s.llog T
  ini := fun T => if T = (s.pr p).term then (s.pr p).log.length else s.ini T
  ack := fun T q => if T = (s.pr p).term ∧ q = p then (s.pr p).log.length else s.ack T q }
theorem Inv.elect {n : Nat} {s : St} (h : Inv n s) {p : Nat} (hp : p < n) (hr : (s.pr p).role = 1) (hQ : quorum n (s.pr p).votes) : Inv n (s.elect p) := by
  obtain ⟨hcl, hnl, hvs⟩ := h.cand p hp hr
  have hnone : s.lead (s.pr p).term = none := by
    cases e : s.lead (s.pr p).term with
    | none => rfl
    | some k =>
      obtain ⟨_, _, Q, h3, h4⟩ := h.lead_q _ k e
      obtain ⟨q, hq, h5, h6⟩ := quorum_meet hQ h3
      obtain ⟨l, hl⟩ := hvs q hq h5
      obtain ⟨l', hl'⟩ := h4 q hq h6
      rw [hl] at hl'
      injection hl' with hl'
      injection hl' with hl' _
      subst hl'
      exact absurd e hnl
  have hll : s.llog (s.pr p).term = [] := h.llog_none _ hnone
  have hack0 : ∀ q, s.ack (s.pr p).term q = 0 := fun q => by have := h.ack_le (s.pr p).term q; rw [hll] at this; simpa using this
  have hself : (s.elect p).pr p = { s.pr p with role := 2, votes := fun _ => false, mat := fun q => if q = p then (s.pr p).log.length else 0 } := by
    show (if p = p then _ else _) = _
    rw [if_pos rfl]
  have hne : ∀ r, r ≠ p → (s.elect p).pr r = s.pr r := by
    intro r hr
    show (if r = p then _ else _) = _
    rw [if_neg hr]
  have hsame : ∀ r, ((s.elect p).pr r).term = (s.pr r).term ∧ ((s.elect p).pr r).log = (s.pr r).log ∧ ((s.elect p).pr r).commit = (s.pr r).commit ∧ ((s.elect p).pr r).vote = (s.pr r).vote := by
    intro r
    by_cases d : r = p
    · subst d; rw [hself]; exact ⟨rfl, rfl, rfl, rfl⟩
    · rw [hne r d]; exact ⟨rfl, rfl, rfl, rfl⟩
  have hlead : ∀ T, (s.elect p).lead T = if T = (s.pr p).term then some p else s.lead T := fun _ => rfl
  have hllog : ∀ T, (s.elect p).llog T = if T = (s.pr p).term then (s.pr p).log else s.llog T := fun _ => rfl
  have hini : ∀ T, (s.elect p).ini T = if T = (s.pr p).term then (s.pr p).log.length else s.ini T := fun _ => rfl
  have hack : ∀ T q, (s.elect p).ack T q = if T = (s.pr p).term ∧ q = p then (s.pr p).log.length else s.ack T q := fun _ _ => rfl
  have hlm : ∀ l T, LM s l T → LM (s.elect p) l T := fun l T hl => hl.grow (fun U k e => by rw [hlead, if_neg]; exact e; rintro rfl; rw [hnone] at e; cases e) (fun U k e => ⟨[], by rw [hllog, if_neg, List.append_nil]; rintro rfl; rw [hnone] at e; cases e⟩)
  have hch : ∀ T i, Chos n (s.elect p) T i → Chos n s T i := fun T i => Chos.back (fun r _ => by rw [(hsame r).1]; exact Nat.le_refl _) (fun q _ hi => by
    rw [hack] at hi
    by_cases d : T = (s.pr p).term ∧ q = p
    · right; rw [d.1, d.2]; exact Nat.le_refl _
    · rw [if_neg d] at hi; exact .inl hi)
  refine { vote_of := ?_, vote_is := ?_, vt_term := ?_, cl_term := ?_, cl_lm := ?_, vt_cl := ?_, cand := ?_, lead_q := ?_, lead_cl := ?_, llog_none := ?_, leader := ?_, log_lm := ?_, ack_le := ?_, ack_term := ?_, acked := ?_, ackedV := ?_, whole := ?_, comm := ?_ }
  · intro r x hr e
    rw [(hsame r).1]; rw [(hsame r).2.2.2] at e; exact h.vote_of r x hr e
  · intro r x l hr e
    rw [(hsame r).2.2.2]; rw [(hsame r).1] at e; exact h.vote_is r x l hr e
  · intro r U y hr e
    rw [(hsame r).1]; exact h.vt_term r U y hr e
  · intro r U y hr e
    rw [(hsame r).1]; exact h.cl_term r U y hr e
  · intro r U l e
    have := h.cl_lm r U l e
    exact ⟨this.1, this.2.1, hlm _ _ this.2.2⟩
  · intro r U x l hr e
    have := h.vt_cl r U x l hr e
    exact ⟨hlm _ _ this.1, this.2⟩
  · intro r hr e
    by_cases d : r = p
    · subst d; rw [hself] at e; cases e
    · rw [hne r d] at e ⊢
      have := h.cand r hr e
      refine ⟨this.1, ?_, this.2.2⟩
      rw [hlead]
      split
      · intro c; injection c with c; exact d c.symm
      · exact this.2.1
  · intro U k e
    rw [hlead] at e
    by_cases d : U = (s.pr p).term
    · rw [if_pos d] at e
      injection e with e
      subst e d
      exact ⟨hp, by rw [(hsame p).1]; exact Nat.le_refl _, _, hQ, fun q hq hv => hvs q hq hv⟩
    · rw [if_neg d] at e
      have := h.lead_q U k e
      exact ⟨this.1, by rw [(hsame k).1]; exact this.2.1, this.2.2⟩
  · intro U k e
    rw [hlead] at e
    by_cases d : U = (s.pr p).term
    · rw [if_pos d] at e
      injection e with e
      subst e d
      rw [hllog, hini, if_pos rfl, if_pos rfl]
      refine ⟨by rw [List.take_of_length_le (Nat.le_refl _)]; exact hcl, Nat.le_refl _, fun i r h1 h2 => ?_, hlm _ _ (h.log_lm p hp)⟩
      rw [List.getElem?_eq_some_iff] at h2
      have := h2.1
      omega
    · rw [if_neg d] at e
      rw [hllog, hini, if_neg d, if_neg d]
      have := h.lead_cl U k e
      exact ⟨this.1, this.2.1, this.2.2.1, hlm _ _ this.2.2.2⟩
  · intro U e
    rw [hlead] at e
    by_cases d : U = (s.pr p).term
    · rw [if_pos d] at e; cases e
    · rw [if_neg d] at e
      rw [hllog, if_neg d]; exact h.llog_none U e
  · intro r hr e
    by_cases d : r = p
    · subst d
      rw [hself]
      refine ⟨by rw [hlead]; exact if_pos rfl, by rw [hllog]; exact (if_pos rfl).symm, fun q hq => ?_⟩
      rw [hack]
      show (if q = r then (s.pr r).log.length else 0) ≤ _
      split
      · next e => rw [if_pos ⟨rfl, e⟩]; exact Nat.le_refl _
      · exact Nat.zero_le _
    · rw [hne r d] at e ⊢
      have := h.leader r hr e
      have d2 : (s.pr r).term ≠ (s.pr p).term := by intro c; rw [c, hnone] at this; cases this.1
      rw [hlead, hllog, if_neg d2, if_neg d2]
      refine ⟨this.1, this.2.1, fun q hq => ?_⟩
      rw [hack, if_neg (fun c => d2 c.1)]
      exact this.2.2 q hq
  · intro r hr
    rw [(hsame r).1, (hsame r).2.1]; exact hlm _ _ (h.log_lm r hr)
  · intro T q
    rw [hack, hllog]
    by_cases d : T = (s.pr p).term
    · rw [if_pos d]
      split
      · exact Nat.le_refl _
      · rw [d, hack0]; exact Nat.zero_le _
    · rw [if_neg d, if_neg (fun c => d c.1)]; exact h.ack_le T q
  · intro T q hq e
    rw [(hsame q).1]
    rw [hack] at e
    by_cases d : T = (s.pr p).term ∧ q = p
    · rw [d.1, d.2]; exact Nat.le_refl _
    · rw [if_neg d] at e; exact h.ack_term T q hq e
  · intro T q i hq h1 h2 h3
    rw [(hsame q).2.1]
    rw [hini] at h1
    rw [hack] at h2
    by_cases d : T = (s.pr p).term
    · rw [if_pos d] at h1
      split at h2
      · omega
      · rw [d, hack0] at h2; omega
    · rw [if_neg d] at h1
      rw [if_neg (fun c => d c.1)] at h2
      rw [hllog, if_neg d]
      exact h.acked T q i hq h1 h2 (hch T i h3)
  · intro T U q x l i hq h0 h00 h1 h2 h3
    rw [hini] at h1
    rw [hack] at h2
    by_cases d : T = (s.pr p).term
    · rw [if_pos d] at h1
      split at h2
      · omega
      · rw [d, hack0] at h2; omega
    · rw [if_neg d] at h1
      rw [if_neg (fun c => d c.1)] at h2
      rw [hllog, if_neg d]
      exact h.ackedV T U q x l i hq h0 h00 h1 h2 (hch T i h3)
  · intro T U k i h0 h00 h1 h2 h3
    rw [hini] at h1
    rw [hllog] at h2
    by_cases d : T = (s.pr p).term
    · rw [if_pos d] at h1 h2; omega
    · rw [if_neg d] at h1 h2
      rw [hlead] at h0
      rw [hini, hllog, hllog, if_neg d]
      by_cases e : U = (s.pr p).term
      · rw [if_pos e, if_pos e]
        exact h.elects hp hr hQ (by omega) h1 h2 (hch T i h3)
      · rw [if_neg e] at h0
        rw [if_neg e, if_neg e]
        exact h.whole T U k i h0 h00 h1 h2 (hch T i h3)
  · intro r hr
    rw [(hsame r).1, (hsame r).2.1, (hsame r).2.2.1]
    refine ⟨(h.comm r hr).1, (h.comm r hr).2.grow (Nat.le_refl _) (fun U hU => ?_) (fun U => ?_) (fun U q hq => ?_)⟩
    · rw [hini, if_neg]; rintro rfl; exact hU hll
    · rw [hllog]
      by_cases d : U = (s.pr p).term
      · rw [if_pos d, d, hll]; exact ⟨_, rfl⟩
      · rw [if_neg d]; exact ⟨[], by simp⟩
    · rw [hack]
      split
      · next d => rw [d.1, hack0]; exact Nat.zero_le _
      · exact Nat.le_refl _
/-- A leader's log has a record more. -/
def St.propose (s : St) (p : Nat) (r : Rc) : St := { s.setP p { s.pr p with log := (s.pr p).log ++ [r], mat := fun q => if q = p then (s.pr p).log.length + 1 else (s.pr p).mat q } with
  llog := fun T => if T = (s.pr p).term then (s.pr p).log ++ [r] else s.llog T
  ack := fun T q => if T = (s.pr p).term ∧ q = p then (s.pr p).log.length + 1 else s.ack T q }
theorem Inv.propose {n : Nat} {s : St} (h : Inv n s) {p : Nat} (hp : p < n) (hr : (s.pr p).role = 2) {r : Rc} (ht : r.term = (s.pr p).term) (hx : r.index = (s.pr p).log.length + 1) : Inv n (s.propose p r) := by
  obtain ⟨hld, hlg, hmt⟩ := h.leader p hp hr
  have hself : (s.propose p r).pr p = { s.pr p with log := (s.pr p).log ++ [r], mat := fun q => if q = p then (s.pr p).log.length + 1 else (s.pr p).mat q } := by
    show (if p = p then _ else _) = _
    rw [if_pos rfl]
  have hne : ∀ q, q ≠ p → (s.propose p r).pr q = s.pr q := by
    intro q hq
    show (if q = p then _ else _) = _
    rw [if_neg hq]
  have hsame : ∀ q, ((s.propose p r).pr q).term = (s.pr q).term ∧ ((s.propose p r).pr q).role = (s.pr q).role ∧ ((s.propose p r).pr q).commit = (s.pr q).commit ∧ ((s.propose p r).pr q).vote = (s.pr q).vote := by
    intro q
    by_cases d : q = p
    · subst d; rw [hself]; exact ⟨rfl, rfl, rfl, rfl⟩
    · rw [hne q d]; exact ⟨rfl, rfl, rfl, rfl⟩
  have hllog : ∀ T, (s.propose p r).llog T = if T = (s.pr p).term then (s.pr p).log ++ [r] else s.llog T := fun _ => rfl
  have hack : ∀ T q, (s.propose p r).ack T q = if T = (s.pr p).term ∧ q = p then (s.pr p).log.length + 1 else s.ack T q := fun _ _ => rfl
  have hgrow : ∀ U, ∃ t, (s.propose p r).llog U = s.llog U ++ t := fun U => by
    rw [hllog]
    by_cases d : U = (s.pr p).term
    · rw [if_pos d, d, ← hlg]; exact ⟨[r], rfl⟩
    · rw [if_neg d]; exact ⟨[], by simp⟩
  have htake : ∀ T i, i ≤ (s.llog T).length → ((s.propose p r).llog T).take i = (s.llog T).take i := fun T i hi => by
    obtain ⟨t, e⟩ := hgrow T
    rw [e, List.take_append_of_le_length hi]
  have hlm : ∀ l T, LM s l T → LM (s.propose p r) l T := fun l T hl => hl.grow (fun U k e => e) (fun U k _ => hgrow U)
  have hch : ∀ T i, Chos n (s.propose p r) T i → Chos n s T i := fun T i => Chos.back (fun q _ => by rw [(hsame q).1]; exact Nat.le_refl _) (fun q _ hi => by
    rw [hack] at hi
    by_cases d : T = (s.pr p).term ∧ q = p
    · right; rw [d.1, d.2]; exact Nat.le_refl _
    · rw [if_neg d] at hi; exact .inl hi)
  have hlc := h.lead_cl _ _ hld
  have h1U := (h.cl_lm p _ _ hlc.1).2.1
  have hnew : LM (s.propose p r) ((s.pr p).log ++ [r]) (s.pr p).term := by
    intro i x hix
    by_cases c : i < (s.pr p).log.length
    · rw [List.getElem?_append_left c] at hix
      have := hlm _ _ (h.log_lm p hp) i x hix
      refine ⟨this.1, this.2.1, this.2.2.1, ?_, this.2.2.2.2⟩
      rw [List.take_append_of_le_length (by omega)]
      exact this.2.2.2.1
    · have hlen : i < ((s.pr p).log ++ [r]).length := by rw [List.getElem?_eq_some_iff] at hix; exact hix.1
      simp at hlen
      have : i = (s.pr p).log.length := by omega
      subst this
      simp at hix
      subst hix
      rw [ht]
      refine ⟨h1U, Nat.le_refl _, ⟨p, hld⟩, ?_, hx⟩
      rw [hllog, if_pos rfl]
  refine { vote_of := ?_, vote_is := ?_, vt_term := ?_, cl_term := ?_, cl_lm := ?_, vt_cl := ?_, cand := ?_, lead_q := ?_, lead_cl := ?_, llog_none := ?_, leader := ?_, log_lm := ?_, ack_le := ?_, ack_term := ?_, acked := ?_, ackedV := ?_, whole := ?_, comm := ?_ }
  · intro q x hq e
    rw [(hsame q).1]; rw [(hsame q).2.2.2] at e; exact h.vote_of q x hq e
  · intro q x l hq e
    rw [(hsame q).2.2.2]; rw [(hsame q).1] at e; exact h.vote_is q x l hq e
  · intro q U y hq e
    rw [(hsame q).1]; exact h.vt_term q U y hq e
  · intro q U y hq e
    rw [(hsame q).1]; exact h.cl_term q U y hq e
  · intro q U l e
    have := h.cl_lm q U l e
    exact ⟨this.1, this.2.1, hlm _ _ this.2.2⟩
  · intro q U x l hq e
    have := h.vt_cl q U x l hq e
    exact ⟨hlm _ _ this.1, this.2⟩
  · intro q hq e
    rw [(hsame q).2.1] at e
    by_cases d : q = p
    · subst d; rw [hr] at e; cases e
    · rw [hne q d]; exact h.cand q hq e
  · intro U k e
    have := h.lead_q U k e
    exact ⟨this.1, by rw [(hsame k).1]; exact this.2.1, this.2.2⟩
  · intro U k e
    have := h.lead_cl U k e
    refine ⟨?_, ?_, ?_, ?_⟩
    · have e2 := htake U (s.ini U) this.2.1
      show s.cl U k = some (((s.propose p r).llog U).take (s.ini U))
      rw [e2]; exact this.1
    · obtain ⟨t, e2⟩ := hgrow U
      show s.ini U ≤ ((s.propose p r).llog U).length
      rw [e2, List.length_append]; have := this.2.1; omega
    · intro i x h1 h2
      rw [hllog] at h2
      by_cases d : U = (s.pr p).term
      · rw [if_pos d] at h2
        by_cases c : i < (s.pr p).log.length
        · rw [List.getElem?_append_left c] at h2
          exact this.2.2.1 i x h1 (by rw [d, ← hlg]; exact h2)
        · have hlen : i < ((s.pr p).log ++ [r]).length := by rw [List.getElem?_eq_some_iff] at h2; exact h2.1
          simp at hlen
          have : i = (s.pr p).log.length := by omega
          subst this
          simp at h2
          subst h2
          rw [ht, d]
      · rw [if_neg d] at h2
        exact this.2.2.1 i x h1 h2
    · rw [hllog]
      by_cases d : U = (s.pr p).term
      · rw [if_pos d, d]; exact hnew
      · rw [if_neg d]; exact hlm _ _ this.2.2.2
  · intro U e
    have := h.llog_none U e
    rw [hllog, if_neg]
    · exact this
    · rintro rfl
      have e : s.lead (s.pr p).term = none := e
      rw [hld] at e
      cases e
  · intro q hq e
    rw [(hsame q).2.1] at e
    by_cases d : q = p
    · subst d
      rw [hself]
      refine ⟨hld, by rw [hllog]; exact (if_pos rfl).symm, fun y hy => ?_⟩
      rw [hack]
      show (if y = q then (s.pr q).log.length + 1 else (s.pr q).mat y) ≤ _
      split
      · next e => rw [if_pos ⟨rfl, e⟩]; exact Nat.le_refl _
      · next e => rw [if_neg (fun c => e c.2)]; exact hmt y hy
    · rw [hne q d]
      have := h.leader q hq e
      have d2 : (s.pr q).term ≠ (s.pr p).term := by
        intro c
        have := this.1
        rw [c, hld] at this
        injection this with this
        exact d this.symm
      rw [hllog, if_neg d2]
      refine ⟨this.1, this.2.1, fun y hy => ?_⟩
      rw [hack, if_neg (fun c => d2 c.1)]
      exact this.2.2 y hy
  · intro q hq
    rw [(hsame q).1]
    by_cases d : q = p
    · subst d; rw [hself]; exact hnew
    · rw [hne q d]; exact hlm _ _ (h.log_lm q hq)
  · intro T q
    rw [hack]
    by_cases d : T = (s.pr p).term ∧ q = p
    · rw [if_pos d, hllog, if_pos d.1]; simp
    · rw [if_neg d]
      obtain ⟨t, e2⟩ := hgrow T
      rw [e2, List.length_append]
      have := h.ack_le T q
      omega
  · intro T q hq e
    rw [(hsame q).1]
    rw [hack] at e
    by_cases d : T = (s.pr p).term ∧ q = p
    · rw [d.1, d.2]; exact Nat.le_refl _
    · rw [if_neg d] at e; exact h.ack_term T q hq e
  · intro T q i hq h1 h2 h3
    have h1 : s.ini T < i := h1
    rw [hack] at h2
    by_cases d : T = (s.pr p).term ∧ q = p
    · obtain ⟨rfl, rfl⟩ := d
      rw [hself, hllog, if_pos rfl]
    · rw [if_neg d] at h2
      have := h.acked T q i hq h1 h2 (hch T i h3)
      have hle : i ≤ (s.llog T).length := Nat.le_trans h2 (h.ack_le T q)
      rw [htake T i hle]
      by_cases d2 : q = p
      · subst d2
        rw [hself, List.take_append_of_le_length (len_of_take this hle)]
        exact this
      · rw [hne q d2]; exact this
  · intro T U q x l i hq h0 h00 h1 h2 h3
    have h1 : s.ini T < i := h1
    rw [hack] at h2
    by_cases d : T = (s.pr p).term ∧ q = p
    · obtain ⟨rfl, rfl⟩ := d
      have := h.vt_term q U _ hq h0
      omega
    · rw [if_neg d] at h2
      rw [htake T i (Nat.le_trans h2 (h.ack_le T q))]
      exact h.ackedV T U q x l i hq h0 h00 h1 h2 (hch T i h3)
  · intro T U k i h0 h00 h1 h2 h3
    have h1 : s.ini T < i := h1
    have h0 : s.lead U = some k := h0
    show i ≤ s.ini U ∧ _
    by_cases c : i ≤ (s.llog T).length
    · have := h.whole T U k i h0 h00 h1 c (hch T i h3)
      refine ⟨this.1, ?_⟩
      rw [htake T i c, htake U i (Nat.le_trans this.1 (h.lead_cl U k h0).2.1)]
      exact this.2
    · exfalso
      rw [hllog] at h2
      by_cases d : T = (s.pr p).term
      · rw [if_pos d] at h2
        subst d
        obtain ⟨Q, hQ, hq⟩ := h3
        obtain ⟨_, _, V, hV, hv⟩ := h.lead_q U k h0
        obtain ⟨q, hqn, hq1, hq2⟩ := quorum_meet hQ hV
        obtain ⟨l, hl⟩ := hv q hqn hq2
        have hut := h.vt_term q U _ hqn hl
        rcases hq q hqn hq1 with e | e
        · rw [hack] at e
          by_cases d2 : q = p
          · subst d2; omega
          · rw [if_neg (fun c => d2 c.2)] at e
            have := h.ack_le (s.pr p).term q
            omega
        · rw [(hsame q).1] at e; omega
      · rw [if_neg d] at h2; omega
  · intro q hq
    rw [(hsame q).1, (hsame q).2.2.1]
    have hc := h.comm q hq
    have hC := hc.2.grow (s' := s.propose p r) (Nat.le_refl _) (fun _ _ => rfl) hgrow (fun U y hy => by
      rw [hack]
      split
      · next d =>
        have := h.ack_le U y
        rw [d.1, ← hlg] at this
        rw [d.1]
        omega
      · exact Nat.le_refl _)
    by_cases d : q = p
    · subst d
      rw [hself]
      refine ⟨by simp; omega, ?_⟩
      show Comm n _ (((s.pr q).log ++ [r]).take _) _
      rw [List.take_append_of_le_length hc.1]
      exact hC
    · rw [hne q d]; exact ⟨hc.1, hC⟩
theorem Comm.chos {n : Nat} {s : St} {T i : Nat} (h : ∃ Q, quorum n Q ∧ ∀ q, q < n → Q q = true → i ≤ s.ack T q) : Chos n s T i := by
  obtain ⟨Q, hQ, h⟩ := h
  exact ⟨Q, hQ, fun q hq hQq => .inl (h q hq hQq)⟩
/-- What is committed by a term's time stands in that term's leader's log. -/
theorem Inv.held {n : Nat} {s : St} (h : Inv n s) {l : List Rc} {T k : Nat} (hl : s.lead T = some k) (hc : Comm n s l T) : l.length ≤ (s.llog T).length ∧ l = (s.llog T).take l.length := by
  rcases hc with rfl | ⟨T0, i, h1, h2, h3, h4, h5, h6⟩
  · simp
  · by_cases d : T0 = T
    · subst d; exact ⟨by omega, h6⟩
    · have w := h.whole T0 T k i hl (by omega) h2 h3 (Comm.chos h4)
      have hi := len_of_take w.2 h3
      refine ⟨by omega, ?_⟩
      rw [take_le w.2 h5]
      exact h6
/-- Of two committed lists one is the beginning of the other. -/
theorem Inv.agree {n : Nat} {s : St} (h : Inv n s) {l m : List Rc} {T U : Nat} (hl : Comm n s l T) (hm : Comm n s m U) (hle : l.length ≤ m.length) : l = m.take l.length := by
  rcases hl with rfl | ⟨T0, i, h1, h2, h3, h4, h5, h6⟩
  · simp
  rcases hm with rfl | ⟨U0, j, g1, g2, g3, g4, g5, g6⟩
  · simp at hle
    rw [hle]; simp
  have key : (s.llog T0).take l.length = (s.llog U0).take l.length := by
    rcases Nat.lt_trichotomy T0 U0 with d | d | d
    · obtain ⟨k, hk⟩ := h.led (ne_of_len g3 (by omega))
      have w := h.whole T0 U0 k i hk d h2 h3 (Comm.chos h4)
      exact (take_le w.2 h5).symm
    · rw [d]
    · obtain ⟨k, hk⟩ := h.led (ne_of_len h3 (by omega))
      have w := h.whole U0 T0 k j hk d g2 g3 (Comm.chos g4)
      exact take_le w.2 (by omega)
  conv => lhs; rw [h6, key]
  rw [g6, List.take_take, Nat.min_eq_left (by omega)]
/-- A leader's records are taken: the log up to e is that of the leader. -/
def St.accept (s : St) (q e : Nat) (x : Pr) : St := { s.setP q x with ack := fun T r => if T = (s.pr q).term ∧ r = q then max (s.ack T r) e else s.ack T r }
theorem Inv.accept {n : Nat} {s : St} (h : Inv n s) {q k e C : Nat} {x : Pr} (hq : q < n) (hk : s.lead (s.pr q).term = some k) (he : e ≤ (s.llog (s.pr q).term).length)
    (ht : x.term = (s.pr q).term) (hv : x.vote = (s.pr q).vote) (hr : x.role = 0) (hl : LM s x.log (s.pr q).term) (h1 : x.log.take e = (s.llog (s.pr q).term).take e)
    (h2 : ∀ i, i ≤ (s.llog (s.pr q).term).length → (s.pr q).log.take i = (s.llog (s.pr q).term).take i → x.log.take i = (s.llog (s.pr q).term).take i)
    (hC : C ≤ e) (hC2 : Comm n s ((s.llog (s.pr q).term).take C) (s.pr q).term) (hx : x.commit = max (s.pr q).commit C) : Inv n (s.accept q e x) := by
  have hself : (s.accept q e x).pr q = x := by show (if q = q then _ else _) = _; rw [if_pos rfl]
  have hne : ∀ r, r ≠ q → (s.accept q e x).pr r = s.pr r := by
    intro r hr
    show (if r = q then _ else _) = _
    rw [if_neg hr]
  have hterm : ∀ r, ((s.accept q e x).pr r).term = (s.pr r).term := by
    intro r
    by_cases d : r = q
    · subst d; rw [hself]; exact ht
    · rw [hne r d]
  have hvote : ∀ r, ((s.accept q e x).pr r).vote = (s.pr r).vote := by
    intro r
    by_cases d : r = q
    · subst d; rw [hself]; exact hv
    · rw [hne r d]
  have hack : ∀ T r, (s.accept q e x).ack T r = if T = (s.pr q).term ∧ r = q then max (s.ack T r) e else s.ack T r := fun _ _ => rfl
  have hge : ∀ T r, s.ack T r ≤ (s.accept q e x).ack T r := fun T r => by
    rw [hack]
    split
    · exact Nat.le_max_left _ _
    · exact Nat.le_refl _
  have hch : ∀ T i, Chos n (s.accept q e x) T i → Chos n s T i := fun T i => Chos.back (fun r _ => by rw [hterm r]; exact Nat.le_refl _) (fun r _ hi => by
    rw [hack] at hi
    by_cases d : T = (s.pr q).term ∧ r = q
    · right; rw [d.1, d.2]; exact Nat.le_refl _
    · rw [if_neg d] at hi; exact .inl hi)
  refine { vote_of := ?_, vote_is := ?_, vt_term := ?_, cl_term := ?_, cl_lm := h.cl_lm, vt_cl := h.vt_cl, cand := ?_, lead_q := ?_, lead_cl := h.lead_cl, llog_none := h.llog_none, leader := ?_, log_lm := ?_, ack_le := ?_, ack_term := ?_, acked := ?_, ackedV := ?_, whole := ?_, comm := ?_ }
  · intro r c hr' e'
    rw [hterm r]; rw [hvote r] at e'; exact h.vote_of r c hr' e'
  · intro r c l hr' e'
    rw [hvote r]; rw [hterm r] at e'; exact h.vote_is r c l hr' e'
  · intro r U y hr' e'
    rw [hterm r]; exact h.vt_term r U y hr' e'
  · intro r U y hr' e'
    rw [hterm r]; exact h.cl_term r U y hr' e'
  · intro r hr' e'
    by_cases d : r = q
    · subst d; rw [hself, hr] at e'; cases e'
    · rw [hne r d] at e' ⊢; exact h.cand r hr' e'
  · intro U c e'
    have := h.lead_q U c e'
    exact ⟨this.1, by rw [hterm c]; exact this.2.1, this.2.2⟩
  · intro r hr' e'
    by_cases d : r = q
    · subst d; rw [hself, hr] at e'; cases e'
    · rw [hne r d] at e' ⊢
      have := h.leader r hr' e'
      exact ⟨this.1, this.2.1, fun y hy => Nat.le_trans (this.2.2 y hy) (hge _ _)⟩
  · intro r hr'
    rw [hterm r]
    by_cases d : r = q
    · subst d; rw [hself]; exact hl
    · rw [hne r d]; exact h.log_lm r hr'
  · intro T r
    rw [hack]
    show _ ≤ (s.llog T).length
    split
    · next d =>
      have := h.ack_le T r
      rw [d.1] at this ⊢
      omega
    · exact h.ack_le T r
  · intro T r hr' e'
    rw [hterm r]
    rw [hack] at e'
    by_cases d : T = (s.pr q).term ∧ r = q
    · rw [d.1, d.2]; exact Nat.le_refl _
    · rw [if_neg d] at e'; exact h.ack_term T r hr' e'
  · intro T r i hr' g1 g2 g3
    have g1 : s.ini T < i := g1
    show _ = (s.llog T).take i
    rw [hack] at g2
    by_cases d : r = q
    · subst d
      rw [hself]
      by_cases d2 : T = (s.pr r).term
      · subst d2
        rw [if_pos ⟨rfl, rfl⟩] at g2
        by_cases c : i ≤ e
        · exact take_le h1 c
        · have g4 : i ≤ s.ack (s.pr r).term r := by omega
          exact h2 i (Nat.le_trans g4 (h.ack_le _ _)) (h.acked _ r i hr' g1 g4 (hch _ i g3))
      · rw [if_neg (fun c => d2 c.1)] at g2
        have o := h.acked T r i hr' g1 g2 (hch T i g3)
        have hT := h.ack_term T r hr' (by omega)
        have hlen := Nat.le_trans g2 (h.ack_le T r)
        have w := h.whole T _ k i hk (by omega) g1 hlen (hch T i g3)
        have hlen2 := len_of_take w.2 hlen
        rw [← w.2]
        exact h2 i hlen2 (o.trans w.2.symm)
    · rw [if_neg (fun c => d c.2)] at g2
      rw [hne r d]
      exact h.acked T r i hr' g1 g2 (hch T i g3)
  · intro T U r c l i hr' g0 g00 g1 g2 g3
    have g1 : s.ini T < i := g1
    rw [hack] at g2
    by_cases d : T = (s.pr q).term ∧ r = q
    · have := h.vt_term r U _ hr' g0
      rw [d.2] at this
      omega
    · rw [if_neg d] at g2
      exact h.ackedV T U r c l i hr' g0 g00 g1 g2 (hch T i g3)
  · intro T U c i g0 g00 g1 g2 g3
    exact h.whole T U c i g0 g00 g1 g2 (hch T i g3)
  · intro r hr'
    rw [hterm r]
    have grow : ∀ l T, Comm n s l T → Comm n (s.accept q e x) l T := fun l T hl => hl.grow (Nat.le_refl _) (fun _ _ => rfl) (fun U => ⟨[], by simp [St.accept, St.setP]⟩) (fun U y _ => hge U y)
    by_cases d : r = q
    · subst d
      rw [hself, hx]
      have hc := h.comm r hr'
      have hh := h.held hk hc.2
      have hlen : ((s.pr r).log.take (s.pr r).commit).length = (s.pr r).commit := by rw [List.length_take]; exact Nat.min_eq_left hc.1
      rw [hlen] at hh
      have h3 := h2 (s.pr r).commit hh.1 hh.2
      rcases Nat.le_total (s.pr r).commit C with c | c
      · rw [Nat.max_eq_right c]
        have h4 := take_le h1 hC
        have h5 := len_of_take h4 (by omega)
        rw [h4]
        exact ⟨h5, grow _ _ hC2⟩
      · rw [Nat.max_eq_left c]
        refine ⟨len_of_take h3 hh.1, ?_⟩
        rw [h3, ← hh.2]
        exact grow _ _ hc.2
    · rw [hne r d]; exact ⟨(h.comm r hr').1, grow _ _ (h.comm r hr').2⟩
def St.begin : St := ⟨fun _ => ⟨0, 0, 0, 0, [], fun _ => false, fun _ => 0⟩, fun _ => none, fun _ => [], fun _ => 0, fun _ _ => 0, fun _ _ => none, fun _ _ => none⟩
theorem Inv.begin (n : Nat) : Inv n St.begin where
  vote_of := fun p c _ e => by cases e
  vote_is := fun p c l _ e => by cases e
  vt_term := fun p U x _ e => by cases e
  cl_term := fun p U x _ e => by cases e
  cl_lm := fun p U l e => by cases e
  vt_cl := fun q U c l _ e => by cases e
  cand := fun p _ e => by cases e
  lead_q := fun U k e => by cases e
  lead_cl := fun U k e => by cases e
  llog_none := fun _ _ => rfl
  leader := fun p _ e => by cases e
  log_lm := fun p _ i r e => by simp [St.begin] at e
  ack_le := fun _ _ => Nat.le_refl _
  ack_term := fun T q _ e => by cases e
  acked := fun T q i _ h1 h2 _ => by have h2 : i ≤ 0 := h2; omega
  ackedV := fun T U q c l i _ e => by cases e
  whole := fun T U k i e => by cases e
  comm := fun p _ => ⟨Nat.le_refl _, .inl rfl⟩
/-- No term has two leaders. -/
theorem Inv.one {n : Nat} {s : St} (h : Inv n s) {p q : Nat} (hp : p < n) (hq : q < n) (h1 : (s.pr p).role = 2) (h2 : (s.pr q).role = 2) (ht : (s.pr p).term = (s.pr q).term) : p = q := by
  have a := (h.leader p hp h1).1
  rw [ht, (h.leader q hq h2).1] at a
  injection a with a
  exact a.symm
/-- Two peers' logs that have one term at an index are the same up to it. -/
theorem Inv.logs {n : Nat} {s : St} (h : Inv n s) {p q i : Nat} {x y : Rc} (hp : p < n) (hq : q < n) (h1 : (s.pr p).log[i]? = some x) (h2 : (s.pr q).log[i]? = some y) (ht : x.term = y.term) : (s.pr p).log.take (i + 1) = (s.pr q).log.take (i + 1) :=
  (h.log_lm p hp).same (h.log_lm q hq) h1 h2 ht
end Go.Proofs.Ytklkglbimjajnaa.Raft
