import Derived.WalkKit
import Derived.ProofKit
import Derived.Below
import Derived.Laws.OwnMore
import Derived.Laws.Rows
import Derived.Test.YtklkglbimjajnaaProg
import Derived.KernelRfl
import Derived.WalkSpells
import Derived.WalkSmall
import Derived.Deep.QuietTactic
import Derived.BigQuiet
import Derived.Outline
import Derived.Laws.AppendOwnNone
import Derived.Deep.RegionLaw
import Derived.Deep.RegionHeldLaw
import Derived.Deep.AppendLies
import Derived.LoopTactic
import Derived.BigRegion
import Derived.Test.YtklkglbimjajnaaRows
set_option linter.unusedVariables false
namespace Go.Proofs.Ytklkglbimjajnaa.Raft
structure Rc where
  term : Nat
  index : Nat
  data : List Int
  deriving DecidableEq
def quorum (n : Nat) (Q : Nat → Bool) : Prop := n / 2 + 1 ≤ (List.range n).countP Q
theorem count_apart (P Q : Nat → Bool) : ∀ l : List Nat, (∀ x ∈ l, P x = true → Q x = true → False) → l.countP P + l.countP Q ≤ l.length
  | [], _ => by simp
  | x :: l, h => by
    have := count_apart P Q l (fun y hy => h y (List.mem_cons_of_mem _ hy))
    have hx := h x List.mem_cons_self
    simp only [List.countP_cons, List.length_cons]
    cases hp : P x <;> cases hq : Q x <;> simp_all <;> omega
theorem quorum_meet {n : Nat} {P Q : Nat → Bool} (hP : quorum n P) (hQ : quorum n Q) : ∃ q, q < n ∧ P q = true ∧ Q q = true := by
  refine Classical.byContradiction fun hn => ?_
  have := count_apart P Q (List.range n) (fun x hx h1 h2 => hn ⟨x, List.mem_range.1 hx, h1, h2⟩)
  unfold quorum at hP hQ
  simp at this
  omega
structure Pr where
  term : Nat
  vote : Nat
  commit : Nat
  role : Nat
  log : List Rc
  votes : Nat → Bool
  mat : Nat → Nat
structure St where
  pr : Nat → Pr
  lead : Nat → Option Nat
  llog : Nat → List Rc
  ini : Nat → Nat
  ack : Nat → Nat → Nat
  vt : Nat → Nat → Option (Nat × List Rc)
  cl : Nat → Nat → Option (List Rc)
def lastTerm (l : List Rc) : Nat := match l.getLast? with
  | some r => r.term
  | none => 0
def Far (c v : List Rc) : Prop := lastTerm v < lastTerm c ∨ (lastTerm v = lastTerm c ∧ v.length ≤ c.length)
def LM (s : St) (l : List Rc) (T : Nat) : Prop := ∀ i r, l[i]? = some r → 1 ≤ r.term ∧ r.term ≤ T ∧ (∃ k, s.lead r.term = some k) ∧ l.take (i + 1) = (s.llog r.term).take (i + 1) ∧ r.index = i + 1
def Chos (n : Nat) (s : St) (T i : Nat) : Prop := ∃ Q, quorum n Q ∧ ∀ q, q < n → Q q = true → i ≤ s.ack T q ∨ (s.pr q).term ≤ T
def Comm (n : Nat) (s : St) (l : List Rc) (T : Nat) : Prop := l = [] ∨ ∃ T0 i, T0 ≤ T ∧ s.ini T0 < i ∧ i ≤ (s.llog T0).length ∧ (∃ Q, quorum n Q ∧ ∀ q, q < n → Q q = true → i ≤ s.ack T0 q) ∧ l.length ≤ i ∧ l = (s.llog T0).take l.length
structure Inv (n : Nat) (s : St) : Prop where
  vote_of : ∀ p c, p < n → (s.pr p).vote = c + 1 → ∃ l, s.vt (s.pr p).term p = some (c, l)
  vote_is : ∀ p c l, p < n → s.vt (s.pr p).term p = some (c, l) → (s.pr p).vote = c + 1
  vt_term : ∀ p U x, p < n → s.vt U p = some x → U ≤ (s.pr p).term
  cl_term : ∀ p U x, p < n → s.cl U p = some x → U ≤ (s.pr p).term
  cl_lm : ∀ p U l, s.cl U p = some l → p < n ∧ 1 ≤ U ∧ LM s l (U - 1)
  vt_cl : ∀ q U c l, q < n → s.vt U q = some (c, l) → LM s l U ∧ ∃ k, s.cl U c = some k ∧ Far k l
  cand : ∀ p, p < n → (s.pr p).role = 1 → s.cl (s.pr p).term p = some (s.pr p).log ∧ s.lead (s.pr p).term ≠ some p ∧ ∀ q, q < n → (s.pr p).votes q = true → ∃ l, s.vt (s.pr p).term q = some (p, l)
  lead_q : ∀ U k, s.lead U = some k → k < n ∧ U ≤ (s.pr k).term ∧ ∃ Q, quorum n Q ∧ ∀ q, q < n → Q q = true → ∃ l, s.vt U q = some (k, l)
  lead_cl : ∀ U k, s.lead U = some k → s.cl U k = some ((s.llog U).take (s.ini U)) ∧ s.ini U ≤ (s.llog U).length ∧ (∀ i r, s.ini U ≤ i → (s.llog U)[i]? = some r → r.term = U) ∧ LM s (s.llog U) U
  llog_none : ∀ U, s.lead U = none → s.llog U = []
  leader : ∀ p, p < n → (s.pr p).role = 2 → s.lead (s.pr p).term = some p ∧ (s.pr p).log = s.llog (s.pr p).term ∧ ∀ q, q < n → (s.pr p).mat q ≤ s.ack (s.pr p).term q
  log_lm : ∀ p, p < n → LM s (s.pr p).log (s.pr p).term
  ack_le : ∀ T q, s.ack T q ≤ (s.llog T).length
  ack_term : ∀ T q, q < n → 0 < s.ack T q → T ≤ (s.pr q).term
  acked : ∀ T q i, q < n → s.ini T < i → i ≤ s.ack T q → Chos n s T i → (s.pr q).log.take i = (s.llog T).take i
  ackedV : ∀ T U q c l i, q < n → s.vt U q = some (c, l) → T < U → s.ini T < i → i ≤ s.ack T q → Chos n s T i → l.take i = (s.llog T).take i
  whole : ∀ T U k i, s.lead U = some k → T < U → s.ini T < i → i ≤ (s.llog T).length → Chos n s T i → i ≤ s.ini U ∧ (s.llog U).take i = (s.llog T).take i
  comm : ∀ p, p < n → (s.pr p).commit ≤ (s.pr p).log.length ∧ Comm n s ((s.pr p).log.take (s.pr p).commit) (s.pr p).term
theorem Chos.back {n : Nat} {s s' : St} {T i : Nat} (ht : ∀ q, q < n → (s.pr q).term ≤ (s'.pr q).term) (ha : ∀ q, q < n → i ≤ s'.ack T q → i ≤ s.ack T q ∨ (s.pr q).term ≤ T) (h : Chos n s' T i) : Chos n s T i := by
  obtain ⟨Q, hQ, h⟩ := h
  refine ⟨Q, hQ, fun q hq hQq => ?_⟩
  rcases h q hq hQq with h | h
  · exact ha q hq h
  · exact .inr (Nat.le_trans (ht q hq) h)
theorem LM.weaken {s : St} {l : List Rc} {T T' : Nat} (h : LM s l T) (ht : T ≤ T') : LM s l T' := fun i r hr => by
  obtain ⟨h1, h2, h3⟩ := h i r hr
  exact ⟨h1, by omega, h3⟩
theorem LM.grow {s s' : St} {l : List Rc} {T : Nat} (h : LM s l T) (hl : ∀ U k, s.lead U = some k → s'.lead U = some k) (hg : ∀ U k, s.lead U = some k → ∃ t, s'.llog U = s.llog U ++ t) : LM s' l T := fun i r hr => by
  obtain ⟨h1, h2, ⟨k, h3⟩, h4, h5⟩ := h i r hr
  refine ⟨h1, h2, ⟨k, hl _ _ h3⟩, ?_, h5⟩
  obtain ⟨t, e⟩ := hg _ _ h3
  have hi : i < l.length := by
    rw [List.getElem?_eq_some_iff] at hr; exact hr.1
  have hlen : i + 1 ≤ (s.llog r.term).length := by
    have := congrArg List.length h4
    simp at this
    omega
  rw [e, List.take_append_of_le_length hlen]
  exact h4
theorem LM.take {s : St} {l : List Rc} {T : Nat} (h : LM s l T) (m : Nat) : LM s (l.take m) T := fun i r hr => by
  rw [List.getElem?_take] at hr
  split at hr
  · next hi =>
    obtain ⟨h1, h2, h3, h4, h5⟩ := h i r hr
    refine ⟨h1, h2, h3, ?_, h5⟩
    rw [List.take_take, Nat.min_eq_left (by omega)]
    exact h4
  · cases hr
theorem LM.same {s : St} {l m : List Rc} {T U i : Nat} {r x : Rc} (h : LM s l T) (h2 : LM s m U) (hr : l[i]? = some r) (hx : m[i]? = some x) (e : r.term = x.term) : l.take (i + 1) = m.take (i + 1) := by
  rw [(h i r hr).2.2.2.1, (h2 i x hx).2.2.2.1, e]
theorem Comm.grow {n : Nat} {s s' : St} {l : List Rc} {T T' : Nat} (h : Comm n s l T) (ht : T ≤ T') (hi : ∀ U, s.llog U ≠ [] → s'.ini U = s.ini U) (hg : ∀ U, ∃ t, s'.llog U = s.llog U ++ t) (ha : ∀ U q, q < n → s.ack U q ≤ s'.ack U q) : Comm n s' l T' := by
  rcases h with h | ⟨T0, i, h1, h2, h3, ⟨Q, hQ, h4⟩, h5, h6⟩
  · exact .inl h
  · obtain ⟨t, e⟩ := hg T0
    have hne : s.llog T0 ≠ [] := by intro c; rw [c] at h3; simp at h3; omega
    refine .inr ⟨T0, i, by omega, by rw [hi _ hne]; exact h2, by rw [e, List.length_append]; omega, ⟨Q, hQ, fun q hq hQq => Nat.le_trans (h4 q hq hQq) (ha _ q hq)⟩, h5, ?_⟩
    rw [e, List.take_append_of_le_length (by omega)]
    exact h6
theorem Comm.prefix {n : Nat} {s : St} {l : List Rc} {T : Nat} (h : Comm n s l T) (m : Nat) : Comm n s (l.take m) T := by
  rcases h with h | ⟨T0, i, h1, h2, h3, h4, h5, h6⟩
  · exact .inl (by rw [h]; simp)
  · refine .inr ⟨T0, i, h1, h2, h3, h4, by simp; omega, ?_⟩
    conv => lhs; rw [h6, List.take_take]
    congr 1
    simp
def St.setP (s : St) (p : Nat) (x : Pr) : St := { s with pr := fun q => if q = p then x else s.pr q }
theorem setP_self (s : St) (p : Nat) (x : Pr) : (s.setP p x).pr p = x := by simp [St.setP]
theorem setP_ne (s : St) {p q : Nat} (x : Pr) (h : q ≠ p) : (s.setP p x).pr q = s.pr q := by simp [St.setP, h]
theorem LM.setP {s : St} {l : List Rc} {T p : Nat} {x : Pr} (h : LM s l T) : LM (s.setP p x) l T := h
theorem Comm.setP {n : Nat} {s : St} {l : List Rc} {T p : Nat} {x : Pr} (h : Comm n s l T) : Comm n (s.setP p x) l T := h
theorem setP_term {n : Nat} {s : St} {p : Nat} {x : Pr} (ht : (s.pr p).term ≤ x.term) : ∀ q, q < n → (s.pr q).term ≤ ((s.setP p x).pr q).term := fun q _ => by
  by_cases c : q = p
  · subst c; rw [setP_self]; exact ht
  · rw [setP_ne s x c]; exact Nat.le_refl _
theorem Chos.setP {n : Nat} {s : St} {p : Nat} {x : Pr} {T i : Nat} (ht : (s.pr p).term ≤ x.term) (h : Chos n (s.setP p x) T i) : Chos n s T i :=
  Chos.back (setP_term ht) (fun _ _ h => .inl h) h
theorem Inv.setP {n : Nat} {s : St} (h : Inv n s) {p : Nat} {x : Pr} (ht : (s.pr p).term ≤ x.term) (hl : x.log = (s.pr p).log) (hc : x.commit ≤ (s.pr p).commit ∨ (x.commit ≤ x.log.length ∧ Comm n s (x.log.take x.commit) x.term))
    (hv : p < n → (x.term = (s.pr p).term ∧ x.vote = (s.pr p).vote) ∨ ((s.pr p).term < x.term ∧ x.vote = 0))
    (hr : p < n → (x.role ≠ 1 ∧ x.role ≠ 2) ∨ (x.role = (s.pr p).role ∧ x.term = (s.pr p).term ∧ (x.role = 1 → ∀ q, q < n → x.votes q = true → ∃ l, s.vt x.term q = some (p, l)) ∧ (x.role = 2 → ∀ q, q < n → x.mat q ≤ s.ack x.term q))) : Inv n (s.setP p x) where
  vote_of := fun q c hq e => by
    by_cases d : q = p
    · subst d
      rw [setP_self] at e ⊢
      rcases hv hq with ⟨h1, h2⟩ | ⟨h1, h2⟩
      · rw [h1]; exact h.vote_of q c hq (h2 ▸ e)
      · omega
    · rw [setP_ne s x d] at e ⊢; exact h.vote_of q c hq e
  vote_is := fun q c l hq e => by
    by_cases d : q = p
    · subst d
      rw [setP_self] at e ⊢
      rcases hv hq with ⟨h1, h2⟩ | ⟨h1, h2⟩
      · rw [h2]; rw [h1] at e; exact h.vote_is q c l hq e
      · have := h.vt_term q _ _ hq e; omega
    · rw [setP_ne s x d] at e ⊢; exact h.vote_is q c l hq e
  vt_term := fun q U y hq e => Nat.le_trans (h.vt_term q U y hq e) (setP_term ht q hq)
  cl_term := fun q U y hq e => Nat.le_trans (h.cl_term q U y hq e) (setP_term ht q hq)
  cl_lm := h.cl_lm
  vt_cl := h.vt_cl
  cand := fun q hq e => by
    by_cases d : q = p
    · subst d
      rw [setP_self] at e ⊢
      rcases hr hq with ⟨h1, h2⟩ | ⟨h1, h2, h3, _⟩
      · exact absurd e h1
      · have := h.cand q hq (h1 ▸ e)
        rw [h2, hl]
        refine ⟨this.1, this.2.1, fun r hr hv => ?_⟩
        have := h3 e r hr hv
        rw [h2] at this
        exact this
    · rw [setP_ne s x d] at e ⊢; exact h.cand q hq e
  lead_q := fun U k e => by
    have := h.lead_q U k e
    exact ⟨this.1, Nat.le_trans this.2.1 (setP_term ht k this.1), this.2.2⟩
  lead_cl := h.lead_cl
  llog_none := h.llog_none
  leader := fun q hq e => by
    by_cases d : q = p
    · subst d
      rw [setP_self] at e ⊢
      rcases hr hq with ⟨h1, h2⟩ | ⟨h1, h2, _, h3⟩
      · exact absurd e h2
      · have := h.leader q hq (h1 ▸ e)
        rw [hl]
        refine ⟨by rw [h2]; exact this.1, by rw [h2]; exact this.2.1, fun r hr => ?_⟩
        exact h3 e r hr
    · rw [setP_ne s x d] at e ⊢; exact h.leader q hq e
  log_lm := fun q hq => by
    by_cases d : q = p
    · subst d
      rw [setP_self, hl]; exact ((h.log_lm q hq).weaken ht).setP
    · rw [setP_ne s x d]; exact (h.log_lm q hq).setP
  ack_le := h.ack_le
  ack_term := fun T q hq e => Nat.le_trans (h.ack_term T q hq e) (setP_term ht q hq)
  acked := fun T q i hq h1 h2 h3 => by
    have := h.acked T q i hq h1 h2 (h3.setP ht)
    by_cases d : q = p
    · subst d
      rw [setP_self, hl]; exact this
    · rw [setP_ne s x d]; exact this
  ackedV := fun T U q c l i hq h1 h2 h3 h4 h5 => h.ackedV T U q c l i hq h1 h2 h3 h4 (h5.setP ht)
  whole := fun T U k i h1 h2 h3 h4 h5 => h.whole T U k i h1 h2 h3 h4 (h5.setP ht)
  comm := fun q hq => by
    by_cases d : q = p
    · subst d
      rw [setP_self]
      rcases hc with hc | hc
      · have := h.comm q hq
        rw [hl]
        refine ⟨by omega, ?_⟩
        have e : (s.pr q).log.take x.commit = ((s.pr q).log.take (s.pr q).commit).take x.commit := by rw [List.take_take, Nat.min_eq_left hc]
        rw [e]
        exact Comm.prefix ((this.2.grow ht (fun _ _ => rfl) (fun _ => ⟨[], by simp⟩) (fun _ _ _ => Nat.le_refl _)).setP) _
      · exact ⟨hc.1, hc.2.setP⟩
    · rw [setP_ne s x d]; exact ⟨(h.comm q hq).1, (h.comm q hq).2.setP⟩
theorem len_of_take {l m : List Rc} {i : Nat} (h : l.take i = m.take i) (hm : i ≤ m.length) : i ≤ l.length := by
  have := congrArg List.length h
  simp at this
  omega
theorem take_le {l m : List Rc} {i j : Nat} (h : l.take j = m.take j) (hi : i ≤ j) : l.take i = m.take i := by
  have := congrArg (List.take i) h
  simpa [List.take_take, Nat.min_eq_left hi] using this
theorem get_take {l m : List Rc} {i j : Nat} (h : l.take j = m.take j) (hi : i < j) : l[i]? = m[i]? := by
  have := congrArg (fun x => x[i]?) h
  simpa [List.getElem?_take, hi] using this
theorem Inv.led {n : Nat} {s : St} (h : Inv n s) {T : Nat} (hl : s.llog T ≠ []) : ∃ k, s.lead T = some k := by
  cases e : s.lead T with
  | none => exact absurd (h.llog_none T e) hl
  | some k => exact ⟨k, rfl⟩
theorem ne_of_len {l : List Rc} {i : Nat} (h : i ≤ l.length) (h0 : 0 < i) : l ≠ [] := by intro c; rw [c] at h; simp at h; omega
def St.grant (s : St) (q c : Nat) : St := { s.setP q { s.pr q with vote := c + 1 } with vt := fun T r => if T = (s.pr q).term ∧ r = q then some (c, (s.pr q).log) else s.vt T r }
theorem Inv.grant {n : Nat} {s : St} (h : Inv n s) {q c : Nat} {k : List Rc} (hq : q < n) (h0 : (s.pr q).vote = 0) (hc : s.cl (s.pr q).term c = some k) (hf : Far k (s.pr q).log) : Inv n (s.grant q c) := by
  have hnone : s.vt (s.pr q).term q = none := by
    cases e : s.vt (s.pr q).term q with
    | none => rfl
    | some x => have := h.vote_is q x.1 x.2 hq e; omega
  have hkeep : ∀ T r y, s.vt T r = some y → (s.grant q c).vt T r = some y := by
    intro T r y e
    show (if T = (s.pr q).term ∧ r = q then _ else s.vt T r) = _
    rw [if_neg]
    · exact e
    · rintro ⟨rfl, rfl⟩; rw [hnone] at e; cases e
  have hpr : ∀ r, ((s.grant q c).pr r).term = (s.pr r).term ∧ ((s.grant q c).pr r).log = (s.pr r).log ∧ ((s.grant q c).pr r).role = (s.pr r).role ∧ ((s.grant q c).pr r).commit = (s.pr r).commit ∧ ((s.grant q c).pr r).votes = (s.pr r).votes ∧ ((s.grant q c).pr r).mat = (s.pr r).mat := by
    intro r
    show (ite _ _ _ : Pr).term = _ ∧ (ite _ _ _ : Pr).log = _ ∧ (ite _ _ _ : Pr).role = _ ∧ (ite _ _ _ : Pr).commit = _ ∧ (ite _ _ _ : Pr).votes = _ ∧ (ite _ _ _ : Pr).mat = _
    by_cases d : r = q
    · subst d; simp
    · simp [d]
  have hch : ∀ T i, Chos n (s.grant q c) T i → Chos n s T i := fun T i => Chos.back (fun r _ => by rw [(hpr r).1]; exact Nat.le_refl _) (fun _ _ h => .inl h)
  have hvt : ∀ T r y, (s.grant q c).vt T r = some y → (T = (s.pr q).term ∧ r = q ∧ y = (c, (s.pr q).log)) ∨ s.vt T r = some y := by
    intro T r y e
    by_cases d : T = (s.pr q).term ∧ r = q
    · have e2 : (if T = (s.pr q).term ∧ r = q then some (c, (s.pr q).log) else s.vt T r) = some y := e
      rw [if_pos d] at e2
      injection e2 with e2
      exact .inl ⟨d.1, d.2, e2.symm⟩
    · have e2 : (if T = (s.pr q).term ∧ r = q then some (c, (s.pr q).log) else s.vt T r) = some y := e
      rw [if_neg d] at e2
      exact .inr e2
  refine { vote_of := ?_, vote_is := ?_, vt_term := ?_, cl_term := ?_, cl_lm := h.cl_lm, vt_cl := ?_, cand := ?_, lead_q := ?_, lead_cl := h.lead_cl, llog_none := h.llog_none, leader := ?_, log_lm := ?_, ack_le := h.ack_le, ack_term := ?_, acked := ?_, ackedV := ?_, whole := ?_, comm := ?_ }
  · intro p x hp e
    rw [(hpr p).1]
    by_cases d : p = q
    · subst d
      have e2 : c + 1 = x + 1 := by
        have : ((s.grant p c).pr p).vote = c + 1 := by show (ite _ _ _ : Pr).vote = _; simp
        rw [← this]; exact e
      have : c = x := by omega
      subst this
      exact ⟨(s.pr p).log, by show (if _ then _ else _) = _; simp⟩
    · have : ((s.grant q c).pr p).vote = (s.pr p).vote := by show (ite _ _ _ : Pr).vote = _; simp [d]
      rw [this] at e
      obtain ⟨l, hl⟩ := h.vote_of p x hp e
      exact ⟨l, hkeep _ _ _ hl⟩
  · intro p x l hp e
    rw [(hpr p).1] at e
    by_cases d : p = q
    · subst d
      have : ((s.grant p c).pr p).vote = c + 1 := by show (ite _ _ _ : Pr).vote = _; simp
      rw [this]
      rcases hvt _ _ _ e with ⟨_, _, e2⟩ | e2
      · injection e2 with e2 _; rw [e2]
      · rw [hnone] at e2; cases e2
    · have : ((s.grant q c).pr p).vote = (s.pr p).vote := by show (ite _ _ _ : Pr).vote = _; simp [d]
      rw [this]
      rcases hvt _ _ _ e with ⟨_, e2, _⟩ | e2
      · exact absurd e2 d
      · exact h.vote_is p x l hp e2
  · intro p U y hp e
    rw [(hpr p).1]
    rcases hvt _ _ _ e with ⟨e1, e2, _⟩ | e2
    · rw [e1, e2]; exact Nat.le_refl _
    · exact h.vt_term p U y hp e2
  · intro p U y hp e
    rw [(hpr p).1]; exact h.cl_term p U y hp e
  · intro r U x l hr e
    rcases hvt _ _ _ e with ⟨e1, e2, e3⟩ | e2
    · injection e3 with e3 e4
      subst e1 e3 e4
      exact ⟨h.log_lm q hq, k, hc, hf⟩
    · exact h.vt_cl r U x l hr e2
  · intro p hp e
    rw [(hpr p).2.2.1] at e
    rw [(hpr p).1, (hpr p).2.1, (hpr p).2.2.2.2.1]
    have := h.cand p hp e
    refine ⟨this.1, this.2.1, fun r hr hv => ?_⟩
    obtain ⟨l, hl⟩ := this.2.2 r hr hv
    exact ⟨l, hkeep _ _ _ hl⟩
  · intro U x e
    obtain ⟨h1, h2, Q, h3, h4⟩ := h.lead_q U x e
    refine ⟨h1, by rw [(hpr x).1]; exact h2, Q, h3, fun r hr hv => ?_⟩
    obtain ⟨l, hl⟩ := h4 r hr hv
    exact ⟨l, hkeep _ _ _ hl⟩
  · intro p hp e
    rw [(hpr p).2.2.1] at e
    rw [(hpr p).1, (hpr p).2.1, (hpr p).2.2.2.2.2]
    exact h.leader p hp e
  · intro p hp
    rw [(hpr p).1, (hpr p).2.1]; exact h.log_lm p hp
  · intro T p hp e
    rw [(hpr p).1]; exact h.ack_term T p hp e
  · intro T p i hp h1 h2 h3
    rw [(hpr p).2.1]; exact h.acked T p i hp h1 h2 (hch T i h3)
  · intro T U p x l i hp h1 h2 h3 h4 h5
    rcases hvt _ _ _ h1 with ⟨e1, e2, e3⟩ | e2
    · injection e3 with e3 e4
      subst e2 e4
      exact h.acked T p i hp h3 h4 (hch T i h5)
    · exact h.ackedV T U p x l i hp e2 h2 h3 h4 (hch T i h5)
  · intro T U x i h1 h2 h3 h4 h5
    exact h.whole T U x i h1 h2 h3 h4 (hch T i h5)
  · intro p hp
    rw [(hpr p).1, (hpr p).2.1, (hpr p).2.2.2.1]
    exact h.comm p hp
def St.stand (s : St) (p : Nat) : St := { s.setP p { s.pr p with term := (s.pr p).term + 1, vote := p + 1, role := 1, votes := fun q => decide (q = p) } with
  vt := fun T r => if T = (s.pr p).term + 1 ∧ r = p then some (p, (s.pr p).log) else s.vt T r
  cl := fun T r => if T = (s.pr p).term + 1 ∧ r = p then some (s.pr p).log else s.cl T r }
theorem Far.refl (l : List Rc) : Far l l := .inr ⟨rfl, Nat.le_refl _⟩
theorem Inv.stand {n : Nat} {s : St} (h : Inv n s) {p : Nat} (hp : p < n) : Inv n (s.stand p) := by
  have hvn : s.vt ((s.pr p).term + 1) p = none := by
    cases e : s.vt ((s.pr p).term + 1) p with
    | none => rfl
    | some x => have := h.vt_term p _ x hp e; omega
  have hcn : s.cl ((s.pr p).term + 1) p = none := by
    cases e : s.cl ((s.pr p).term + 1) p with
    | none => rfl
    | some x => have := h.cl_term p _ x hp e; omega
  have hself : (s.stand p).pr p = { s.pr p with term := (s.pr p).term + 1, vote := p + 1, role := 1, votes := fun q => decide (q = p) } := by
    show (if p = p then _ else _) = _
    rw [if_pos rfl]
  have hne : ∀ r, r ≠ p → (s.stand p).pr r = s.pr r := by
    intro r hr
    show (if r = p then _ else _) = _
    rw [if_neg hr]
  have hterm : ∀ r, r < n → (s.pr r).term ≤ ((s.stand p).pr r).term := by
    intro r _
    by_cases d : r = p
    · subst d; rw [hself]; exact Nat.le_succ _
    · rw [hne r d]; exact Nat.le_refl _
  have hlog : ∀ r, ((s.stand p).pr r).log = (s.pr r).log := by
    intro r
    by_cases d : r = p
    · subst d; rw [hself]
    · rw [hne r d]
  have hkeep : ∀ T r y, s.vt T r = some y → (s.stand p).vt T r = some y := by
    intro T r y e
    show (if T = (s.pr p).term + 1 ∧ r = p then _ else s.vt T r) = _
    rw [if_neg]
    · exact e
    · rintro ⟨rfl, rfl⟩; rw [hvn] at e; cases e
  have hkeepc : ∀ T r y, s.cl T r = some y → (s.stand p).cl T r = some y := by
    intro T r y e
    show (if T = (s.pr p).term + 1 ∧ r = p then _ else s.cl T r) = _
    rw [if_neg]
    · exact e
    · rintro ⟨rfl, rfl⟩; rw [hcn] at e; cases e
  have hvt : ∀ T r y, (s.stand p).vt T r = some y → (T = (s.pr p).term + 1 ∧ r = p ∧ y = (p, (s.pr p).log)) ∨ s.vt T r = some y := by
    intro T r y e
    by_cases d : T = (s.pr p).term + 1 ∧ r = p
    · have e2 : (if T = (s.pr p).term + 1 ∧ r = p then some (p, (s.pr p).log) else s.vt T r) = some y := e
      rw [if_pos d] at e2
      injection e2 with e2
      exact .inl ⟨d.1, d.2, e2.symm⟩
    · have e2 : (if T = (s.pr p).term + 1 ∧ r = p then some (p, (s.pr p).log) else s.vt T r) = some y := e
      rw [if_neg d] at e2
      exact .inr e2
  have hcl : ∀ T r y, (s.stand p).cl T r = some y → (T = (s.pr p).term + 1 ∧ r = p ∧ y = (s.pr p).log) ∨ s.cl T r = some y := by
    intro T r y e
    by_cases d : T = (s.pr p).term + 1 ∧ r = p
    · have e2 : (if T = (s.pr p).term + 1 ∧ r = p then some (s.pr p).log else s.cl T r) = some y := e
      rw [if_pos d] at e2
      injection e2 with e2
      exact .inl ⟨d.1, d.2, e2.symm⟩
    · have e2 : (if T = (s.pr p).term + 1 ∧ r = p then some (s.pr p).log else s.cl T r) = some y := e
      rw [if_neg d] at e2
      exact .inr e2
  have hch : ∀ T i, Chos n (s.stand p) T i → Chos n s T i := fun T i => Chos.back hterm (fun _ _ h => .inl h)
  have hvp : (s.stand p).vt ((s.pr p).term + 1) p = some (p, (s.pr p).log) := by
    show (if _ then _ else _) = _
    rw [if_pos ⟨rfl, rfl⟩]
  have hcp : (s.stand p).cl ((s.pr p).term + 1) p = some (s.pr p).log := by
    show (if _ then _ else _) = _
    rw [if_pos ⟨rfl, rfl⟩]
  refine { vote_of := ?_, vote_is := ?_, vt_term := ?_, cl_term := ?_, cl_lm := ?_, vt_cl := ?_, cand := ?_, lead_q := ?_, lead_cl := ?_, llog_none := h.llog_none, leader := ?_, log_lm := ?_, ack_le := h.ack_le, ack_term := ?_, acked := ?_, ackedV := ?_, whole := ?_, comm := ?_ }
  · intro r x hr e
    by_cases d : r = p
    · subst d
      rw [hself] at e ⊢
      have : r = x := by have e : r + 1 = x + 1 := e; omega
      subst this
      exact ⟨_, hvp⟩
    · rw [hne r d] at e ⊢
      obtain ⟨l, hl⟩ := h.vote_of r x hr e
      exact ⟨l, hkeep _ _ _ hl⟩
  · intro r x l hr e
    by_cases d : r = p
    · subst d
      rw [hself] at e ⊢
      have e : (s.stand r).vt ((s.pr r).term + 1) r = some (x, l) := e
      rw [hvp] at e
      injection e with e
      injection e with e _
      show r + 1 = x + 1
      rw [e]
    · rw [hne r d] at e ⊢
      rcases hvt _ _ _ e with ⟨_, e2, _⟩ | e2
      · exact absurd e2 d
      · exact h.vote_is r x l hr e2
  · intro r U y hr e
    rcases hvt _ _ _ e with ⟨e1, e2, _⟩ | e2
    · subst e2; rw [hself, e1]; exact Nat.le_refl _
    · exact Nat.le_trans (h.vt_term r U y hr e2) (hterm r hr)
  · intro r U y hr e
    rcases hcl _ _ _ e with ⟨e1, e2, _⟩ | e2
    · subst e2; rw [hself, e1]; exact Nat.le_refl _
    · exact Nat.le_trans (h.cl_term r U y hr e2) (hterm r hr)
  · intro r U l e
    rcases hcl _ _ _ e with ⟨e1, e2, e3⟩ | e2
    · subst e1 e2 e3
      exact ⟨hp, by omega, h.log_lm r hp⟩
    · exact h.cl_lm r U l e2
  · intro r U x l hr e
    rcases hvt _ _ _ e with ⟨e1, e2, e3⟩ | e2
    · injection e3 with e3 e4
      subst e1 e3 e4
      exact ⟨(h.log_lm x hp).weaken (Nat.le_succ _), _, hcp, Far.refl _⟩
    · obtain ⟨h1, k, h2, h3⟩ := h.vt_cl r U x l hr e2
      exact ⟨h1, k, hkeepc _ _ _ h2, h3⟩
  · intro r hr e
    by_cases d : r = p
    · subst d
      rw [hself]
      refine ⟨hcp, ?_, fun q hq hv => ?_⟩
      · intro c
        have := (h.lead_q _ _ c).2.1
        have e : (s.pr r).term + 1 ≤ (s.pr r).term := this
        omega
      · have : q = r := by simpa using hv
        subst this
        exact ⟨_, hvp⟩
    · rw [hne r d] at e ⊢
      have := h.cand r hr e
      refine ⟨hkeepc _ _ _ this.1, this.2.1, fun q hq hv => ?_⟩
      obtain ⟨l, hl⟩ := this.2.2 q hq hv
      exact ⟨l, hkeep _ _ _ hl⟩
  · intro U x e
    obtain ⟨h1, h2, Q, h3, h4⟩ := h.lead_q U x e
    refine ⟨h1, Nat.le_trans h2 (hterm x h1), Q, h3, fun r hr hv => ?_⟩
    obtain ⟨l, hl⟩ := h4 r hr hv
    exact ⟨l, hkeep _ _ _ hl⟩
  · intro U x e
    obtain ⟨h1, h2⟩ := h.lead_cl U x e
    exact ⟨hkeepc _ _ _ h1, h2⟩
  · intro r hr e
    by_cases d : r = p
    · subst d; rw [hself] at e; cases e
    · rw [hne r d] at e ⊢; exact h.leader r hr e
  · intro r hr
    rw [hlog r]; exact (h.log_lm r hr).weaken (hterm r hr)
  · intro T r hr e
    exact Nat.le_trans (h.ack_term T r hr e) (hterm r hr)
  · intro T r i hr h1 h2 h3
    rw [hlog r]; exact h.acked T r i hr h1 h2 (hch T i h3)
  · intro T U r x l i hr h1 h2 h3 h4 h5
    rcases hvt _ _ _ h1 with ⟨e1, e2, e3⟩ | e2
    · injection e3 with e3 e4
      subst e2 e4
      exact h.acked T r i hr h3 h4 (hch T i h5)
    · exact h.ackedV T U r x l i hr e2 h2 h3 h4 (hch T i h5)
  · intro T U x i h1 h2 h3 h4 h5
    exact h.whole T U x i h1 h2 h3 h4 (hch T i h5)
  · intro r hr
    have hc : ((s.stand p).pr r).commit = (s.pr r).commit := by
      by_cases d : r = p
      · subst d; rw [hself]
      · rw [hne r d]
    rw [hlog r, hc]
    exact ⟨(h.comm r hr).1, (h.comm r hr).2.grow (hterm r hr) (fun _ _ => rfl) (fun _ => ⟨[], by simp [St.stand, St.setP]⟩) (fun _ _ _ => Nat.le_refl _)⟩
theorem Inv.last {n : Nat} {s : St} (h : Inv n s) {l : List Rc} {T i : Nat} {r : Rc} (hl : LM s l T) (hr : l[i]? = some r) : r.term ≤ lastTerm l ∧ (∃ k, s.lead (lastTerm l) = some k) ∧ l = (s.llog (lastTerm l)).take l.length ∧ lastTerm l ≤ T ∧ l[l.length - 1]?.map (·.term) = some (lastTerm l) := by
  have hi : i < l.length := by rw [List.getElem?_eq_some_iff] at hr; exact hr.1
  obtain ⟨x, hx⟩ : ∃ x, l[l.length - 1]? = some x := ⟨_, List.getElem?_eq_getElem (by omega)⟩
  have hlast : lastTerm l = x.term := by
    unfold lastTerm
    rw [List.getLast?_eq_getElem?, hx]
  have := hl _ _ hx
  have e : l.length - 1 + 1 = l.length := by omega
  rw [e] at this
  obtain ⟨h1, h2, ⟨k, h3⟩, h4, h5⟩ := this
  rw [List.take_of_length_le (Nat.le_refl _)] at h4
  rw [hlast]
  refine ⟨?_, ⟨k, h3⟩, h4, h2, by rw [hx]; rfl⟩
  have h6 : (s.llog x.term)[i]? = some r := by
    rw [← hr]
    have : (s.llog x.term).take l.length = l.take l.length := by rw [List.take_of_length_le (Nat.le_refl l.length)]; exact h4.symm
    exact get_take this hi
  exact ((h.lead_cl _ _ h3).2.2.2 i r h6).2.1
theorem Inv.before {n : Nat} {s : St} (h : Inv n s) {U k i : Nat} {r : Rc} (hl : s.lead U = some k) (hr : (s.llog U)[i]? = some r) (ht : r.term = U) : s.ini U ≤ i := by
  refine Classical.byContradiction fun c => ?_
  obtain ⟨h1, h2, _⟩ := h.lead_cl U k hl
  obtain ⟨_, h3, h4⟩ := h.cl_lm k U _ h1
  have : ((s.llog U).take (s.ini U))[i]? = some r := by rw [List.getElem?_take, if_pos (by omega)]; exact hr
  have := (h4 i r this).2.1
  omega
theorem Inv.elects {n : Nat} {s : St} (h : Inv n s) {p : Nat} (hp : p < n) (hr : (s.pr p).role = 1) (hQ : quorum n (s.pr p).votes) {T i : Nat} (hT : T < (s.pr p).term) (h1 : s.ini T < i) (h2 : i ≤ (s.llog T).length) (hC : Chos n s T i) : i ≤ (s.pr p).log.length ∧ (s.pr p).log.take i = (s.llog T).take i := by
  obtain ⟨hcl, hnl, hvs⟩ := h.cand p hp hr
  obtain ⟨Q, hQ2, hq⟩ := hC
  obtain ⟨q, hqn, hq1, hq2⟩ := quorum_meet hQ hQ2
  obtain ⟨vl, hvl⟩ := hvs q hqn hq1
  have hut := h.vt_term q _ _ hqn hvl
  have hack : i ≤ s.ack T q := by rcases hq q hqn hq2 with c | c <;> omega
  have hv := h.ackedV T _ q p vl i hqn hvl hT h1 hack ⟨Q, hQ2, hq⟩
  obtain ⟨hvlm, k, hk, hfar⟩ := h.vt_cl q _ p vl hqn hvl
  rw [hcl] at hk
  injection hk with hk
  subst hk
  have hvlen : i ≤ vl.length := len_of_take hv h2
  obtain ⟨kT, hkT⟩ := h.led (ne_of_len h2 (by omega))
  obtain ⟨r, hr0⟩ : ∃ r, (s.llog T)[i - 1]? = some r := ⟨_, List.getElem?_eq_getElem (by omega)⟩
  have hrT : r.term = T := (h.lead_cl T kT hkT).2.2.1 (i - 1) r (by omega) hr0
  have hr1 : vl[i - 1]? = some r := by rw [← hr0]; exact get_take hv (by omega)
  obtain ⟨hl1, ⟨kW, hkW⟩, hl3, hl4, hl5⟩ := h.last hvlm hr1
  have hplm := (h.cl_lm p _ _ hcl).2.2
  rcases hfar with hfar | ⟨hf1, hf2⟩
  · have hne : (s.pr p).log ≠ [] := by intro c; rw [c] at hfar; simp [lastTerm] at hfar
    obtain ⟨x, hx⟩ : ∃ x, (s.pr p).log[(s.pr p).log.length - 1]? = some x := ⟨_, List.getElem?_eq_getElem (by have := List.length_pos_iff.2 hne; omega)⟩
    obtain ⟨_, ⟨kX, hkX⟩, m3, m4, m5⟩ := h.last hplm hx
    have hpos := List.length_pos_iff.2 hne
    have hcu := (h.cl_lm p _ _ hcl).2.1
    have hTW : T < lastTerm (s.pr p).log := by omega
    obtain ⟨w1, w2⟩ := h.whole T _ kX i hkX hTW h1 h2 ⟨Q, hQ2, hq⟩
    rw [hx] at m5
    have m5 : x.term = lastTerm (s.pr p).log := by simpa using m5
    have hxl : (s.llog (lastTerm (s.pr p).log))[(s.pr p).log.length - 1]? = some x := by
      rw [← hx]
      have : (s.llog (lastTerm (s.pr p).log)).take (s.pr p).log.length = (s.pr p).log.take (s.pr p).log.length := by
        rw [List.take_of_length_le (Nat.le_refl (s.pr p).log.length)]; exact m3.symm
      exact get_take this (by omega)
    have := h.before hkX hxl m5
    refine ⟨by omega, ?_⟩
    rw [m3, List.take_take, Nat.min_eq_left (by omega)]
    exact w2
  · have hne : (s.pr p).log ≠ [] := by intro c; rw [c] at hf2; simp at hf2; rw [hf2] at hvlen; simp at hvlen; omega
    obtain ⟨x, hx⟩ : ∃ x, (s.pr p).log[(s.pr p).log.length - 1]? = some x := ⟨_, List.getElem?_eq_getElem (by have := List.length_pos_iff.2 hne; omega)⟩
    obtain ⟨_, ⟨kX, hkX⟩, m3, m4, m5⟩ := h.last hplm hx
    refine ⟨by omega, ?_⟩
    rw [← hv, m3, hl3, List.take_take, List.take_take, Nat.min_eq_left (by omega), Nat.min_eq_left (by omega), hf1]
def St.elect (s : St) (p : Nat) : St := { s.setP p { s.pr p with role := 2, votes := fun _ => false, mat := fun q => if q = p then (s.pr p).log.length else 0 } with
  lead := fun T => if T = (s.pr p).term then some p else s.lead T
  llog := fun T => if T = (s.pr p).term then (s.pr p).log else s.llog T
  ini := fun T => if T = (s.pr p).term then (s.pr p).log.length else s.ini T
  ack := fun T q => if T = (s.pr p).term ∧ q = p then (s.pr p).log.length else s.ack T q }
theorem Inv.elect {n : Nat} {s : St} (h : Inv n s) {p : Nat} (hp : p < n) (hr : (s.pr p).role = 1) (hQ : quorum n (s.pr p).votes) : Inv n (s.elect p) := by
  obtain ⟨hcl, hnl, hvs⟩ := h.cand p hp hr
  have hnone : s.lead (s.pr p).term = none := by
    cases e : s.lead (s.pr p).term with
    | none => rfl
    | some k =>
      obtain ⟨_, _, Q, h3, h4⟩ := h.lead_q _ k e
      obtain ⟨q, hq, h5, h6⟩ := quorum_meet hQ h3
      obtain ⟨l, hl⟩ := hvs q hq h5
      obtain ⟨l', hl'⟩ := h4 q hq h6
      rw [hl] at hl'
      injection hl' with hl'
      injection hl' with hl' _
      subst hl'
      exact absurd e hnl
  have hll : s.llog (s.pr p).term = [] := h.llog_none _ hnone
  have hack0 : ∀ q, s.ack (s.pr p).term q = 0 := fun q => by have := h.ack_le (s.pr p).term q; rw [hll] at this; simpa using this
  have hself : (s.elect p).pr p = { s.pr p with role := 2, votes := fun _ => false, mat := fun q => if q = p then (s.pr p).log.length else 0 } := by
    show (if p = p then _ else _) = _
    rw [if_pos rfl]
  have hne : ∀ r, r ≠ p → (s.elect p).pr r = s.pr r := by
    intro r hr
    show (if r = p then _ else _) = _
    rw [if_neg hr]
  have hsame : ∀ r, ((s.elect p).pr r).term = (s.pr r).term ∧ ((s.elect p).pr r).log = (s.pr r).log ∧ ((s.elect p).pr r).commit = (s.pr r).commit ∧ ((s.elect p).pr r).vote = (s.pr r).vote := by
    intro r
    by_cases d : r = p
    · subst d; rw [hself]; exact ⟨rfl, rfl, rfl, rfl⟩
    · rw [hne r d]; exact ⟨rfl, rfl, rfl, rfl⟩
  have hlead : ∀ T, (s.elect p).lead T = if T = (s.pr p).term then some p else s.lead T := fun _ => rfl
  have hllog : ∀ T, (s.elect p).llog T = if T = (s.pr p).term then (s.pr p).log else s.llog T := fun _ => rfl
  have hini : ∀ T, (s.elect p).ini T = if T = (s.pr p).term then (s.pr p).log.length else s.ini T := fun _ => rfl
  have hack : ∀ T q, (s.elect p).ack T q = if T = (s.pr p).term ∧ q = p then (s.pr p).log.length else s.ack T q := fun _ _ => rfl
  have hlm : ∀ l T, LM s l T → LM (s.elect p) l T := fun l T hl => hl.grow (fun U k e => by rw [hlead, if_neg]; exact e; rintro rfl; rw [hnone] at e; cases e) (fun U k e => ⟨[], by rw [hllog, if_neg, List.append_nil]; rintro rfl; rw [hnone] at e; cases e⟩)
  have hch : ∀ T i, Chos n (s.elect p) T i → Chos n s T i := fun T i => Chos.back (fun r _ => by rw [(hsame r).1]; exact Nat.le_refl _) (fun q _ hi => by
    rw [hack] at hi
    by_cases d : T = (s.pr p).term ∧ q = p
    · right; rw [d.1, d.2]; exact Nat.le_refl _
    · rw [if_neg d] at hi; exact .inl hi)
  refine { vote_of := ?_, vote_is := ?_, vt_term := ?_, cl_term := ?_, cl_lm := ?_, vt_cl := ?_, cand := ?_, lead_q := ?_, lead_cl := ?_, llog_none := ?_, leader := ?_, log_lm := ?_, ack_le := ?_, ack_term := ?_, acked := ?_, ackedV := ?_, whole := ?_, comm := ?_ }
  · intro r x hr e
    rw [(hsame r).1]; rw [(hsame r).2.2.2] at e; exact h.vote_of r x hr e
  · intro r x l hr e
    rw [(hsame r).2.2.2]; rw [(hsame r).1] at e; exact h.vote_is r x l hr e
  · intro r U y hr e
    rw [(hsame r).1]; exact h.vt_term r U y hr e
  · intro r U y hr e
    rw [(hsame r).1]; exact h.cl_term r U y hr e
  · intro r U l e
    have := h.cl_lm r U l e
    exact ⟨this.1, this.2.1, hlm _ _ this.2.2⟩
  · intro r U x l hr e
    have := h.vt_cl r U x l hr e
    exact ⟨hlm _ _ this.1, this.2⟩
  · intro r hr e
    by_cases d : r = p
    · subst d; rw [hself] at e; cases e
    · rw [hne r d] at e ⊢
      have := h.cand r hr e
      refine ⟨this.1, ?_, this.2.2⟩
      rw [hlead]
      split
      · intro c; injection c with c; exact d c.symm
      · exact this.2.1
  · intro U k e
    rw [hlead] at e
    by_cases d : U = (s.pr p).term
    · rw [if_pos d] at e
      injection e with e
      subst e d
      exact ⟨hp, by rw [(hsame p).1]; exact Nat.le_refl _, _, hQ, fun q hq hv => hvs q hq hv⟩
    · rw [if_neg d] at e
      have := h.lead_q U k e
      exact ⟨this.1, by rw [(hsame k).1]; exact this.2.1, this.2.2⟩
  · intro U k e
    rw [hlead] at e
    by_cases d : U = (s.pr p).term
    · rw [if_pos d] at e
      injection e with e
      subst e d
      rw [hllog, hini, if_pos rfl, if_pos rfl]
      refine ⟨by rw [List.take_of_length_le (Nat.le_refl _)]; exact hcl, Nat.le_refl _, fun i r h1 h2 => ?_, hlm _ _ (h.log_lm p hp)⟩
      rw [List.getElem?_eq_some_iff] at h2
      have := h2.1
      omega
    · rw [if_neg d] at e
      rw [hllog, hini, if_neg d, if_neg d]
      have := h.lead_cl U k e
      exact ⟨this.1, this.2.1, this.2.2.1, hlm _ _ this.2.2.2⟩
  · intro U e
    rw [hlead] at e
    by_cases d : U = (s.pr p).term
    · rw [if_pos d] at e; cases e
    · rw [if_neg d] at e
      rw [hllog, if_neg d]; exact h.llog_none U e
  · intro r hr e
    by_cases d : r = p
    · subst d
      rw [hself]
      refine ⟨by rw [hlead]; exact if_pos rfl, by rw [hllog]; exact (if_pos rfl).symm, fun q hq => ?_⟩
      rw [hack]
      show (if q = r then (s.pr r).log.length else 0) ≤ _
      split
      · next e => rw [if_pos ⟨rfl, e⟩]; exact Nat.le_refl _
      · exact Nat.zero_le _
    · rw [hne r d] at e ⊢
      have := h.leader r hr e
      have d2 : (s.pr r).term ≠ (s.pr p).term := by intro c; rw [c, hnone] at this; cases this.1
      rw [hlead, hllog, if_neg d2, if_neg d2]
      refine ⟨this.1, this.2.1, fun q hq => ?_⟩
      rw [hack, if_neg (fun c => d2 c.1)]
      exact this.2.2 q hq
  · intro r hr
    rw [(hsame r).1, (hsame r).2.1]; exact hlm _ _ (h.log_lm r hr)
  · intro T q
    rw [hack, hllog]
    by_cases d : T = (s.pr p).term
    · rw [if_pos d]
      split
      · exact Nat.le_refl _
      · rw [d, hack0]; exact Nat.zero_le _
    · rw [if_neg d, if_neg (fun c => d c.1)]; exact h.ack_le T q
  · intro T q hq e
    rw [(hsame q).1]
    rw [hack] at e
    by_cases d : T = (s.pr p).term ∧ q = p
    · rw [d.1, d.2]; exact Nat.le_refl _
    · rw [if_neg d] at e; exact h.ack_term T q hq e
  · intro T q i hq h1 h2 h3
    rw [(hsame q).2.1]
    rw [hini] at h1
    rw [hack] at h2
    by_cases d : T = (s.pr p).term
    · rw [if_pos d] at h1
      split at h2
      · omega
      · rw [d, hack0] at h2; omega
    · rw [if_neg d] at h1
      rw [if_neg (fun c => d c.1)] at h2
      rw [hllog, if_neg d]
      exact h.acked T q i hq h1 h2 (hch T i h3)
  · intro T U q x l i hq h0 h00 h1 h2 h3
    rw [hini] at h1
    rw [hack] at h2
    by_cases d : T = (s.pr p).term
    · rw [if_pos d] at h1
      split at h2
      · omega
      · rw [d, hack0] at h2; omega
    · rw [if_neg d] at h1
      rw [if_neg (fun c => d c.1)] at h2
      rw [hllog, if_neg d]
      exact h.ackedV T U q x l i hq h0 h00 h1 h2 (hch T i h3)
  · intro T U k i h0 h00 h1 h2 h3
    rw [hini] at h1
    rw [hllog] at h2
    by_cases d : T = (s.pr p).term
    · rw [if_pos d] at h1 h2; omega
    · rw [if_neg d] at h1 h2
      rw [hlead] at h0
      rw [hini, hllog, hllog, if_neg d]
      by_cases e : U = (s.pr p).term
      · rw [if_pos e, if_pos e]
        exact h.elects hp hr hQ (by omega) h1 h2 (hch T i h3)
      · rw [if_neg e] at h0
        rw [if_neg e, if_neg e]
        exact h.whole T U k i h0 h00 h1 h2 (hch T i h3)
  · intro r hr
    rw [(hsame r).1, (hsame r).2.1, (hsame r).2.2.1]
    refine ⟨(h.comm r hr).1, (h.comm r hr).2.grow (Nat.le_refl _) (fun U hU => ?_) (fun U => ?_) (fun U q hq => ?_)⟩
    · rw [hini, if_neg]; rintro rfl; exact hU hll
    · rw [hllog]
      by_cases d : U = (s.pr p).term
      · rw [if_pos d, d, hll]; exact ⟨_, rfl⟩
      · rw [if_neg d]; exact ⟨[], by simp⟩
    · rw [hack]
      split
      · next d => rw [d.1, hack0]; exact Nat.zero_le _
      · exact Nat.le_refl _
def St.propose (s : St) (p : Nat) (r : Rc) : St := { s.setP p { s.pr p with log := (s.pr p).log ++ [r], mat := fun q => if q = p then (s.pr p).log.length + 1 else (s.pr p).mat q } with
  llog := fun T => if T = (s.pr p).term then (s.pr p).log ++ [r] else s.llog T
  ack := fun T q => if T = (s.pr p).term ∧ q = p then (s.pr p).log.length + 1 else s.ack T q }
theorem Inv.propose {n : Nat} {s : St} (h : Inv n s) {p : Nat} (hp : p < n) (hr : (s.pr p).role = 2) {r : Rc} (ht : r.term = (s.pr p).term) (hx : r.index = (s.pr p).log.length + 1) : Inv n (s.propose p r) := by
  obtain ⟨hld, hlg, hmt⟩ := h.leader p hp hr
  have hself : (s.propose p r).pr p = { s.pr p with log := (s.pr p).log ++ [r], mat := fun q => if q = p then (s.pr p).log.length + 1 else (s.pr p).mat q } := by
    show (if p = p then _ else _) = _
    rw [if_pos rfl]
  have hne : ∀ q, q ≠ p → (s.propose p r).pr q = s.pr q := by
    intro q hq
    show (if q = p then _ else _) = _
    rw [if_neg hq]
  have hsame : ∀ q, ((s.propose p r).pr q).term = (s.pr q).term ∧ ((s.propose p r).pr q).role = (s.pr q).role ∧ ((s.propose p r).pr q).commit = (s.pr q).commit ∧ ((s.propose p r).pr q).vote = (s.pr q).vote := by
    intro q
    by_cases d : q = p
    · subst d; rw [hself]; exact ⟨rfl, rfl, rfl, rfl⟩
    · rw [hne q d]; exact ⟨rfl, rfl, rfl, rfl⟩
  have hllog : ∀ T, (s.propose p r).llog T = if T = (s.pr p).term then (s.pr p).log ++ [r] else s.llog T := fun _ => rfl
  have hack : ∀ T q, (s.propose p r).ack T q = if T = (s.pr p).term ∧ q = p then (s.pr p).log.length + 1 else s.ack T q := fun _ _ => rfl
  have hgrow : ∀ U, ∃ t, (s.propose p r).llog U = s.llog U ++ t := fun U => by
    rw [hllog]
    by_cases d : U = (s.pr p).term
    · rw [if_pos d, d, ← hlg]; exact ⟨[r], rfl⟩
    · rw [if_neg d]; exact ⟨[], by simp⟩
  have htake : ∀ T i, i ≤ (s.llog T).length → ((s.propose p r).llog T).take i = (s.llog T).take i := fun T i hi => by
    obtain ⟨t, e⟩ := hgrow T
    rw [e, List.take_append_of_le_length hi]
  have hlm : ∀ l T, LM s l T → LM (s.propose p r) l T := fun l T hl => hl.grow (fun U k e => e) (fun U k _ => hgrow U)
  have hch : ∀ T i, Chos n (s.propose p r) T i → Chos n s T i := fun T i => Chos.back (fun q _ => by rw [(hsame q).1]; exact Nat.le_refl _) (fun q _ hi => by
    rw [hack] at hi
    by_cases d : T = (s.pr p).term ∧ q = p
    · right; rw [d.1, d.2]; exact Nat.le_refl _
    · rw [if_neg d] at hi; exact .inl hi)
  have hlc := h.lead_cl _ _ hld
  have h1U := (h.cl_lm p _ _ hlc.1).2.1
  have hnew : LM (s.propose p r) ((s.pr p).log ++ [r]) (s.pr p).term := by
    intro i x hix
    by_cases c : i < (s.pr p).log.length
    · rw [List.getElem?_append_left c] at hix
      have := hlm _ _ (h.log_lm p hp) i x hix
      refine ⟨this.1, this.2.1, this.2.2.1, ?_, this.2.2.2.2⟩
      rw [List.take_append_of_le_length (by omega)]
      exact this.2.2.2.1
    · have hlen : i < ((s.pr p).log ++ [r]).length := by rw [List.getElem?_eq_some_iff] at hix; exact hix.1
      simp at hlen
      have : i = (s.pr p).log.length := by omega
      subst this
      simp at hix
      subst hix
      rw [ht]
      refine ⟨h1U, Nat.le_refl _, ⟨p, hld⟩, ?_, hx⟩
      rw [hllog, if_pos rfl]
  refine { vote_of := ?_, vote_is := ?_, vt_term := ?_, cl_term := ?_, cl_lm := ?_, vt_cl := ?_, cand := ?_, lead_q := ?_, lead_cl := ?_, llog_none := ?_, leader := ?_, log_lm := ?_, ack_le := ?_, ack_term := ?_, acked := ?_, ackedV := ?_, whole := ?_, comm := ?_ }
  · intro q x hq e
    rw [(hsame q).1]; rw [(hsame q).2.2.2] at e; exact h.vote_of q x hq e
  · intro q x l hq e
    rw [(hsame q).2.2.2]; rw [(hsame q).1] at e; exact h.vote_is q x l hq e
  · intro q U y hq e
    rw [(hsame q).1]; exact h.vt_term q U y hq e
  · intro q U y hq e
    rw [(hsame q).1]; exact h.cl_term q U y hq e
  · intro q U l e
    have := h.cl_lm q U l e
    exact ⟨this.1, this.2.1, hlm _ _ this.2.2⟩
  · intro q U x l hq e
    have := h.vt_cl q U x l hq e
    exact ⟨hlm _ _ this.1, this.2⟩
  · intro q hq e
    rw [(hsame q).2.1] at e
    by_cases d : q = p
    · subst d; rw [hr] at e; cases e
    · rw [hne q d]; exact h.cand q hq e
  · intro U k e
    have := h.lead_q U k e
    exact ⟨this.1, by rw [(hsame k).1]; exact this.2.1, this.2.2⟩
  · intro U k e
    have := h.lead_cl U k e
    refine ⟨?_, ?_, ?_, ?_⟩
    · have e2 := htake U (s.ini U) this.2.1
      show s.cl U k = some (((s.propose p r).llog U).take (s.ini U))
      rw [e2]; exact this.1
    · obtain ⟨t, e2⟩ := hgrow U
      show s.ini U ≤ ((s.propose p r).llog U).length
      rw [e2, List.length_append]; have := this.2.1; omega
    · intro i x h1 h2
      rw [hllog] at h2
      by_cases d : U = (s.pr p).term
      · rw [if_pos d] at h2
        by_cases c : i < (s.pr p).log.length
        · rw [List.getElem?_append_left c] at h2
          exact this.2.2.1 i x h1 (by rw [d, ← hlg]; exact h2)
        · have hlen : i < ((s.pr p).log ++ [r]).length := by rw [List.getElem?_eq_some_iff] at h2; exact h2.1
          simp at hlen
          have : i = (s.pr p).log.length := by omega
          subst this
          simp at h2
          subst h2
          rw [ht, d]
      · rw [if_neg d] at h2
        exact this.2.2.1 i x h1 h2
    · rw [hllog]
      by_cases d : U = (s.pr p).term
      · rw [if_pos d, d]; exact hnew
      · rw [if_neg d]; exact hlm _ _ this.2.2.2
  · intro U e
    have := h.llog_none U e
    rw [hllog, if_neg]
    · exact this
    · rintro rfl
      have e : s.lead (s.pr p).term = none := e
      rw [hld] at e
      cases e
  · intro q hq e
    rw [(hsame q).2.1] at e
    by_cases d : q = p
    · subst d
      rw [hself]
      refine ⟨hld, by rw [hllog]; exact (if_pos rfl).symm, fun y hy => ?_⟩
      rw [hack]
      show (if y = q then (s.pr q).log.length + 1 else (s.pr q).mat y) ≤ _
      split
      · next e => rw [if_pos ⟨rfl, e⟩]; exact Nat.le_refl _
      · next e => rw [if_neg (fun c => e c.2)]; exact hmt y hy
    · rw [hne q d]
      have := h.leader q hq e
      have d2 : (s.pr q).term ≠ (s.pr p).term := by
        intro c
        have := this.1
        rw [c, hld] at this
        injection this with this
        exact d this.symm
      rw [hllog, if_neg d2]
      refine ⟨this.1, this.2.1, fun y hy => ?_⟩
      rw [hack, if_neg (fun c => d2 c.1)]
      exact this.2.2 y hy
  · intro q hq
    rw [(hsame q).1]
    by_cases d : q = p
    · subst d; rw [hself]; exact hnew
    · rw [hne q d]; exact hlm _ _ (h.log_lm q hq)
  · intro T q
    rw [hack]
    by_cases d : T = (s.pr p).term ∧ q = p
    · rw [if_pos d, hllog, if_pos d.1]; simp
    · rw [if_neg d]
      obtain ⟨t, e2⟩ := hgrow T
      rw [e2, List.length_append]
      have := h.ack_le T q
      omega
  · intro T q hq e
    rw [(hsame q).1]
    rw [hack] at e
    by_cases d : T = (s.pr p).term ∧ q = p
    · rw [d.1, d.2]; exact Nat.le_refl _
    · rw [if_neg d] at e; exact h.ack_term T q hq e
  · intro T q i hq h1 h2 h3
    have h1 : s.ini T < i := h1
    rw [hack] at h2
    by_cases d : T = (s.pr p).term ∧ q = p
    · obtain ⟨rfl, rfl⟩ := d
      rw [hself, hllog, if_pos rfl]
    · rw [if_neg d] at h2
      have := h.acked T q i hq h1 h2 (hch T i h3)
      have hle : i ≤ (s.llog T).length := Nat.le_trans h2 (h.ack_le T q)
      rw [htake T i hle]
      by_cases d2 : q = p
      · subst d2
        rw [hself, List.take_append_of_le_length (len_of_take this hle)]
        exact this
      · rw [hne q d2]; exact this
  · intro T U q x l i hq h0 h00 h1 h2 h3
    have h1 : s.ini T < i := h1
    rw [hack] at h2
    by_cases d : T = (s.pr p).term ∧ q = p
    · obtain ⟨rfl, rfl⟩ := d
      have := h.vt_term q U _ hq h0
      omega
    · rw [if_neg d] at h2
      rw [htake T i (Nat.le_trans h2 (h.ack_le T q))]
      exact h.ackedV T U q x l i hq h0 h00 h1 h2 (hch T i h3)
  · intro T U k i h0 h00 h1 h2 h3
    have h1 : s.ini T < i := h1
    have h0 : s.lead U = some k := h0
    show i ≤ s.ini U ∧ _
    by_cases c : i ≤ (s.llog T).length
    · have := h.whole T U k i h0 h00 h1 c (hch T i h3)
      refine ⟨this.1, ?_⟩
      rw [htake T i c, htake U i (Nat.le_trans this.1 (h.lead_cl U k h0).2.1)]
      exact this.2
    · exfalso
      rw [hllog] at h2
      by_cases d : T = (s.pr p).term
      · rw [if_pos d] at h2
        subst d
        obtain ⟨Q, hQ, hq⟩ := h3
        obtain ⟨_, _, V, hV, hv⟩ := h.lead_q U k h0
        obtain ⟨q, hqn, hq1, hq2⟩ := quorum_meet hQ hV
        obtain ⟨l, hl⟩ := hv q hqn hq2
        have hut := h.vt_term q U _ hqn hl
        rcases hq q hqn hq1 with e | e
        · rw [hack] at e
          by_cases d2 : q = p
          · subst d2; omega
          · rw [if_neg (fun c => d2 c.2)] at e
            have := h.ack_le (s.pr p).term q
            omega
        · rw [(hsame q).1] at e; omega
      · rw [if_neg d] at h2; omega
  · intro q hq
    rw [(hsame q).1, (hsame q).2.2.1]
    have hc := h.comm q hq
    have hC := hc.2.grow (s' := s.propose p r) (Nat.le_refl _) (fun _ _ => rfl) hgrow (fun U y hy => by
      rw [hack]
      split
      · next d =>
        have := h.ack_le U y
        rw [d.1, ← hlg] at this
        rw [d.1]
        omega
      · exact Nat.le_refl _)
    by_cases d : q = p
    · subst d
      rw [hself]
      refine ⟨by simp; omega, ?_⟩
      show Comm n _ (((s.pr q).log ++ [r]).take _) _
      rw [List.take_append_of_le_length hc.1]
      exact hC
    · rw [hne q d]; exact ⟨hc.1, hC⟩
theorem Comm.chos {n : Nat} {s : St} {T i : Nat} (h : ∃ Q, quorum n Q ∧ ∀ q, q < n → Q q = true → i ≤ s.ack T q) : Chos n s T i := by
  obtain ⟨Q, hQ, h⟩ := h
  exact ⟨Q, hQ, fun q hq hQq => .inl (h q hq hQq)⟩
theorem Inv.held {n : Nat} {s : St} (h : Inv n s) {l : List Rc} {T k : Nat} (hl : s.lead T = some k) (hc : Comm n s l T) : l.length ≤ (s.llog T).length ∧ l = (s.llog T).take l.length := by
  rcases hc with rfl | ⟨T0, i, h1, h2, h3, h4, h5, h6⟩
  · simp
  · by_cases d : T0 = T
    · subst d; exact ⟨by omega, h6⟩
    · have w := h.whole T0 T k i hl (by omega) h2 h3 (Comm.chos h4)
      have hi := len_of_take w.2 h3
      refine ⟨by omega, ?_⟩
      rw [take_le w.2 h5]
      exact h6
theorem Inv.agree {n : Nat} {s : St} (h : Inv n s) {l m : List Rc} {T U : Nat} (hl : Comm n s l T) (hm : Comm n s m U) (hle : l.length ≤ m.length) : l = m.take l.length := by
  rcases hl with rfl | ⟨T0, i, h1, h2, h3, h4, h5, h6⟩
  · simp
  rcases hm with rfl | ⟨U0, j, g1, g2, g3, g4, g5, g6⟩
  · simp at hle
    rw [hle]; simp
  have key : (s.llog T0).take l.length = (s.llog U0).take l.length := by
    rcases Nat.lt_trichotomy T0 U0 with d | d | d
    · obtain ⟨k, hk⟩ := h.led (ne_of_len g3 (by omega))
      have w := h.whole T0 U0 k i hk d h2 h3 (Comm.chos h4)
      exact (take_le w.2 h5).symm
    · rw [d]
    · obtain ⟨k, hk⟩ := h.led (ne_of_len h3 (by omega))
      have w := h.whole U0 T0 k j hk d g2 g3 (Comm.chos g4)
      exact take_le w.2 (by omega)
  conv => lhs; rw [h6, key]
  rw [g6, List.take_take, Nat.min_eq_left (by omega)]
def St.accept (s : St) (q e : Nat) (x : Pr) : St := { s.setP q x with ack := fun T r => if T = (s.pr q).term ∧ r = q then max (s.ack T r) e else s.ack T r }
theorem Inv.accept {n : Nat} {s : St} (h : Inv n s) {q k e C : Nat} {x : Pr} (hq : q < n) (hk : s.lead (s.pr q).term = some k) (he : e ≤ (s.llog (s.pr q).term).length)
    (ht : x.term = (s.pr q).term) (hv : x.vote = (s.pr q).vote) (hr : x.role = 0) (hl : LM s x.log (s.pr q).term) (h1 : x.log.take e = (s.llog (s.pr q).term).take e)
    (h2 : ∀ i, i ≤ (s.llog (s.pr q).term).length → (s.pr q).log.take i = (s.llog (s.pr q).term).take i → x.log.take i = (s.llog (s.pr q).term).take i)
    (hC : C ≤ e) (hC2 : Comm n s ((s.llog (s.pr q).term).take C) (s.pr q).term) (hx : x.commit = max (s.pr q).commit C) : Inv n (s.accept q e x) := by
  have hself : (s.accept q e x).pr q = x := by show (if q = q then _ else _) = _; rw [if_pos rfl]
  have hne : ∀ r, r ≠ q → (s.accept q e x).pr r = s.pr r := by
    intro r hr
    show (if r = q then _ else _) = _
    rw [if_neg hr]
  have hterm : ∀ r, ((s.accept q e x).pr r).term = (s.pr r).term := by
    intro r
    by_cases d : r = q
    · subst d; rw [hself]; exact ht
    · rw [hne r d]
  have hvote : ∀ r, ((s.accept q e x).pr r).vote = (s.pr r).vote := by
    intro r
    by_cases d : r = q
    · subst d; rw [hself]; exact hv
    · rw [hne r d]
  have hack : ∀ T r, (s.accept q e x).ack T r = if T = (s.pr q).term ∧ r = q then max (s.ack T r) e else s.ack T r := fun _ _ => rfl
  have hge : ∀ T r, s.ack T r ≤ (s.accept q e x).ack T r := fun T r => by
    rw [hack]
    split
    · exact Nat.le_max_left _ _
    · exact Nat.le_refl _
  have hch : ∀ T i, Chos n (s.accept q e x) T i → Chos n s T i := fun T i => Chos.back (fun r _ => by rw [hterm r]; exact Nat.le_refl _) (fun r _ hi => by
    rw [hack] at hi
    by_cases d : T = (s.pr q).term ∧ r = q
    · right; rw [d.1, d.2]; exact Nat.le_refl _
    · rw [if_neg d] at hi; exact .inl hi)
  refine { vote_of := ?_, vote_is := ?_, vt_term := ?_, cl_term := ?_, cl_lm := h.cl_lm, vt_cl := h.vt_cl, cand := ?_, lead_q := ?_, lead_cl := h.lead_cl, llog_none := h.llog_none, leader := ?_, log_lm := ?_, ack_le := ?_, ack_term := ?_, acked := ?_, ackedV := ?_, whole := ?_, comm := ?_ }
  · intro r c hr' e'
    rw [hterm r]; rw [hvote r] at e'; exact h.vote_of r c hr' e'
  · intro r c l hr' e'
    rw [hvote r]; rw [hterm r] at e'; exact h.vote_is r c l hr' e'
  · intro r U y hr' e'
    rw [hterm r]; exact h.vt_term r U y hr' e'
  · intro r U y hr' e'
    rw [hterm r]; exact h.cl_term r U y hr' e'
  · intro r hr' e'
    by_cases d : r = q
    · subst d; rw [hself, hr] at e'; cases e'
    · rw [hne r d] at e' ⊢; exact h.cand r hr' e'
  · intro U c e'
    have := h.lead_q U c e'
    exact ⟨this.1, by rw [hterm c]; exact this.2.1, this.2.2⟩
  · intro r hr' e'
    by_cases d : r = q
    · subst d; rw [hself, hr] at e'; cases e'
    · rw [hne r d] at e' ⊢
      have := h.leader r hr' e'
      exact ⟨this.1, this.2.1, fun y hy => Nat.le_trans (this.2.2 y hy) (hge _ _)⟩
  · intro r hr'
    rw [hterm r]
    by_cases d : r = q
    · subst d; rw [hself]; exact hl
    · rw [hne r d]; exact h.log_lm r hr'
  · intro T r
    rw [hack]
    show _ ≤ (s.llog T).length
    split
    · next d =>
      have := h.ack_le T r
      rw [d.1] at this ⊢
      omega
    · exact h.ack_le T r
  · intro T r hr' e'
    rw [hterm r]
    rw [hack] at e'
    by_cases d : T = (s.pr q).term ∧ r = q
    · rw [d.1, d.2]; exact Nat.le_refl _
    · rw [if_neg d] at e'; exact h.ack_term T r hr' e'
  · intro T r i hr' g1 g2 g3
    have g1 : s.ini T < i := g1
    show _ = (s.llog T).take i
    rw [hack] at g2
    by_cases d : r = q
    · subst d
      rw [hself]
      by_cases d2 : T = (s.pr r).term
      · subst d2
        rw [if_pos ⟨rfl, rfl⟩] at g2
        by_cases c : i ≤ e
        · exact take_le h1 c
        · have g4 : i ≤ s.ack (s.pr r).term r := by omega
          exact h2 i (Nat.le_trans g4 (h.ack_le _ _)) (h.acked _ r i hr' g1 g4 (hch _ i g3))
      · rw [if_neg (fun c => d2 c.1)] at g2
        have o := h.acked T r i hr' g1 g2 (hch T i g3)
        have hT := h.ack_term T r hr' (by omega)
        have hlen := Nat.le_trans g2 (h.ack_le T r)
        have w := h.whole T _ k i hk (by omega) g1 hlen (hch T i g3)
        have hlen2 := len_of_take w.2 hlen
        rw [← w.2]
        exact h2 i hlen2 (o.trans w.2.symm)
    · rw [if_neg (fun c => d c.2)] at g2
      rw [hne r d]
      exact h.acked T r i hr' g1 g2 (hch T i g3)
  · intro T U r c l i hr' g0 g00 g1 g2 g3
    have g1 : s.ini T < i := g1
    rw [hack] at g2
    by_cases d : T = (s.pr q).term ∧ r = q
    · have := h.vt_term r U _ hr' g0
      rw [d.2] at this
      omega
    · rw [if_neg d] at g2
      exact h.ackedV T U r c l i hr' g0 g00 g1 g2 (hch T i g3)
  · intro T U c i g0 g00 g1 g2 g3
    exact h.whole T U c i g0 g00 g1 g2 (hch T i g3)
  · intro r hr'
    rw [hterm r]
    have grow : ∀ l T, Comm n s l T → Comm n (s.accept q e x) l T := fun l T hl => hl.grow (Nat.le_refl _) (fun _ _ => rfl) (fun U => ⟨[], by simp [St.accept, St.setP]⟩) (fun U y _ => hge U y)
    by_cases d : r = q
    · subst d
      rw [hself, hx]
      have hc := h.comm r hr'
      have hh := h.held hk hc.2
      have hlen : ((s.pr r).log.take (s.pr r).commit).length = (s.pr r).commit := by rw [List.length_take]; exact Nat.min_eq_left hc.1
      rw [hlen] at hh
      have h3 := h2 (s.pr r).commit hh.1 hh.2
      rcases Nat.le_total (s.pr r).commit C with c | c
      · rw [Nat.max_eq_right c]
        have h4 := take_le h1 hC
        have h5 := len_of_take h4 (by omega)
        rw [h4]
        exact ⟨h5, grow _ _ hC2⟩
      · rw [Nat.max_eq_left c]
        refine ⟨len_of_take h3 hh.1, ?_⟩
        rw [h3, ← hh.2]
        exact grow _ _ hc.2
    · rw [hne r d]; exact ⟨(h.comm r hr').1, grow _ _ (h.comm r hr').2⟩
def St.begin : St := ⟨fun _ => ⟨0, 0, 0, 0, [], fun _ => false, fun _ => 0⟩, fun _ => none, fun _ => [], fun _ => 0, fun _ _ => 0, fun _ _ => none, fun _ _ => none⟩
theorem Inv.begin (n : Nat) : Inv n St.begin where
  vote_of := fun p c _ e => by cases e
  vote_is := fun p c l _ e => by cases e
  vt_term := fun p U x _ e => by cases e
  cl_term := fun p U x _ e => by cases e
  cl_lm := fun p U l e => by cases e
  vt_cl := fun q U c l _ e => by cases e
  cand := fun p _ e => by cases e
  lead_q := fun U k e => by cases e
  lead_cl := fun U k e => by cases e
  llog_none := fun _ _ => rfl
  leader := fun p _ e => by cases e
  log_lm := fun p _ i r e => by simp [St.begin] at e
  ack_le := fun _ _ => Nat.le_refl _
  ack_term := fun T q _ e => by cases e
  acked := fun T q i _ h1 h2 _ => by have h2 : i ≤ 0 := h2; omega
  ackedV := fun T U q c l i _ e => by cases e
  whole := fun T U k i e => by cases e
  comm := fun p _ => ⟨Nat.le_refl _, .inl rfl⟩
end Go.Proofs.Ytklkglbimjajnaa.Raft
namespace Go.Proofs.Ytklkglbimjajnaa.Raft
structure Peer where
  up : Bool
  term : Nat
  vote : Nat
  commit : Nat
  role : Nat
  log : List Rc
  votes : List Bool
  next : List Nat
  mat : List Nat
structure Msg where
  kind : Nat
  frm : Nat
  «to» : Nat
  term : Nat
  a : Nat
  b : Nat
  c : Nat
  ok : Bool
  log : List Rc
structure Cl where
  peers : List Peer
  net : List Msg
  chosen : List Rc
  conflict : Bool
def Peer.zero : Peer := ⟨false, 0, 0, 0, 0, [], [], [], []⟩
def Cl.at (c : Cl) (k : Nat) : Peer := c.peers.getD k Peer.zero
def Cl.put (c : Cl) (k : Nat) (p : Peer) : Cl := { c with peers := c.peers.set k p }
def Cl.send (c : Cl) (m : Msg) : Cl := if c.net.length < 200 then { c with net := c.net ++ [m] } else c
def termAt (l : List Rc) (i : Nat) : Nat := if i = 0 then 0 else match l[i - 1]? with
  | some r => r.term
  | none => 0
def Cl.down (c : Cl) (k T : Nat) : Cl :=
  let p := c.at k
  c.put k { p with term := max p.term T, vote := if p.term < T then 0 else p.vote, role := 0, votes := [], next := [], mat := [] }
def Cl.records (c : Cl) (k «to» : Nat) : Cl :=
  let p := c.at k
  let x := p.next.getD «to» 0
  c.send ⟨3, k, «to», p.term, x - 1, termAt p.log (x - 1), p.commit, false, p.log.drop (x - 1)⟩
def others (n k : Nat) : List Nat := (List.range n).filter (· ≠ k)
def Cl.toAll (c : Cl) (k : Nat) : Cl := (others c.peers.length k).foldl (fun c i => c.records k i) c
def Cl.note (c : Cl) (k : Nat) : Cl :=
  let l := (c.at k).log.take (c.at k).commit
  { c with chosen := c.chosen ++ l.drop c.chosen.length, conflict := c.conflict || decide (l.take c.chosen.length ≠ c.chosen.take l.length) }
def most (n : Nat) : Nat := n / 2 + 1
def reach (p : Peer) (n : Nat) : Nat → Nat
  | 0 => p.commit
  | i + 1 => if i + 1 ≤ p.commit then p.commit else if most n ≤ p.mat.countP (fun m => decide (i + 1 ≤ m)) ∧ termAt p.log (i + 1) = p.term then i + 1 else reach p n i
def Cl.commits (c : Cl) (k : Nat) : Cl :=
  let p := c.at k
  (c.put k { p with commit := reach p c.peers.length p.log.length }).note k
def Cl.elected (c : Cl) (k : Nat) : Cl :=
  let p := c.at k
  let n := c.peers.length
  if p.role = 1 ∧ most n ≤ p.votes.countP id then
    ((c.put k { p with role := 2, votes := [], next := List.replicate n (p.log.length + 1), mat := (List.replicate n 0).set k p.log.length }).commits k).toAll k
  else c
def Cl.tick (c : Cl) (k : Nat) : Cl :=
  let p := c.at k
  let n := c.peers.length
  if p.role = 2 then c.toAll k else if p.term = 1000000 then c else
    let q := { p with term := p.term + 1, vote := k + 1, role := 1, votes := (List.replicate n false).set k true }
    ((others n k).foldl (fun c i => c.send ⟨1, k, i, q.term, q.log.length, lastTerm q.log, 0, false, []⟩) (c.put k q)).elected k
def merge (l : List Rc) (a : Nat) : List Rc → List Rc
  | [] => l
  | r :: rs =>
    let m := if a < l.length ∧ termAt l (a + 1) ≠ r.term then l.take a else l
    merge (if a = m.length then m ++ [r] else m) (a + 1) rs
def Cl.appended (c : Cl) (m : Msg) : Cl :=
  let p := c.at m.to
  if m.term < p.term then c.send ⟨4, m.to, m.frm, p.term, 0, 0, 0, false, []⟩ else
    let c := c.down m.to m.term
    let p := c.at m.to
    if p.log.length < m.a ∨ termAt p.log m.a ≠ m.b then c.send ⟨4, m.to, m.frm, p.term, min (m.a - 1) p.log.length, 0, 0, false, []⟩ else
      let e := m.a + m.log.length
      ((c.put m.to { p with log := merge p.log m.a m.log, commit := max p.commit (min m.c e) }).note m.to).send ⟨4, m.to, m.frm, p.term, e, 0, 0, true, []⟩
def Cl.deliver (c : Cl) (m : Msg) : Cl :=
  if (c.at m.to).up = false then c else
    let c := if (c.at m.to).term < m.term then c.down m.to m.term else c
    let p := c.at m.to
    if m.kind = 1 then
      let ok := decide (m.term = p.term ∧ (p.vote = 0 ∨ p.vote = m.frm + 1) ∧ (lastTerm p.log < m.b ∨ m.b = lastTerm p.log ∧ p.log.length ≤ m.a))
      (if ok then c.put m.to { p with vote := m.frm + 1 } else c).send ⟨2, m.to, m.frm, p.term, 0, 0, 0, ok, []⟩
    else if m.kind = 2 then
      if m.term = p.term ∧ p.role = 1 ∧ m.ok = true then (c.put m.to { p with votes := p.votes.set m.frm true }).elected m.to else c
    else if m.kind = 3 then c.appended m
    else if m.kind = 4 then
      if m.term ≠ p.term ∨ p.role ≠ 2 then c
      else if m.ok then (c.put m.to { p with mat := p.mat.set m.frm (max (p.mat.getD m.frm 0) m.a), next := p.next.set m.frm (max (p.next.getD m.frm 0) (m.a + 1)) }).commits m.to
      else if m.a + 1 < p.next.getD m.frm 0 then (c.put m.to { p with next := p.next.set m.frm (max (p.mat.getD m.frm 0 + 1) (m.a + 1)) }).records m.to m.frm
      else c
    else c
structure Ev where
  kind : Int
  n : Int
  data : List Int
def Cl.event (c : Cl) (e : Ev) : Cl × Int :=
  if e.kind = 2 ∨ e.kind = 3 ∨ e.kind = 4 then
    if e.n < 0 ∨ (c.net.length : Int) ≤ e.n then (c, 6) else
      match c.net[e.n.toNat]? with
      | none => (c, 6)
      | some m =>
        if e.kind = 2 then (({ c with net := c.net.eraseIdx e.n.toNat } : Cl).deliver m, 0)
        else if e.kind = 3 then ({ c with net := c.net.eraseIdx e.n.toNat }, 0)
        else (c.send m, 0)
  else if e.kind = 1 ∨ e.kind = 5 ∨ e.kind = 6 ∨ e.kind = 7 then
    if e.n < 0 ∨ (c.peers.length : Int) ≤ e.n then (c, 6) else
      let k := e.n.toNat
      let p := c.at k
      if p.up = decide (e.kind = 6) then (c, 15)
      else if e.kind = 1 then (c.tick k, 0)
      else if e.kind = 5 then (c.put k ⟨false, p.term, p.vote, 0, 0, p.log, [], [], []⟩, 0)
      else if e.kind = 6 then (c.put k { p with up := true }, 0)
      else if p.role ≠ 2 then (c, 15)
      else if 1000 < e.data.length ∨ p.log.length = 100 then (c, 14)
      else ((c.put k { p with log := p.log ++ [⟨p.term, p.log.length + 1, e.data⟩], mat := p.mat.set k (p.log.length + 1) }).commits k, 0)
  else (c, 3)
def Cl.begin (n : Nat) : Cl := ⟨List.replicate n { Peer.zero with up := true }, [], [], false⟩
def Peer.abs (p : Peer) : Pr := ⟨p.term, p.vote, p.commit, p.role, p.log, fun q => p.votes.getD q false, fun q => p.mat.getD q 0⟩
structure Ext (s s' : St) : Prop where
  cl : ∀ U p x, s.cl U p = some x → s'.cl U p = some x
  vt : ∀ U p x, s.vt U p = some x → s'.vt U p = some x
  lead : ∀ U k, s.lead U = some k → s'.lead U = some k
  llog : ∀ U, ∃ t, s'.llog U = s.llog U ++ t
  ini : ∀ U, s.llog U ≠ [] → s'.ini U = s.ini U
  ack : ∀ U q, s.ack U q ≤ s'.ack U q
theorem Ext.refl (s : St) : Ext s s := ⟨fun _ _ _ h => h, fun _ _ _ h => h, fun _ _ h => h, fun _ => ⟨[], by simp⟩, fun _ _ => rfl, fun _ _ => Nat.le_refl _⟩
theorem Ext.setP (s : St) (p : Nat) (x : Pr) : Ext s (s.setP p x) := ⟨fun _ _ _ h => h, fun _ _ _ h => h, fun _ _ h => h, fun _ => ⟨[], by simp [St.setP]⟩, fun _ _ => rfl, fun _ _ => Nat.le_refl _⟩
theorem Ext.comm {n : Nat} {s s' : St} (h : Ext s s') {l : List Rc} {T : Nat} (hc : Comm n s l T) : Comm n s' l T := hc.grow (Nat.le_refl _) h.ini h.llog (fun U q _ => h.ack U q)
theorem Ext.take {s s' : St} (h : Ext s s') {T i : Nat} (hi : i ≤ (s.llog T).length) : (s'.llog T).take i = (s.llog T).take i := by
  obtain ⟨t, e⟩ := h.llog T
  rw [e, List.take_append_of_le_length hi]
theorem Ext.length {s s' : St} (h : Ext s s') (T : Nat) : (s.llog T).length ≤ (s'.llog T).length := by
  obtain ⟨t, e⟩ := h.llog T
  rw [e, List.length_append]; omega
theorem termAt_take {l m : List Rc} {i : Nat} (h : l.take i = m.take i) : termAt l i = termAt m i := by
  unfold termAt
  by_cases c : i = 0
  · rw [if_pos c, if_pos c]
  · rw [if_neg c, if_neg c, get_take h (by omega)]
structure MsgOK (n : Nat) (s : St) (m : Msg) : Prop where
  frm : m.frm < n
  «to» : m.to < n
  ne : m.frm ≠ m.to
  ask : m.kind = 1 → ∃ l, s.cl m.term m.frm = some l ∧ m.a = l.length ∧ m.b = lastTerm l
  vote : m.kind = 2 → m.ok = true → ∃ l, s.vt m.term m.frm = some (m.to, l)
  recs : m.kind = 3 → s.lead m.term = some m.frm ∧ m.a + m.log.length ≤ (s.llog m.term).length ∧ m.b = termAt (s.llog m.term) m.a ∧ m.log = ((s.llog m.term).take (m.a + m.log.length)).drop m.a ∧ m.c ≤ (s.llog m.term).length ∧ Comm n s ((s.llog m.term).take m.c) m.term
  acked : m.kind = 4 → m.ok = true → m.a ≤ s.ack m.term m.frm ∧ s.lead m.term = some m.to
theorem MsgOK.ext {n : Nat} {s s' : St} {m : Msg} (h : MsgOK n s m) (e : Ext s s') : MsgOK n s' m where
  frm := h.frm
  «to» := h.to
  ne := h.ne
  ask := fun k => by
    obtain ⟨l, h1, h2⟩ := h.ask k
    exact ⟨l, e.cl _ _ _ h1, h2⟩
  vote := fun k o => by
    obtain ⟨l, h1⟩ := h.vote k o
    exact ⟨l, e.vt _ _ _ h1⟩
  recs := fun k => by
    obtain ⟨h1, h2, h3, h4, h5, h6⟩ := h.recs k
    refine ⟨e.lead _ _ h1, Nat.le_trans h2 (e.length _), ?_, ?_, Nat.le_trans h5 (e.length _), ?_⟩
    · rw [h3]; exact termAt_take (e.take (by omega)).symm
    · rw [e.take h2]; exact h4
    · rw [e.take h5]; exact e.comm h6
  acked := fun k o => ⟨Nat.le_trans (h.acked k o).1 (e.ack _ _), e.lead _ _ (h.acked k o).2⟩
structure WF (n : Nat) (p : Peer) : Prop where
  votes : p.role = 1 → p.votes.length = n
  lists : p.role = 2 → p.next.length = n ∧ p.mat.length = n ∧ ∀ q, q < n → 1 ≤ p.next.getD q 0 ∧ p.next.getD q 0 ≤ p.log.length + 1
structure Rel (n : Nat) (c : Cl) (s : St) : Prop where
  inv : Inv n s
  len : c.peers.length = n
  abs : ∀ p, p < n → s.pr p = (c.at p).abs
  wf : ∀ p, p < n → WF n (c.at p)
  msgs : ∀ m, m ∈ c.net → MsgOK n s m
  chosen : ∃ T, Comm n s c.chosen T
  clash : c.conflict = false
def Cov (n : Nat) (c : Cl) : Prop := ∀ p, p < n → (c.at p).commit ≤ c.chosen.length
theorem at_put (c : Cl) (k : Nat) (p : Peer) (h : k < c.peers.length) : (c.put k p).at k = p := by simp [Cl.at, Cl.put, List.getD, h]
theorem at_put_ne (c : Cl) {k q : Nat} (p : Peer) (h : q ≠ k) : (c.put k p).at q = c.at q := by simp [Cl.at, Cl.put, List.getD, h.symm]
theorem Rel.move {n : Nat} {c : Cl} {s s' : St} (h : Rel n c s) {k : Nat} {p : Peer} (hk : k < n) (hi : Inv n s') (he : Ext s s') (hp : s'.pr k = p.abs) (hq : ∀ q, q ≠ k → s'.pr q = s.pr q) (hw : WF n p) : Rel n (c.put k p) s' where
  inv := hi
  len := by simp [Cl.put]; exact h.len
  abs := fun q hqn => by
    by_cases d : q = k
    · subst d; rw [at_put c q p (by rw [h.len]; exact hk)]; exact hp
    · rw [at_put_ne c p d, hq q d]; exact h.abs q hqn
  wf := fun q hqn => by
    by_cases d : q = k
    · subst d; rw [at_put c q p (by rw [h.len]; exact hk)]; exact hw
    · rw [at_put_ne c p d]; exact h.wf q hqn
  msgs := fun m hm => (h.msgs m hm).ext he
  chosen := by
    obtain ⟨T, hT⟩ := h.chosen
    exact ⟨T, he.comm hT⟩
  clash := h.clash
theorem send_at (c : Cl) (m : Msg) (k : Nat) : (c.send m).at k = c.at k := by unfold Cl.send; split <;> rfl
theorem send_peers (c : Cl) (m : Msg) : (c.send m).peers = c.peers := by unfold Cl.send; split <;> rfl
theorem send_chosen (c : Cl) (m : Msg) : (c.send m).chosen = c.chosen ∧ (c.send m).conflict = c.conflict := by unfold Cl.send; split <;> exact ⟨rfl, rfl⟩
theorem Rel.send {n : Nat} {c : Cl} {s : St} (h : Rel n c s) {m : Msg} (hm : MsgOK n s m) : Rel n (c.send m) s where
  inv := h.inv
  len := by rw [send_peers]; exact h.len
  abs := fun p hp => by rw [send_at]; exact h.abs p hp
  wf := fun p hp => by rw [send_at]; exact h.wf p hp
  msgs := fun x hx => by
    unfold Cl.send at hx
    split at hx
    · rcases List.mem_append.1 hx with hx | hx
      · exact h.msgs x hx
      · rw [List.mem_singleton.1 hx]; exact hm
    · exact h.msgs x hx
  chosen := by rw [(send_chosen c m).1]; exact h.chosen
  clash := by rw [(send_chosen c m).2]; exact h.clash
theorem Cov.send {n : Nat} {c : Cl} (h : Cov n c) (m : Msg) : Cov n (c.send m) := fun p hp => by rw [send_at, (send_chosen c m).1]; exact h p hp
theorem Cov.put {n : Nat} {c : Cl} (h : Cov n c) {k : Nat} {p : Peer} (hc : p.commit ≤ (c.at k).commit) (hk : k < n) (hl : c.peers.length = n) : Cov n (c.put k p) := fun q hq => by
  show ((c.put k p).at q).commit ≤ c.chosen.length
  by_cases d : q = k
  · subst d
    rw [at_put c q p (by omega)]
    exact Nat.le_trans hc (h q hq)
  · rw [at_put_ne c p d]; exact h q hq
theorem Rel.lower {n : Nat} {c : Cl} {s : St} (h : Rel n c s) {k : Nat} {p : Peer} (hk : k < n) (ht : (c.at k).term ≤ p.term) (hl : p.log = (c.at k).log) (hc : p.commit ≤ (c.at k).commit)
    (hv : (p.term = (c.at k).term ∧ p.vote = (c.at k).vote) ∨ ((c.at k).term < p.term ∧ p.vote = 0)) (hr : p.role = 0) : Rel n (c.put k p) (s.setP k p.abs) := by
  have e := h.abs k hk
  refine h.move hk (h.inv.setP ?_ ?_ (.inl ?_) (fun _ => ?_) (fun _ => .inl ?_)) (Ext.setP _ _ _) (setP_self _ _ _) (fun q hq => setP_ne _ _ hq) ⟨fun x => by (rw [hr] at x; cases x), fun x => by (rw [hr] at x; cases x)⟩
  · rw [e]; exact ht
  · rw [e]; exact hl
  · rw [e]; exact hc
  · rw [e]; exact hv
  · exact ⟨by show p.role ≠ 1; omega, by show p.role ≠ 2; omega⟩
theorem Rel.note {n : Nat} {c : Cl} {s : St} (h : Rel n c s) {k : Nat} (hk : k < n) (hc : ∀ p, p < n → p ≠ k → (c.at p).commit ≤ c.chosen.length) : Rel n (c.note k) s ∧ Cov n (c.note k) := by
  obtain ⟨T, hT⟩ := h.chosen
  have e := h.abs k hk
  have hm := h.inv.comm k hk
  rw [e] at hm
  have hlen : ((c.at k).log.take (c.at k).commit).length = (c.at k).commit := by rw [List.length_take]; exact Nat.min_eq_left hm.1
  have hm2 : Comm n s ((c.at k).log.take (c.at k).commit) (c.at k).term := hm.2
  have hnew : ∃ T, Comm n s (c.chosen ++ ((c.at k).log.take (c.at k).commit).drop c.chosen.length) T := by
    rcases Nat.le_total c.chosen.length ((c.at k).log.take (c.at k).commit).length with d | d
    · have := h.inv.agree hT hm2 d
      refine ⟨(c.at k).term, ?_⟩
      have e3 : c.chosen ++ ((c.at k).log.take (c.at k).commit).drop c.chosen.length = (c.at k).log.take (c.at k).commit := (congrArg (· ++ ((c.at k).log.take (c.at k).commit).drop c.chosen.length) this).trans (List.take_append_drop _ _)
      rw [e3]
      exact hm2
    · rw [List.drop_eq_nil_of_le d, List.append_nil]; exact ⟨T, hT⟩
  have hcl : ((c.at k).log.take (c.at k).commit).take c.chosen.length = c.chosen.take ((c.at k).log.take (c.at k).commit).length := by
    rcases Nat.le_total c.chosen.length ((c.at k).log.take (c.at k).commit).length with d | d
    · rw [← h.inv.agree hT hm2 d, List.take_of_length_le d]
    · rw [← h.inv.agree hm2 hT d, List.take_of_length_le d]
  refine ⟨⟨h.inv, h.len, h.abs, h.wf, h.msgs, hnew, ?_⟩, fun p hp => ?_⟩
  · show (c.conflict || decide _) = false
    rw [h.clash, hcl]; simp
  · show (c.at p).commit ≤ (c.chosen ++ _).length
    rw [List.length_append, List.length_drop, hlen]
    by_cases d : p = k
    · subst d; omega
    · have := hc p hp d; omega
theorem count_getD {α : Type} (f : α → Bool) (d : α) : ∀ l : List α, l.countP f = (List.range l.length).countP (fun q => f (l.getD q d))
  | [] => rfl
  | x :: l => by
    rw [List.countP_cons, List.length_cons, List.range_succ_eq_map, List.countP_cons, List.countP_map, count_getD f d l]
    rfl
theorem Rel.records {n : Nat} {c : Cl} {s : St} (h : Rel n c s) {k «to» : Nat} (hk : k < n) (ht : «to» < n) (hne : «to» ≠ k) (hr : (c.at k).role = 2) : Rel n (c.records k «to») s := by
  have e := h.abs k hk
  have hl := h.inv.leader k hk (by rw [e]; exact hr)
  have hc := h.inv.comm k hk
  rw [e] at hl hc
  have hl1 : s.lead (c.at k).term = some k := hl.1
  have hl2 : (c.at k).log = s.llog (c.at k).term := hl.2.1
  have hw := ((h.wf k hk).lists hr).2.2 «to» ht
  have hlen : (s.llog (c.at k).term).length = (c.at k).log.length := by rw [hl2]
  refine h.send ⟨hk, ht, hne.symm, fun x => (by cases x), fun x => (by cases x), fun _ => ?_, fun x => (by cases x)⟩
  have hsum : (c.at k).next.getD «to» 0 - 1 + ((c.at k).log.drop ((c.at k).next.getD «to» 0 - 1)).length = (c.at k).log.length := by rw [List.length_drop]; omega
  refine ⟨hl1, ?_, ?_, ?_, ?_, ?_⟩
  · show _ + ((c.at k).log.drop _).length ≤ (s.llog (c.at k).term).length
    rw [hsum, hlen]; exact Nat.le_refl _
  · show termAt (c.at k).log _ = termAt (s.llog (c.at k).term) _
    rw [← hl2]
  · show (c.at k).log.drop _ = ((s.llog (c.at k).term).take (_ + ((c.at k).log.drop _).length)).drop _
    rw [hsum, ← hl2, List.take_of_length_le (Nat.le_refl _)]
  · show (c.at k).commit ≤ (s.llog (c.at k).term).length
    rw [hlen]; exact hc.1
  · show Comm n s ((s.llog (c.at k).term).take (c.at k).commit) (c.at k).term
    rw [← hl2]; exact hc.2
theorem records_at (c : Cl) (k «to» q : Nat) : (c.records k «to»).at q = c.at q := send_at _ _ _
theorem records_peers (c : Cl) (k «to» : Nat) : (c.records k «to»).peers = c.peers := send_peers _ _
theorem Rel.fold {n : Nat} {s : St} {k : Nat} (hk : k < n) : ∀ (l : List Nat) (c : Cl), (∀ i ∈ l, i < n ∧ i ≠ k) → Rel n c s → Cov n c → (c.at k).role = 2 → Rel n (l.foldl (fun c i => c.records k i) c) s ∧ Cov n (l.foldl (fun c i => c.records k i) c)
  | [], c, _, h, hc, _ => ⟨h, hc⟩
  | i :: l, c, hl, h, hc, hr => by
    have := hl i List.mem_cons_self
    exact Rel.fold hk l (c.records k i) (fun j hj => hl j (List.mem_cons_of_mem _ hj)) (h.records hk this.1 this.2 hr) (hc.send _) (by rw [records_at]; exact hr)
theorem mem_others {n k i : Nat} (h : i ∈ others n k) : i < n ∧ i ≠ k := by
  unfold others at h
  simp at h
  exact h
theorem Rel.toAll {n : Nat} {c : Cl} {s : St} (h : Rel n c s) (hc : Cov n c) {k : Nat} (hk : k < n) (hr : (c.at k).role = 2) : Rel n (c.toAll k) s ∧ Cov n (c.toAll k) :=
  Rel.fold hk _ c (fun i hi => by have := mem_others hi; rw [h.len] at this; exact this) h hc hr
theorem reach_spec (p : Peer) (n : Nat) : ∀ i, reach p n i = p.commit ∨ (p.commit < reach p n i ∧ reach p n i ≤ i ∧ most n ≤ p.mat.countP (fun m => decide (reach p n i ≤ m)) ∧ termAt p.log (reach p n i) = p.term)
  | 0 => .inl rfl
  | i + 1 => by
    unfold reach
    split
    · exact .inl rfl
    · next h1 =>
      split
      · next h2 => exact .inr ⟨by omega, Nat.le_refl _, h2.1, h2.2⟩
      · rcases reach_spec p n i with h | h
        · exact .inl h
        · exact .inr ⟨h.1, by omega, h.2.2⟩
theorem Rel.commits {n : Nat} {c : Cl} {s : St} (h : Rel n c s) (hc : Cov n c) {k : Nat} (hk : k < n) (hr : (c.at k).role = 2) : ∃ s', Rel n (c.commits k) s' ∧ Cov n (c.commits k) ∧ ((c.commits k).at k).role = 2 := by
  have e := h.abs k hk
  have hl := h.inv.leader k hk (by rw [e]; exact hr)
  have hcm := h.inv.comm k hk
  rw [e] at hl hcm
  have hl1 : s.lead (c.at k).term = some k := hl.1
  have hl2 : (c.at k).log = s.llog (c.at k).term := hl.2.1
  have hl3 : ∀ q, q < n → (c.at k).mat.getD q 0 ≤ s.ack (c.at k).term q := hl.2.2
  have hw := h.wf k hk
  have hcm1 : (c.at k).commit ≤ (c.at k).log.length := hcm.1
  have hnew : reach (c.at k) c.peers.length (c.at k).log.length ≤ (c.at k).log.length ∧ Comm n s ((c.at k).log.take (reach (c.at k) c.peers.length (c.at k).log.length)) (c.at k).term := by
    rcases reach_spec (c.at k) c.peers.length (c.at k).log.length with d | ⟨d1, d2, d3, d4⟩
    · rw [d]; exact hcm
    · refine ⟨d2, .inr ⟨(c.at k).term, reach (c.at k) c.peers.length (c.at k).log.length, Nat.le_refl _, ?_, by rw [← hl2]; exact d2, ⟨fun q => decide (reach (c.at k) c.peers.length (c.at k).log.length ≤ (c.at k).mat.getD q 0), ?_, ?_⟩, by rw [List.length_take]; exact Nat.min_le_left _ _, ?_⟩⟩
      · unfold termAt at d4
        rw [if_neg (by omega)] at d4
        obtain ⟨r, hr0⟩ : ∃ r, (c.at k).log[reach (c.at k) c.peers.length (c.at k).log.length - 1]? = some r := ⟨_, List.getElem?_eq_getElem (by omega)⟩
        rw [hr0] at d4
        have := h.inv.before hl1 (by rw [← hl2]; exact hr0) d4
        omega
      · unfold quorum
        rw [count_getD _ 0, (hw.lists hr).2.1, h.len] at d3
        rw [h.len]
        exact d3
      · intro q hq hQ
        exact Nat.le_trans (by simpa using hQ) (hl3 q hq)
      · rw [List.length_take, Nat.min_eq_left d2, ← hl2]
  have hrel : Rel n (c.put k { c.at k with commit := reach (c.at k) c.peers.length (c.at k).log.length }) (s.setP k { c.at k with commit := reach (c.at k) c.peers.length (c.at k).log.length : Peer }.abs) := by
    refine h.move hk (h.inv.setP (by rw [e]; exact Nat.le_refl _) (by rw [e]; rfl) (.inr hnew) (fun _ => .inl (by rw [e]; exact ⟨rfl, rfl⟩)) (fun _ => .inr ⟨by rw [e]; rfl, by rw [e]; rfl, fun x => ?_, fun _ => ?_⟩)) (Ext.setP _ _ _) (setP_self _ _ _) (fun q hq => setP_ne _ _ hq) ⟨hw.votes, hw.lists⟩
    · have x : (c.at k).role = 1 := x
      rw [hr] at x; cases x
    · exact hl3
  have hp : c.peers.length = n := h.len
  have := hrel.note hk (fun p hpn hne => by rw [at_put_ne _ _ hne]; exact hc p hpn)
  refine ⟨_, this.1, this.2, ?_⟩
  show (Cl.at (c.put k _) k).role = 2
  rw [at_put c k _ (by omega)]
  exact hr
theorem Inv.fresh {n : Nat} {s : St} (h : Inv n s) {p : Nat} (hp : p < n) (hr : (s.pr p).role = 1) (hQ : quorum n (s.pr p).votes) : s.lead (s.pr p).term = none := by
  obtain ⟨hcl, hnl, hvs⟩ := h.cand p hp hr
  cases e : s.lead (s.pr p).term with
  | none => rfl
  | some k =>
    obtain ⟨_, _, Q, h3, h4⟩ := h.lead_q _ k e
    obtain ⟨q, hq, h5, h6⟩ := quorum_meet hQ h3
    obtain ⟨l, hl⟩ := hvs q hq h5
    obtain ⟨l', hl'⟩ := h4 q hq h6
    rw [hl] at hl'
    injection hl' with hl'
    injection hl' with hl' _
    subst hl'
    exact absurd e hnl
theorem Ext.elect {n : Nat} {s : St} (h : Inv n s) {p : Nat} (hp : p < n) (hr : (s.pr p).role = 1) (hQ : quorum n (s.pr p).votes) : Ext s (s.elect p) := by
  have hnone := h.fresh hp hr hQ
  have hll := h.llog_none _ hnone
  refine ⟨fun _ _ _ x => x, fun _ _ _ x => x, fun U k e => ?_, fun U => ?_, fun U hU => ?_, fun U q => ?_⟩
  · show (if U = (s.pr p).term then some p else s.lead U) = some k
    rw [if_neg]; exact e; rintro rfl; rw [hnone] at e; cases e
  · show ∃ t, (if U = (s.pr p).term then (s.pr p).log else s.llog U) = s.llog U ++ t
    by_cases d : U = (s.pr p).term
    · rw [if_pos d, d, hll]; exact ⟨_, rfl⟩
    · rw [if_neg d]; exact ⟨[], by simp⟩
  · show (if U = (s.pr p).term then (s.pr p).log.length else s.ini U) = s.ini U
    rw [if_neg]; rintro rfl; exact hU hll
  · show s.ack U q ≤ (if U = (s.pr p).term ∧ q = p then (s.pr p).log.length else s.ack U q)
    split
    · next d =>
      have := h.ack_le U q
      rw [d.1, hll] at this
      rw [d.1]
      simp at this
      omega
    · exact Nat.le_refl _
theorem Rel.elected {n : Nat} {c : Cl} {s : St} (h : Rel n c s) (hc : Cov n c) {k : Nat} (hk : k < n) : ∃ s', Rel n (c.elected k) s' ∧ Cov n (c.elected k) := by
  unfold Cl.elected
  by_cases d : (c.at k).role = 1 ∧ most c.peers.length ≤ (c.at k).votes.countP id
  · simp only [if_pos d]
    have e := h.abs k hk
    have hr : (s.pr k).role = 1 := by rw [e]; exact d.1
    have hQ : quorum n (s.pr k).votes := by
      rw [e]
      have := d.2
      rw [count_getD _ false, (h.wf k hk).votes d.1, h.len] at this
      exact this
    have hlen := h.len
    have hrel : Rel n (c.put k { c.at k with role := 2, votes := [], next := List.replicate c.peers.length ((c.at k).log.length + 1), mat := (List.replicate c.peers.length 0).set k (c.at k).log.length }) (s.elect k) := by
      refine h.move hk (h.inv.elect hk hr hQ) (Ext.elect h.inv hk hr hQ) ?_ (fun q hq => ?_) ⟨fun x => (by cases x), fun _ => ⟨by simp [hlen], by simp [hlen], fun q hq => ?_⟩⟩
      · show (if k = k then _ else _) = _
        rw [if_pos rfl, e]
        show Pr.mk _ _ _ _ _ _ _ = Pr.mk _ _ _ _ _ _ _
        congr 1
        funext q
        show (if q = k then (c.at k).log.length else 0) = ((List.replicate c.peers.length 0).set k (c.at k).log.length).getD q 0
        by_cases d2 : q = k
        · subst d2
          rw [if_pos rfl]
          simp [List.getD, hlen, hk]
        · rw [if_neg d2]
          simp only [List.getD, List.getElem?_set_ne (Ne.symm d2), List.getElem?_replicate]
          split <;> rfl
      · show (if q = k then _ else _) = _
        rw [if_neg hq]
      · simp [List.getD, hlen, hq]
    have hcov : Cov n (c.put k { c.at k with role := 2, votes := [], next := List.replicate c.peers.length ((c.at k).log.length + 1), mat := (List.replicate c.peers.length 0).set k (c.at k).log.length }) := hc.put (Nat.le_refl _) hk hlen
    obtain ⟨s', h1, h2, h3⟩ := hrel.commits hcov hk (by rw [at_put c k _ (by omega)])
    exact ⟨s', h1.toAll h2 hk h3⟩
  · simp only [if_neg d]
    exact ⟨s, h, hc⟩
theorem Ext.stand {n : Nat} {s : St} (h : Inv n s) {p : Nat} (hp : p < n) : Ext s (s.stand p) := by
  refine ⟨fun U q x e => ?_, fun U q x e => ?_, fun _ _ e => e, fun U => ⟨[], by simp [St.stand, St.setP]⟩, fun _ _ => rfl, fun _ _ => Nat.le_refl _⟩
  · show (if U = (s.pr p).term + 1 ∧ q = p then _ else s.cl U q) = some x
    rw [if_neg]
    · exact e
    · rintro ⟨rfl, rfl⟩; have := h.cl_term _ _ _ hp e; omega
  · show (if U = (s.pr p).term + 1 ∧ q = p then _ else s.vt U q) = some x
    rw [if_neg]
    · exact e
    · rintro ⟨rfl, rfl⟩; have := h.vt_term _ _ _ hp e; omega
theorem Rel.sends {n : Nat} {s : St} {f : Nat → Msg} : ∀ (l : List Nat) (c : Cl), (∀ i ∈ l, MsgOK n s (f i)) → Rel n c s → Cov n c → Rel n (l.foldl (fun c i => c.send (f i)) c) s ∧ Cov n (l.foldl (fun c i => c.send (f i)) c)
  | [], _, _, h, hc => ⟨h, hc⟩
  | i :: l, c, hl, h, hc => Rel.sends l (c.send (f i)) (fun j hj => hl j (List.mem_cons_of_mem _ hj)) (h.send (hl i List.mem_cons_self)) (hc.send _)
theorem Rel.tick {n : Nat} {c : Cl} {s : St} (h : Rel n c s) (hc : Cov n c) {k : Nat} (hk : k < n) : ∃ s', Rel n (c.tick k) s' ∧ Cov n (c.tick k) := by
  unfold Cl.tick
  by_cases d : (c.at k).role = 2
  · simp only [if_pos d]
    exact ⟨s, h.toAll hc hk d⟩
  · simp only [if_neg d]
    by_cases d2 : (c.at k).term = 1000000
    · simp only [if_pos d2]; exact ⟨s, h, hc⟩
    · simp only [if_neg d2]
      have e := h.abs k hk
      have hlen := h.len
      have hrel : Rel n (c.put k { c.at k with term := (c.at k).term + 1, vote := k + 1, role := 1, votes := (List.replicate c.peers.length false).set k true }) (s.stand k) := by
        refine h.move hk (h.inv.stand hk) (Ext.stand h.inv hk) ?_ (fun q hq => ?_) ⟨fun _ => by simp [hlen], fun x => (by cases x)⟩
        · show (if k = k then _ else _) = _
          rw [if_pos rfl, e]
          show Pr.mk _ _ _ _ _ _ _ = Pr.mk _ _ _ _ _ _ _
          congr 1
          funext q
          show decide (q = k) = ((List.replicate c.peers.length false).set k true).getD q false
          by_cases d2 : q = k
          · subst d2
            simp [List.getD, hlen, hk]
          · simp only [List.getD, List.getElem?_set_ne (Ne.symm d2), List.getElem?_replicate, d2, decide_false]
            split <;> rfl
        · show (if q = k then _ else _) = _
          rw [if_neg hq]
      have hcov : Cov n (c.put k { c.at k with term := (c.at k).term + 1, vote := k + 1, role := 1, votes := (List.replicate c.peers.length false).set k true }) := hc.put (Nat.le_refl _) hk hlen
      have := Rel.sends (f := fun i => ⟨1, k, i, (c.at k).term + 1, (c.at k).log.length, lastTerm (c.at k).log, 0, false, []⟩) (others c.peers.length k) _ (fun i hi => ?_) hrel hcov
      · exact this.1.elected this.2 hk
      · have hm := mem_others hi
        rw [hlen] at hm
        refine ⟨hk, hm.1, hm.2.symm, fun _ => ⟨(c.at k).log, ?_, rfl, rfl⟩, fun x => (by cases x), fun x => (by cases x), fun x => (by cases x)⟩
        show (if (c.at k).term + 1 = (s.pr k).term + 1 ∧ k = k then some (s.pr k).log else _) = _
        rw [e, if_pos ⟨rfl, rfl⟩]
        rfl
theorem merge_spec {s : St} {L : List Rc} {T U : Nat} (hL : LM s L T) : ∀ (rs l : List Rc) (a : Nat), LM s l U → U ≤ T → a ≤ l.length → a + rs.length ≤ L.length → rs = (L.take (a + rs.length)).drop a → l.take a = L.take a →
    LM s (merge l a rs) T ∧ (merge l a rs).take (a + rs.length) = L.take (a + rs.length) ∧ ∀ i, i ≤ L.length → l.take i = L.take i → (merge l a rs).take i = L.take i
  | [], l, a, hl, hU, _, _, _, ht => ⟨hl.weaken hU, ht, fun _ _ h => h⟩
  | r :: rs, l, a, hl, hU, ha, hlen, hrs, ht => by
    have hlen' : a + (rs.length + 1) ≤ L.length := hlen
    have hr : L[a]? = some r := by
      have := congrArg (fun x => x[0]?) hrs
      simp only [List.getElem?_drop, List.getElem?_take, List.length_cons, Nat.add_zero, List.getElem?_cons_zero] at this
      rw [if_pos (by omega)] at this
      exact this.symm
    have hrs2 : rs = (L.take (a + 1 + rs.length)).drop (a + 1) := by
      have := congrArg (List.drop 1) hrs
      simp only [List.drop_drop, List.drop_succ_cons, List.drop_zero, List.length_cons] at this
      rw [show a + 1 + rs.length = a + (rs.length + 1) by omega]
      exact this
    have key : ∀ l1 : List Rc, LM s l1 T → l1.take (a + 1) = L.take (a + 1) → (∀ i, i ≤ L.length → l.take i = L.take i → l1.take i = L.take i) → LM s (merge l1 (a + 1) rs) T ∧ (merge l1 (a + 1) rs).take (a + (r :: rs).length) = L.take (a + (r :: rs).length) ∧ ∀ i, i ≤ L.length → l.take i = L.take i → (merge l1 (a + 1) rs).take i = L.take i := by
      intro l1 h1 h2 h3
      have := merge_spec (U := T) hL rs l1 (a + 1) h1 (Nat.le_refl _) (len_of_take h2 (by omega)) (by omega) hrs2 h2
      rw [List.length_cons, show a + (rs.length + 1) = a + 1 + rs.length by omega]
      exact ⟨this.1, this.2.1, fun i hi hli => this.2.2 i hi (h3 i hi hli)⟩
    unfold merge
    by_cases c : a < l.length
    · obtain ⟨x, hx⟩ : ∃ x, l[a]? = some x := ⟨_, List.getElem?_eq_getElem c⟩
      have hta : termAt l (a + 1) = x.term := by unfold termAt; rw [if_neg (by omega), show a + 1 - 1 = a by omega, hx]
      by_cases d : x.term = r.term
      · have e1 : ¬ (a < l.length ∧ termAt l (a + 1) ≠ r.term) := by rw [hta]; exact fun y => y.2 d
        simp only [if_neg e1]
        rw [if_neg (by omega)]
        exact key l (hl.weaken hU) (hl.same hL hx hr d) (fun _ _ h => h)
      · have e1 : a < l.length ∧ termAt l (a + 1) ≠ r.term := ⟨c, by rw [hta]; exact d⟩
        simp only [if_pos e1]
        have e2 : a = (l.take a).length := by rw [List.length_take]; omega
        rw [if_pos e2]
        have e3 : l.take a ++ [r] = L.take (a + 1) := by rw [ht, List.take_add_one, hr]; rfl
        rw [e3]
        refine key _ (hL.take _) (by rw [List.take_take]; congr 1; omega) (fun i hi hli => ?_)
        have hia : i ≤ a := by
          refine Classical.byContradiction fun hc => ?_
          have := get_take hli (show a < i by omega)
          rw [hx, hr] at this
          injection this with this
          exact d (by rw [this])
        rw [List.take_take, Nat.min_eq_left (by omega)]
    · have e1 : ¬ (a < l.length ∧ termAt l (a + 1) ≠ r.term) := fun y => c y.1
      simp only [if_neg e1]
      have e2 : a = l.length := by omega
      rw [if_pos e2]
      have e3 : l ++ [r] = L.take (a + 1) := by
        rw [List.take_add_one, hr, ← ht, e2, List.take_of_length_le (Nat.le_refl _)]; rfl
      rw [e3]
      refine key _ (hL.take _) (by rw [List.take_take]; congr 1; omega) (fun i hi hli => ?_)
      have hia : i ≤ a := by have := len_of_take hli hi; omega
      rw [List.take_take, Nat.min_eq_left (by omega)]
theorem Ext.accept {s : St} {q e : Nat} {x : Pr} : Ext s (s.accept q e x) := ⟨fun _ _ _ h => h, fun _ _ _ h => h, fun _ _ h => h, fun _ => ⟨[], by simp [St.accept, St.setP]⟩, fun _ _ => rfl, fun U r => by
  show s.ack U r ≤ (if U = (s.pr q).term ∧ r = q then max (s.ack U r) e else s.ack U r)
  split
  · exact Nat.le_max_left _ _
  · exact Nat.le_refl _⟩
theorem Rel.down {n : Nat} {c : Cl} {s : St} (h : Rel n c s) (hc : Cov n c) {k : Nat} (hk : k < n) (T : Nat) : ∃ s', Rel n (c.down k T) s' ∧ Cov n (c.down k T) ∧ Ext s s' ∧ (c.down k T).at k = { c.at k with term := max (c.at k).term T, vote := if (c.at k).term < T then 0 else (c.at k).vote, role := 0, votes := [], next := [], mat := [] } := by
  have hlen := h.len
  refine ⟨_, h.lower (p := { c.at k with term := max (c.at k).term T, vote := if (c.at k).term < T then 0 else (c.at k).vote, role := 0, votes := [], next := [], mat := [] }) hk (Nat.le_max_left _ _) rfl (Nat.le_refl _) ?_ rfl, hc.put (Nat.le_refl _) hk hlen, Ext.setP _ _ _, at_put c k _ (by omega)⟩
  show (max (c.at k).term T = (c.at k).term ∧ (if (c.at k).term < T then 0 else (c.at k).vote) = (c.at k).vote) ∨ ((c.at k).term < max (c.at k).term T ∧ (if (c.at k).term < T then 0 else (c.at k).vote) = 0)
  by_cases d : (c.at k).term < T
  · rw [if_pos d]; exact .inr ⟨by omega, rfl⟩
  · rw [if_neg d]; exact .inl ⟨by omega, rfl⟩
theorem Rel.appended {n : Nat} {c : Cl} {s : St} (h : Rel n c s) (hc : Cov n c) {m : Msg} (hm : MsgOK n s m) (h3 : m.kind = 3) : ∃ s', Rel n (c.appended m) s' ∧ Cov n (c.appended m) := by
  unfold Cl.appended
  by_cases d : m.term < (c.at m.to).term
  · simp only [if_pos d]
    exact ⟨s, h.send ⟨hm.to, hm.frm, hm.ne.symm, fun x => (by cases x), fun x => (by cases x), fun x => (by cases x), fun _ x => (by cases x)⟩, hc.send _⟩
  · simp only [if_neg d]
    obtain ⟨s1, r1, c1, x1, a1⟩ := h.down hc hm.to m.term
    have hm1 := hm.ext x1
    generalize c.down m.to m.term = C at r1 c1 a1 ⊢
    have ht : (C.at m.to).term = m.term := by rw [a1]; show max _ _ = _; omega
    have hrole : (C.at m.to).role = 0 := by rw [a1]
    by_cases d2 : (C.at m.to).log.length < m.a ∨ termAt (C.at m.to).log m.a ≠ m.b
    · simp only [if_pos d2]
      exact ⟨s1, r1.send ⟨hm.to, hm.frm, hm.ne.symm, fun x => (by cases x), fun x => (by cases x), fun x => (by cases x), fun _ x => (by cases x)⟩, c1.send _⟩
    · simp only [if_neg d2]
      obtain ⟨g1, g2, g3, g4, g5, g6⟩ := hm1.recs h3
      have e := r1.abs m.to hm.to
      have hterm : (s1.pr m.to).term = m.term := by rw [e]; exact ht
      have hlog : (s1.pr m.to).log = (C.at m.to).log := by rw [e]; rfl
      have hL := (r1.inv.lead_cl _ _ g1).2.2.2
      have hl := r1.inv.log_lm m.to hm.to
      rw [hlog, hterm] at hl
      have ha : m.a ≤ (C.at m.to).log.length := by omega
      have hb : termAt (C.at m.to).log m.a = m.b := Classical.byContradiction fun x => d2 (.inr x)
      have htake : (C.at m.to).log.take m.a = (s1.llog m.term).take m.a := by
        by_cases z : m.a = 0
        · rw [z]; rfl
        · obtain ⟨x, hx⟩ : ∃ x, (C.at m.to).log[m.a - 1]? = some x := ⟨_, List.getElem?_eq_getElem (by omega)⟩
          obtain ⟨y, hy⟩ : ∃ y, (s1.llog m.term)[m.a - 1]? = some y := ⟨_, List.getElem?_eq_getElem (by omega)⟩
          have hxy : x.term = y.term := by
            have := hb.trans g3
            unfold termAt at this
            rw [if_neg z, if_neg z, hx, hy] at this
            exact this
          have := hl.same hL hx hy hxy
          rw [show m.a - 1 + 1 = m.a by omega] at this
          exact this
      obtain ⟨k1, k2, k3⟩ := merge_spec hL m.log (C.at m.to).log m.a hl (Nat.le_refl _) ha g2 g4 htake
      have hinv : Inv n (s1.accept m.to (m.a + m.log.length) { C.at m.to with log := merge (C.at m.to).log m.a m.log, commit := max (C.at m.to).commit (min m.c (m.a + m.log.length)) : Peer }.abs) := by
        refine r1.inv.accept (k := m.frm) (C := min m.c (m.a + m.log.length)) hm.to (by rw [hterm]; exact g1) (by rw [hterm]; exact g2) (by rw [e]; rfl) (by rw [e]; rfl) hrole (by rw [hterm]; exact k1) (by rw [hterm]; exact k2) (fun i hi hli => ?_) (Nat.min_le_right _ _) ?_ (by rw [e]; rfl)
        · rw [hterm] at hi hli ⊢
          rw [hlog] at hli
          exact k3 i hi hli
        · rw [hterm]
          have := g6.prefix (min m.c (m.a + m.log.length))
          rw [List.take_take, Nat.min_eq_left (Nat.min_le_left _ _)] at this
          exact this
      have hrel := r1.move (p := { C.at m.to with log := merge (C.at m.to).log m.a m.log, commit := max (C.at m.to).commit (min m.c (m.a + m.log.length)) }) hm.to hinv Ext.accept (by show (if m.to = m.to then _ else _) = _; rw [if_pos rfl]) (fun q hq => by show (if q = m.to then _ else _) = _; rw [if_neg hq]) ⟨fun x => by (have x : (C.at m.to).role = 1 := x; rw [hrole] at x; cases x), fun x => by (have x : (C.at m.to).role = 2 := x; rw [hrole] at x; cases x)⟩
      have hnote := hrel.note hm.to (fun p hp hne => by rw [at_put_ne _ _ hne]; exact c1 p hp)
      refine ⟨_, hnote.1.send ⟨hm.to, hm.frm, hm.ne.symm, fun x => (by cases x), fun x => (by cases x), fun x => (by cases x), fun _ _ => ⟨?_, ?_⟩⟩, hnote.2.send _⟩
      · show m.a + m.log.length ≤ (if (C.at m.to).term = (s1.pr m.to).term ∧ m.to = m.to then max _ (m.a + m.log.length) else _)
        rw [if_pos ⟨by rw [e]; rfl, rfl⟩]
        exact Nat.le_max_right _ _
      · show s1.lead (C.at m.to).term = some m.frm
        rw [ht]; exact g1
theorem Ext.grant {n : Nat} {s : St} (h : Inv n s) {q c : Nat} (hq : q < n) (h0 : (s.pr q).vote = 0) : Ext s (s.grant q c) := by
  refine ⟨fun _ _ _ e => e, fun U p x e => ?_, fun _ _ e => e, fun U => ⟨[], by simp [St.grant, St.setP]⟩, fun _ _ => rfl, fun _ _ => Nat.le_refl _⟩
  show (if U = (s.pr q).term ∧ p = q then _ else s.vt U p) = some x
  rw [if_neg]
  · exact e
  · rintro ⟨rfl, rfl⟩; have := h.vote_is _ _ _ hq e; omega
theorem Rel.votes {n : Nat} {c : Cl} {s : St} (h : Rel n c s) (hc : Cov n c) {m : Msg} (hm : MsgOK n s m) (h1 : m.kind = 1) (ok : Bool) (hok : ok = decide (m.term = (c.at m.to).term ∧ ((c.at m.to).vote = 0 ∨ (c.at m.to).vote = m.frm + 1) ∧ (lastTerm (c.at m.to).log < m.b ∨ m.b = lastTerm (c.at m.to).log ∧ (c.at m.to).log.length ≤ m.a))) :
    ∃ s', Rel n ((if ok then c.put m.to { c.at m.to with vote := m.frm + 1 } else c).send ⟨2, m.to, m.frm, (c.at m.to).term, 0, 0, 0, ok, []⟩) s' ∧ Cov n ((if ok then c.put m.to { c.at m.to with vote := m.frm + 1 } else c).send ⟨2, m.to, m.frm, (c.at m.to).term, 0, 0, 0, ok, []⟩) := by
  have e := h.abs m.to hm.to
  have hlen := h.len
  cases ok with
  | false =>
    exact ⟨s, h.send ⟨hm.to, hm.frm, hm.ne.symm, fun x => (by cases x), fun _ x => (by cases x), fun x => (by cases x), fun x => (by cases x)⟩, hc.send _⟩
  | true =>
    have hd := of_decide_eq_true hok.symm
    have hcov : Cov n (c.put m.to { c.at m.to with vote := m.frm + 1 }) := hc.put (Nat.le_refl _) hm.to hlen
    by_cases d : (c.at m.to).vote = 0
    · obtain ⟨l, g1, g2, g3⟩ := hm.ask h1
      have h0 : (s.pr m.to).vote = 0 := by rw [e]; exact d
      have hin : Inv n (s.grant m.to m.frm) := by
        refine h.inv.grant (k := l) hm.to h0 (by rw [e]; show s.cl (c.at m.to).term _ = _; rw [← hd.1]; exact g1) ?_
        rw [e]
        show Far l (c.at m.to).log
        unfold Far
        rw [← g2, ← g3]
        rcases hd.2.2 with x | x
        · exact .inl x
        · exact .inr ⟨x.1.symm, x.2⟩
      have hrel := h.move (p := { c.at m.to with vote := m.frm + 1 }) hm.to hin (Ext.grant h.inv hm.to h0) (by show (if m.to = m.to then _ else _) = _; rw [if_pos rfl, e]; rfl) (fun q hq => by show (if q = m.to then _ else _) = _; rw [if_neg hq]) ⟨(h.wf m.to hm.to).votes, (h.wf m.to hm.to).lists⟩
      refine ⟨_, hrel.send ⟨hm.to, hm.frm, hm.ne.symm, fun x => (by cases x), fun _ _ => ⟨(s.pr m.to).log, ?_⟩, fun x => (by cases x), fun x => (by cases x)⟩, hcov.send _⟩
      show (if (c.at m.to).term = (s.pr m.to).term ∧ m.to = m.to then some (m.frm, (s.pr m.to).log) else _) = _
      rw [if_pos ⟨by rw [e]; rfl, rfl⟩]
    · have hv : (c.at m.to).vote = m.frm + 1 := by rcases hd.2.1 with x | x; exact absurd x d; exact x
      have hput : s.pr m.to = ({ c.at m.to with vote := m.frm + 1 } : Peer).abs := by rw [e]; unfold Peer.abs; rw [hv]
      have hrel := h.move (p := { c.at m.to with vote := m.frm + 1 }) hm.to h.inv (Ext.refl s) hput (fun _ _ => rfl) ⟨(h.wf m.to hm.to).votes, (h.wf m.to hm.to).lists⟩
      obtain ⟨l, hl⟩ := h.inv.vote_of m.to m.frm hm.to (by rw [e]; exact hv)
      refine ⟨_, hrel.send ⟨hm.to, hm.frm, hm.ne.symm, fun x => (by cases x), fun _ _ => ⟨l, ?_⟩, fun x => (by cases x), fun x => (by cases x)⟩, hcov.send _⟩
      rw [e] at hl
      exact hl
theorem getD_set {α : Type} (l : List α) (k q : Nat) (v d : α) (hk : k < l.length) : (l.set k v).getD q d = if q = k then v else l.getD q d := by
  by_cases c : q = k
  · subst c; rw [if_pos rfl]; simp [List.getD, hk]
  · rw [if_neg c]; simp only [List.getD, List.getElem?_set_ne (Ne.symm c)]
theorem Rel.deliver {n : Nat} {c : Cl} {s : St} (h : Rel n c s) (hc : Cov n c) {m : Msg} (hm : MsgOK n s m) : ∃ s', Rel n (c.deliver m) s' ∧ Cov n (c.deliver m) := by
  unfold Cl.deliver
  by_cases up : (c.at m.to).up = false
  · simp only [if_pos up]; exact ⟨s, h, hc⟩
  simp only [if_neg up]
  obtain ⟨s1, r1, c1, x1⟩ : ∃ s1, Rel n (if (c.at m.to).term < m.term then c.down m.to m.term else c) s1 ∧ Cov n (if (c.at m.to).term < m.term then c.down m.to m.term else c) ∧ Ext s s1 := by
    by_cases d : (c.at m.to).term < m.term
    · simp only [if_pos d]
      obtain ⟨s1, r1, c1, x1, _⟩ := h.down hc hm.to m.term
      exact ⟨s1, r1, c1, x1⟩
    · simp only [if_neg d]; exact ⟨s, h, hc, Ext.refl s⟩
  have hm1 := hm.ext x1
  generalize (if (c.at m.to).term < m.term then c.down m.to m.term else c) = C at r1 c1 ⊢
  have e := r1.abs m.to hm.to
  have hlen := r1.len
  have hw := r1.wf m.to hm.to
  by_cases k1 : m.kind = 1
  · rw [if_pos k1]; exact r1.votes c1 hm1 k1 _ rfl
  rw [if_neg k1]
  by_cases k2 : m.kind = 2
  · rw [if_pos k2]
    by_cases d : m.term = (C.at m.to).term ∧ (C.at m.to).role = 1 ∧ m.ok = true
    · rw [if_pos d]
      have hvl := hw.votes d.2.1
      obtain ⟨l, hl⟩ := hm1.vote k2 d.2.2
      have hcd := r1.inv.cand m.to hm.to (by rw [e]; exact d.2.1)
      rw [e] at hcd
      have hrel := r1.move (p := { C.at m.to with votes := (C.at m.to).votes.set m.frm true }) hm.to (r1.inv.setP (x := { C.at m.to with votes := (C.at m.to).votes.set m.frm true : Peer }.abs) (by rw [e]; exact Nat.le_refl _) (by rw [e]; rfl) (.inl (by rw [e]; exact Nat.le_refl _)) (fun _ => .inl (by rw [e]; exact ⟨rfl, rfl⟩)) (fun _ => .inr ⟨by rw [e]; rfl, by rw [e]; rfl, fun _ q hq hv => ?_, fun x => by (have x : (C.at m.to).role = 2 := x; rw [d.2.1] at x; cases x)⟩)) (Ext.setP _ _ _) (setP_self _ _ _) (fun q hq => setP_ne _ _ hq) ⟨fun _ => by simp [hvl], hw.lists⟩
      · exact hrel.elected (c1.put (Nat.le_refl _) hm.to hlen) hm.to
      · have hv : ((C.at m.to).votes.set m.frm true).getD q false = true := hv
        rw [getD_set _ _ _ _ _ (by rw [hvl]; exact hm.frm)] at hv
        by_cases z : q = m.frm
        · subst z
          exact ⟨l, by show s1.vt (C.at m.to).term m.frm = _; rw [← d.1]; exact hl⟩
        · rw [if_neg z] at hv
          exact hcd.2.2 q hq hv
    · rw [if_neg d]; exact ⟨s1, r1, c1⟩
  rw [if_neg k2]
  by_cases k3 : m.kind = 3
  · rw [if_pos k3]; exact r1.appended c1 hm1 k3
  rw [if_neg k3]
  by_cases k4 : m.kind = 4
  · rw [if_pos k4]
    by_cases d : m.term ≠ (C.at m.to).term ∨ (C.at m.to).role ≠ 2
    · rw [if_pos d]; exact ⟨s1, r1, c1⟩
    · rw [if_neg d]
      have ht : m.term = (C.at m.to).term := Classical.byContradiction fun x => d (.inl x)
      have hr : (C.at m.to).role = 2 := Classical.byContradiction fun x => d (.inr x)
      obtain ⟨w1, w2, w3⟩ := hw.lists hr
      have hld := r1.inv.leader m.to hm.to (by rw [e]; exact hr)
      rw [e] at hld
      have hl2 : (C.at m.to).log = s1.llog (C.at m.to).term := hld.2.1
      have hmat : ∀ q, q < n → (C.at m.to).mat.getD q 0 ≤ s1.ack (C.at m.to).term q := hld.2.2
      have hal : ∀ q, s1.ack (C.at m.to).term q ≤ (C.at m.to).log.length := fun q => by rw [hl2]; exact r1.inv.ack_le _ q
      have gen : ∀ (mt nx : List Nat), mt.length = n → nx.length = n → (∀ q, q < n → mt.getD q 0 ≤ s1.ack (C.at m.to).term q) → (∀ q, q < n → 1 ≤ nx.getD q 0 ∧ nx.getD q 0 ≤ (C.at m.to).log.length + 1) → ∃ s', Rel n (C.put m.to { C.at m.to with mat := mt, next := nx }) s' ∧ Cov n (C.put m.to { C.at m.to with mat := mt, next := nx }) := by
        intro mt nx g1 g2 g3 g4
        refine ⟨_, r1.move (p := { C.at m.to with mat := mt, next := nx }) hm.to (r1.inv.setP (x := { C.at m.to with mat := mt, next := nx : Peer }.abs) (by rw [e]; exact Nat.le_refl _) (by rw [e]; rfl) (.inl (by rw [e]; exact Nat.le_refl _)) (fun _ => .inl (by rw [e]; exact ⟨rfl, rfl⟩)) (fun _ => .inr ⟨by rw [e]; rfl, by rw [e]; rfl, fun x => by (have x : (C.at m.to).role = 1 := x; rw [hr] at x; cases x), fun _ => g3⟩)) (Ext.setP _ _ _) (setP_self _ _ _) (fun q hq => setP_ne _ _ hq) ⟨hw.votes, fun _ => ⟨g2, g1, g4⟩⟩, c1.put (Nat.le_refl _) hm.to hlen⟩
      cases ho : m.ok with
      | true =>
        simp only [if_true]
        have ha := (hm1.acked k4 ho).1
        rw [ht] at ha
        have g1 : ∀ q, q < n → ((C.at m.to).mat.set m.frm (max ((C.at m.to).mat.getD m.frm 0) m.a)).getD q 0 ≤ s1.ack (C.at m.to).term q := fun q hq => by
          rw [getD_set _ _ _ _ _ (by rw [w2]; exact hm.frm)]
          by_cases z : q = m.frm
          · rw [if_pos z, z]
            exact Nat.max_le.2 ⟨hmat _ hm.frm, ha⟩
          · rw [if_neg z]; exact hmat q hq
        have g2 : ∀ q, q < n → 1 ≤ ((C.at m.to).next.set m.frm (max ((C.at m.to).next.getD m.frm 0) (m.a + 1))).getD q 0 ∧ ((C.at m.to).next.set m.frm (max ((C.at m.to).next.getD m.frm 0) (m.a + 1))).getD q 0 ≤ (C.at m.to).log.length + 1 := fun q hq => by
          rw [getD_set _ _ _ _ _ (by rw [w1]; exact hm.frm)]
          by_cases z : q = m.frm
          · rw [if_pos z]
            have := w3 m.frm hm.frm
            have := hal m.frm
            omega
          · rw [if_neg z]; exact w3 q hq
        obtain ⟨s2, r2, c2⟩ := gen _ _ (by simp [w2]) (by simp [w1]) g1 g2
        obtain ⟨s3, r3, c3, _⟩ := r2.commits c2 hm.to (by rw [at_put _ _ _ (by rw [hlen]; exact hm.to)]; exact hr)
        exact ⟨s3, r3, c3⟩
      | false =>
        simp only [Bool.false_eq_true, if_false]
        by_cases d2 : m.a + 1 < (C.at m.to).next.getD m.frm 0
        · rw [if_pos d2]
          obtain ⟨s2, r2, c2⟩ := gen (C.at m.to).mat ((C.at m.to).next.set m.frm (max ((C.at m.to).mat.getD m.frm 0 + 1) (m.a + 1))) w2 (by simp [w1]) hmat (fun q hq => by
            rw [getD_set _ _ _ _ _ (by rw [w1]; exact hm.frm)]
            by_cases z : q = m.frm
            · rw [if_pos z]
              have := w3 m.frm hm.frm
              have := hal m.frm
              have := hmat m.frm hm.frm
              omega
            · rw [if_neg z]; exact w3 q hq)
          exact ⟨s2, r2.records hm.to hm.frm hm.ne (by rw [at_put _ _ _ (by rw [hlen]; exact hm.to)]; exact hr), c2.send _⟩
        · rw [if_neg d2]; exact ⟨s1, r1, c1⟩
  · rw [if_neg k4]; exact ⟨s1, r1, c1⟩
theorem Rel.part {n : Nat} {c : Cl} {s : St} (h : Rel n c s) {net : List Msg} (hn : ∀ m, m ∈ net → m ∈ c.net) : Rel n { c with net := net } s := ⟨h.inv, h.len, h.abs, h.wf, fun m hm => h.msgs m (hn m hm), h.chosen, h.clash⟩
theorem Ext.propose {n : Nat} {s : St} (h : Inv n s) {p : Nat} (hp : p < n) (hr : (s.pr p).role = 2) (r : Rc) : Ext s (s.propose p r) := by
  obtain ⟨h1, h2, _⟩ := h.leader p hp hr
  refine ⟨fun _ _ _ e => e, fun _ _ _ e => e, fun _ _ e => e, fun U => ?_, fun _ _ => rfl, fun U q => ?_⟩
  · show ∃ t, (if U = (s.pr p).term then (s.pr p).log ++ [r] else s.llog U) = s.llog U ++ t
    by_cases d : U = (s.pr p).term
    · rw [if_pos d, d, ← h2]; exact ⟨[r], rfl⟩
    · rw [if_neg d]; exact ⟨[], by simp⟩
  · show s.ack U q ≤ (if U = (s.pr p).term ∧ q = p then (s.pr p).log.length + 1 else s.ack U q)
    split
    · next d =>
      have := h.ack_le U q
      rw [d.1, ← h2] at this
      rw [d.1]
      omega
    · exact Nat.le_refl _
theorem Rel.event {n : Nat} {c : Cl} {s : St} (h : Rel n c s) (hc : Cov n c) (e : Ev) : ∃ s', Rel n (c.event e).1 s' ∧ Cov n (c.event e).1 := by
  unfold Cl.event
  by_cases k : e.kind = 2 ∨ e.kind = 3 ∨ e.kind = 4
  · simp only [if_pos k]
    by_cases d : e.n < 0 ∨ (c.net.length : Int) ≤ e.n
    · simp only [if_pos d]; exact ⟨s, h, hc⟩
    · simp only [if_neg d]
      cases hm : c.net[e.n.toNat]? with
      | none => exact ⟨s, h, hc⟩
      | some m =>
        have hmem : m ∈ c.net := List.mem_of_getElem? hm
        have hpart := h.part (net := c.net.eraseIdx e.n.toNat) (fun x hx => List.mem_of_mem_eraseIdx hx)
        simp only
        by_cases k2 : e.kind = 2
        · simp only [if_pos k2]; exact hpart.deliver (c := { c with net := c.net.eraseIdx e.n.toNat }) hc (h.msgs m hmem)
        · simp only [if_neg k2]
          by_cases k3 : e.kind = 3
          · simp only [if_pos k3]; exact ⟨s, hpart, hc⟩
          · simp only [if_neg k3]; exact ⟨s, h.send (h.msgs m hmem), hc.send _⟩
  · simp only [if_neg k]
    by_cases k' : e.kind = 1 ∨ e.kind = 5 ∨ e.kind = 6 ∨ e.kind = 7
    · simp only [if_pos k']
      by_cases d : e.n < 0 ∨ (c.peers.length : Int) ≤ e.n
      · simp only [if_pos d]; exact ⟨s, h, hc⟩
      · simp only [if_neg d]
        have hlen := h.len
        have hk : e.n.toNat < n := by omega
        generalize e.n.toNat = p at hk ⊢
        have ea := h.abs p hk
        have hw := h.wf p hk
        by_cases u : (c.at p).up = decide (e.kind = 6)
        · simp only [if_pos u]; exact ⟨s, h, hc⟩
        simp only [if_neg u]
        by_cases k1 : e.kind = 1
        · simp only [if_pos k1]; exact h.tick hc hk
        simp only [if_neg k1]
        by_cases k5 : e.kind = 5
        · simp only [if_pos k5]
          exact ⟨_, h.lower (p := ⟨false, (c.at p).term, (c.at p).vote, 0, 0, (c.at p).log, [], [], []⟩) hk (Nat.le_refl _) rfl (Nat.zero_le _) (.inl ⟨rfl, rfl⟩) rfl, hc.put (Nat.zero_le _) hk hlen⟩
        simp only [if_neg k5]
        by_cases k6 : e.kind = 6
        · simp only [if_pos k6]
          exact ⟨s, h.move (p := { c.at p with up := true }) hk h.inv (Ext.refl s) (by rw [ea]; rfl) (fun _ _ => rfl) ⟨hw.votes, hw.lists⟩, hc.put (Nat.le_refl _) hk hlen⟩
        simp only [if_neg k6]
        by_cases r : (c.at p).role ≠ 2
        · simp only [if_pos r]; exact ⟨s, h, hc⟩
        simp only [if_neg r]
        by_cases z : 1000 < e.data.length ∨ (c.at p).log.length = 100
        · simp only [if_pos z]; exact ⟨s, h, hc⟩
        simp only [if_neg z]
        have hr : (c.at p).role = 2 := Classical.byContradiction r
        have hr2 : (s.pr p).role = 2 := by rw [ea]; exact hr
        obtain ⟨w1, w2, w3⟩ := hw.lists hr
        have hin := h.inv.propose (r := ⟨(c.at p).term, (c.at p).log.length + 1, e.data⟩) hk hr2 (by rw [ea]; rfl) (by rw [ea]; rfl)
        have hrel := h.move (p := { c.at p with log := (c.at p).log ++ [⟨(c.at p).term, (c.at p).log.length + 1, e.data⟩], mat := (c.at p).mat.set p ((c.at p).log.length + 1) }) hk hin (Ext.propose h.inv hk hr2 _) (by
          show (if p = p then _ else _) = _
          rw [if_pos rfl, ea]
          show Pr.mk _ _ _ _ _ _ _ = Pr.mk _ _ _ _ _ _ _
          congr 1
          funext q
          show (if q = p then (c.at p).log.length + 1 else (c.at p).mat.getD q 0) = ((c.at p).mat.set p ((c.at p).log.length + 1)).getD q 0
          rw [getD_set _ _ _ _ _ (by rw [w2]; exact hk)]) (fun q hq => by show (if q = p then _ else _) = _; rw [if_neg hq]) ⟨fun x => by (have x : (c.at p).role = 1 := x; rw [hr] at x; cases x), fun _ => ⟨w1, by simp [w2], fun q hq => by
            have := w3 q hq
            refine ⟨this.1, ?_⟩
            show (c.at p).next.getD q 0 ≤ ((c.at p).log ++ [_]).length + 1
            rw [List.length_append]
            omega⟩⟩
        obtain ⟨s3, r3, c3, _⟩ := hrel.commits (hc.put (Nat.le_refl _) hk hlen) hk (by rw [at_put _ _ _ (by rw [hlen]; exact hk)]; exact hr)
        exact ⟨s3, r3, c3⟩
    · simp only [if_neg k']; exact ⟨s, h, hc⟩
def Cl.run (c : Cl) : List Ev → Cl × List Int
  | [] => (c, [])
  | e :: es => (((c.event e).1.run es).1, (c.event e).2 :: ((c.event e).1.run es).2)
theorem at_begin (n p : Nat) (h : p < n) : (Cl.begin n).at p = { Peer.zero with up := true } := by simp [Cl.begin, Cl.at, List.getD, h]
theorem Rel.begin (n : Nat) : Rel n (Cl.begin n) St.begin ∧ Cov n (Cl.begin n) :=
  ⟨⟨Inv.begin n, by simp [Cl.begin], fun p hp => by rw [at_begin n p hp]; rfl, fun p hp => by rw [at_begin n p hp]; exact ⟨fun x => (by cases x), fun x => (by cases x)⟩, fun m hm => by simp [Cl.begin] at hm, ⟨0, .inl rfl⟩, rfl⟩, fun p hp => by rw [at_begin n p hp]; exact Nat.zero_le _⟩
def Keeps (c d : Cl) : Prop := ∃ t, d.chosen = c.chosen ++ t
theorem Keeps.refl (c : Cl) : Keeps c c := ⟨[], by simp⟩
theorem Keeps.of {c d : Cl} (h : d.chosen = c.chosen) : Keeps c d := ⟨[], by rw [h]; simp⟩
theorem Keeps.trans {c d e : Cl} (h : Keeps c d) (h2 : Keeps d e) : Keeps c e := by
  obtain ⟨t, ht⟩ := h
  obtain ⟨u, hu⟩ := h2
  exact ⟨t ++ u, by rw [hu, ht, List.append_assoc]⟩
theorem keeps_send (c : Cl) (m : Msg) : Keeps c (c.send m) := .of (send_chosen c m).1
theorem keeps_note (c : Cl) (k : Nat) : Keeps c (c.note k) := ⟨_, rfl⟩
theorem keeps_commits (c : Cl) (k : Nat) : Keeps c (c.commits k) := ⟨_, rfl⟩
theorem keeps_fold {α : Type} (f : Cl → α → Cl) (hf : ∀ c a, Keeps c (f c a)) : ∀ (l : List α) (c : Cl), Keeps c (l.foldl f c)
  | [], c => .refl c
  | a :: l, c => (hf c a).trans (keeps_fold f hf l (f c a))
theorem keeps_toAll (c : Cl) (k : Nat) : Keeps c (c.toAll k) := keeps_fold _ (fun _ _ => keeps_send _ _) _ _
theorem keeps_elected (c : Cl) (k : Nat) : Keeps c (c.elected k) := by
  unfold Cl.elected
  simp only
  split
  · exact Keeps.trans (d := c.put k _) (.of rfl) ((keeps_commits _ k).trans (keeps_toAll _ k))
  · exact .refl c
theorem keeps_tick (c : Cl) (k : Nat) : Keeps c (c.tick k) := by
  unfold Cl.tick
  simp only
  split
  · exact keeps_toAll c k
  · split
    · exact .refl c
    · exact Keeps.trans (d := c.put k _) (.of rfl) ((keeps_fold _ (fun _ _ => keeps_send _ _) _ _).trans (keeps_elected _ k))
theorem keeps_down (c : Cl) (k T : Nat) : Keeps c (c.down k T) := .of rfl
theorem keeps_appended (c : Cl) (m : Msg) : Keeps c (c.appended m) := by
  unfold Cl.appended
  simp only
  split
  · exact keeps_send _ _
  · split
    · exact (keeps_down c _ _).trans (keeps_send _ _)
    · exact (keeps_down c m.to m.term).trans (Keeps.trans (d := (c.down m.to m.term).put m.to _) (.of rfl) ((keeps_note _ m.to).trans (keeps_send _ _)))
theorem keeps_deliver (c : Cl) (m : Msg) : Keeps c (c.deliver m) := by
  unfold Cl.deliver
  split
  · exact .refl c
  · have h0 : Keeps c (if (c.at m.to).term < m.term then c.down m.to m.term else c) := by
      split
      · exact keeps_down c _ _
      · exact .refl c
    simp only
    generalize (if (c.at m.to).term < m.term then c.down m.to m.term else c) = C at h0 ⊢
    refine h0.trans ?_
    split
    · refine Keeps.trans (d := if _ then C.put m.to { C.at m.to with vote := m.frm + 1 } else C) ?_ (keeps_send _ _)
      split
      · exact .of rfl
      · exact .refl C
    split
    · split
      · exact Keeps.trans (d := C.put m.to _) (.of rfl) (keeps_elected _ m.to)
      · exact .refl C
    split
    · exact keeps_appended C m
    split
    · split
      · exact .refl C
      · split
        · exact Keeps.trans (d := C.put m.to _) (.of rfl) (keeps_commits _ m.to)
        · split
          · exact Keeps.trans (d := C.put m.to _) (.of rfl) (keeps_send _ _)
          · exact .refl C
    · exact .refl C
theorem keeps_event (c : Cl) (e : Ev) : Keeps c (c.event e).1 := by
  unfold Cl.event
  split
  · split
    · exact .refl c
    · split
      · exact .refl c
      · next m _ =>
        split
        · exact Keeps.trans (d := { c with net := c.net.eraseIdx e.n.toNat }) (.of rfl) (keeps_deliver _ m)
        · split
          · exact .of rfl
          · exact keeps_send c m
  · split
    · split
      · exact .refl c
      · simp only
        split
        · exact .refl c
        split
        · exact keeps_tick c _
        split
        · exact .of rfl
        split
        · exact .of rfl
        split
        · exact .refl c
        split
        · exact .refl c
        · exact Keeps.trans (d := c.put e.n.toNat _) (.of rfl) (keeps_commits _ _)
    · exact .refl c
theorem keeps_run : ∀ (es : List Ev) (c : Cl), Keeps c (c.run es).1
  | [], c => .refl c
  | e :: es, c => (keeps_event c e).trans (keeps_run es _)
theorem run_append : ∀ (es fs : List Ev) (c : Cl), (c.run (es ++ fs)).1 = (((c.run es).1).run fs).1
  | [], _, _ => rfl
  | e :: es, fs, c => run_append es fs (c.event e).1
theorem grows (c : Cl) (es : List Ev) (k : Nat) : ∃ t, (c.run es).1.chosen = (c.run (es.take k)).1.chosen ++ t := by
  have : (c.run es).1 = (((c.run (es.take k)).1).run (es.drop k)).1 := by rw [← run_append, List.take_append_drop]
  rw [this]
  exact keeps_run _ _
end Go.Proofs.Ytklkglbimjajnaa.Raft
namespace Go.Proofs.Ytklkglbimjajnaa.mem
open Go.ChangeShapes Go.WideShapes Go.ChangeAt Go.RowKit
open Raft
abbrev Fz := Nat → Option Obj
def In (M : Fz) (w : World) : Prop := ∀ b o, M b = some o → w.heap[b]? = some o
def Le (M M' : Fz) : Prop := ∀ b o, M b = some o → M' b = some o
def add (M : Fz) (b : Nat) (o : Obj) : Fz := fun x => if x = b then some o else M x
def cellM (M : Fz) (b i : Nat) : Option Value := match M b with
  | some (.cells cur _ _) => cur[i]?
  | _ => none
theorem Le.refl (M : Fz) : Le M M := fun _ _ h => h
theorem Le.trans {A B C : Fz} (h : Le A B) (k : Le B C) : Le A C := fun b o hb => k b o (h b o hb)
theorem Le.add {M : Fz} {b : Nat} (h : M b = none) (o : Obj) : Le M (add M b o) := fun x p hx => by
  unfold mem.add
  split
  · rename_i e; subst e; rw [h] at hx; cases hx
  · exact hx
theorem add_at (M : Fz) (b : Nat) (o : Obj) : add M b o b = some o := by simp [add]
theorem add_other {M : Fz} {b x : Nat} (h : x ≠ b) (o : Obj) : add M b o x = M x := by simp [add, h]
theorem In.cell {M : Fz} {w : World} (h : In M w) {b i : Nat} {v : Value} (hc : cellM M b i = some v) : w.cell? ⟨b, i, none⟩ = some v := by
  unfold cellM at hc
  split at hc
  · rename_i cur t fr e
    simp [World.cell?, h b _ e, hc]
  · cases hc
theorem Le.cell {M M' : Fz} (h : Le M M') {b i : Nat} {v : Value} (hc : cellM M b i = some v) : cellM M' b i = some v := by
  unfold cellM at hc ⊢
  split at hc
  · rename_i cur t fr e
    rw [h b _ e]
    exact hc
  · cases hc
theorem In.lt {M : Fz} {w : World} (h : In M w) {b : Nat} {o : Obj} (hb : M b = some o) : b < w.heap.size := (Array.getElem?_eq_some_iff.1 (h b o hb)).1
theorem In.fresh {M : Fz} {w : World} (h : In M w) {b : Nat} (hb : w.heap.size ≤ b) : M b = none := by
  cases e : M b with
  | none => rfl
  | some o => have := h.lt e; omega
theorem In.below {M : Fz} {w w' : World} (h : In M w) (hb : Below w.heap.size w w') : In M w' := fun b o e => (hb.block b (h.lt e)).trans (h b o e)
theorem In.grown {M : Fz} {w w' : World} {row : Option Nat} (h : In M w) (g : w.grownBy w' row) (hr : ∀ k, row = some k → M k = none) : In M w' := fun b o e => (g.block b (h.lt e) (fun e' => by rw [hr b e'.symm] at e; cases e)).trans (h b o e)
theorem In.set {M : Fz} {w : World} (h : In M w) {a : Addr} (ha : M a.block = none) (v : Value) : In M (w.setCell a v) := fun b o e => (Below.heap_setCell w a v b (fun e' => by rw [e', ha] at e; cases e)).trans (h b o e)
theorem In.add {M : Fz} {w : World} (h : In M w) {b : Nat} {o : Obj} (hb : w.heap[b]? = some o) : In (add M b o) w := fun x p hx => by
  unfold mem.add at hx
  split at hx
  · rename_i e; subst e; rw [hb]; exact hx
  · exact h x p hx
theorem cellM_in {M : Fz} {b i : Nat} {v : Value} (hc : cellM M b i = some v) : M b ≠ none := fun e => by simp [cellM, e] at hc
def RowM (M : Fz) (v : Value) (n sz : Nat) (xs : List Value) : Prop :=
  ∃ ao cap, v = .slice ao n cap ∧ n ≤ cap ∧ cap ≤ maxLen ∧ xs.length = n * sz ∧ (ao = none → n = 0 ∧ cap = 0) ∧
    (0 < n → ∃ b off, ao = some ⟨b, off, none⟩ ∧ ∀ i v, xs[i]? = some v → cellM M b (off + i) = some v)
theorem RowM.le {M M' : Fz} {v : Value} {n sz : Nat} {xs : List Value} (h : RowM M v n sz xs) (hl : Le M M') : RowM M' v n sz xs := by
  obtain ⟨ao, cap, rfl, h1, h2, h3, h4, h5⟩ := h
  refine ⟨ao, cap, rfl, h1, h2, h3, h4, fun hp => ?_⟩
  obtain ⟨b, off, rfl, hc⟩ := h5 hp
  exact ⟨b, off, rfl, fun i v hv => hl.cell (hc i v hv)⟩
theorem RowM.nil (M : Fz) (sz : Nat) : RowM M (.slice none 0 0) 0 sz [] := ⟨none, 0, rfl, Nat.le_refl _, by simp [maxLen], by simp, fun _ => ⟨rfl, rfl⟩, fun h => by omega⟩
theorem RowM.freeze {M : Fz} {w : World} {base e sz : Nat} {v : Value} {n : Nat} {xs : List Value} (h : w.ownsRow base e sz v n xs) (hI : In M w) (hM : ∀ g, v.ownBlock = some g → M g = none) :
    ∃ M', Le M M' ∧ In M' w ∧ RowM M' v n sz xs ∧ ∀ b, M' b ≠ none → M b ≠ none ∨ v.ownBlock = some b := by
  obtain ⟨h1, ⟨rfl, rfl⟩ | ⟨g, cap, cur, rfl, hb, hg, hnc, hcm, hcs, ht⟩⟩ := h
  · obtain rfl : xs = [] := List.length_eq_zero_iff.1 (by omega)
    exact ⟨M, Le.refl M, hI, RowM.nil M sz, fun b hb => .inl hb⟩
  · refine ⟨add M g (.cells cur e (0, 0)), Le.add (hM g rfl) _, hI.add hg, ⟨_, cap, rfl, hnc, hcm, h1, (fun h => by cases h), fun hp => ⟨g, 0, rfl, fun i v hv => ?_⟩⟩, fun b hb => ?_⟩
    · have hi : i < n * sz := by rw [← h1]; exact (List.getElem?_eq_some_iff.1 hv).1
      rw [← ht, List.getElem?_take_of_lt hi] at hv
      simp only [cellM, add_at, Nat.zero_add]
      simpa using hv
    · by_cases e : b = g
      · exact .inr (by simp [Value.ownBlock, e])
      · rw [add_other e] at hb; exact .inl hb
theorem flat_len {α : Type} (f : α → List Value) (sz : Nat) (hf : ∀ a, (f a).length = sz) : ∀ l : List α, (l.flatMap f).length = l.length * sz
  | [] => by simp
  | a :: l => by
    rw [List.flatMap_cons, List.length_append, hf, flat_len f sz hf l, List.length_cons, Nat.succ_mul]
    omega
theorem flat_get {α : Type} (f : α → List Value) (sz : Nat) (hf : ∀ a, (f a).length = sz) : ∀ (l : List α) (k j : Nat) (a : α), l[k]? = some a → j < sz → (l.flatMap f)[k * sz + j]? = (f a)[j]?
  | [], k, j, a, h, _ => by simp at h
  | x :: l, 0, j, a, h, hj => by
    simp only [List.getElem?_cons_zero, Option.some.injEq] at h
    subst h
    rw [List.flatMap_cons, Nat.zero_mul, Nat.zero_add, List.getElem?_append_left (by rw [hf]; exact hj)]
  | x :: l, k + 1, j, a, h, hj => by
    rw [List.getElem?_cons_succ] at h
    rw [List.flatMap_cons, List.getElem?_append_right (by rw [hf, Nat.succ_mul]; omega), hf, ← flat_get f sz hf l k j a h hj]
    congr 1
    rw [Nat.succ_mul]
    omega
def BytesM (M : Fz) (v : Value) (xs : List Int) : Prop := RowM M v xs.length 1 (xs.map (Value.int .u8)) ∧ ∀ x ∈ xs, 0 ≤ x ∧ x ≤ 255
theorem BytesM.le {M M' : Fz} {v : Value} {xs : List Int} (h : BytesM M v xs) (hl : Le M M') : BytesM M' v xs := ⟨h.1.le hl, h.2⟩
structure RV where
  r : Rc
  dv : Value
def recCells (x : RV) : List Value := [.int .i64 x.r.term, .int .i64 x.r.index, x.dv]
theorem recCells_len (x : RV) : (recCells x).length = 3 := rfl
def RecsV (M : Fz) (v : Value) (us : List RV) : Prop := RowM M v us.length 3 (us.flatMap recCells) ∧ ∀ x ∈ us, BytesM M x.dv x.r.data ∧ x.r.data.length ≤ 1000
def RecsM (M : Fz) (v : Value) (l : List Rc) : Prop := ∃ us, us.map (·.r) = l ∧ RecsV M v us
theorem RecsV.le {M M' : Fz} {v : Value} {us : List RV} (h : RecsV M v us) (hl : Le M M') : RecsV M' v us := ⟨h.1.le hl, fun x hx => ⟨(h.2 x hx).1.le hl, (h.2 x hx).2⟩⟩
theorem RecsM.le {M M' : Fz} {v : Value} {l : List Rc} (h : RecsM M v l) (hl : Le M M') : RecsM M' v l := by
  obtain ⟨us, h1, h2⟩ := h
  exact ⟨us, h1, h2.le hl⟩
theorem RecsM.nil (M : Fz) : RecsM M (.slice none 0 0) [] := ⟨[], rfl, RowM.nil M 3, by simp⟩
structure MV where
  m : Msg
  lv : Value
def msgCells (x : MV) : List Value := [.int .i64 x.m.kind, .int .i64 x.m.frm, .int .i64 x.m.to, .int .i64 x.m.term, .int .i64 x.m.a, .int .i64 x.m.b, .int .i64 x.m.c, .bool x.m.ok, x.lv]
theorem msgCells_len (x : MV) : (msgCells x).length = 9 := rfl
def MsgsV (M : Fz) (v : Value) (us : List MV) : Prop := RowM M v us.length 9 (us.flatMap msgCells) ∧ ∀ x ∈ us, RecsM M x.lv x.m.log
theorem MsgsV.le {M M' : Fz} {v : Value} {us : List MV} (h : MsgsV M v us) (hl : Le M M') : MsgsV M' v us := ⟨h.1.le hl, fun x hx => (h.2 x hx).le hl⟩
end Go.Proofs.Ytklkglbimjajnaa.mem
namespace Go.Proofs.Ytklkglbimjajnaa.grp
open Go.ChangeShapes Go.WideShapes Go.ChangeAt Go.RowKit
open Raft mem
theorem hide {p : Prop} (h : p) : Hid p := h
theorem cell_of {w : World} {b i : Nat} {cur : Array Value} {t : Nat} {v : Value} (h : w.heap[b]? = some (.cells cur t (0, 0))) (hv : cur[i]? = some v) : w.cell? ⟨b, i, none⟩ = some v := by simp [World.cell?, h, hv]
theorem frozen_of {w : World} {b : Nat} {cur : Array Value} {t : Nat} (h : w.heap[b]? = some (.cells cur t (0, 0))) (i : Nat) : w.frozen? ⟨b, i, none⟩ = false := by simp [World.frozen?, h]
theorem kept {w w' : World} {B k : Nat} {o : Obj} (h : Below B w w') (hk : w.heap[k]? = some o) (hB : w.heap.size ≤ B) : w'.heap[k]? = some o := (h.block k (by have := (Array.getElem?_eq_some_iff.1 hk).1; omega)).trans hk
theorem more {W wx : World} (h : Below W.heap.size W wx) (o : Obj) : Below W.heap.size W (wx.alloc o) := h.alloc h.size o
theorem addr_add (b off i : Nat) : (⟨b, off, none⟩ : Addr).add i = ⟨b, off + i, none⟩ := by
  unfold Addr.add
  split
  · rename_i h; subst h; rfl
  · rfl
theorem set_at {w : World} {b t : Nat} {cur cur' : Array Value} (h : w.heap[b]? = some (.cells cur t (0, 0))) (i : Nat) (x : Value) (hc : cur.setIfInBounds i x = cur') : (w.setCell ⟨b, i, none⟩ x).heap[b]? = some (.cells cur' t (0, 0)) := by
  subst hc
  exact heap_setCell_same w b i cur t x h
theorem row_kept {w w' : World} {base e sz : Nat} {v : Value} {n : Nat} {xs : List Value} (h : w.ownsRow base e sz v n xs) (hk : ∀ g, v.ownBlock = some g → w'.heap[g]? = w.heap[g]?) : w'.ownsRow base e sz v n xs := by
  obtain ⟨h1, h2 | ⟨g, cap, cur, rfl, hb, hg, r⟩⟩ := h
  · exact ⟨h1, .inl h2⟩
  · exact ⟨h1, .inr ⟨g, cap, cur, rfl, hb, (hk g rfl).trans hg, r⟩⟩
theorem row_lt {w : World} {base e sz : Nat} {v : Value} {n : Nat} {xs : List Value} (h : w.ownsRow base e sz v n xs) {g : Nat} (hg : v.ownBlock = some g) : base ≤ g ∧ g < w.heap.size := by
  obtain ⟨h1, ⟨rfl, _⟩ | ⟨g', cap, cur, rfl, hb, hh, _⟩⟩ := h
  · simp [Value.ownBlock] at hg
  · simp only [Value.ownBlock, Option.some.injEq] at hg
    subst hg
    exact ⟨hb, (Array.getElem?_eq_some_iff.1 hh).1⟩
theorem own_slice {w : World} {base e sz : Nat} {v : Value} {n : Nat} {xs : List Value} (h : w.ownsRow base e sz v n xs) : ∃ o c, v = .slice o n c := by
  obtain ⟨_, ⟨e1, e2⟩ | ⟨g, cap, cur, e1, _⟩⟩ := h
  · subst e2; exact ⟨_, _, e1⟩
  · exact ⟨_, _, e1⟩
theorem own_at {w : World} {base e sz : Nat} {v : Value} {n : Nat} {xs : List Value} (h : w.ownsRow base e sz v n xs) (hn : 0 < n) : ∃ g cap, v = .slice (some ⟨g, 0, none⟩) n cap ∧ n ≤ cap ∧ cap ≤ maxLen ∧ (∀ i u, xs[i]? = some u → w.cell? ⟨g, i, none⟩ = some u) ∧ ∀ i, w.frozen? ⟨g, i, none⟩ = false := by
  obtain ⟨h1, ⟨_, e2⟩ | ⟨g, cap, cur, e1, hb, hh, hc, hm, hs, ht⟩⟩ := h
  · omega
  · refine ⟨g, cap, e1, hc, hm, fun i u hu => cell_of hh ?_, fun i => frozen_of hh i⟩
    have hi : i < n * sz := by rw [← h1]; exact (List.getElem?_eq_some_iff.1 hu).1
    rw [← ht, List.getElem?_take_of_lt hi] at hu
    simpa using hu
theorem own_cap {w : World} {base e sz : Nat} {o : Option Addr} {m c n : Nat} {xs : List Value} (h : w.ownsRow base e sz (.slice o m c) n xs) : m = n ∧ n ≤ c ∧ c ≤ maxLen := by
  obtain ⟨_, ⟨e1, e2⟩ | ⟨g, cap, cur, e1, hb, hh, hc, hm, hs, ht⟩⟩ := h
  · simp only [Value.slice.injEq] at e1
    obtain ⟨_, rfl, rfl⟩ := e1
    exact ⟨e2.symm, by omega, by simp [maxLen]⟩
  · simp only [Value.slice.injEq] at e1
    obtain ⟨_, rfl, rfl⟩ := e1
    exact ⟨rfl, hc, hm⟩
abbrev Lb := Nat → Option Nat
def lab (O : Lb) (b l : Nat) : Lb := fun x => if x = b then some l else O x
theorem lab_at (O : Lb) (b l : Nat) : lab O b l b = some l := by simp [lab]
theorem lab_ne (O : Lb) {b x : Nat} (l : Nat) (h : x ≠ b) : lab O b l x = O x := by simp [lab, h]
structure Sta (M : Fz) (O : Lb) (w : World) : Prop where
  inn : In M w
  ok : ∀ b l, O b = some l → M b = none ∧ b < w.heap.size
structure Aft (S : Nat → Prop) (M : Fz) (O : Lb) (w : World) (M' : Fz) (O' : Lb) (w' : World) : Prop where
  os : w'.os = w.os
  tape : w'.tape = w.tape
  output : w'.output = w.output
  size : w.heap.size ≤ w'.heap.size
  le : Le M M'
  inn : In M' w'
  lab : ∀ b, b < w.heap.size → O' b = O b
  ok : ∀ b l, O' b = some l → M' b = none ∧ b < w'.heap.size
  newM : ∀ b, M' b ≠ none → M b ≠ none ∨ w.heap.size ≤ b
  newL : ∀ b l, w.heap.size ≤ b → O' b = some l → S l
  keep : ∀ b, b < w.heap.size → (∀ l, O b = some l → ¬ S l) → w'.heap[b]? = w.heap[b]?
section
variable {S : Nat → Prop} {M M' M'' : Fz} {O O' O'' : Lb} {w w' w'' : World}
theorem Aft.sta (h : Aft S M O w M' O' w') : Sta M' O' w' := ⟨h.inn, h.ok⟩
theorem Aft.refl (S : Nat → Prop) (h : Sta M O w) : Aft S M O w M O w :=
  ⟨rfl, rfl, rfl, Nat.le_refl _, Le.refl _, h.inn, fun _ _ => rfl, h.ok, fun _ hb => .inl hb, fun b l hb hl => by have := (h.ok b l hl).2; omega, fun _ _ _ => rfl⟩
theorem Aft.trans (h : Aft S M O w M' O' w') (k : Aft S M' O' w' M'' O'' w'') : Aft S M O w M'' O'' w'' where
  os := k.os.trans h.os
  tape := k.tape.trans h.tape
  output := k.output.trans h.output
  size := Nat.le_trans h.size k.size
  le := h.le.trans k.le
  inn := k.inn
  lab := fun b hb => (k.lab b (Nat.lt_of_lt_of_le hb h.size)).trans (h.lab b hb)
  ok := k.ok
  newM := fun b hb => by
    rcases k.newM b hb with h1 | h1
    · exact h.newM b h1
    · exact .inr (Nat.le_trans h.size h1)
  newL := fun b l hb hl => by
    by_cases hlt : b < w'.heap.size
    · rw [k.lab b hlt] at hl; exact h.newL b l hb hl
    · exact k.newL b l (by omega) hl
  keep := fun b hb hs => (k.keep b (Nat.lt_of_lt_of_le hb h.size) (fun l hl => hs l (by rw [← h.lab b hb]; exact hl))).trans (h.keep b hb hs)
theorem Aft.mono {S' : Nat → Prop} (h : Aft S M O w M' O' w') (hs : ∀ l, S l → S' l) : Aft S' M O w M' O' w' :=
  ⟨h.os, h.tape, h.output, h.size, h.le, h.inn, h.lab, h.ok, h.newM, fun b l hb hl => hs l (h.newL b l hb hl), fun b hb hk => h.keep b hb (fun l hl hS => hk l hl (hs l hS))⟩
theorem Aft.below (h : Aft S M O w M' O' w') (hb : Below w'.heap.size w' w'') : Aft S M O w M' O' w'' where
  os := hb.os.trans h.os
  tape := hb.tape.trans h.tape
  output := hb.output.trans h.output
  size := Nat.le_trans h.size hb.size
  le := h.le
  inn := h.inn.below hb
  lab := h.lab
  ok := fun b l hl => ⟨(h.ok b l hl).1, Nat.lt_of_lt_of_le (h.ok b l hl).2 hb.size⟩
  newM := h.newM
  newL := h.newL
  keep := fun b hlt hs => (hb.block b (Nat.lt_of_lt_of_le hlt h.size)).trans (h.keep b hlt hs)
theorem Aft.alloc (h : Aft S M O w M' O' w') (o : Obj) : Aft S M O w M' O' (w'.alloc o) := h.below ((Below.refl _ _).alloc (Nat.le_refl _) o)
theorem Aft.set (h : Aft S M O w M' O' w') {b l : Nat} (hl : O' b = some l) (hs : S l) (i : Nat) (v : Value) : Aft S M O w M' O' (w'.setCell ⟨b, i, none⟩ v) where
  os := h.os
  tape := h.tape
  output := h.output
  size := by simpa using h.size
  le := h.le
  inn := h.inn.set (h.ok b l hl).1 v
  lab := h.lab
  ok := fun b' l' hl' => ⟨(h.ok b' l' hl').1, by simpa using (h.ok b' l' hl').2⟩
  newM := h.newM
  newL := h.newL
  keep := fun b' hlt hk => (Below.heap_setCell w' ⟨b, i, none⟩ v b' (fun e => by
    subst e
    exact hk l (by rw [← h.lab b' hlt]; exact hl) hs)).trans (h.keep b' hlt hk)
theorem Aft.grown (h : Aft S M O w M' O' w') {row : Option Nat} (g : w'.grownBy w'' row) (hr : ∀ b, row = some b → ∃ l, O' b = some l ∧ S l) : Aft S M O w M' O' w'' where
  os := g.os.trans h.os
  tape := g.tape.trans h.tape
  output := g.output.trans h.output
  size := Nat.le_trans h.size g.size
  le := h.le
  inn := h.inn.grown g (fun k hk => by
    obtain ⟨l, h1, _⟩ := hr k hk
    exact (h.ok k l h1).1)
  lab := h.lab
  ok := fun b l hl => ⟨(h.ok b l hl).1, Nat.lt_of_lt_of_le (h.ok b l hl).2 g.size⟩
  newM := h.newM
  newL := h.newL
  keep := fun b hlt hk => (g.block b (Nat.lt_of_lt_of_le hlt h.size) (fun e => by
    obtain ⟨l, h1, h2⟩ := hr b e.symm
    exact hk l (by rw [← h.lab b hlt]; exact h1) h2)).trans (h.keep b hlt hk)
theorem Aft.freezes {M2 : Fz} (h : Aft S M O w M' O' w') (hl : Le M' M2) (hI : In M2 w') (hn : ∀ b, M2 b ≠ none → M' b ≠ none ∨ w.heap.size ≤ b) (hf : ∀ b l, O' b = some l → M2 b = none) : Aft S M O w M2 O' w' where
  os := h.os
  tape := h.tape
  output := h.output
  size := h.size
  le := h.le.trans hl
  inn := hI
  lab := h.lab
  ok := fun x l hx => ⟨hf x l hx, (h.ok x l hx).2⟩
  newM := fun x hx => by
    rcases hn x hx with h1 | h1
    · exact h.newM x h1
    · exact .inr h1
  newL := h.newL
  keep := h.keep
theorem Aft.label (h : Aft S M O w M' O' w') {b l : Nat} (hb : w.heap.size ≤ b) (hlt : b < w'.heap.size) (hm : M' b = none) (hs : S l) : Aft S M O w M' (grp.lab O' b l) w' where
  os := h.os
  tape := h.tape
  output := h.output
  size := h.size
  le := h.le
  inn := h.inn
  lab := fun x hx => (lab_ne O' l (by omega)).trans (h.lab x hx)
  ok := fun x l' hx => by
    by_cases e : x = b
    · subst e; exact ⟨hm, hlt⟩
    · rw [lab_ne O' l e] at hx; exact h.ok x l' hx
  newM := h.newM
  newL := fun x l' hx hl' => by
    by_cases e : x = b
    · subst e; rw [lab_at] at hl'; exact (Option.some.inj hl') ▸ hs
    · rw [lab_ne O' l e] at hl'; exact h.newL x l' hx hl'
  keep := h.keep
theorem Sta.fresh (h : Sta M O w) {b : Nat} (hb : w.heap.size ≤ b) : O b = none ∧ M b = none := by
  refine ⟨?_, h.inn.fresh hb⟩
  cases e : O b with
  | none => rfl
  | some l => have := (h.ok b l e).2; omega
theorem Sta.below (h : Sta M O w) (hb : Below w.heap.size w w') : Sta M O w' := ((Aft.refl (fun _ => True) h).below hb).sta
end
structure Nd (w : World) (M : Fz) (O : Lb) (b k : Nat) (p : Peer) (us : List RV) (lv vv nv mv : Value) : Prop where
  blk : w.heap[b]? = some (.cells #[.int .i64 p.term, .int .i64 p.vote, lv, .int .i64 k, .bool p.up, .int .i64 p.commit, .int .i64 p.role, vv, nv, mv] 110 (0, 0))
  own : O b = some (3 + k)
  log : w.ownsRow 0 38 3 lv us.length (us.flatMap recCells)
  recs : us.map (·.r) = p.log
  data : ∀ x ∈ us, BytesM M x.dv x.r.data ∧ x.r.data.length ≤ 1000
  votes : w.ownsRow 0 4 1 vv p.votes.length (p.votes.map Value.bool)
  next : w.ownsRow 0 3 1 nv p.next.length (p.next.map fun (n : Nat) => Value.int .i64 (n : Int))
  mat : w.ownsRow 0 3 1 mv p.mat.length (p.mat.map fun (n : Nat) => Value.int .i64 (n : Int))
  lab : ∀ v ∈ [lv, vv, nv, mv], ∀ g, v.ownBlock = some g → O g = some (3 + k)
  apart : ∀ g, nv.ownBlock = some g → mv.ownBlock ≠ some g
def Nod (w : World) (M : Fz) (O : Lb) (b k : Nat) (p : Peer) : Prop := ∃ us lv vv nv mv, Nd w M O b k p us lv vv nv mv
theorem type_ne {w : World} {base e sz : Nat} {v : Value} {n : Nat} {xs : List Value} (h : w.ownsRow base e sz v n xs) {b : Nat} {cur : Array Value} {t : Nat} (hb : w.heap[b]? = some (.cells cur t (0, 0))) (ht : t ≠ e) : v.ownBlock ≠ some b := fun hg => by
  obtain ⟨h1, ⟨rfl, _⟩ | ⟨g', cap, cur', rfl, _, hh, _⟩⟩ := h
  · simp [Value.ownBlock] at hg
  · simp only [Value.ownBlock, Option.some.injEq] at hg
    subst hg
    rw [hb] at hh
    simp only [Option.some.injEq, Obj.cells.injEq] at hh
    exact ht hh.2.1
section
variable {w w' : World} {M M' : Fz} {O O' : Lb} {b k : Nat} {p p' : Peer} {us : List RV} {lv vv nv mv : Value}
theorem Nd.keep (h : Nd w M O b k p us lv vv nv mv) (hk : ∀ x, O x = some (3 + k) → w'.heap[x]? = w.heap[x]?) (hl : Le M M') (ho : ∀ x, O x = some (3 + k) → O' x = some (3 + k)) : Nd w' M' O' b k p us lv vv nv mv where
  blk := (hk b h.own).trans h.blk
  own := ho b h.own
  log := row_kept h.log fun g hg => hk g (h.lab lv (by simp) g hg)
  recs := h.recs
  data := fun x hx => ⟨(h.data x hx).1.le hl, (h.data x hx).2⟩
  votes := row_kept h.votes fun g hg => hk g (h.lab vv (by simp) g hg)
  next := row_kept h.next fun g hg => hk g (h.lab nv (by simp) g hg)
  mat := row_kept h.mat fun g hg => hk g (h.lab mv (by simp) g hg)
  lab := fun v hv g hg => ho g (h.lab v hv g hg)
  apart := h.apart
theorem Nd.ne (h : Nd w M O b k p us lv vv nv mv) : lv.ownBlock ≠ some b ∧ vv.ownBlock ≠ some b ∧ nv.ownBlock ≠ some b ∧ mv.ownBlock ≠ some b :=
  ⟨type_ne h.log h.blk (by decide), type_ne h.votes h.blk (by decide), type_ne h.next h.blk (by decide), type_ne h.mat h.blk (by decide)⟩
theorem Nd.put (h : Nd w M O b k p us lv vv nv mv) (p' : Peer) {vv' nv' mv' : Value} (hb : w'.heap[b]? = some (.cells #[.int .i64 p'.term, .int .i64 p'.vote, lv, .int .i64 k, .bool p'.up, .int .i64 p'.commit, .int .i64 p'.role, vv', nv', mv'] 110 (0, 0)))
    (hk : ∀ x, x ≠ b → w'.heap[x]? = w.heap[x]?) (hl : p'.log = p.log) (hv : (vv' = vv ∧ p'.votes = p.votes) ∨ (vv' = .slice none 0 0 ∧ p'.votes = [])) (hn : (nv' = nv ∧ p'.next = p.next) ∨ (nv' = .slice none 0 0 ∧ p'.next = []))
    (hm : (mv' = mv ∧ p'.mat = p.mat) ∨ (mv' = .slice none 0 0 ∧ p'.mat = [])) : Nd w' M O b k p' us lv vv' nv' mv' := by
  obtain ⟨n1, n2, n3, n4⟩ := h.ne
  have r1 := row_kept (w' := w') h.log fun g hg => hk g (fun e => n1 (e ▸ hg))
  have r2 := row_kept (w' := w') h.votes fun g hg => hk g (fun e => n2 (e ▸ hg))
  have r3 := row_kept (w' := w') h.next fun g hg => hk g (fun e => n3 (e ▸ hg))
  have r4 := row_kept (w' := w') h.mat fun g hg => hk g (fun e => n4 (e ▸ hg))
  refine ⟨hb, h.own, r1, by rw [hl]; exact h.recs, h.data, ?_, ?_, ?_, ?_, ?_⟩
  · rcases hv with ⟨rfl, e⟩ | ⟨rfl, e⟩
    · rw [e]; exact r2
    · rw [e]; exact World.ownsRow_nil w' 0 4 1
  · rcases hn with ⟨rfl, e⟩ | ⟨rfl, e⟩
    · rw [e]; exact r3
    · rw [e]; exact World.ownsRow_nil w' 0 3 1
  · rcases hm with ⟨rfl, e⟩ | ⟨rfl, e⟩
    · rw [e]; exact r4
    · rw [e]; exact World.ownsRow_nil w' 0 3 1
  · intro v hv' g hg
    simp only [List.mem_cons, List.not_mem_nil, or_false] at hv'
    rcases hv' with rfl | rfl | rfl | rfl
    · exact h.lab _ (by simp) g hg
    · rcases hv with ⟨rfl, _⟩ | ⟨rfl, _⟩
      · exact h.lab _ (by simp) g hg
      · simp [Value.ownBlock] at hg
    · rcases hn with ⟨rfl, _⟩ | ⟨rfl, _⟩
      · exact h.lab _ (by simp) g hg
      · simp [Value.ownBlock] at hg
    · rcases hm with ⟨rfl, _⟩ | ⟨rfl, _⟩
      · exact h.lab _ (by simp) g hg
      · simp [Value.ownBlock] at hg
  · intro g hg
    rcases hn with ⟨rfl, _⟩ | ⟨rfl, _⟩
    · rcases hm with ⟨rfl, _⟩ | ⟨rfl, _⟩
      · exact h.apart g hg
      · simp [Value.ownBlock]
    · simp [Value.ownBlock] at hg
end
def letter (x : MV) (nx : Option Nat) : Array Value := #[.int .i64 x.m.kind, .int .i64 x.m.frm, .int .i64 x.m.to, .int .i64 x.m.term, .int .i64 x.m.a, .int .i64 x.m.b, .int .i64 x.m.c, .bool x.m.ok, x.lv, .pointer (nx.map fun b => ⟨b, 0, none⟩)]
def mv0 : MV := ⟨⟨0, 0, 0, 0, 0, 0, 0, false, []⟩, .slice none 0 0⟩
structure Pst (w : World) (M : Fz) (O : Lb) (hd : Nat) (bs : List Nat) (us : List MV) : Prop where
  len : bs.length = us.length
  nodup : (hd :: bs).Nodup
  lab : ∀ b ∈ hd :: bs, O b = some 2
  blk : ∀ (i b : Nat) (x : MV), (hd :: bs)[i]? = some b → (mv0 :: us)[i]? = some x → w.heap[b]? = some (.cells (letter x bs[i]?) 100 (0, 0))
  logs : ∀ x ∈ us, RecsM M x.lv x.m.log
theorem Pst.keep {w w' : World} {M M' : Fz} {O O' : Lb} {hd : Nat} {bs : List Nat} {us : List MV} (h : Pst w M O hd bs us) (hk : ∀ x, O x = some 2 → w'.heap[x]? = w.heap[x]?) (hl : Le M M') (ho : ∀ x, O x = some 2 → O' x = some 2) : Pst w' M' O' hd bs us where
  len := h.len
  nodup := h.nodup
  lab := fun b hb => ho b (h.lab b hb)
  blk := fun i b x hb hx => (hk b (h.lab b (List.mem_iff_getElem?.2 ⟨i, hb⟩))).trans (h.blk i b x hb hx)
  logs := fun x hx => (h.logs x hx).le hl
structure Chs (w : World) (M : Fz) (O : Lb) (cv : Value) (cs : List RV) : Prop where
  row : w.ownsRow 0 38 3 cv cs.length (cs.flatMap recCells)
  lab : ∀ g, cv.ownBlock = some g → O g = some 1
  data : ∀ x ∈ cs, BytesM M x.dv x.r.data ∧ x.r.data.length ≤ 1000
theorem Chs.keep {w w' : World} {M M' : Fz} {O O' : Lb} {cv : Value} {cs : List RV} (h : Chs w M O cv cs) (hk : ∀ x, O x = some 1 → w'.heap[x]? = w.heap[x]?) (hl : Le M M') (ho : ∀ x, O x = some 1 → O' x = some 1) : Chs w' M' O' cv cs :=
  ⟨row_kept h.row fun g hg => hk g (h.lab g hg), fun g hg => ho g (h.lab g hg), fun x hx => ⟨(h.data x hx).1.le hl, (h.data x hx).2⟩⟩
structure Gr (w : World) (M : Fz) (O : Lb) (d hd : Nat) (nb : List Nat) (c : Cl) (pv cv : Value) (bs : List Nat) (us : List MV) (cs : List RV) : Prop where
  st : Sta M O w
  blk : w.heap[d]? = some (.cells #[.pointer (some ⟨hd, 0, none⟩), .int .i64 us.length, pv, cv, .bool c.conflict] 105 (0, 0))
  own : O d = some 0
  peers : RowM M pv nb.length 1 (nb.map fun b => Value.pointer (some ⟨b, 0, none⟩))
  len : nb.length = c.peers.length
  nodes : ∀ (k b : Nat) (p : Peer), nb[k]? = some b → c.peers[k]? = some p → Nod w M O b k p
  post : Pst w M O hd bs us
  nets : us.map (·.m) = c.net
  chos : Chs w M O cv cs
  chosen : cs.map (·.r) = c.chosen
def G (w : World) (M : Fz) (O : Lb) (d : Nat) (nb : List Nat) (c : Cl) : Prop := ∃ hd pv cv bs us cs, Gr w M O d hd nb c pv cv bs us cs
section
variable {w w' : World} {M M' : Fz} {O O' : Lb} {d hd : Nat} {nb : List Nat} {c : Cl} {pv cv : Value} {bs : List Nat} {us : List MV} {cs : List RV}
theorem lab_of {S : Nat → Prop} (h : Sta M O w) (a : Aft S M O w M' O' w') {l : Nat} : ∀ x, O x = some l → O' x = some l := fun x hx => (a.lab x (h.ok x l hx).2).trans hx
theorem keep_of {S : Nat → Prop} (h : Sta M O w) (a : Aft S M O w M' O' w') {l : Nat} (hl : ¬ S l) : ∀ x, O x = some l → w'.heap[x]? = w.heap[x]? := fun x hx => a.keep x (h.ok x l hx).2 (fun l' hl' => by rw [hx] at hl'; exact (Option.some.inj hl') ▸ hl)
theorem Gr.node (h : Gr w M O d hd nb c pv cv bs us cs) {k b : Nat} {p' : Peer} (hb : nb[k]? = some b) (a : Aft (· = 3 + k) M O w M' O' w') (hn : Nod w' M' O' b k p') : Gr w' M' O' d hd nb (c.put k p') pv cv bs us cs where
  st := a.sta
  blk := (keep_of h.st a (by omega) d h.own).trans h.blk
  own := lab_of h.st a d h.own
  peers := h.peers.le a.le
  len := by simp [Cl.put]; exact h.len
  nodes := fun j b' p hb' hp => by
    by_cases e : j = k
    · subst e
      have e1 : b' = b := by rw [hb] at hb'; exact (Option.some.inj hb').symm
      have hlt : j < c.peers.length := by have := (List.getElem?_eq_some_iff.1 hb).1; rw [h.len] at this; exact this
      simp only [Cl.put, List.getElem?_set_self hlt, Option.some.injEq] at hp
      subst e1 hp
      exact hn
    · simp only [Cl.put] at hp
      rw [List.getElem?_set_ne (Ne.symm e)] at hp
      obtain ⟨us', lv, vv, nv, mv, hnd⟩ := h.nodes j b' p hb' hp
      exact ⟨us', lv, vv, nv, mv, hnd.keep (keep_of h.st a (by omega)) a.le (lab_of h.st a)⟩
  post := h.post.keep (keep_of h.st a (by omega)) a.le (lab_of h.st a)
  nets := h.nets
  chos := h.chos.keep (keep_of h.st a (by omega)) a.le (lab_of h.st a)
  chosen := h.chosen
theorem Gr.keep (h : Gr w M O d hd nb c pv cv bs us cs) (a : Aft (fun _ => False) M O w M' O' w') : Gr w' M' O' d hd nb c pv cv bs us cs where
  st := a.sta
  blk := (keep_of h.st a (fun x => x) d h.own).trans h.blk
  own := lab_of h.st a d h.own
  peers := h.peers.le a.le
  len := h.len
  nodes := fun j b' p hb' hp => by
    obtain ⟨us', lv, vv, nv, mv, hnd⟩ := h.nodes j b' p hb' hp
    exact ⟨us', lv, vv, nv, mv, hnd.keep (keep_of h.st a (fun x => x)) a.le (lab_of h.st a)⟩
  post := h.post.keep (keep_of h.st a (fun x => x)) a.le (lab_of h.st a)
  nets := h.nets
  chos := h.chos.keep (keep_of h.st a (fun x => x)) a.le (lab_of h.st a)
  chosen := h.chosen
theorem Gr.part (h : Gr w M O d hd nb c pv cv bs us cs) {c' : Cl} {cv' : Value} {bs' : List Nat} {us' : List MV} {cs' : List RV} (a : Aft (fun l => l < 3) M O w M' O' w') (hp : c'.peers = c.peers)
    (hb : w'.heap[d]? = some (.cells #[.pointer (some ⟨hd, 0, none⟩), .int .i64 us'.length, pv, cv', .bool c'.conflict] 105 (0, 0))) (hpost : Pst w' M' O' hd bs' us') (hn : us'.map (·.m) = c'.net) (hc : Chs w' M' O' cv' cs') (hch : cs'.map (·.r) = c'.chosen) : Gr w' M' O' d hd nb c' pv cv' bs' us' cs' where
  st := a.sta
  blk := hb
  own := lab_of h.st a d h.own
  peers := h.peers.le a.le
  len := by rw [hp]; exact h.len
  nodes := fun j b' p hb' hp' => by
    rw [hp] at hp'
    obtain ⟨us', lv, vv, nv, mv, hnd⟩ := h.nodes j b' p hb' hp'
    exact ⟨us', lv, vv, nv, mv, hnd.keep (keep_of h.st a (by omega)) a.le (lab_of h.st a)⟩
  post := hpost
  nets := hn
  chos := hc
  chosen := hch
theorem G.sta (h : G w M O d nb c) : Sta M O w := by obtain ⟨_, _, _, _, _, _, h⟩ := h; exact h.st
theorem G.keep (h : G w M O d nb c) (a : Aft (fun _ => False) M O w M' O' w') : G w' M' O' d nb c := by
  obtain ⟨_, _, _, _, _, _, h⟩ := h
  exact ⟨_, _, _, _, _, _, h.keep a⟩
theorem G.below (h : G w M O d nb c) (hb : Below w.heap.size w w') : G w' M O d nb c := h.keep ((Aft.refl _ h.sta).below hb)
theorem G.node (h : G w M O d nb c) {k b : Nat} {p' : Peer} (hb : nb[k]? = some b) (a : Aft (· = 3 + k) M O w M' O' w') (hn : Nod w' M' O' b k p') : G w' M' O' d nb (c.put k p') := by
  obtain ⟨_, _, _, _, _, _, h⟩ := h
  exact ⟨_, _, _, _, _, _, h.node hb a hn⟩
theorem G.len (h : G w M O d nb c) : nb.length = c.peers.length := by obtain ⟨_, _, _, _, _, _, h⟩ := h; exact h.len
theorem G.at (h : G w M O d nb c) {k b : Nat} (hb : nb[k]? = some b) : Nod w M O b k (c.at k) := by
  have hl := h.len
  obtain ⟨_, _, _, _, _, _, h⟩ := h
  have hlt : k < c.peers.length := by have := (List.getElem?_eq_some_iff.1 hb).1; omega
  have e : c.peers[k]? = some (c.at k) := by rw [Cl.at, List.getD_eq_getElem?_getD, List.getElem?_eq_getElem hlt]; rfl
  exact h.nodes k b (c.at k) hb e
end
def NDid (M : Fz) (O : Lb) (w : World) (b k : Nat) (p' : Peer) (w' : World) : Prop := ∃ M' O', Aft (· = 3 + k) M O w M' O' w' ∧ Nod w' M' O' b k p'
def Did (M : Fz) (O : Lb) (w : World) (d : Nat) (nb : List Nat) (c' : Cl) (w' : World) : Prop := ∃ M' O', Aft (fun _ => True) M O w M' O' w' ∧ G w' M' O' d nb c'
theorem NDid.lift {M : Fz} {O : Lb} {w w' : World} {d b k : Nat} {nb : List Nat} {c : Cl} {p' : Peer} (h : NDid M O w b k p' w') (hg : G w M O d nb c) (hb : nb[k]? = some b) : Did M O w d nb (c.put k p') w' := by
  obtain ⟨M', O', a, hn⟩ := h
  exact ⟨M', O', a.mono (fun _ _ => trivial), hg.node hb a hn⟩
theorem NDid.below {M : Fz} {O : Lb} {w w' w'' : World} {b k : Nat} {p' : Peer} (h : NDid M O w b k p' w') (hb : Below w'.heap.size w' w'') : NDid M O w b k p' w'' := by
  obtain ⟨M', O', a, us, lv, vv, nv, mv, hn⟩ := h
  exact ⟨M', O', a.below hb, us, lv, vv, nv, mv, hn.keep (fun x hx => hb.block x (a.ok x _ hx).2) (Le.refl _) (fun _ hx => hx)⟩
theorem NDid.drew {M : Fz} {O : Lb} {w w' : World} {b k : Nat} {p' : Peer} (h : NDid M O w b k p' w') : NDid M O w b k p' w'.drew := h.below (Below.refl _ _).drew
theorem Did.below {M : Fz} {O : Lb} {w w' w'' : World} {d : Nat} {nb : List Nat} {c' : Cl} (h : Did M O w d nb c' w') (hb : Below w'.heap.size w' w'') : Did M O w d nb c' w'' := by
  obtain ⟨M', O', a, hg⟩ := h
  exact ⟨M', O', a.below hb, hg.below hb⟩
theorem Did.drew {M : Fz} {O : Lb} {w w' : World} {d : Nat} {nb : List Nat} {c' : Cl} (h : Did M O w d nb c' w') : Did M O w d nb c' w'.drew := h.below (Below.refl _ _).drew
theorem Did.trans {M M1 : Fz} {O O1 : Lb} {w w1 w' : World} {d : Nat} {nb : List Nat} {c' : Cl} (a : Aft (fun _ => True) M O w M1 O1 w1) (h : Did M1 O1 w1 d nb c' w') : Did M O w d nb c' w' := by
  obtain ⟨M', O', a', hg⟩ := h
  exact ⟨M', O', a.trans a', hg⟩
end Go.Proofs.Ytklkglbimjajnaa.grp
namespace Go.Proofs.Ytklkglbimjajnaa.look
open Go.ChangeShapes Go.WideShapes Go.ChangeAt Go.RowKit
open Raft mem grp
theorem Nd.logc {w : World} {M : Fz} {O : Lb} {b k : Nat} {p : Peer} {us : List RV} {lv vv nv mv : Value} (h : Nd w M O b k p us lv vv nv mv) {i : Nat} {r : Rc} (hi : p.log[i]? = some r) :
    ∃ g cap o n c, lv = .slice (some ⟨g, 0, none⟩) p.log.length cap ∧ p.log.length ≤ cap ∧ cap ≤ maxLen ∧ w.cell? ⟨g, i * 3, none⟩ = some (.int .i64 r.term) ∧ w.cell? ⟨g, i * 3 + 1, none⟩ = some (.int .i64 r.index) ∧ w.cell? ⟨g, i * 3 + 2, none⟩ = some (.slice o n c) ∧ BytesM M (.slice o n c) r.data ∧ r.data.length ≤ 1000 := by
  have hlen : us.length = p.log.length := by rw [← h.recs]; simp
  rw [← h.recs, List.getElem?_map, Option.map_eq_some_iff] at hi
  obtain ⟨x, hx, rfl⟩ := hi
  have hlt := (List.getElem?_eq_some_iff.1 hx).1
  obtain ⟨g, cap, e, h1, h2, h3, h4⟩ := own_at h.log (by omega)
  have hf := fun j hj => flat_get recCells 3 recCells_len us i j x hx hj
  obtain ⟨q1, q2⟩ := h.data x (List.mem_iff_getElem?.2 ⟨i, hx⟩)
  obtain ⟨⟨ao, cp, e2, _⟩, _⟩ := id q1
  refine ⟨g, cap, ao, _, cp, by rw [e, hlen], by omega, h2, ?_, ?_, ?_, by rw [← e2]; exact q1, q2⟩
  · have := h3 (i * 3 + 0) (.int .i64 x.r.term) (by rw [hf 0 (by decide)]; rfl)
    simpa using this
  · exact h3 (i * 3 + 1) (.int .i64 x.r.index) (by rw [hf 1 (by decide)]; rfl)
  · rw [← e2]; exact h3 (i * 3 + 2) x.dv (by rw [hf 2 (by decide)]; rfl)
theorem Nd.logs {w : World} {M : Fz} {O : Lb} {b k : Nat} {p : Peer} {us : List RV} {lv vv nv mv : Value} (h : Nd w M O b k p us lv vv nv mv) : ∃ o c, lv = .slice o p.log.length c ∧ p.log.length ≤ c ∧ c ≤ maxLen := by
  have hlen : us.length = p.log.length := by rw [← h.recs]; simp
  obtain ⟨o, c, e⟩ := own_slice h.log
  have h1 := h.log
  rw [e] at h1
  obtain ⟨_, h2, h3⟩ := own_cap h1
  exact ⟨o, c, by rw [e, hlen], by omega, h3⟩
theorem last_any (w : World) (M : Fz) (O : Lb) (b k : Nat) (p : Peer) (h : Nod w M O b k p) :
    Calls Try.prog 138 #[.pointer (some ⟨b, 0, none⟩)] w fun r w' => r = .returned (.int .i64 (p.log.length : Nat)) ∧ w' = w := by
  obtain ⟨us, lv, vv, nv, mv, h⟩ := h
  obtain ⟨o, c, rfl, h1, h2⟩ := Nd.logs h
  unfold maxLen at h2
  have c2 := cell_of (i := 2) h.blk rfl
  clear h
  go_enter Try.func138, Try.ntmps138
  go_wp2
  go_ret
  exact ⟨rfl, rfl⟩
theorem term_any (w : World) (M : Fz) (O : Lb) (b k : Nat) (p : Peer) (h : Nod w M O b k p) (i : Nat) (hi : i ≤ p.log.length) :
    Calls Try.prog 148 #[.pointer (some ⟨b, 0, none⟩), .int .i64 i] w fun r w' => r = .returned (.int .i64 (termAt p.log i : Nat)) ∧ w' = w := by
  obtain ⟨us, lv, vv, nv, mv, h⟩ := h
  cases i with
  | zero =>
    have HT : Hid ((termAt p.log 0 : Nat) = 0) := by unfold Hid termAt; rw [if_pos rfl]
    clear h
    go_enter Try.func148, Try.ntmps148
    go_wp2
    go_ret
    exact ⟨by rw [HT.out]; rfl, rfl⟩
  | succ i =>
    obtain ⟨r, hr⟩ : ∃ r, p.log[i]? = some r := ⟨_, List.getElem?_eq_getElem (by omega)⟩
    obtain ⟨g, cap, o, n, c, rfl, h1, h2, q0, _⟩ := Nd.logc h hr
    have HT : Hid ((termAt p.log (i + 1) : Nat) = r.term) := by
      unfold Hid termAt
      rw [if_neg (by omega), Nat.add_sub_cancel, hr]
    unfold maxLen at h2
    have c2 := cell_of (i := 2) h.blk rfl
    have e1 : ¬ ((i : Int) + 1 = 0) := by omega
    clear h hr
    go_enter Try.func148, Try.ntmps148
    go_wp2
    go_ret
    exact ⟨by rw [HT.out]; rfl, rfl⟩
theorem has_any (w : World) (M : Fz) (O : Lb) (b k : Nat) (p : Peer) (h : Nod w M O b k p) (i t : Nat) :
    Calls Try.prog 145 #[.pointer (some ⟨b, 0, none⟩), .int .i64 i, .int .i64 t] w fun r w' => r = .returned (.bool (decide (i ≤ p.log.length ∧ termAt p.log i = t))) ∧ w' = w := by
  have HL := last_any w M O b k p h
  by_cases hi : i ≤ p.log.length
  · have HT := term_any w M O b k p h i hi
    have hiI : (i : Int) ≤ p.log.length := by omega
    have HE : Hid (decide (i ≤ p.log.length ∧ termAt p.log i = t) = ((termAt p.log i : Int) == (t : Int))) := by
      unfold Hid
      by_cases e : termAt p.log i = t
      · simp [hi, e]
      · have : ¬ ((termAt p.log i : Int) = t) := by omega
        simp [e, this]
    rw [HE.out]
    clear hi
    generalize termAt p.log i = T at *
    generalize p.log.length = L at *
    clear HE
    go_enter Try.func145, Try.ntmps145
    go_wp2_with (first | (refine HL.mono ?_; rintro e w' ⟨rfl, rfl⟩) | (refine HT.mono ?_; rintro e w' ⟨rfl, rfl⟩))
    go_ret
    exact ⟨rfl, rfl⟩
  · have hiI : ¬ (i : Int) ≤ p.log.length := by omega
    have HE : Hid (decide (i ≤ p.log.length ∧ termAt p.log i = t) = false) := by
      unfold Hid
      simp [hi]
    rw [HE.out]
    clear hi HE
    generalize p.log.length = L at *
    go_enter Try.func145, Try.ntmps145
    go_wp2_with (first | (refine HL.mono ?_; rintro e w' ⟨rfl, rfl⟩))
    go_ret
    exact ⟨rfl, rfl⟩
theorem lastTerm_at (l : List Rc) : lastTerm l = termAt l l.length := by
  unfold lastTerm termAt
  cases e : l.getLast? with
  | none =>
    have : l = [] := List.getLast?_eq_none_iff.1 e
    subst this
    rfl
  | some r =>
    have hne : l ≠ [] := fun h => by subst h; cases e
    have hpos : 0 < l.length := List.length_pos_iff.2 hne
    rw [if_neg (by omega)]
    rw [List.getLast?_eq_getElem?] at e
    rw [e]
theorem notAhead_any (w : World) (M : Fz) (O : Lb) (b k : Nat) (p : Peer) (h : Nod w M O b k p) (i t : Nat) :
    Calls Try.prog 155 #[.pointer (some ⟨b, 0, none⟩), .int .i64 i, .int .i64 t] w fun r w' => r = .returned (.bool (decide (lastTerm p.log < t ∨ t = lastTerm p.log ∧ p.log.length ≤ i))) ∧ w' = w := by
  have HL := last_any w M O b k p h
  have HT := term_any w M O b k p h p.log.length (Nat.le_refl _)
  rw [lastTerm_at]
  generalize termAt p.log p.log.length = T at *
  generalize p.log.length = L at *
  by_cases h1 : T < t
  · have hI : (T : Int) < t := by omega
    have HE : Hid (decide (T < t ∨ t = T ∧ L ≤ i) = true) := by unfold Hid; simp [h1]
    rw [HE.out]
    clear HE
    go_enter Try.func155, Try.ntmps155
    go_wp2_with (first | (refine HL.mono ?_; rintro e w' ⟨rfl, rfl⟩) | (refine HT.mono ?_; rintro e w' ⟨rfl, rfl⟩))
    go_ret
    refine ⟨?_, rfl⟩
    first | rfl | (simp [*]; done)
  · have hI : ¬ (T : Int) < t := by omega
    by_cases h2 : t = T
    · subst h2
      have HE : Hid (decide (t < t ∨ t = t ∧ L ≤ i) = decide ((L : Int) ≤ i)) := by unfold Hid; simp
      rw [HE.out]
      clear HE
      go_enter Try.func155, Try.ntmps155
      go_wp2_with (first | (refine HL.mono ?_; rintro e w' ⟨rfl, rfl⟩) | (refine HT.mono ?_; rintro e w' ⟨rfl, rfl⟩))
      go_ret
      refine ⟨?_, rfl⟩
      first | rfl | simp
    · have hI2 : ((t : Int) == T) = false := by simp; omega
      have HE : Hid (decide (T < t ∨ t = T ∧ L ≤ i) = false) := by unfold Hid; simp [h1, h2]
      rw [HE.out]
      clear HE
      go_enter Try.func155, Try.ntmps155
      go_wp2_with (first | (refine HL.mono ?_; rintro e w' ⟨rfl, rfl⟩) | (refine HT.mono ?_; rintro e w' ⟨rfl, rfl⟩))
      go_ret
      refine ⟨?_, rfl⟩
      first | rfl | (simp [*]; done)
theorem voteFor_any (w : World) (n : Nat) (hn : n ≤ 1000) : Calls Try.prog 150 #[.int .i64 n] w fun r w' => r = .returned (.int .i64 ((n + 1 : Nat) : Int)) ∧ w' = w := by
  have e : ((n + 1 : Nat) : Int) = (n : Int) + 1 := by omega
  rw [e]
  have h1 : (n : Int) ≤ 1000 := by omega
  go_enter Try.func150, Try.ntmps150
  go_wp2
  go_ret
  exact ⟨rfl, rfl⟩
theorem majority_any (w : World) (n : Nat) (h1 : 1 ≤ n) (h2 : n ≤ 7) : Calls Try.prog 157 #[.int .i64 n] w fun r w' => r = .returned (.int .i64 (most n : Nat)) ∧ w' = w := by
  have e1 : ¬ (n : Int) < 1 := by omega
  have e2 : ¬ (7 : Int) < n := by omega
  have HE : Hid ((n : Int) / 2 + 1 = (most n : Nat)) := by unfold Hid most; omega
  go_enter Try.func157, Try.ntmps157
  go_wp2
  go_ret
  refine ⟨?_, rfl⟩
  show Ending.returned (.int .i64 ((n : Int) / 2 + 1)) = _
  rw [HE.out]
theorem Gr.pvs {w : World} {M : Fz} {O : Lb} {d hd : Nat} {nb : List Nat} {c : Cl} {pv cv : Value} {bs : List Nat} {us : List MV} {cs : List RV} (h : Gr w M O d hd nb c pv cv bs us cs) : ∃ o cp, pv = .slice o c.peers.length cp ∧ c.peers.length ≤ cp ∧ cp ≤ maxLen := by
  obtain ⟨ao, cap, rfl, h1, h2, _⟩ := h.peers
  have := h.len
  exact ⟨ao, cap, by rw [this], by omega, h2⟩
theorem most_any (w : World) (M : Fz) (O : Lb) (d : Nat) (nb : List Nat) (c : Cl) (h : G w M O d nb c) (h1 : 1 ≤ c.peers.length) (h2 : c.peers.length ≤ 7) :
    Calls Try.prog 152 #[.pointer (some ⟨d, 0, none⟩)] w fun r w' => r = .returned (.int .i64 (most c.peers.length : Nat)) ∧ w' = w := by
  obtain ⟨hd, pv, cv, bs, us, cs, h⟩ := h
  obtain ⟨o, cp, rfl, _, h3⟩ := Gr.pvs h
  unfold maxLen at h3
  have c2 := cell_of (i := 2) h.blk rfl
  have HM := majority_any w c.peers.length h1 h2
  clear h
  generalize c.peers.length = n at *
  go_enter Try.func152, Try.ntmps152
  go_wp2_with (refine HM.mono ?_; rintro e w' ⟨rfl, rfl⟩)
  go_ret
  exact ⟨rfl, rfl⟩
theorem count_snoc {α : Type} (f : α → Bool) (l : List α) (i : Nat) (x : α) (h : l[i]? = some x) : (l.take (i + 1)).countP f = (l.take i).countP f + (if f x then 1 else 0) := by
  have hlt := (List.getElem?_eq_some_iff.1 h).1
  have e : l[i] = x := by have := List.getElem?_eq_getElem hlt; rw [h] at this; exact (Option.some.inj this).symm
  rw [List.take_succ_eq_append_getElem hlt, List.countP_append, e]
  simp [List.countP_cons]
theorem votesHad_any (w : World) (M : Fz) (O : Lb) (b k : Nat) (p : Peer) (h : Nod w M O b k p) (hl : p.votes.length ≤ 7) :
    Calls Try.prog 151 #[.pointer (some ⟨b, 0, none⟩)] w fun r w' => r = .returned (.int .i64 (p.votes.countP id : Nat)) ∧ w' = w := by
  obtain ⟨us, lv, vv, nv, mv, h⟩ := h
  have hv := h.votes
  obtain ⟨o, cp, rfl⟩ := own_slice hv
  obtain ⟨_, _, hcp⟩ := own_cap hv
  unfold maxLen at hcp
  have c7 := cell_of (i := 7) h.blk rfl
  have HC : Hid (∀ i x, p.votes[i]? = some x → ∃ g, o = some ⟨g, 0, none⟩ ∧ w.cell? ⟨g, i, none⟩ = some (.bool x)) := fun i x hx => by
    have hlt := (List.getElem?_eq_some_iff.1 hx).1
    obtain ⟨g, cap, e, _, _, h3, _⟩ := own_at hv (by omega)
    simp only [Value.slice.injEq] at e
    exact ⟨g, e.1, h3 i _ (by rw [List.getElem?_map, hx]; rfl)⟩
  obtain ⟨L, hL⟩ : ∃ L, L = p.votes.length := ⟨_, rfl⟩
  have HL := hide hL
  rw [← hL] at c7 hl
  have HR : Hid ((p.votes.take L).countP id = p.votes.countP id) := by unfold Hid; rw [hL, List.take_length]
  clear h hv hL
  go_enter Try.func151, Try.ntmps151
  go_wp2
  go_loop [3, 11] (fun n i => ∃ j : Nat, j ≤ L ∧ i = .int .i64 j ∧ n = .int .i64 ((p.votes.take j).countP id : Nat)) (fun _ i => L - (intOf i).toNat)
  case atStart => exact ⟨0, Nat.zero_le _, rfl, by simp⟩
  case round =>
    obtain ⟨j, hj, rfl, rfl⟩ := hrel
    have hcn : (p.votes.take j).countP id ≤ j := by
      refine Nat.le_trans List.countP_le_length ?_
      rw [List.length_take]; omega
    by_cases hlt : j < L
    · obtain ⟨x, hx⟩ : ∃ x, p.votes[j]? = some x := ⟨_, List.getElem?_eq_getElem (by rw [← HL.out]; exact hlt)⟩
      obtain ⟨g, rfl, hc⟩ := HC.out j x hx
      have HS := hide (count_snoc id p.votes j x hx)
      have hltI : (j : Int) < L := by omega
      obtain ⟨cn, hcn2⟩ : ∃ cn, cn = (p.votes.take j).countP id := ⟨_, rfl⟩
      rw [← hcn2] at hcn ⊢
      rw [← hcn2] at HS
      clear hx hcn2
      cases x with
      | true =>
        go_wp2
        go_round
        case rel => exact ⟨j + 1, by omega, by go_num, by rw [HS.out]; simp⟩
        case measure => simp [intOf]; omega
      | false =>
        go_wp2
        go_round
        case rel => exact ⟨j + 1, by omega, by go_num, by rw [HS.out]; simp⟩
        case measure => simp [intOf]; omega
    · have hltI : ¬ (j : Int) < L := by omega
      obtain rfl : j = L := by omega
      rw [HR.out]
      go_wp2
      go_ret
      exact ⟨rfl, rfl⟩
theorem reaching_any (w : World) (M : Fz) (O : Lb) (b k : Nat) (p : Peer) (h : Nod w M O b k p) (hl : p.mat.length ≤ 7) (i : Nat) :
    Calls Try.prog 154 #[.pointer (some ⟨b, 0, none⟩), .int .i64 i] w fun r w' => r = .returned (.int .i64 (p.mat.countP (fun m => decide (i ≤ m)) : Nat)) ∧ w' = w := by
  obtain ⟨us, lv, vv, nv, mv, h⟩ := h
  have hv := h.mat
  obtain ⟨o, cp, rfl⟩ := own_slice hv
  obtain ⟨_, _, hcp⟩ := own_cap hv
  unfold maxLen at hcp
  have c7 := cell_of (i := 9) h.blk rfl
  have HC : Hid (∀ (j x : Nat), p.mat[j]? = some x → ∃ g, o = some ⟨g, 0, none⟩ ∧ w.cell? ⟨g, j, none⟩ = some (.int .i64 x)) := fun j x hx => by
    have hlt := (List.getElem?_eq_some_iff.1 hx).1
    obtain ⟨g, cap, e, _, _, h3, _⟩ := own_at hv (by omega)
    simp only [Value.slice.injEq] at e
    exact ⟨g, e.1, h3 j _ (by rw [List.getElem?_map, hx]; rfl)⟩
  obtain ⟨L, hL⟩ : ∃ L, L = p.mat.length := ⟨_, rfl⟩
  have HL := hide hL
  rw [← hL] at c7 hl
  have HR : Hid ((p.mat.take L).countP (fun m => decide (i ≤ m)) = p.mat.countP (fun m => decide (i ≤ m))) := by unfold Hid; rw [hL, List.take_length]
  clear h hv hL
  go_enter Try.func154, Try.ntmps154
  go_wp2
  go_loop [5, 13] (fun n i' => ∃ j : Nat, j ≤ L ∧ i' = .int .i64 j ∧ n = .int .i64 ((p.mat.take j).countP (fun m => decide (i ≤ m)) : Nat)) (fun _ i' => L - (intOf i').toNat)
  case atStart => exact ⟨0, Nat.zero_le _, rfl, by simp⟩
  case round =>
    obtain ⟨j, hj, rfl, rfl⟩ := hrel
    have hcn : (p.mat.take j).countP (fun m => decide (i ≤ m)) ≤ j := by
      refine Nat.le_trans List.countP_le_length ?_
      rw [List.length_take]; omega
    by_cases hlt : j < L
    · obtain ⟨x, hx⟩ : ∃ x, p.mat[j]? = some x := ⟨_, List.getElem?_eq_getElem (by rw [← HL.out]; exact hlt)⟩
      obtain ⟨g, rfl, hc⟩ := HC.out j x hx
      have HS := hide (count_snoc (fun m => decide (i ≤ m)) p.mat j x hx)
      have hltI : (j : Int) < L := by omega
      obtain ⟨cn, hcn2⟩ : ∃ cn, cn = (p.mat.take j).countP (fun m => decide (i ≤ m)) := ⟨_, rfl⟩
      rw [← hcn2] at hcn ⊢
      rw [← hcn2] at HS
      clear hx hcn2
      by_cases hx : i ≤ x
      · have hxI : (i : Int) ≤ x := by omega
        go_wp2
        go_round
        case rel => exact ⟨j + 1, by omega, by go_num, by rw [HS.out]; simp [hx]⟩
        case measure => simp [intOf]; omega
      · have hxI : ¬ (i : Int) ≤ x := by omega
        go_wp2
        go_round
        case rel => exact ⟨j + 1, by omega, by go_num, by rw [HS.out]; simp [hx]⟩
        case measure => simp [intOf]; omega
    · have hltI : ¬ (j : Int) < L := by omega
      obtain rfl : j = L := by omega
      rw [HR.out]
      go_wp2
      go_ret
      exact ⟨rfl, rfl⟩
end Go.Proofs.Ytklkglbimjajnaa.look
namespace Go.Proofs.Ytklkglbimjajnaa.ndw
open Go.ChangeShapes Go.WideShapes Go.ChangeAt Go.RowKit
open Raft mem grp Ytklkglbimjajnaa.look
def sets (w : World) (b : Nat) : List (Nat × Value) → World
  | [] => w
  | (i, v) :: l => sets (w.setCell ⟨b, i, none⟩ v) b l
def setsA (cur : Array Value) : List (Nat × Value) → Array Value
  | [] => cur
  | (i, v) :: l => setsA (cur.setIfInBounds i v) l
theorem sets_at : ∀ (l : List (Nat × Value)) {w : World} {b t : Nat} {cur : Array Value}, w.heap[b]? = some (.cells cur t (0, 0)) → (sets w b l).heap[b]? = some (.cells (setsA cur l) t (0, 0))
  | [], _, _, _, _, h => h
  | (i, v) :: l, _, _, _, _, h => sets_at l (set_at h i v rfl)
theorem sets_ne : ∀ (l : List (Nat × Value)) (w : World) {b x : Nat}, x ≠ b → (sets w b l).heap[x]? = w.heap[x]?
  | [], _, _, _, _ => rfl
  | (i, v) :: l, w, b, x, h => (sets_ne l _ h).trans (Below.heap_setCell w ⟨b, i, none⟩ v x h)
theorem sets_aft {S : Nat → Prop} {M M' : Fz} {O O' : Lb} {w : World} {b lb : Nat} (hl : O' b = some lb) (hs : S lb) : ∀ (l : List (Nat × Value)) {w' : World}, Aft S M O w M' O' w' → Aft S M O w M' O' (sets w' b l)
  | [], _, h => h
  | (i, v) :: l, _, h => sets_aft hl hs l (h.set hl hs i v)
section
variable {w : World} {M : Fz} {O : Lb} {b k : Nat} {p : Peer} {us : List RV} {lv vv nv mv : Value}
theorem NDid.sets {W : World} (st : Sta M O w) (h : Nd w M O b k p us lv vv nv mv) (hW : Below w.heap.size w W) (l : List (Nat × Value)) (p' : Peer) (vv' nv' mv' : Value)
    (hc : setsA #[.int .i64 p.term, .int .i64 p.vote, lv, .int .i64 k, .bool p.up, .int .i64 p.commit, .int .i64 p.role, vv, nv, mv] l = #[.int .i64 p'.term, .int .i64 p'.vote, lv, .int .i64 k, .bool p'.up, .int .i64 p'.commit, .int .i64 p'.role, vv', nv', mv'])
    (hl : p'.log = p.log) (hv : (vv' = vv ∧ p'.votes = p.votes) ∨ (vv' = .slice none 0 0 ∧ p'.votes = [])) (hn : (nv' = nv ∧ p'.next = p.next) ∨ (nv' = .slice none 0 0 ∧ p'.next = []))
    (hm : (mv' = mv ∧ p'.mat = p.mat) ∨ (mv' = .slice none 0 0 ∧ p'.mat = [])) : NDid M O w b k p' (ndw.sets W b l) := by
  refine ⟨M, O, sets_aft (S := (· = 3 + k)) h.own rfl l ((Aft.refl _ st).below hW), ⟨us, lv, vv', nv', mv', ?_⟩⟩
  have h1 : Nd W M O b k p us lv vv nv mv := h.keep (fun x hx => hW.block x (st.ok x _ hx).2) (Le.refl _) (fun _ hx => hx)
  have hb := sets_at l h1.blk
  rw [hc] at hb
  exact h1.put p' hb (fun x hx => sets_ne l W hx) hl hv hn hm
theorem Nd.cs (h : Nd w M O b k p us lv vv nv mv) : (w.cell? ⟨b, 0, none⟩ = some (.int .i64 p.term) ∧ w.cell? ⟨b, 1, none⟩ = some (.int .i64 p.vote) ∧ w.cell? ⟨b, 2, none⟩ = some lv ∧ w.cell? ⟨b, 3, none⟩ = some (.int .i64 k) ∧ w.cell? ⟨b, 4, none⟩ = some (.bool p.up) ∧ w.cell? ⟨b, 5, none⟩ = some (.int .i64 p.commit) ∧ w.cell? ⟨b, 6, none⟩ = some (.int .i64 p.role) ∧ w.cell? ⟨b, 7, none⟩ = some vv ∧ w.cell? ⟨b, 8, none⟩ = some nv ∧ w.cell? ⟨b, 9, none⟩ = some mv) ∧
    (w.frozen? ⟨b, 0, none⟩ = false ∧ w.frozen? ⟨b, 1, none⟩ = false ∧ w.frozen? ⟨b, 2, none⟩ = false ∧ w.frozen? ⟨b, 3, none⟩ = false ∧ w.frozen? ⟨b, 4, none⟩ = false ∧ w.frozen? ⟨b, 5, none⟩ = false ∧ w.frozen? ⟨b, 6, none⟩ = false ∧ w.frozen? ⟨b, 7, none⟩ = false ∧ w.frozen? ⟨b, 8, none⟩ = false ∧ w.frozen? ⟨b, 9, none⟩ = false) :=
  ⟨⟨cell_of h.blk rfl, cell_of h.blk rfl, cell_of h.blk rfl, cell_of h.blk rfl, cell_of h.blk rfl, cell_of h.blk rfl, cell_of h.blk rfl, cell_of h.blk rfl, cell_of h.blk rfl, cell_of h.blk rfl⟩,
   ⟨frozen_of h.blk _, frozen_of h.blk _, frozen_of h.blk _, frozen_of h.blk _, frozen_of h.blk _, frozen_of h.blk _, frozen_of h.blk _, frozen_of h.blk _, frozen_of h.blk _, frozen_of h.blk _⟩⟩
theorem drewN_below (w : World) (m : Nat) : Below w.heap.size w (w.drewN m) := ⟨rfl, rfl, rfl, Nat.le_refl _, fun _ _ => rfl⟩
theorem Nd.sl (h : Nd w M O b k p us lv vv nv mv) : ∃ lo lc vo vc no nc mo mc, lv = .slice lo p.log.length lc ∧ vv = .slice vo p.votes.length vc ∧ nv = .slice no p.next.length nc ∧ mv = .slice mo p.mat.length mc ∧ p.log.length ≤ lc ∧ lc ≤ 9223372036854775807 := by
  obtain ⟨o, c, e, h1, h2⟩ := Nd.logs h
  obtain ⟨vo, vc, e1⟩ := own_slice h.votes
  obtain ⟨no, nc, e2⟩ := own_slice h.next
  obtain ⟨mo, mc, e3⟩ := own_slice h.mat
  unfold maxLen at h2
  exact ⟨o, c, vo, vc, no, nc, mo, mc, e, e1, e2, e3, h1, by omega⟩
end
def downP (p : Peer) (t : Nat) : Peer := { p with term := max p.term t, vote := if p.term < t then 0 else p.vote, role := 0, votes := [], next := [], mat := [] }
theorem down_put (c : Cl) (k t : Nat) : c.down k t = c.put k (downP (c.at k) t) := rfl
theorem stepDown_any (w : World) (M : Fz) (O : Lb) (b k : Nat) (p : Peer) (st : Sta M O w) (h : Nod w M O b k p) (t : Nat) :
    Calls Try.prog 127 #[.pointer (some ⟨b, 0, none⟩), .int .i64 t] w fun r w' => r = .returned (.tuple #[]) ∧ NDid M O w b k (downP p t) w' := by
  obtain ⟨us, lv, vv, nv, mv, h⟩ := h
  have c0 := cell_of (i := 0) h.blk rfl
  have f := frozen_of h.blk
  have f0 := f 0
  have f1 := f 1
  have f6 := f 6
  have f7 := f 7
  have f8 := f 8
  have f9 := f 9
  have c1 := cell_of (i := 1) h.blk rfl
  have c6 := cell_of (i := 6) h.blk rfl
  have c7 := cell_of (i := 7) h.blk rfl
  have c8 := cell_of (i := 8) h.blk rfl
  have c9 := cell_of (i := 9) h.blk rfl
  by_cases ht : p.term < t
  · have htI : (p.term : Int) < t := by omega
    have e1 : max p.term t = t := by omega
    have HF := hide (NDid.sets st h (Below.refl _ _) [(0, .int .i64 t), (1, .int .i64 0), (6, .int .i64 0), (7, .slice none 0 0), (8, .slice none 0 0), (9, .slice none 0 0)] (downP p t) (.slice none 0 0) (.slice none 0 0) (.slice none 0 0) (by simp [downP, e1, ht, setsA]) rfl (.inr ⟨rfl, rfl⟩) (.inr ⟨rfl, rfl⟩) (.inr ⟨rfl, rfl⟩))
    clear h st f
    go_enter Try.func127, Try.ntmps127
    go_wp2
    go_end0
    exact ⟨rfl, HF.out⟩
  · have htI : ¬ (p.term : Int) < t := by omega
    have e1 : max p.term t = p.term := by omega
    have HF := hide (NDid.sets st h (Below.refl _ _) [(6, .int .i64 0), (7, .slice none 0 0), (8, .slice none 0 0), (9, .slice none 0 0)] (downP p t) (.slice none 0 0) (.slice none 0 0) (.slice none 0 0) (by simp [downP, e1, ht, setsA]) rfl (.inr ⟨rfl, rfl⟩) (.inr ⟨rfl, rfl⟩) (.inr ⟨rfl, rfl⟩))
    clear h st f
    go_enter Try.func127, Try.ntmps127
    go_wp2
    go_end0
    exact ⟨rfl, HF.out⟩
def crashP (p : Peer) : Peer := ⟨false, p.term, p.vote, 0, 0, p.log, [], [], []⟩
set_option maxHeartbeats 1600000 in
theorem crash_any (w : World) (M : Fz) (O : Lb) (b k : Nat) (p : Peer) (st : Sta M O w) (h : Nod w M O b k p) :
    Calls Try.prog 95 #[.pointer (some ⟨b, 0, none⟩)] w fun r w' => r = .returned (.tuple #[]) ∧ NDid M O w b k (crashP p) w' := by
  obtain ⟨us, lv, vv, nv, mv, h⟩ := h
  obtain ⟨lo, lc, vo, vc, no, nc, mo, mc, rfl, rfl, rfl, rfl, h1, h2⟩ := Nd.sl h
  obtain ⟨⟨c0, c1, c2, c3, c4, c5, c6, c7, c8, c9⟩, ⟨f0, f1, f2, f3, f4, f5, f6, f7, f8, f9⟩⟩ := Nd.cs h
  have HF : Hid (NDid M O w b k (crashP p) (sets w b [(0, .int .i64 p.term), (1, .int .i64 p.vote), (2, .slice lo p.log.length lc), (3, .int .i64 k), (4, .bool false), (5, .int .i64 0), (6, .int .i64 0), (7, .slice none 0 0), (8, .slice none 0 0), (9, .slice none 0 0)])) := by
    refine NDid.sets st h (Below.refl _ _) _ (crashP p) (.slice none 0 0) (.slice none 0 0) (.slice none 0 0) ?_ rfl (.inr ⟨rfl, rfl⟩) (.inr ⟨rfl, rfl⟩) (.inr ⟨rfl, rfl⟩)
    simp [crashP, setsA]
  clear h st
  go_enter Try.func95, Try.ntmps95
  go_wp2
  go_region_law (fail)
  all_goals
    go_wp2
    go_end0
    exact ⟨rfl, HF.out.drew⟩
def grantP (p : Peer) (f : Nat) (ok : Bool) : Peer := if ok then { p with vote := f + 1 } else p
def okV (p : Peer) (m : Msg) : Bool := decide (m.term = p.term ∧ (p.vote = 0 ∨ p.vote = m.frm + 1) ∧ (lastTerm p.log < m.b ∨ m.b = lastTerm p.log ∧ p.log.length ≤ m.a))
def msgA (m : Msg) (lv : Value) : Array Value := #[.int .i64 m.kind, .int .i64 m.frm, .int .i64 m.to, .int .i64 m.term, .int .i64 m.a, .int .i64 m.b, .int .i64 m.c, .bool m.ok, lv]
end Go.Proofs.Ytklkglbimjajnaa.ndw
namespace Go.Proofs.Ytklkglbimjajnaa.src
open Go.ChangeShapes Go.WideShapes Go.ChangeAt Go.RowKit
open Raft mem grp
structure SS (w : World) (M : Fz) (d : Nat) (ao : Option Addr) (cap : Nat) (xs : List Int) (at_ : Nat) (sd : Int) : Prop where
  blk : w.heap[d]? = some (.cells #[.slice ao xs.length cap, .int .i64 at_, .int .i64 sd] 90 (0, 0))
  data : BytesM M (.slice ao xs.length cap) xs
  inn : In M w
  free : M d = none
  sd0 : 0 ≤ sd
  sd1 : sd < 2147483648
def Src (w : World) (M : Fz) (d q : Nat) : Prop := ∃ ao cap xs at_ sd, SS w M d ao cap xs at_ sd ∧ at_ ≤ q ∧ xs.length ≤ 1000000000
section
variable {w w' : World} {M M' : Fz} {d : Nat} {ao : Option Addr} {cap : Nat} {xs : List Int} {at_ : Nat} {sd : Int}
theorem SS.lt (h : SS w M d ao cap xs at_ sd) : d < w.heap.size := (Array.getElem?_eq_some_iff.1 h.blk).1
theorem SS.c0 (h : SS w M d ao cap xs at_ sd) : w.cell? ⟨d, 0, none⟩ = some (.slice ao xs.length cap) := cell_of h.blk rfl
theorem SS.c1 (h : SS w M d ao cap xs at_ sd) : w.cell? ⟨d, 1, none⟩ = some (.int .i64 at_) := cell_of h.blk rfl
theorem SS.c2 (h : SS w M d ao cap xs at_ sd) : w.cell? ⟨d, 2, none⟩ = some (.int .i64 sd) := cell_of h.blk rfl
theorem SS.fz (h : SS w M d ao cap xs at_ sd) (i : Nat) : w.frozen? ⟨d, i, none⟩ = false := frozen_of h.blk i
theorem SS.below (h : SS w M d ao cap xs at_ sd) (hb : Below w.heap.size w w') : SS w' M d ao cap xs at_ sd := ⟨(hb.block d h.lt).trans h.blk, h.data, h.inn.below hb, h.free, h.sd0, h.sd1⟩
theorem SS.drewN (h : SS w M d ao cap xs at_ sd) (m : Nat) : SS (w.drewN m) M d ao cap xs at_ sd := ⟨h.blk, h.data, h.inn, h.free, h.sd0, h.sd1⟩
theorem SS.set1 (h : SS w M d ao cap xs at_ sd) (n : Nat) : SS (w.setCell ⟨d, 1, none⟩ (.int .i64 n)) M d ao cap xs n sd := ⟨set_at h.blk 1 _ rfl, h.data, h.inn.set h.free _, h.free, h.sd0, h.sd1⟩
theorem SS.set2 (h : SS w M d ao cap xs at_ sd) (s : Int) (h0 : 0 ≤ s) (h1 : s < 2147483648) : SS (w.setCell ⟨d, 2, none⟩ (.int .i64 s)) M d ao cap xs at_ s := ⟨set_at h.blk 2 _ rfl, h.data, h.inn.set h.free _, h.free, h0, h1⟩
end
theorem set_grown (w : World) (d i : Nat) (u : Value) : w.grownBy (w.setCell ⟨d, i, none⟩ u) (some d) := ⟨rfl, rfl, rfl, by simp, fun k _ hk => Below.heap_setCell w ⟨d, i, none⟩ u k (fun e => hk (by simp [e]))⟩
theorem drew_grown (w : World) (n : Nat) (row : Option Nat) : w.grownBy (w.drewN n) row := ⟨rfl, rfl, rfl, Nat.le_refl _, fun _ _ _ => rfl⟩
theorem below_grown {w w' : World} (h : Below w.heap.size w w') (row : Option Nat) : w.grownBy w' row := ⟨h.os, h.tape, h.output, h.size, fun k hk _ => h.block k hk⟩
theorem grown_trans {a b c : World} {row : Option Nat} (h : a.grownBy b row) (g : b.grownBy c row) : a.grownBy c row := ⟨g.os.trans h.os, g.tape.trans h.tape, g.output.trans h.output, Nat.le_trans h.size g.size, fun k hk hr => (g.block k (Nat.lt_of_lt_of_le hk h.size) hr).trans (h.block k hk hr)⟩
theorem Src.below {w w' : World} {M : Fz} {d q : Nat} (h : Src w M d q) (hb : Below w.heap.size w w') : Src w' M d q := by
  obtain ⟨ao, cap, xs, at_, sd, hs, h1, h2⟩ := h
  exact ⟨ao, cap, xs, at_, sd, hs.below hb, h1, h2⟩
theorem Src.lt {w : World} {M : Fz} {d q : Nat} (h : Src w M d q) : d < w.heap.size := by obtain ⟨ao, cap, xs, at_, sd, hs, h1, h2⟩ := h; exact hs.lt
theorem Src.inn {w : World} {M : Fz} {d q : Nat} (h : Src w M d q) : In M w := by obtain ⟨ao, cap, xs, at_, sd, hs, h1, h2⟩ := h; exact hs.inn
theorem Src.more {w : World} {M : Fz} {d q p : Nat} (h : Src w M d q) (hp : q ≤ p) : Src w M d p := by
  obtain ⟨ao, cap, xs, at_, sd, hs, h1, h2⟩ := h
  exact ⟨ao, cap, xs, at_, sd, hs, by omega, h2⟩
theorem Src.le {w : World} {M M' : Fz} {d q : Nat} (h : Src w M d q) (hl : Le M M') (hi : In M' w) (hd : M' d = none) : Src w M' d q := by
  obtain ⟨ao, cap, xs, at_, sd, hs, h1, h2⟩ := h
  exact ⟨ao, cap, xs, at_, sd, ⟨hs.blk, hs.data.le hl, hi, hd, hs.sd0, hs.sd1⟩, h1, h2⟩
theorem Src.grown {w w' : World} {M : Fz} {d q : Nat} {row : Option Nat} (h : Src w M d q) (g : w.grownBy w' row) (hr : ∀ b, row = some b → b ≠ d ∧ M b = none) : Src w' M d q := by
  obtain ⟨ao, cap, xs, at_, sd, hs, h1, h2⟩ := h
  exact ⟨ao, cap, xs, at_, sd, ⟨(g.block d hs.lt (fun e => (hr d e.symm).1 rfl)).trans hs.blk, hs.data, hs.inn.grown g (fun k hk => (hr k hk).2), hs.free, hs.sd0, hs.sd1⟩, h1, h2⟩
set_option maxRecDepth 20000 in
set_option maxHeartbeats 1000000 in
theorem byte_any (w : World) (M : Fz) (d q : Nat) (h : Src w M d q) (hq : q ≤ 1000000000000) :
    Calls Try.prog 126 #[.pointer (some ⟨d, 0, none⟩)] w fun e w' => ∃ r : Int, e = .returned (.int .i64 r) ∧ (0 ≤ r ∧ r ≤ 255) ∧ Src w' M d (q + 1) ∧ w.grownBy w' (some d) := by
  obtain ⟨ao, cap, xs, at_, sd, h, hat, hxl⟩ := h
  have HS : Hid (SS w M d ao cap xs at_ sd) := h
  have hd := h.lt
  have c0 := h.c0
  have c1 := h.c1
  have c2 := h.c2
  have f1 := h.fz 1
  have f2 := h.fz 2
  have s0 := h.sd0
  have s1 := h.sd1
  have HS1 : Hid (SS (w.setCell ⟨d, 1, none⟩ (.int .i64 ((at_ : Int) + 1))) M d ao cap xs (at_ + 1) sd) := by
    have := h.set1 (at_ + 1)
    rw [show (((at_ + 1 : Nat) : Nat) : Int) = (at_ : Int) + 1 by omega] at this
    exact this
  have HK1 : Hid (w.grownBy (w.setCell ⟨d, 1, none⟩ (.int .i64 ((at_ : Int) + 1))) (some d)) := set_grown _ _ _ _
  obtain ⟨⟨ao', ca, e, ha1, ha2, hal, han, ha3⟩, hx⟩ := h.data
  obtain ⟨rfl, _, rfl⟩ : ao' = ao ∧ True ∧ ca = cap := by simp at e; exact ⟨e.1.symm, trivial, e.2.symm⟩
  clear e hal han
  unfold maxLen at ha2
  have HEnd : Hid (∀ W s r, SS W M d ao' ca xs (at_ + 1) s → w.grownBy W (some d) → 0 ≤ r → r ≤ 255 → ∃ r' : Int, Ending.returned (.int .i64 r) = .returned (.int .i64 r') ∧ (0 ≤ r' ∧ r' ≤ 255) ∧ Src W M d (q + 1) ∧ w.grownBy W (some d)) := fun W s r h1 h2 h3 h4 => ⟨r, rfl, ⟨h3, h4⟩, ⟨_, _, _, _, _, h1, by omega, hxl⟩, h2⟩
  have HFr := hide h.free
  clear h
  by_cases hin : (at_ : Int) + 1 ≤ xs.length
  · obtain ⟨ab, aoff, rfl, hca⟩ := ha3 (by omega)
    obtain ⟨c, hcx⟩ : ∃ c, xs[at_]? = some c := ⟨_, List.getElem?_eq_getElem (by omega)⟩
    have hcb := hx c (List.mem_of_getElem? hcx)
    have hc' : (w.setCell ⟨d, 1, none⟩ (.int .i64 ((at_ : Int) + 1))).cell? ⟨ab, aoff + at_, none⟩ = some (.int .u8 c) := HS1.out.inn.cell (hca at_ _ (by rw [List.getElem?_map, hcx]; rfl))
    have hne : ab ≠ d := fun e => cellM_in (hca at_ (.int .u8 c) (by rw [List.getElem?_map, hcx]; rfl)) (e ▸ HFr.out)
    clear hca ha3 hcx
    have k0 := HS1.out.c0
    have k1 := HS1.out.c1
    have k2 := HS1.out.c2
    have g2 := HS1.out.fz 2
    rw [show (((at_ + 1 : Nat) : Nat) : Int) = (at_ : Int) + 1 by omega] at k1
    go_enter Try.func126, Try.ntmps126
    go_wp2
    go_quiet (fail)
    go_wp2
    have hw1 : IntKind.i64.wrap (at_ : Int) = at_ := by rw [IntKind.wrap_i64]; omega
    have hw2 : IntKind.i64.wrap (sd * 31) = sd * 31 := by rw [IntKind.wrap_i64]; omega
    have hw3 : IntKind.i64.wrap (sd * 31 + c) = sd * 31 + c := by rw [IntKind.wrap_i64]; omega
    have hw4 : IntKind.i64.wrap (sd * 31 + c + 7) = sd * 31 + c + 7 := by rw [IntKind.wrap_i64]; omega
    have hw5 : IntKind.i64.wrap c = c := by rw [IntKind.wrap_i64]; omega
    have hlt : (at_ : Int) < xs.length := by omega
    have hlt0 : (0 : Int) ≤ at_ := by omega
    go_region_law (fail)
    all_goals
      go_wp2
      go_quiet (fail)
      go_wp2
      go_ret
      have ht : (sd * 31 + c + 7).tmod 2147483648 = (sd * 31 + c + 7) % 2147483648 := Int.tmod_eq_emod_of_nonneg (by omega)
      exact HEnd.out _ _ _ (((HS1.out.drewN _).set2 _ (by rw [ht]; omega) (by rw [ht]; omega)).drewN _) (grown_trans (grown_trans (grown_trans HK1.out (drew_grown _ _ _)) (set_grown _ _ _ _)) (drew_grown _ _ _)) hcb.1 hcb.2
  · by_cases h3 : (3000 : Int) < (at_ : Int) + 1
    · go_enter Try.func126, Try.ntmps126
      go_wp2
      go_quiet (fail)
      go_wp2
      go_ret
      exact HEnd.out _ _ _ (HS1.out.drewN _) (grown_trans HK1.out (drew_grown _ _ _)) (by omega) (by omega)
    · go_enter Try.func126, Try.ntmps126
      go_wp2
      go_quiet (fail)
      go_wp2
      go_ret
      exact HEnd.out _ _ _ ((HS1.out.drewN _).set2 _ (by omega) (by omega)) (grown_trans (grown_trans HK1.out (drew_grown _ _ _)) (set_grown _ _ _ _)) (by omega) (by omega)
theorem next_any (w : World) (M : Fz) (d q : Nat) (n : Int) (hn : n ≤ 256) (h : Src w M d q) (hq : q ≤ 1000000000000) :
    Calls Try.prog 85 #[.pointer (some ⟨d, 0, none⟩), .int .i64 n] w fun e w' => ∃ r : Int, e = .returned (.int .i64 r) ∧ (0 ≤ r ∧ (r < n ∨ r = 0) ∧ r ≤ 255) ∧ Src w' M d (q + 1) ∧ w.grownBy w' (some d) := by
  have HS : Hid (Src w M d q) := h
  clear h
  by_cases h1 : n ≤ 1
  · go_enter Try.func85, Try.ntmps85
    go_wp2
    go_ret
    exact ⟨0, rfl, ⟨by omega, .inr rfl, by omega⟩, HS.out.more (by omega), drew_grown w 0 _⟩
  · go_enter Try.func85, Try.ntmps85
    go_wp2_with fail
    refine (byte_any _ M d q HS.out hq).mono ?_
    rintro e w1 ⟨r, rfl, ⟨r0, r1⟩, S1, K1⟩
    have HF : Hid (Src w1 M d (q + 1) ∧ w.grownBy w1 (some d)) := ⟨S1, K1⟩
    clear S1 K1
    have ht : r.tmod n = r % n := Int.tmod_eq_emod_of_nonneg r0
    have h9 := Int.emod_nonneg r (b := n) (by omega)
    have h8 := Int.emod_lt_of_pos r (b := n) (by omega)
    have hne : n ≠ 0 := by omega
    go_wp2
    go_ret
    exact ⟨_, rfl, ⟨by first | omega | (rw [ht]; omega), .inl (by first | omega | (rw [ht]; omega)), by first | omega | (rw [ht]; omega)⟩, HF.out.1, HF.out.2⟩
theorem chance_any (w : World) (M : Fz) (d q : Nat) (n : Int) (h1 : 1 ≤ n) (hn : n ≤ 256) (h : Src w M d q) (hq : q ≤ 1000000000000) :
    Calls Try.prog 41 #[.pointer (some ⟨d, 0, none⟩), .int .i64 n] w fun e w' => ∃ r : Bool, e = .returned (.bool r) ∧ Src w' M d (q + 1) ∧ w.grownBy w' (some d) := by
  have HS : Hid (Src w M d q) := h
  clear h
  go_enter Try.func41, Try.ntmps41
  go_wp2_with (go_at_call 85; refine (next_any _ M d q n hn HS.out hq).mono ?_; rintro e w1 ⟨r, rfl, ⟨r0, r1, r2⟩, S1, K1⟩; have HF := hide (And.intro S1 K1); clear S1 K1)
  go_ret
  exact ⟨_, rfl, HF.out.1, HF.out.2⟩
theorem size_any (w : World) (M : Fz) (d q : Nat) (n : Int) (h1 : 1 ≤ n) (hn : n ≤ 256) (h : Src w M d q) :
    Calls Try.prog 125 #[.pointer (some ⟨d, 0, none⟩), .int .i64 n] w fun e w' => ∃ r : Int, e = .returned (.int .i64 r) ∧ (1 ≤ r ∧ r ≤ n) ∧ ∃ m, w' = w.drewN m := by
  obtain ⟨ao, cap, xs, at_, sd, h, hat, hxl⟩ := h
  have c0 := h.c0
  clear h
  go_enter Try.func125, Try.ntmps125
  go_wp2
  all_goals
    go_ret
    exact ⟨_, rfl, by omega, 0, rfl⟩
end Go.Proofs.Ytklkglbimjajnaa.src
namespace Go.Proofs.Ytklkglbimjajnaa.bytes
open Go.ChangeShapes Go.WideShapes Go.ChangeAt Go.RowKit
theorem hide {p : Prop} (h : p) : Hid p := h
def Rd (w : World) (v : Value) (xs : List Int) : Prop :=
  ∃ ao cap, v = .slice ao xs.length cap ∧ xs.length ≤ cap ∧ cap ≤ maxLen ∧ (∀ x ∈ xs, 0 ≤ x ∧ x ≤ 255) ∧
    (0 < xs.length → ∃ b off, ao = some ⟨b, off, none⟩ ∧ ∀ i, i < xs.length → w.cell? ⟨b, off + i, none⟩ = some (.int .u8 (xs.getD i 0)))
def Own (w : World) (base : Nat) (v : Value) (xs : List Int) : Prop :=
  (∀ x ∈ xs, 0 ≤ x ∧ x ≤ 255) ∧ w.ownsRow base 5 1 v xs.length (xs.map (Value.int .u8))
theorem Own.rd {w : World} {base : Nat} {v : Value} {xs : List Int} (h : Own w base v xs) : Rd w v xs := by
  obtain ⟨hx, h⟩ := h
  have h' := h
  obtain ⟨h1, ⟨rfl, h2⟩ | ⟨g, cap, cur, rfl, hb, hg, hnc, hcm, hcs, htake⟩⟩ := h
  · exact ⟨none, 0, by rw [h2], by omega, by simp [maxLen], hx, fun hp => by omega⟩
  · refine ⟨_, cap, rfl, hnc, hcm, hx, fun hp => ⟨g, 0, rfl, fun i hi => ?_⟩⟩
    have := World.ownsRow.cellAt h' i (by omega)
    rw [Nat.zero_add, this]
    simp [hi]
theorem Own.lt {w : World} {base : Nat} {v : Value} {xs : List Int} (h : Own w base v xs) : ∀ k, v.ownBlock = some k → base ≤ k ∧ k < w.heap.size := World.ownsRow.lt h.2
theorem Own.below {w w' : World} {base B : Nat} {v : Value} {xs : List Int} (h : Own w base v xs) (hb : Below B w w') (hB : w.heap.size ≤ B) : Own w' base v xs := by
  refine ⟨h.1, ?_⟩
  obtain ⟨h1, h2 | ⟨g, cap, cur, rfl, hbg, hg, hnc, hcm, hcs, htake⟩⟩ := h.2
  · exact ⟨h1, .inl h2⟩
  · have hlt := (h.lt g rfl).2
    exact ⟨h1, .inr ⟨g, cap, cur, rfl, hbg, (hb.block g (by omega)).trans hg, hnc, hcm, hcs, htake⟩⟩
theorem Own.mono {w : World} {base base' : Nat} {v : Value} {xs : List Int} (h : Own w base v xs) (hb : base' ≤ base) : Own w base' v xs := by
  refine ⟨h.1, ?_⟩
  obtain ⟨h1, h2 | ⟨g, cap, cur, rfl, hbg, r⟩⟩ := h.2
  · exact ⟨h1, .inl h2⟩
  · exact ⟨h1, .inr ⟨g, cap, cur, rfl, by omega, r⟩⟩
theorem cell_lt {w : World} {a : Addr} {v : Value} (h : w.cell? a = some v) : a.block < w.heap.size := by
  simp only [World.cell?] at h
  cases e : w.heap[a.block]? with
  | none => simp [e] at h
  | some o => exact (Array.getElem?_eq_some_iff.1 e).1
theorem Rd.below {w w' : World} {B : Nat} {v : Value} {xs : List Int} (h : Rd w v xs) (hb : Below B w w') (hB : w.heap.size ≤ B) : Rd w' v xs := by
  obtain ⟨ao, cap, rfl, h1, h2, h3, h4⟩ := h
  refine ⟨ao, cap, rfl, h1, h2, h3, fun hp => ?_⟩
  obtain ⟨b, off, rfl, hc⟩ := h4 hp
  exact ⟨b, off, rfl, fun i hi => (hb.cell (by have := cell_lt (hc i hi); simp at this ⊢; omega)).trans (hc i hi)⟩
theorem getD_bd {xs : List Int} (h : ∀ x ∈ xs, 0 ≤ x ∧ x ≤ 255) (k : Nat) : 0 ≤ xs.getD k 0 ∧ xs.getD k 0 ≤ 255 := by
  rw [List.getD_eq_getElem?_getD]
  by_cases hk : k < xs.length
  · rw [List.getElem?_eq_getElem hk]; exact h _ (List.getElem_mem hk)
  · rw [List.getElem?_eq_none (by omega)]; simp
theorem info5 : (Try.prog.info? 5).map (fun i => (i.zero, i.size, i.bytes)) = some (some (.int .u8 0), 1, 1) := by kernel_rfl
end Go.Proofs.Ytklkglbimjajnaa.bytes
namespace Go.Proofs.Ytklkglbimjajnaa.pile
open Go.ChangeShapes Go.WideShapes Go.ChangeAt Go.RowKit
open bytes
def RdA (w : World) (v : Value) (ys : List Int) : Prop := Rd w v ys ∧ ∀ n c, v = .slice none n c → v = .slice none 0 0
theorem Own.rdA {w : World} {base : Nat} {v : Value} {xs : List Int} (h : Own w base v xs) : RdA w v xs := by
  refine ⟨h.rd, fun n c e => ?_⟩
  obtain ⟨_, h1, ⟨rfl, h2⟩ | ⟨g, cap, cur, rfl, _⟩⟩ := h
  · rfl
  · simp at e
theorem RdA.below {w w' : World} {B : Nat} {v : Value} {xs : List Int} (h : RdA w v xs) (hb : Below B w w') (hB : w.heap.size ≤ B) : RdA w' v xs := ⟨h.1.below hb hB, h.2⟩
theorem add_at (b off i : Nat) : (⟨b, off, none⟩ : Addr).add i = ⟨b, off + i, none⟩ := by
  unfold Addr.add
  split
  · rename_i h; subst h; rfl
  · rfl
theorem wpList_append_rd {P : Program} (w : World) {ops : Array Oper} {rest : List Oper} {o : Oper} {a : Act} {Q : Exit → Act → World → Prop} (hgd : o.guard = none) (s x : Operand) (t : TypeId)
    (ho : o.op = .call { callee := .builtin .append, args := #[s, x], argTypes := #[t, t] }) (ht : P.underlying t = some (.slice 5))
    (hi : (P.info? 5).map (fun i => (i.zero, i.size, i.bytes)) = some (some (.int .u8 0), 1, 1))
    (base : Nat) (v : Value) (xs : List Int) (hs : a.eval s = v) (hown : Own w base v xs) (u : Value) (ys : List Int) (hx : a.eval x = u) (hr : RdA w u ys)
    (hlen : xs.length + ys.length ≤ 140737488355328) (hbase : base ≤ w.heap.size)
    (h : ∀ v' w', Own w' base v' (xs ++ ys) → w.grownBy w' v.ownBlock → wpList P ops Q rest (a.put o.dst v') w') : wpList P ops Q (o :: rest) a w := by
  obtain ⟨i0, hi1, hz0, hz1, hz2⟩ := info_parts hi
  obtain ⟨⟨ao, cap, rfl, h1, h2, h3, h4⟩, hnil⟩ := hr
  have hall : ∀ y ∈ xs ++ ys, 0 ≤ y ∧ y ≤ 255 := by
    intro y hy
    rcases List.mem_append.1 hy with hy | hy
    · exact hown.1 y hy
    · exact h3 y hy
  cases ao with
  | none =>
    have e := hnil _ _ rfl
    simp only [Value.slice.injEq, true_and] at e
    have hys : ys = [] := List.length_eq_zero_iff.1 e.1
    subst hys
    obtain rfl : cap = 0 := e.2
    refine wpList_append_own_none hgd s x t ho base 5 i0 1 ht hi1 v xs.length _ hs hown.2 hx ?_
    have := h v w (by simpa using hown) (World.grownBy.refl _ _)
    exact this
  | some ad =>
    refine wpList_append_own w hgd s x t ho base 5 i0 (.int .u8 0) 1 1 ht hi1 hz0 hz1 hz2 rfl (by decide) v xs.length _ hs hown.2 ad ys.length cap (ys.map (Value.int .u8)) hx (by simp) ?_ ?_ (by unfold maxLen; omega) (by omega) hbase ?_
    · intro j y hy
      simp only [List.getElem?_map, Option.map_eq_some_iff] at hy
      obtain ⟨z, hz, rfl⟩ := hy
      have hj : j < ys.length := (List.getElem?_eq_some_iff.1 hz).1
      obtain ⟨b, off, e, hc⟩ := h4 (by omega)
      simp only [Option.some.injEq] at e
      subst e
      rw [add_at, hc j hj]
      simp [List.getD_eq_getElem?_getD, hz]
    · intro y hy
      obtain ⟨z, _, rfl⟩ := List.mem_map.1 hy
      rfl
    · intro v' w' hown' hgrow _
      refine h v' w' ⟨hall, ?_⟩ hgrow
      rw [List.length_append, List.map_append]
      exact hown'
def RdS (w : World) (p : Value) (us : List Value) : Prop :=
  ∃ ao cap, p = .slice ao us.length cap ∧ us.length ≤ cap ∧ cap ≤ maxLen ∧
    (0 < us.length → ∃ b off, ao = some ⟨b, off, none⟩ ∧ ∀ i, i < us.length → w.cell? ⟨b, off + i, none⟩ = some (us.getD i (.slice none 0 0)))
def Texts (w : World) (us : List Value) (xss : List (List Int)) : Prop := us.length = xss.length ∧ ∀ i, i < us.length → RdA w (us.getD i (.slice none 0 0)) (xss.getD i [])
def sizeTo (xss : List (List Int)) (k : Nat) : Nat := (xss.take k).flatten.length
theorem flat_succ {xss : List (List Int)} {k : Nat} (h : k < xss.length) : (xss.take (k + 1)).flatten = (xss.take k).flatten ++ xss.getD k [] := by
  have e : xss.getD k [] = xss[k] := by simp [List.getD_eq_getElem?_getD, h]
  rw [List.take_succ_eq_append_getElem h, List.flatten_append, e]
  simp only [List.flatten_cons, List.flatten_nil, List.append_nil]
theorem sizeTo_succ {xss : List (List Int)} {k : Nat} (h : k < xss.length) : sizeTo xss (k + 1) = sizeTo xss k + (xss.getD k []).length := by
  unfold sizeTo
  rw [flat_succ h, List.length_append]
theorem sizeTo_le (xss : List (List Int)) (k : Nat) : sizeTo xss k ≤ xss.flatten.length := by
  unfold sizeTo
  have : xss.flatten = (xss.take k).flatten ++ (xss.drop k).flatten := by rw [← List.flatten_append, List.take_append_drop]
  rw [this]; simp
end Go.Proofs.Ytklkglbimjajnaa.pile
