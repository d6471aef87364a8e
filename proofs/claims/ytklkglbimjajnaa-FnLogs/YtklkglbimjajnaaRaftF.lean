/- The cluster as plain functions, and that what they do are steps of Raft.lean. -/
import Derived.Test.YtklkglbimjajnaaRaft
namespace Go.Proofs.Ytklkglbimjajnaa.Raft
structure Peer where
  up : Bool
  term : Nat
  vote : Nat
  commit : Nat
  role : Nat
  log : List Rc
  votes : List Bool
  next : List Nat
  mat : List Nat
structure Msg where
  kind : Nat
  frm : Nat
  to : Nat
  term : Nat
  a : Nat
  b : Nat
  c : Nat
  ok : Bool
  log : List Rc
structure Cl where
  peers : List Peer
  net : List Msg
  chosen : List Rc
  conflict : Bool
def Peer.zero : Peer := ⟨false, 0, 0, 0, 0, [], [], [], []⟩
def Cl.at (c : Cl) (k : Nat) : Peer := c.peers.getD k Peer.zero
def Cl.put (c : Cl) (k : Nat) (p : Peer) : Cl := { c with peers := c.peers.set k p }
def Cl.send (c : Cl) (m : Msg) : Cl := if c.net.length < 200 then { c with net := c.net ++ [m] } else c
def termAt (l : List Rc) (i : Nat) : Nat := if i = 0 then 0 else match l[i - 1]? with
  | some r => r.term
  | none => 0
def Cl.down (c : Cl) (k T : Nat) : Cl :=
  let p := c.at k
  c.put k { p with term := max p.term T, vote := if p.term < T then 0 else p.vote, role := 0, votes := [], next := [], mat := [] }
def Cl.records (c : Cl) (k to : Nat) : Cl :=
  let p := c.at k
  let x := p.next.getD to 0
  c.send ⟨3, k, to, p.term, x - 1, termAt p.log (x - 1), p.commit, false, p.log.drop (x - 1)⟩
def others (n k : Nat) : List Nat := (List.range n).filter (· ≠ k)
def Cl.toAll (c : Cl) (k : Nat) : Cl := (others c.peers.length k).foldl (fun c i => c.records k i) c
/-- What a peer has committed, held beside what was chosen. -/
def Cl.note (c : Cl) (k : Nat) : Cl :=
  let l := (c.at k).log.take (c.at k).commit
  { c with chosen := c.chosen ++ l.drop c.chosen.length, conflict := c.conflict || decide (l.take c.chosen.length ≠ c.chosen.take l.length) }
def most (n : Nat) : Nat := n / 2 + 1
/-- The greatest index above lo whose record is of the term and that most have. -/
def reach (p : Peer) (n : Nat) : Nat → Nat
  | 0 => p.commit
  | i + 1 => if i + 1 ≤ p.commit then p.commit else if most n ≤ p.mat.countP (fun m => decide (i + 1 ≤ m)) ∧ termAt p.log (i + 1) = p.term then i + 1 else reach p n i
def Cl.commits (c : Cl) (k : Nat) : Cl :=
  let p := c.at k
  (c.put k { p with commit := reach p c.peers.length p.log.length }).note k
def Cl.elected (c : Cl) (k : Nat) : Cl :=
  let p := c.at k
  let n := c.peers.length
  if p.role = 1 ∧ most n ≤ p.votes.countP id then
    ((c.put k { p with role := 2, votes := [], next := List.replicate n (p.log.length + 1), mat := (List.replicate n 0).set k p.log.length }).commits k).toAll k
  else c
def Cl.tick (c : Cl) (k : Nat) : Cl :=
  let p := c.at k
  let n := c.peers.length
  if p.role = 2 then c.toAll k else if p.term = 1000000 then c else
    let q := { p with term := p.term + 1, vote := k + 1, role := 1, votes := (List.replicate n false).set k true }
    ((others n k).foldl (fun c i => c.send ⟨1, k, i, q.term, q.log.length, lastTerm q.log, 0, false, []⟩) (c.put k q)).elected k
/-- A log with a leader's records put into it from an index on. -/
def merge (l : List Rc) (a : Nat) : List Rc → List Rc
  | [] => l
  | r :: rs =>
    let m := if a < l.length ∧ termAt l (a + 1) ≠ r.term then l.take a else l
    merge (if a = m.length then m ++ [r] else m) (a + 1) rs
def Cl.appended (c : Cl) (m : Msg) : Cl :=
  let p := c.at m.to
  if m.term < p.term then c.send ⟨4, m.to, m.frm, p.term, 0, 0, 0, false, []⟩ else
    let c := c.down m.to m.term
    let p := c.at m.to
    if p.log.length < m.a ∨ termAt p.log m.a ≠ m.b then c.send ⟨4, m.to, m.frm, p.term, min (m.a - 1) p.log.length, 0, 0, false, []⟩ else
      let e := m.a + m.log.length
      ((c.put m.to { p with log := merge p.log m.a m.log, commit := max p.commit (min m.c e) }).note m.to).send ⟨4, m.to, m.frm, p.term, e, 0, 0, true, []⟩
def Cl.deliver (c : Cl) (m : Msg) : Cl :=
  if (c.at m.to).up = false then c else
    let c := if (c.at m.to).term < m.term then c.down m.to m.term else c
    let p := c.at m.to
    if m.kind = 1 then
      let ok := decide (m.term = p.term ∧ (p.vote = 0 ∨ p.vote = m.frm + 1) ∧ (lastTerm p.log < m.b ∨ m.b = lastTerm p.log ∧ p.log.length ≤ m.a))
      (if ok then c.put m.to { p with vote := m.frm + 1 } else c).send ⟨2, m.to, m.frm, p.term, 0, 0, 0, ok, []⟩
    else if m.kind = 2 then
      if m.term = p.term ∧ p.role = 1 ∧ m.ok = true then (c.put m.to { p with votes := p.votes.set m.frm true }).elected m.to else c
    else if m.kind = 3 then c.appended m
    else if m.kind = 4 then
      if m.term ≠ p.term ∨ p.role ≠ 2 then c
      else if m.ok then (c.put m.to { p with mat := p.mat.set m.frm (max (p.mat.getD m.frm 0) m.a), next := p.next.set m.frm (max (p.next.getD m.frm 0) (m.a + 1)) }).commits m.to
      else if m.a + 1 < p.next.getD m.frm 0 then (c.put m.to { p with next := p.next.set m.frm (max (p.mat.getD m.frm 0 + 1) (m.a + 1)) }).records m.to m.frm
      else c
    else c
structure Ev where
  kind : Int
  n : Int
  data : List Int
/-- An event, and its code. -/
def Cl.event (c : Cl) (e : Ev) : Cl × Int :=
  if e.kind = 2 ∨ e.kind = 3 ∨ e.kind = 4 then
    if e.n < 0 ∨ (c.net.length : Int) ≤ e.n then (c, 6) else
      match c.net[e.n.toNat]? with
      | none => (c, 6)
      | some m =>
        if e.kind = 2 then (({ c with net := c.net.eraseIdx e.n.toNat } : Cl).deliver m, 0)
        else if e.kind = 3 then ({ c with net := c.net.eraseIdx e.n.toNat }, 0)
        else (c.send m, 0)
  else if e.kind = 1 ∨ e.kind = 5 ∨ e.kind = 6 ∨ e.kind = 7 then
    if e.n < 0 ∨ (c.peers.length : Int) ≤ e.n then (c, 6) else
      let k := e.n.toNat
      let p := c.at k
      if p.up = decide (e.kind = 6) then (c, 15)
      else if e.kind = 1 then (c.tick k, 0)
      else if e.kind = 5 then (c.put k ⟨false, p.term, p.vote, 0, 0, p.log, [], [], []⟩, 0)
      else if e.kind = 6 then (c.put k { p with up := true }, 0)
      else if p.role ≠ 2 then (c, 15)
      else if 1000 < e.data.length ∨ p.log.length = 100 then (c, 14)
      else ((c.put k { p with log := p.log ++ [⟨p.term, p.log.length + 1, e.data⟩], mat := p.mat.set k (p.log.length + 1) }).commits k, 0)
  else (c, 3)
def Cl.begin (n : Nat) : Cl := ⟨List.replicate n { Peer.zero with up := true }, [], [], false⟩
def Peer.abs (p : Peer) : Pr := ⟨p.term, p.vote, p.commit, p.role, p.log, fun q => p.votes.getD q false, fun q => p.mat.getD q 0⟩
/-- A later state: what is told of the history stays. -/
structure Ext (s s' : St) : Prop where
  cl : ∀ U p x, s.cl U p = some x → s'.cl U p = some x
  vt : ∀ U p x, s.vt U p = some x → s'.vt U p = some x
  lead : ∀ U k, s.lead U = some k → s'.lead U = some k
  llog : ∀ U, ∃ t, s'.llog U = s.llog U ++ t
  ini : ∀ U, s.llog U ≠ [] → s'.ini U = s.ini U
  ack : ∀ U q, s.ack U q ≤ s'.ack U q
theorem Ext.refl (s : St) : Ext s s := ⟨fun _ _ _ h => h, fun _ _ _ h => h, fun _ _ h => h, fun _ => ⟨[], by simp⟩, fun _ _ => rfl, fun _ _ => Nat.le_refl _⟩
theorem Ext.setP (s : St) (p : Nat) (x : Pr) : Ext s (s.setP p x) := ⟨fun _ _ _ h => h, fun _ _ _ h => h, fun _ _ h => h, fun _ => ⟨[], by simp [St.setP]⟩, fun _ _ => rfl, fun _ _ => Nat.le_refl _⟩
theorem Ext.comm {n : Nat} {s s' : St} (h : Ext s s') {l : List Rc} {T : Nat} (hc : Comm n s l T) : Comm n s' l T := hc.grow (Nat.le_refl _) h.ini h.llog (fun U q _ => h.ack U q)
theorem Ext.take {s s' : St} (h : Ext s s') {T i : Nat} (hi : i ≤ (s.llog T).length) : (s'.llog T).take i = (s.llog T).take i := by
  obtain ⟨t, e⟩ := h.llog T
  rw [e, List.take_append_of_le_length hi]
theorem Ext.length {s s' : St} (h : Ext s s') (T : Nat) : (s.llog T).length ≤ (s'.llog T).length := by
  obtain ⟨t, e⟩ := h.llog T
  rw [e, List.length_append]; omega
theorem termAt_take {l m : List Rc} {i : Nat} (h : l.take i = m.take i) : termAt l i = termAt m i := by
  unfold termAt
  by_cases c : i = 0
  · rw [if_pos c, if_pos c]
  · rw [if_neg c, if_neg c, get_take h (by omega)]
/-- What a message says is so. -/
structure MsgOK (n : Nat) (s : St) (m : Msg) : Prop where
  frm : m.frm < n
  to : m.to < n
  ne : m.frm ≠ m.to
  ask : m.kind = 1 → ∃ l, s.cl m.term m.frm = some l ∧ m.a = l.length ∧ m.b = lastTerm l
  vote : m.kind = 2 → m.ok = true → ∃ l, s.vt m.term m.frm = some (m.to, l)
  recs : m.kind = 3 → s.lead m.term = some m.frm ∧ m.a + m.log.length ≤ (s.llog m.term).length ∧ m.b = termAt (s.llog m.term) m.a ∧ m.log = ((s.llog m.term).take (m.a + m.log.length)).drop m.a ∧ m.c ≤ (s.llog m.term).length ∧ Comm n s ((s.llog m.term).take m.c) m.term
  acked : m.kind = 4 → m.ok = true → m.a ≤ s.ack m.term m.frm ∧ s.lead m.term = some m.to
theorem MsgOK.ext {n : Nat} {s s' : St} {m : Msg} (h : MsgOK n s m) (e : Ext s s') : MsgOK n s' m where
  frm := h.frm
  to := h.to
  ne := h.ne
  ask := fun k => by
    obtain ⟨l, h1, h2⟩ := h.ask k
    exact ⟨l, e.cl _ _ _ h1, h2⟩
  vote := fun k o => by
    obtain ⟨l, h1⟩ := h.vote k o
    exact ⟨l, e.vt _ _ _ h1⟩
  recs := fun k => by
    obtain ⟨h1, h2, h3, h4, h5, h6⟩ := h.recs k
    refine ⟨e.lead _ _ h1, Nat.le_trans h2 (e.length _), ?_, ?_, Nat.le_trans h5 (e.length _), ?_⟩
    · rw [h3]; exact termAt_take (e.take (by omega)).symm
    · rw [e.take h2]; exact h4
    · rw [e.take h5]; exact e.comm h6
  acked := fun k o => ⟨Nat.le_trans (h.acked k o).1 (e.ack _ _), e.lead _ _ (h.acked k o).2⟩
structure WF (n : Nat) (p : Peer) : Prop where
  votes : p.role = 1 → p.votes.length = n
  lists : p.role = 2 → p.next.length = n ∧ p.mat.length = n ∧ ∀ q, q < n → 1 ≤ p.next.getD q 0 ∧ p.next.getD q 0 ≤ p.log.length + 1
structure Rel (n : Nat) (c : Cl) (s : St) : Prop where
  inv : Inv n s
  len : c.peers.length = n
  abs : ∀ p, p < n → s.pr p = (c.at p).abs
  wf : ∀ p, p < n → WF n (c.at p)
  msgs : ∀ m, m ∈ c.net → MsgOK n s m
  chosen : ∃ T, Comm n s c.chosen T
  clash : c.conflict = false
def Cov (n : Nat) (c : Cl) : Prop := ∀ p, p < n → (c.at p).commit ≤ c.chosen.length
theorem at_put (c : Cl) (k : Nat) (p : Peer) (h : k < c.peers.length) : (c.put k p).at k = p := by simp [Cl.at, Cl.put, List.getD, h]
theorem at_put_ne (c : Cl) {k q : Nat} (p : Peer) (h : q ≠ k) : (c.put k p).at q = c.at q := by simp [Cl.at, Cl.put, List.getD, h.symm]
/-- A peer moves, and the history with it. -/
theorem Rel.move {n : Nat} {c : Cl} {s s' : St} (h : Rel n c s) {k : Nat} {p : Peer} (hk : k < n) (hi : Inv n s') (he : Ext s s') (hp : s'.pr k = p.abs) (hq : ∀ q, q ≠ k → s'.pr q = s.pr q) (hw : WF n p) : Rel n (c.put k p) s' where
  inv := hi
  len := by simp [Cl.put]; exact h.len
  abs := fun q hqn => by
    by_cases d : q = k
    · subst d; rw [at_put c q p (by rw [h.len]; exact hk)]; exact hp
    · rw [at_put_ne c p d, hq q d]; exact h.abs q hqn
  wf := fun q hqn => by
    by_cases d : q = k
    · subst d; rw [at_put c q p (by rw [h.len]; exact hk)]; exact hw
    · rw [at_put_ne c p d]; exact h.wf q hqn
  msgs := fun m hm => (h.msgs m hm).ext he
  chosen := by
    obtain ⟨T, hT⟩ := h.chosen
    exact ⟨T, he.comm hT⟩
  clash := h.clash
theorem send_at (c : Cl) (m : Msg) (k : Nat) : (c.send m).at k = c.at k := by unfold Cl.send; split <;> rfl
theorem send_peers (c : Cl) (m : Msg) : (c.send m).peers = c.peers := by unfold Cl.send; split <;> rfl
theorem send_chosen (c : Cl) (m : Msg) : (c.send m).chosen = c.chosen ∧ (c.send m).conflict = c.conflict := by unfold Cl.send; split <;> exact ⟨rfl, rfl⟩
theorem Rel.send {n : Nat} {c : Cl} {s : St} (h : Rel n c s) {m : Msg} (hm : MsgOK n s m) : Rel n (c.send m) s where
  inv := h.inv
  len := by rw [send_peers]; exact h.len
  abs := fun p hp => by rw [send_at]; exact h.abs p hp
  wf := fun p hp => by rw [send_at]; exact h.wf p hp
  msgs := fun x hx => by
    unfold Cl.send at hx
    split at hx
    · rcases List.mem_append.1 hx with hx | hx
      · exact h.msgs x hx
      · rw [List.mem_singleton.1 hx]; exact hm
    · exact h.msgs x hx
  chosen := by rw [(send_chosen c m).1]; exact h.chosen
  clash := by rw [(send_chosen c m).2]; exact h.clash
theorem Cov.send {n : Nat} {c : Cl} (h : Cov n c) (m : Msg) : Cov n (c.send m) := fun p hp => by rw [send_at, (send_chosen c m).1]; exact h p hp
theorem Cov.put {n : Nat} {c : Cl} (h : Cov n c) {k : Nat} {p : Peer} (hc : p.commit ≤ (c.at k).commit) (hk : k < n) (hl : c.peers.length = n) : Cov n (c.put k p) := fun q hq => by
  show ((c.put k p).at q).commit ≤ c.chosen.length
  by_cases d : q = k
  · subst d
    rw [at_put c q p (by omega)]
    exact Nat.le_trans hc (h q hq)
  · rw [at_put_ne c p d]; exact h q hq
/-- A peer steps down, or is set to nothing but its log, its term and its vote. -/
theorem Rel.lower {n : Nat} {c : Cl} {s : St} (h : Rel n c s) {k : Nat} {p : Peer} (hk : k < n) (ht : (c.at k).term ≤ p.term) (hl : p.log = (c.at k).log) (hc : p.commit ≤ (c.at k).commit)
    (hv : (p.term = (c.at k).term ∧ p.vote = (c.at k).vote) ∨ ((c.at k).term < p.term ∧ p.vote = 0)) (hr : p.role = 0) : Rel n (c.put k p) (s.setP k p.abs) := by
  have e := h.abs k hk
  refine h.move hk (h.inv.setP ?_ ?_ (.inl ?_) (fun _ => ?_) (fun _ => .inl ?_)) (Ext.setP _ _ _) (setP_self _ _ _) (fun q hq => setP_ne _ _ hq) ⟨fun x => by (rw [hr] at x; cases x), fun x => by (rw [hr] at x; cases x)⟩
  · rw [e]; exact ht
  · rw [e]; exact hl
  · rw [e]; exact hc
  · rw [e]; exact hv
  · exact ⟨by show p.role ≠ 1; omega, by show p.role ≠ 2; omega⟩
theorem Rel.note {n : Nat} {c : Cl} {s : St} (h : Rel n c s) {k : Nat} (hk : k < n) (hc : ∀ p, p < n → p ≠ k → (c.at p).commit ≤ c.chosen.length) : Rel n (c.note k) s ∧ Cov n (c.note k) := by
  obtain ⟨T, hT⟩ := h.chosen
  have e := h.abs k hk
  have hm := h.inv.comm k hk
  rw [e] at hm
  have hlen : ((c.at k).log.take (c.at k).commit).length = (c.at k).commit := by rw [List.length_take]; exact Nat.min_eq_left hm.1
  have hm2 : Comm n s ((c.at k).log.take (c.at k).commit) (c.at k).term := hm.2
  have hnew : ∃ T, Comm n s (c.chosen ++ ((c.at k).log.take (c.at k).commit).drop c.chosen.length) T := by
    rcases Nat.le_total c.chosen.length ((c.at k).log.take (c.at k).commit).length with d | d
    · have := h.inv.agree hT hm2 d
      refine ⟨(c.at k).term, ?_⟩
      have e3 : c.chosen ++ ((c.at k).log.take (c.at k).commit).drop c.chosen.length = (c.at k).log.take (c.at k).commit := (congrArg (· ++ ((c.at k).log.take (c.at k).commit).drop c.chosen.length) this).trans (List.take_append_drop _ _)
      rw [e3]
      exact hm2
    · rw [List.drop_eq_nil_of_le d, List.append_nil]; exact ⟨T, hT⟩
  have hcl : ((c.at k).log.take (c.at k).commit).take c.chosen.length = c.chosen.take ((c.at k).log.take (c.at k).commit).length := by
    rcases Nat.le_total c.chosen.length ((c.at k).log.take (c.at k).commit).length with d | d
    · rw [← h.inv.agree hT hm2 d, List.take_of_length_le d]
    · rw [← h.inv.agree hm2 hT d, List.take_of_length_le d]
  refine ⟨⟨h.inv, h.len, h.abs, h.wf, h.msgs, hnew, ?_⟩, fun p hp => ?_⟩
  · show (c.conflict || decide _) = false
    rw [h.clash, hcl]; simp
  · show (c.at p).commit ≤ (c.chosen ++ _).length
    rw [List.length_append, List.length_drop, hlen]
    by_cases d : p = k
    · subst d; omega
    · have := hc p hp d; omega
theorem count_getD {α : Type} (f : α → Bool) (d : α) : ∀ l : List α, l.countP f = (List.range l.length).countP (fun q => f (l.getD q d))
  | [] => rfl
  | x :: l => by
    rw [List.countP_cons, List.length_cons, List.range_succ_eq_map, List.countP_cons, List.countP_map, count_getD f d l]
    rfl
theorem Rel.records {n : Nat} {c : Cl} {s : St} (h : Rel n c s) {k to : Nat} (hk : k < n) (ht : to < n) (hne : to ≠ k) (hr : (c.at k).role = 2) : Rel n (c.records k to) s := by
  have e := h.abs k hk
  have hl := h.inv.leader k hk (by rw [e]; exact hr)
  have hc := h.inv.comm k hk
  rw [e] at hl hc
  have hl1 : s.lead (c.at k).term = some k := hl.1
  have hl2 : (c.at k).log = s.llog (c.at k).term := hl.2.1
  have hw := ((h.wf k hk).lists hr).2.2 to ht
  have hlen : (s.llog (c.at k).term).length = (c.at k).log.length := by rw [hl2]
  refine h.send ⟨hk, ht, hne.symm, fun x => (by cases x), fun x => (by cases x), fun _ => ?_, fun x => (by cases x)⟩
  have hsum : (c.at k).next.getD to 0 - 1 + ((c.at k).log.drop ((c.at k).next.getD to 0 - 1)).length = (c.at k).log.length := by rw [List.length_drop]; omega
  refine ⟨hl1, ?_, ?_, ?_, ?_, ?_⟩
  · show _ + ((c.at k).log.drop _).length ≤ (s.llog (c.at k).term).length
    rw [hsum, hlen]; exact Nat.le_refl _
  · show termAt (c.at k).log _ = termAt (s.llog (c.at k).term) _
    rw [← hl2]
  · show (c.at k).log.drop _ = ((s.llog (c.at k).term).take (_ + ((c.at k).log.drop _).length)).drop _
    rw [hsum, ← hl2, List.take_of_length_le (Nat.le_refl _)]
  · show (c.at k).commit ≤ (s.llog (c.at k).term).length
    rw [hlen]; exact hc.1
  · show Comm n s ((s.llog (c.at k).term).take (c.at k).commit) (c.at k).term
    rw [← hl2]; exact hc.2
theorem records_at (c : Cl) (k to q : Nat) : (c.records k to).at q = c.at q := send_at _ _ _
theorem records_peers (c : Cl) (k to : Nat) : (c.records k to).peers = c.peers := send_peers _ _
theorem records_chosen (c : Cl) (k to : Nat) : (c.records k to).chosen = c.chosen := (send_chosen _ _).1
theorem Rel.fold {n : Nat} {s : St} {k : Nat} (hk : k < n) : ∀ (l : List Nat) (c : Cl), (∀ i ∈ l, i < n ∧ i ≠ k) → Rel n c s → Cov n c → (c.at k).role = 2 → Rel n (l.foldl (fun c i => c.records k i) c) s ∧ Cov n (l.foldl (fun c i => c.records k i) c)
  | [], c, _, h, hc, _ => ⟨h, hc⟩
  | i :: l, c, hl, h, hc, hr => by
    have := hl i List.mem_cons_self
    exact Rel.fold hk l (c.records k i) (fun j hj => hl j (List.mem_cons_of_mem _ hj)) (h.records hk this.1 this.2 hr) (hc.send _) (by rw [records_at]; exact hr)
theorem mem_others {n k i : Nat} (h : i ∈ others n k) : i < n ∧ i ≠ k := by
  unfold others at h
  simp at h
  exact h
theorem Rel.toAll {n : Nat} {c : Cl} {s : St} (h : Rel n c s) (hc : Cov n c) {k : Nat} (hk : k < n) (hr : (c.at k).role = 2) : Rel n (c.toAll k) s ∧ Cov n (c.toAll k) :=
  Rel.fold hk _ c (fun i hi => by have := mem_others hi; rw [h.len] at this; exact this) h hc hr
theorem reach_spec (p : Peer) (n : Nat) : ∀ i, reach p n i = p.commit ∨ (p.commit < reach p n i ∧ reach p n i ≤ i ∧ most n ≤ p.mat.countP (fun m => decide (reach p n i ≤ m)) ∧ termAt p.log (reach p n i) = p.term)
  | 0 => .inl rfl
  | i + 1 => by
    unfold reach
    split
    · exact .inl rfl
    · next h1 =>
      split
      · next h2 => exact .inr ⟨by omega, Nat.le_refl _, h2.1, h2.2⟩
      · rcases reach_spec p n i with h | h
        · exact .inl h
        · exact .inr ⟨h.1, by omega, h.2.2⟩
theorem Rel.commits {n : Nat} {c : Cl} {s : St} (h : Rel n c s) (hc : Cov n c) {k : Nat} (hk : k < n) (hr : (c.at k).role = 2) : ∃ s', Rel n (c.commits k) s' ∧ Cov n (c.commits k) ∧ ((c.commits k).at k).role = 2 := by
  have e := h.abs k hk
  have hl := h.inv.leader k hk (by rw [e]; exact hr)
  have hcm := h.inv.comm k hk
  rw [e] at hl hcm
  have hl1 : s.lead (c.at k).term = some k := hl.1
  have hl2 : (c.at k).log = s.llog (c.at k).term := hl.2.1
  have hl3 : ∀ q, q < n → (c.at k).mat.getD q 0 ≤ s.ack (c.at k).term q := hl.2.2
  have hw := h.wf k hk
  have hcm1 : (c.at k).commit ≤ (c.at k).log.length := hcm.1
  have hnew : reach (c.at k) c.peers.length (c.at k).log.length ≤ (c.at k).log.length ∧ Comm n s ((c.at k).log.take (reach (c.at k) c.peers.length (c.at k).log.length)) (c.at k).term := by
    rcases reach_spec (c.at k) c.peers.length (c.at k).log.length with d | ⟨d1, d2, d3, d4⟩
    · rw [d]; exact hcm
    · refine ⟨d2, .inr ⟨(c.at k).term, reach (c.at k) c.peers.length (c.at k).log.length, Nat.le_refl _, ?_, by rw [← hl2]; exact d2, ⟨fun q => decide (reach (c.at k) c.peers.length (c.at k).log.length ≤ (c.at k).mat.getD q 0), ?_, ?_⟩, by rw [List.length_take]; exact Nat.min_le_left _ _, ?_⟩⟩
      · unfold termAt at d4
        rw [if_neg (by omega)] at d4
        obtain ⟨r, hr0⟩ : ∃ r, (c.at k).log[reach (c.at k) c.peers.length (c.at k).log.length - 1]? = some r := ⟨_, List.getElem?_eq_getElem (by omega)⟩
        rw [hr0] at d4
        have := h.inv.before hl1 (by rw [← hl2]; exact hr0) d4
        omega
      · unfold quorum
        rw [count_getD _ 0, (hw.lists hr).2.1, h.len] at d3
        rw [h.len]
        exact d3
      · intro q hq hQ
        exact Nat.le_trans (by simpa using hQ) (hl3 q hq)
      · rw [List.length_take, Nat.min_eq_left d2, ← hl2]
  have hrel : Rel n (c.put k { c.at k with commit := reach (c.at k) c.peers.length (c.at k).log.length }) (s.setP k { c.at k with commit := reach (c.at k) c.peers.length (c.at k).log.length : Peer }.abs) := by
    refine h.move hk (h.inv.setP (by rw [e]; exact Nat.le_refl _) (by rw [e]; rfl) (.inr hnew) (fun _ => .inl (by rw [e]; exact ⟨rfl, rfl⟩)) (fun _ => .inr ⟨by rw [e]; rfl, by rw [e]; rfl, fun x => ?_, fun _ => ?_⟩)) (Ext.setP _ _ _) (setP_self _ _ _) (fun q hq => setP_ne _ _ hq) ⟨hw.votes, hw.lists⟩
    · have x : (c.at k).role = 1 := x
      rw [hr] at x; cases x
    · exact hl3
  have hp : c.peers.length = n := h.len
  have := hrel.note hk (fun p hpn hne => by rw [at_put_ne _ _ hne]; exact hc p hpn)
  refine ⟨_, this.1, this.2, ?_⟩
  show (Cl.at (c.put k _) k).role = 2
  rw [at_put c k _ (by omega)]
  exact hr
theorem Inv.fresh {n : Nat} {s : St} (h : Inv n s) {p : Nat} (hp : p < n) (hr : (s.pr p).role = 1) (hQ : quorum n (s.pr p).votes) : s.lead (s.pr p).term = none := by
  obtain ⟨hcl, hnl, hvs⟩ := h.cand p hp hr
  cases e : s.lead (s.pr p).term with
  | none => rfl
  | some k =>
    obtain ⟨_, _, Q, h3, h4⟩ := h.lead_q _ k e
    obtain ⟨q, hq, h5, h6⟩ := quorum_meet hQ h3
    obtain ⟨l, hl⟩ := hvs q hq h5
    obtain ⟨l', hl'⟩ := h4 q hq h6
    rw [hl] at hl'
    injection hl' with hl'
    injection hl' with hl' _
    subst hl'
    exact absurd e hnl
theorem Ext.elect {n : Nat} {s : St} (h : Inv n s) {p : Nat} (hp : p < n) (hr : (s.pr p).role = 1) (hQ : quorum n (s.pr p).votes) : Ext s (s.elect p) := by
  have hnone := h.fresh hp hr hQ
  have hll := h.llog_none _ hnone
  refine ⟨fun _ _ _ x => x, fun _ _ _ x => x, fun U k e => ?_, fun U => ?_, fun U hU => ?_, fun U q => ?_⟩
  · show (if U = (s.pr p).term then some p else s.lead U) = some k
    rw [if_neg]; exact e; rintro rfl; rw [hnone] at e; cases e
  · show ∃ t, (if U = (s.pr p).term then (s.pr p).log else s.llog U) = s.llog U ++ t
    by_cases d : U = (s.pr p).term
    · rw [if_pos d, d, hll]; exact ⟨_, rfl⟩
    · rw [if_neg d]; exact ⟨[], by simp⟩
  · show (if U = (s.pr p).term then (s.pr p).log.length else s.ini U) = s.ini U
    rw [if_neg]; rintro rfl; exact hU hll
  · show s.ack U q ≤ (if U = (s.pr p).term ∧ q = p then (s.pr p).log.length else s.ack U q)
    split
    · next d =>
      have := h.ack_le U q
      rw [d.1, hll] at this
      rw [d.1]
      simp at this
      omega
    · exact Nat.le_refl _
theorem Rel.elected {n : Nat} {c : Cl} {s : St} (h : Rel n c s) (hc : Cov n c) {k : Nat} (hk : k < n) : ∃ s', Rel n (c.elected k) s' ∧ Cov n (c.elected k) := by
  unfold Cl.elected
  by_cases d : (c.at k).role = 1 ∧ most c.peers.length ≤ (c.at k).votes.countP id
  · simp only [if_pos d]
    have e := h.abs k hk
    have hr : (s.pr k).role = 1 := by rw [e]; exact d.1
    have hQ : quorum n (s.pr k).votes := by
      rw [e]
      have := d.2
      rw [count_getD _ false, (h.wf k hk).votes d.1, h.len] at this
      exact this
    have hlen := h.len
    have hrel : Rel n (c.put k { c.at k with role := 2, votes := [], next := List.replicate c.peers.length ((c.at k).log.length + 1), mat := (List.replicate c.peers.length 0).set k (c.at k).log.length }) (s.elect k) := by
      refine h.move hk (h.inv.elect hk hr hQ) (Ext.elect h.inv hk hr hQ) ?_ (fun q hq => ?_) ⟨fun x => (by cases x), fun _ => ⟨by simp [hlen], by simp [hlen], fun q hq => ?_⟩⟩
      · show (if k = k then _ else _) = _
        rw [if_pos rfl, e]
        show Pr.mk _ _ _ _ _ _ _ = Pr.mk _ _ _ _ _ _ _
        congr 1
        funext q
        show (if q = k then (c.at k).log.length else 0) = ((List.replicate c.peers.length 0).set k (c.at k).log.length).getD q 0
        by_cases d2 : q = k
        · subst d2
          rw [if_pos rfl]
          simp [List.getD, hlen, hk]
        · rw [if_neg d2]
          simp only [List.getD, List.getElem?_set_ne (Ne.symm d2), List.getElem?_replicate]
          split <;> rfl
      · show (if q = k then _ else _) = _
        rw [if_neg hq]
      · simp [List.getD, hlen, hq]
    have hcov : Cov n (c.put k { c.at k with role := 2, votes := [], next := List.replicate c.peers.length ((c.at k).log.length + 1), mat := (List.replicate c.peers.length 0).set k (c.at k).log.length }) := hc.put (Nat.le_refl _) hk hlen
    obtain ⟨s', h1, h2, h3⟩ := hrel.commits hcov hk (by rw [at_put c k _ (by omega)])
    exact ⟨s', h1.toAll h2 hk h3⟩
  · simp only [if_neg d]
    exact ⟨s, h, hc⟩
theorem Ext.stand {n : Nat} {s : St} (h : Inv n s) {p : Nat} (hp : p < n) : Ext s (s.stand p) := by
  refine ⟨fun U q x e => ?_, fun U q x e => ?_, fun _ _ e => e, fun U => ⟨[], by simp [St.stand, St.setP]⟩, fun _ _ => rfl, fun _ _ => Nat.le_refl _⟩
  · show (if U = (s.pr p).term + 1 ∧ q = p then _ else s.cl U q) = some x
    rw [if_neg]
    · exact e
    · rintro ⟨rfl, rfl⟩; have := h.cl_term _ _ _ hp e; omega
  · show (if U = (s.pr p).term + 1 ∧ q = p then _ else s.vt U q) = some x
    rw [if_neg]
    · exact e
    · rintro ⟨rfl, rfl⟩; have := h.vt_term _ _ _ hp e; omega
theorem Rel.sends {n : Nat} {s : St} {f : Nat → Msg} : ∀ (l : List Nat) (c : Cl), (∀ i ∈ l, MsgOK n s (f i)) → Rel n c s → Cov n c → Rel n (l.foldl (fun c i => c.send (f i)) c) s ∧ Cov n (l.foldl (fun c i => c.send (f i)) c)
  | [], _, _, h, hc => ⟨h, hc⟩
  | i :: l, c, hl, h, hc => Rel.sends l (c.send (f i)) (fun j hj => hl j (List.mem_cons_of_mem _ hj)) (h.send (hl i List.mem_cons_self)) (hc.send _)
theorem Rel.tick {n : Nat} {c : Cl} {s : St} (h : Rel n c s) (hc : Cov n c) {k : Nat} (hk : k < n) : ∃ s', Rel n (c.tick k) s' ∧ Cov n (c.tick k) := by
  unfold Cl.tick
  by_cases d : (c.at k).role = 2
  · simp only [if_pos d]
    exact ⟨s, h.toAll hc hk d⟩
  · simp only [if_neg d]
    by_cases d2 : (c.at k).term = 1000000
    · simp only [if_pos d2]; exact ⟨s, h, hc⟩
    · simp only [if_neg d2]
      have e := h.abs k hk
      have hlen := h.len
      have hrel : Rel n (c.put k { c.at k with term := (c.at k).term + 1, vote := k + 1, role := 1, votes := (List.replicate c.peers.length false).set k true }) (s.stand k) := by
        refine h.move hk (h.inv.stand hk) (Ext.stand h.inv hk) ?_ (fun q hq => ?_) ⟨fun _ => by simp [hlen], fun x => (by cases x)⟩
        · show (if k = k then _ else _) = _
          rw [if_pos rfl, e]
          show Pr.mk _ _ _ _ _ _ _ = Pr.mk _ _ _ _ _ _ _
          congr 1
          funext q
          show decide (q = k) = ((List.replicate c.peers.length false).set k true).getD q false
          by_cases d2 : q = k
          · subst d2
            simp [List.getD, hlen, hk]
          · simp only [List.getD, List.getElem?_set_ne (Ne.symm d2), List.getElem?_replicate, d2, decide_false]
            split <;> rfl
        · show (if q = k then _ else _) = _
          rw [if_neg hq]
      have hcov : Cov n (c.put k { c.at k with term := (c.at k).term + 1, vote := k + 1, role := 1, votes := (List.replicate c.peers.length false).set k true }) := hc.put (Nat.le_refl _) hk hlen
      have := Rel.sends (f := fun i => ⟨1, k, i, (c.at k).term + 1, (c.at k).log.length, lastTerm (c.at k).log, 0, false, []⟩) (others c.peers.length k) _ (fun i hi => ?_) hrel hcov
      · exact this.1.elected this.2 hk
      · have hm := mem_others hi
        rw [hlen] at hm
        refine ⟨hk, hm.1, hm.2.symm, fun _ => ⟨(c.at k).log, ?_, rfl, rfl⟩, fun x => (by cases x), fun x => (by cases x), fun x => (by cases x)⟩
        show (if (c.at k).term + 1 = (s.pr k).term + 1 ∧ k = k then some (s.pr k).log else _) = _
        rw [e, if_pos ⟨rfl, rfl⟩]
        rfl
theorem merge_spec {s : St} {L : List Rc} {T U : Nat} (hL : LM s L T) : ∀ (rs l : List Rc) (a : Nat), LM s l U → U ≤ T → a ≤ l.length → a + rs.length ≤ L.length → rs = (L.take (a + rs.length)).drop a → l.take a = L.take a →
    LM s (merge l a rs) T ∧ (merge l a rs).take (a + rs.length) = L.take (a + rs.length) ∧ ∀ i, i ≤ L.length → l.take i = L.take i → (merge l a rs).take i = L.take i
  | [], l, a, hl, hU, _, _, _, ht => ⟨hl.weaken hU, ht, fun _ _ h => h⟩
  | r :: rs, l, a, hl, hU, ha, hlen, hrs, ht => by
    have hlen' : a + (rs.length + 1) ≤ L.length := hlen
    have hr : L[a]? = some r := by
      have := congrArg (fun x => x[0]?) hrs
      simp only [List.getElem?_drop, List.getElem?_take, List.length_cons, Nat.add_zero, List.getElem?_cons_zero] at this
      rw [if_pos (by omega)] at this
      exact this.symm
    have hrs2 : rs = (L.take (a + 1 + rs.length)).drop (a + 1) := by
      have := congrArg (List.drop 1) hrs
      simp only [List.drop_drop, List.drop_succ_cons, List.drop_zero, List.length_cons] at this
      rw [show a + 1 + rs.length = a + (rs.length + 1) by omega]
      exact this
    have key : ∀ l1 : List Rc, LM s l1 T → l1.take (a + 1) = L.take (a + 1) → (∀ i, i ≤ L.length → l.take i = L.take i → l1.take i = L.take i) → LM s (merge l1 (a + 1) rs) T ∧ (merge l1 (a + 1) rs).take (a + (r :: rs).length) = L.take (a + (r :: rs).length) ∧ ∀ i, i ≤ L.length → l.take i = L.take i → (merge l1 (a + 1) rs).take i = L.take i := by
      intro l1 h1 h2 h3
      have := merge_spec (U := T) hL rs l1 (a + 1) h1 (Nat.le_refl _) (len_of_take h2 (by omega)) (by omega) hrs2 h2
      rw [List.length_cons, show a + (rs.length + 1) = a + 1 + rs.length by omega]
      exact ⟨this.1, this.2.1, fun i hi hli => this.2.2 i hi (h3 i hi hli)⟩
    unfold merge
    by_cases c : a < l.length
    · obtain ⟨x, hx⟩ : ∃ x, l[a]? = some x := ⟨_, List.getElem?_eq_getElem c⟩
      have hta : termAt l (a + 1) = x.term := by unfold termAt; rw [if_neg (by omega), show a + 1 - 1 = a by omega, hx]
      by_cases d : x.term = r.term
      · have e1 : ¬ (a < l.length ∧ termAt l (a + 1) ≠ r.term) := by rw [hta]; exact fun y => y.2 d
        simp only [if_neg e1]
        rw [if_neg (by omega)]
        exact key l (hl.weaken hU) (hl.same hL hx hr d) (fun _ _ h => h)
      · have e1 : a < l.length ∧ termAt l (a + 1) ≠ r.term := ⟨c, by rw [hta]; exact d⟩
        simp only [if_pos e1]
        have e2 : a = (l.take a).length := by rw [List.length_take]; omega
        rw [if_pos e2]
        have e3 : l.take a ++ [r] = L.take (a + 1) := by rw [ht, List.take_add_one, hr]; rfl
        rw [e3]
        refine key _ (hL.take _) (by rw [List.take_take]; congr 1; omega) (fun i hi hli => ?_)
        have hia : i ≤ a := by
          refine Classical.byContradiction fun hc => ?_
          have := get_take hli (show a < i by omega)
          rw [hx, hr] at this
          injection this with this
          exact d (by rw [this])
        rw [List.take_take, Nat.min_eq_left (by omega)]
    · have e1 : ¬ (a < l.length ∧ termAt l (a + 1) ≠ r.term) := fun y => c y.1
      simp only [if_neg e1]
      have e2 : a = l.length := by omega
      rw [if_pos e2]
      have e3 : l ++ [r] = L.take (a + 1) := by
        rw [List.take_add_one, hr, ← ht, e2, List.take_of_length_le (Nat.le_refl _)]; rfl
      rw [e3]
      refine key _ (hL.take _) (by rw [List.take_take]; congr 1; omega) (fun i hi hli => ?_)
      have hia : i ≤ a := by have := len_of_take hli hi; omega
      rw [List.take_take, Nat.min_eq_left (by omega)]
theorem Ext.accept {s : St} {q e : Nat} {x : Pr} : Ext s (s.accept q e x) := ⟨fun _ _ _ h => h, fun _ _ _ h => h, fun _ _ h => h, fun _ => ⟨[], by simp [St.accept, St.setP]⟩, fun _ _ => rfl, fun U r => by
  show s.ack U r ≤ (if U = (s.pr q).term ∧ r = q then max (s.ack U r) e else s.ack U r)
  split
  · exact Nat.le_max_left _ _
  · exact Nat.le_refl _⟩
theorem Rel.down {n : Nat} {c : Cl} {s : St} (h : Rel n c s) (hc : Cov n c) {k : Nat} (hk : k < n) (T : Nat) : ∃ s', Rel n (c.down k T) s' ∧ Cov n (c.down k T) ∧ Ext s s' ∧ (c.down k T).at k = { c.at k with term := max (c.at k).term T, vote := if (c.at k).term < T then 0 else (c.at k).vote, role := 0, votes := [], next := [], mat := [] } := by
  have hlen := h.len
  refine ⟨_, h.lower (p := { c.at k with term := max (c.at k).term T, vote := if (c.at k).term < T then 0 else (c.at k).vote, role := 0, votes := [], next := [], mat := [] }) hk (Nat.le_max_left _ _) rfl (Nat.le_refl _) ?_ rfl, hc.put (Nat.le_refl _) hk hlen, Ext.setP _ _ _, at_put c k _ (by omega)⟩
  show (max (c.at k).term T = (c.at k).term ∧ (if (c.at k).term < T then 0 else (c.at k).vote) = (c.at k).vote) ∨ ((c.at k).term < max (c.at k).term T ∧ (if (c.at k).term < T then 0 else (c.at k).vote) = 0)
  by_cases d : (c.at k).term < T
  · rw [if_pos d]; exact .inr ⟨by omega, rfl⟩
  · rw [if_neg d]; exact .inl ⟨by omega, rfl⟩
theorem Rel.appended {n : Nat} {c : Cl} {s : St} (h : Rel n c s) (hc : Cov n c) {m : Msg} (hm : MsgOK n s m) (h3 : m.kind = 3) : ∃ s', Rel n (c.appended m) s' ∧ Cov n (c.appended m) := by
  unfold Cl.appended
  by_cases d : m.term < (c.at m.to).term
  · simp only [if_pos d]
    exact ⟨s, h.send ⟨hm.to, hm.frm, hm.ne.symm, fun x => (by cases x), fun x => (by cases x), fun x => (by cases x), fun _ x => (by cases x)⟩, hc.send _⟩
  · simp only [if_neg d]
    obtain ⟨s1, r1, c1, x1, a1⟩ := h.down hc hm.to m.term
    have hm1 := hm.ext x1
    generalize c.down m.to m.term = C at r1 c1 a1 ⊢
    have ht : (C.at m.to).term = m.term := by rw [a1]; show max _ _ = _; omega
    have hrole : (C.at m.to).role = 0 := by rw [a1]
    by_cases d2 : (C.at m.to).log.length < m.a ∨ termAt (C.at m.to).log m.a ≠ m.b
    · simp only [if_pos d2]
      exact ⟨s1, r1.send ⟨hm.to, hm.frm, hm.ne.symm, fun x => (by cases x), fun x => (by cases x), fun x => (by cases x), fun _ x => (by cases x)⟩, c1.send _⟩
    · simp only [if_neg d2]
      obtain ⟨g1, g2, g3, g4, g5, g6⟩ := hm1.recs h3
      have e := r1.abs m.to hm.to
      have hterm : (s1.pr m.to).term = m.term := by rw [e]; exact ht
      have hlog : (s1.pr m.to).log = (C.at m.to).log := by rw [e]; rfl
      have hL := (r1.inv.lead_cl _ _ g1).2.2.2
      have hl := r1.inv.log_lm m.to hm.to
      rw [hlog, hterm] at hl
      have ha : m.a ≤ (C.at m.to).log.length := by omega
      have hb : termAt (C.at m.to).log m.a = m.b := Classical.byContradiction fun x => d2 (.inr x)
      have htake : (C.at m.to).log.take m.a = (s1.llog m.term).take m.a := by
        by_cases z : m.a = 0
        · rw [z]; rfl
        · obtain ⟨x, hx⟩ : ∃ x, (C.at m.to).log[m.a - 1]? = some x := ⟨_, List.getElem?_eq_getElem (by omega)⟩
          obtain ⟨y, hy⟩ : ∃ y, (s1.llog m.term)[m.a - 1]? = some y := ⟨_, List.getElem?_eq_getElem (by omega)⟩
          have hxy : x.term = y.term := by
            have := hb.trans g3
            unfold termAt at this
            rw [if_neg z, if_neg z, hx, hy] at this
            exact this
          have := hl.same hL hx hy hxy
          rw [show m.a - 1 + 1 = m.a by omega] at this
          exact this
      obtain ⟨k1, k2, k3⟩ := merge_spec hL m.log (C.at m.to).log m.a hl (Nat.le_refl _) ha g2 g4 htake
      have hinv : Inv n (s1.accept m.to (m.a + m.log.length) { C.at m.to with log := merge (C.at m.to).log m.a m.log, commit := max (C.at m.to).commit (min m.c (m.a + m.log.length)) : Peer }.abs) := by
        refine r1.inv.accept (k := m.frm) (C := min m.c (m.a + m.log.length)) hm.to (by rw [hterm]; exact g1) (by rw [hterm]; exact g2) (by rw [e]; rfl) (by rw [e]; rfl) hrole (by rw [hterm]; exact k1) (by rw [hterm]; exact k2) (fun i hi hli => ?_) (Nat.min_le_right _ _) ?_ (by rw [e]; rfl)
        · rw [hterm] at hi hli ⊢
          rw [hlog] at hli
          exact k3 i hi hli
        · rw [hterm]
          have := g6.prefix (min m.c (m.a + m.log.length))
          rw [List.take_take, Nat.min_eq_left (Nat.min_le_left _ _)] at this
          exact this
      have hrel := r1.move (p := { C.at m.to with log := merge (C.at m.to).log m.a m.log, commit := max (C.at m.to).commit (min m.c (m.a + m.log.length)) }) hm.to hinv Ext.accept (by show (if m.to = m.to then _ else _) = _; rw [if_pos rfl]) (fun q hq => by show (if q = m.to then _ else _) = _; rw [if_neg hq]) ⟨fun x => by (have x : (C.at m.to).role = 1 := x; rw [hrole] at x; cases x), fun x => by (have x : (C.at m.to).role = 2 := x; rw [hrole] at x; cases x)⟩
      have hnote := hrel.note hm.to (fun p hp hne => by rw [at_put_ne _ _ hne]; exact c1 p hp)
      refine ⟨_, hnote.1.send ⟨hm.to, hm.frm, hm.ne.symm, fun x => (by cases x), fun x => (by cases x), fun x => (by cases x), fun _ _ => ⟨?_, ?_⟩⟩, hnote.2.send _⟩
      · show m.a + m.log.length ≤ (if (C.at m.to).term = (s1.pr m.to).term ∧ m.to = m.to then max _ (m.a + m.log.length) else _)
        rw [if_pos ⟨by rw [e]; rfl, rfl⟩]
        exact Nat.le_max_right _ _
      · show s1.lead (C.at m.to).term = some m.frm
        rw [ht]; exact g1
theorem Ext.grant {n : Nat} {s : St} (h : Inv n s) {q c : Nat} (hq : q < n) (h0 : (s.pr q).vote = 0) : Ext s (s.grant q c) := by
  refine ⟨fun _ _ _ e => e, fun U p x e => ?_, fun _ _ e => e, fun U => ⟨[], by simp [St.grant, St.setP]⟩, fun _ _ => rfl, fun _ _ => Nat.le_refl _⟩
  show (if U = (s.pr q).term ∧ p = q then _ else s.vt U p) = some x
  rw [if_neg]
  · exact e
  · rintro ⟨rfl, rfl⟩; have := h.vote_is _ _ _ hq e; omega
theorem Rel.votes {n : Nat} {c : Cl} {s : St} (h : Rel n c s) (hc : Cov n c) {m : Msg} (hm : MsgOK n s m) (h1 : m.kind = 1) (ok : Bool) (hok : ok = decide (m.term = (c.at m.to).term ∧ ((c.at m.to).vote = 0 ∨ (c.at m.to).vote = m.frm + 1) ∧ (lastTerm (c.at m.to).log < m.b ∨ m.b = lastTerm (c.at m.to).log ∧ (c.at m.to).log.length ≤ m.a))) :
    ∃ s', Rel n ((if ok then c.put m.to { c.at m.to with vote := m.frm + 1 } else c).send ⟨2, m.to, m.frm, (c.at m.to).term, 0, 0, 0, ok, []⟩) s' ∧ Cov n ((if ok then c.put m.to { c.at m.to with vote := m.frm + 1 } else c).send ⟨2, m.to, m.frm, (c.at m.to).term, 0, 0, 0, ok, []⟩) := by
  have e := h.abs m.to hm.to
  have hlen := h.len
  cases ok with
  | false =>
    exact ⟨s, h.send ⟨hm.to, hm.frm, hm.ne.symm, fun x => (by cases x), fun _ x => (by cases x), fun x => (by cases x), fun x => (by cases x)⟩, hc.send _⟩
  | true =>
    have hd := of_decide_eq_true hok.symm
    have hcov : Cov n (c.put m.to { c.at m.to with vote := m.frm + 1 }) := hc.put (Nat.le_refl _) hm.to hlen
    by_cases d : (c.at m.to).vote = 0
    · obtain ⟨l, g1, g2, g3⟩ := hm.ask h1
      have h0 : (s.pr m.to).vote = 0 := by rw [e]; exact d
      have hin : Inv n (s.grant m.to m.frm) := by
        refine h.inv.grant (k := l) hm.to h0 (by rw [e]; show s.cl (c.at m.to).term _ = _; rw [← hd.1]; exact g1) ?_
        rw [e]
        show Far l (c.at m.to).log
        unfold Far
        rw [← g2, ← g3]
        rcases hd.2.2 with x | x
        · exact .inl x
        · exact .inr ⟨x.1.symm, x.2⟩
      have hrel := h.move (p := { c.at m.to with vote := m.frm + 1 }) hm.to hin (Ext.grant h.inv hm.to h0) (by show (if m.to = m.to then _ else _) = _; rw [if_pos rfl, e]; rfl) (fun q hq => by show (if q = m.to then _ else _) = _; rw [if_neg hq]) ⟨(h.wf m.to hm.to).votes, (h.wf m.to hm.to).lists⟩
      refine ⟨_, hrel.send ⟨hm.to, hm.frm, hm.ne.symm, fun x => (by cases x), fun _ _ => ⟨(s.pr m.to).log, ?_⟩, fun x => (by cases x), fun x => (by cases x)⟩, hcov.send _⟩
      show (if (c.at m.to).term = (s.pr m.to).term ∧ m.to = m.to then some (m.frm, (s.pr m.to).log) else _) = _
      rw [if_pos ⟨by rw [e]; rfl, rfl⟩]
    · have hv : (c.at m.to).vote = m.frm + 1 := by rcases hd.2.1 with x | x; exact absurd x d; exact x
      have hput : s.pr m.to = ({ c.at m.to with vote := m.frm + 1 } : Peer).abs := by rw [e]; unfold Peer.abs; rw [hv]
      have hrel := h.move (p := { c.at m.to with vote := m.frm + 1 }) hm.to h.inv (Ext.refl s) hput (fun _ _ => rfl) ⟨(h.wf m.to hm.to).votes, (h.wf m.to hm.to).lists⟩
      obtain ⟨l, hl⟩ := h.inv.vote_of m.to m.frm hm.to (by rw [e]; exact hv)
      refine ⟨_, hrel.send ⟨hm.to, hm.frm, hm.ne.symm, fun x => (by cases x), fun _ _ => ⟨l, ?_⟩, fun x => (by cases x), fun x => (by cases x)⟩, hcov.send _⟩
      rw [e] at hl
      exact hl
theorem getD_set {α : Type} (l : List α) (k q : Nat) (v d : α) (hk : k < l.length) : (l.set k v).getD q d = if q = k then v else l.getD q d := by
  by_cases c : q = k
  · subst c; rw [if_pos rfl]; simp [List.getD, hk]
  · rw [if_neg c]; simp only [List.getD, List.getElem?_set_ne (Ne.symm c)]
theorem Rel.deliver {n : Nat} {c : Cl} {s : St} (h : Rel n c s) (hc : Cov n c) {m : Msg} (hm : MsgOK n s m) : ∃ s', Rel n (c.deliver m) s' ∧ Cov n (c.deliver m) := by
  unfold Cl.deliver
  by_cases up : (c.at m.to).up = false
  · simp only [if_pos up]; exact ⟨s, h, hc⟩
  simp only [if_neg up]
  obtain ⟨s1, r1, c1, x1⟩ : ∃ s1, Rel n (if (c.at m.to).term < m.term then c.down m.to m.term else c) s1 ∧ Cov n (if (c.at m.to).term < m.term then c.down m.to m.term else c) ∧ Ext s s1 := by
    by_cases d : (c.at m.to).term < m.term
    · simp only [if_pos d]
      obtain ⟨s1, r1, c1, x1, _⟩ := h.down hc hm.to m.term
      exact ⟨s1, r1, c1, x1⟩
    · simp only [if_neg d]; exact ⟨s, h, hc, Ext.refl s⟩
  have hm1 := hm.ext x1
  generalize (if (c.at m.to).term < m.term then c.down m.to m.term else c) = C at r1 c1 ⊢
  have e := r1.abs m.to hm.to
  have hlen := r1.len
  have hw := r1.wf m.to hm.to
  by_cases k1 : m.kind = 1
  · rw [if_pos k1]; exact r1.votes c1 hm1 k1 _ rfl
  rw [if_neg k1]
  by_cases k2 : m.kind = 2
  · rw [if_pos k2]
    by_cases d : m.term = (C.at m.to).term ∧ (C.at m.to).role = 1 ∧ m.ok = true
    · rw [if_pos d]
      have hvl := hw.votes d.2.1
      obtain ⟨l, hl⟩ := hm1.vote k2 d.2.2
      have hcd := r1.inv.cand m.to hm.to (by rw [e]; exact d.2.1)
      rw [e] at hcd
      have hrel := r1.move (p := { C.at m.to with votes := (C.at m.to).votes.set m.frm true }) hm.to (r1.inv.setP (x := { C.at m.to with votes := (C.at m.to).votes.set m.frm true : Peer }.abs) (by rw [e]; exact Nat.le_refl _) (by rw [e]; rfl) (.inl (by rw [e]; exact Nat.le_refl _)) (fun _ => .inl (by rw [e]; exact ⟨rfl, rfl⟩)) (fun _ => .inr ⟨by rw [e]; rfl, by rw [e]; rfl, fun _ q hq hv => ?_, fun x => by (have x : (C.at m.to).role = 2 := x; rw [d.2.1] at x; cases x)⟩)) (Ext.setP _ _ _) (setP_self _ _ _) (fun q hq => setP_ne _ _ hq) ⟨fun _ => by simp [hvl], hw.lists⟩
      · exact hrel.elected (c1.put (Nat.le_refl _) hm.to hlen) hm.to
      · have hv : ((C.at m.to).votes.set m.frm true).getD q false = true := hv
        rw [getD_set _ _ _ _ _ (by rw [hvl]; exact hm.frm)] at hv
        by_cases z : q = m.frm
        · subst z
          exact ⟨l, by show s1.vt (C.at m.to).term m.frm = _; rw [← d.1]; exact hl⟩
        · rw [if_neg z] at hv
          exact hcd.2.2 q hq hv
    · rw [if_neg d]; exact ⟨s1, r1, c1⟩
  rw [if_neg k2]
  by_cases k3 : m.kind = 3
  · rw [if_pos k3]; exact r1.appended c1 hm1 k3
  rw [if_neg k3]
  by_cases k4 : m.kind = 4
  · rw [if_pos k4]
    by_cases d : m.term ≠ (C.at m.to).term ∨ (C.at m.to).role ≠ 2
    · rw [if_pos d]; exact ⟨s1, r1, c1⟩
    · rw [if_neg d]
      have ht : m.term = (C.at m.to).term := Classical.byContradiction fun x => d (.inl x)
      have hr : (C.at m.to).role = 2 := Classical.byContradiction fun x => d (.inr x)
      obtain ⟨w1, w2, w3⟩ := hw.lists hr
      have hld := r1.inv.leader m.to hm.to (by rw [e]; exact hr)
      rw [e] at hld
      have hl2 : (C.at m.to).log = s1.llog (C.at m.to).term := hld.2.1
      have hmat : ∀ q, q < n → (C.at m.to).mat.getD q 0 ≤ s1.ack (C.at m.to).term q := hld.2.2
      have hal : ∀ q, s1.ack (C.at m.to).term q ≤ (C.at m.to).log.length := fun q => by rw [hl2]; exact r1.inv.ack_le _ q
      have gen : ∀ (mt nx : List Nat), mt.length = n → nx.length = n → (∀ q, q < n → mt.getD q 0 ≤ s1.ack (C.at m.to).term q) → (∀ q, q < n → 1 ≤ nx.getD q 0 ∧ nx.getD q 0 ≤ (C.at m.to).log.length + 1) → ∃ s', Rel n (C.put m.to { C.at m.to with mat := mt, next := nx }) s' ∧ Cov n (C.put m.to { C.at m.to with mat := mt, next := nx }) := by
        intro mt nx g1 g2 g3 g4
        refine ⟨_, r1.move (p := { C.at m.to with mat := mt, next := nx }) hm.to (r1.inv.setP (x := { C.at m.to with mat := mt, next := nx : Peer }.abs) (by rw [e]; exact Nat.le_refl _) (by rw [e]; rfl) (.inl (by rw [e]; exact Nat.le_refl _)) (fun _ => .inl (by rw [e]; exact ⟨rfl, rfl⟩)) (fun _ => .inr ⟨by rw [e]; rfl, by rw [e]; rfl, fun x => by (have x : (C.at m.to).role = 1 := x; rw [hr] at x; cases x), fun _ => g3⟩)) (Ext.setP _ _ _) (setP_self _ _ _) (fun q hq => setP_ne _ _ hq) ⟨hw.votes, fun _ => ⟨g2, g1, g4⟩⟩, c1.put (Nat.le_refl _) hm.to hlen⟩
      cases ho : m.ok with
      | true =>
        simp only [if_true]
        have ha := (hm1.acked k4 ho).1
        rw [ht] at ha
        have g1 : ∀ q, q < n → ((C.at m.to).mat.set m.frm (max ((C.at m.to).mat.getD m.frm 0) m.a)).getD q 0 ≤ s1.ack (C.at m.to).term q := fun q hq => by
          rw [getD_set _ _ _ _ _ (by rw [w2]; exact hm.frm)]
          by_cases z : q = m.frm
          · rw [if_pos z, z]
            exact Nat.max_le.2 ⟨hmat _ hm.frm, ha⟩
          · rw [if_neg z]; exact hmat q hq
        have g2 : ∀ q, q < n → 1 ≤ ((C.at m.to).next.set m.frm (max ((C.at m.to).next.getD m.frm 0) (m.a + 1))).getD q 0 ∧ ((C.at m.to).next.set m.frm (max ((C.at m.to).next.getD m.frm 0) (m.a + 1))).getD q 0 ≤ (C.at m.to).log.length + 1 := fun q hq => by
          rw [getD_set _ _ _ _ _ (by rw [w1]; exact hm.frm)]
          by_cases z : q = m.frm
          · rw [if_pos z]
            have := w3 m.frm hm.frm
            have := hal m.frm
            omega
          · rw [if_neg z]; exact w3 q hq
        obtain ⟨s2, r2, c2⟩ := gen _ _ (by simp [w2]) (by simp [w1]) g1 g2
        obtain ⟨s3, r3, c3, _⟩ := r2.commits c2 hm.to (by rw [at_put _ _ _ (by rw [hlen]; exact hm.to)]; exact hr)
        exact ⟨s3, r3, c3⟩
      | false =>
        simp only [Bool.false_eq_true, if_false]
        by_cases d2 : m.a + 1 < (C.at m.to).next.getD m.frm 0
        · rw [if_pos d2]
          obtain ⟨s2, r2, c2⟩ := gen (C.at m.to).mat ((C.at m.to).next.set m.frm (max ((C.at m.to).mat.getD m.frm 0 + 1) (m.a + 1))) w2 (by simp [w1]) hmat (fun q hq => by
            rw [getD_set _ _ _ _ _ (by rw [w1]; exact hm.frm)]
            by_cases z : q = m.frm
            · rw [if_pos z]
              have := w3 m.frm hm.frm
              have := hal m.frm
              have := hmat m.frm hm.frm
              omega
            · rw [if_neg z]; exact w3 q hq)
          exact ⟨s2, r2.records hm.to hm.frm hm.ne (by rw [at_put _ _ _ (by rw [hlen]; exact hm.to)]; exact hr), c2.send _⟩
        · rw [if_neg d2]; exact ⟨s1, r1, c1⟩
  · rw [if_neg k4]; exact ⟨s1, r1, c1⟩
theorem Rel.part {n : Nat} {c : Cl} {s : St} (h : Rel n c s) {net : List Msg} (hn : ∀ m, m ∈ net → m ∈ c.net) : Rel n { c with net := net } s := ⟨h.inv, h.len, h.abs, h.wf, fun m hm => h.msgs m (hn m hm), h.chosen, h.clash⟩
theorem Ext.propose {n : Nat} {s : St} (h : Inv n s) {p : Nat} (hp : p < n) (hr : (s.pr p).role = 2) (r : Rc) : Ext s (s.propose p r) := by
  obtain ⟨h1, h2, _⟩ := h.leader p hp hr
  refine ⟨fun _ _ _ e => e, fun _ _ _ e => e, fun _ _ e => e, fun U => ?_, fun _ _ => rfl, fun U q => ?_⟩
  · show ∃ t, (if U = (s.pr p).term then (s.pr p).log ++ [r] else s.llog U) = s.llog U ++ t
    by_cases d : U = (s.pr p).term
    · rw [if_pos d, d, ← h2]; exact ⟨[r], rfl⟩
    · rw [if_neg d]; exact ⟨[], by simp⟩
  · show s.ack U q ≤ (if U = (s.pr p).term ∧ q = p then (s.pr p).log.length + 1 else s.ack U q)
    split
    · next d =>
      have := h.ack_le U q
      rw [d.1, ← h2] at this
      rw [d.1]
      omega
    · exact Nat.le_refl _
theorem Rel.event {n : Nat} {c : Cl} {s : St} (h : Rel n c s) (hc : Cov n c) (e : Ev) : ∃ s', Rel n (c.event e).1 s' ∧ Cov n (c.event e).1 := by
  unfold Cl.event
  by_cases k : e.kind = 2 ∨ e.kind = 3 ∨ e.kind = 4
  · simp only [if_pos k]
    by_cases d : e.n < 0 ∨ (c.net.length : Int) ≤ e.n
    · simp only [if_pos d]; exact ⟨s, h, hc⟩
    · simp only [if_neg d]
      cases hm : c.net[e.n.toNat]? with
      | none => exact ⟨s, h, hc⟩
      | some m =>
        have hmem : m ∈ c.net := List.mem_of_getElem? hm
        have hpart := h.part (net := c.net.eraseIdx e.n.toNat) (fun x hx => List.mem_of_mem_eraseIdx hx)
        simp only
        by_cases k2 : e.kind = 2
        · simp only [if_pos k2]; exact hpart.deliver (c := { c with net := c.net.eraseIdx e.n.toNat }) hc (h.msgs m hmem)
        · simp only [if_neg k2]
          by_cases k3 : e.kind = 3
          · simp only [if_pos k3]; exact ⟨s, hpart, hc⟩
          · simp only [if_neg k3]; exact ⟨s, h.send (h.msgs m hmem), hc.send _⟩
  · simp only [if_neg k]
    by_cases k' : e.kind = 1 ∨ e.kind = 5 ∨ e.kind = 6 ∨ e.kind = 7
    · simp only [if_pos k']
      by_cases d : e.n < 0 ∨ (c.peers.length : Int) ≤ e.n
      · simp only [if_pos d]; exact ⟨s, h, hc⟩
      · simp only [if_neg d]
        have hlen := h.len
        have hk : e.n.toNat < n := by omega
        generalize e.n.toNat = p at hk ⊢
        have ea := h.abs p hk
        have hw := h.wf p hk
        by_cases u : (c.at p).up = decide (e.kind = 6)
        · simp only [if_pos u]; exact ⟨s, h, hc⟩
        simp only [if_neg u]
        by_cases k1 : e.kind = 1
        · simp only [if_pos k1]; exact h.tick hc hk
        simp only [if_neg k1]
        by_cases k5 : e.kind = 5
        · simp only [if_pos k5]
          exact ⟨_, h.lower (p := ⟨false, (c.at p).term, (c.at p).vote, 0, 0, (c.at p).log, [], [], []⟩) hk (Nat.le_refl _) rfl (Nat.zero_le _) (.inl ⟨rfl, rfl⟩) rfl, hc.put (Nat.zero_le _) hk hlen⟩
        simp only [if_neg k5]
        by_cases k6 : e.kind = 6
        · simp only [if_pos k6]
          exact ⟨s, h.move (p := { c.at p with up := true }) hk h.inv (Ext.refl s) (by rw [ea]; rfl) (fun _ _ => rfl) ⟨hw.votes, hw.lists⟩, hc.put (Nat.le_refl _) hk hlen⟩
        simp only [if_neg k6]
        by_cases r : (c.at p).role ≠ 2
        · simp only [if_pos r]; exact ⟨s, h, hc⟩
        simp only [if_neg r]
        by_cases z : 1000 < e.data.length ∨ (c.at p).log.length = 100
        · simp only [if_pos z]; exact ⟨s, h, hc⟩
        simp only [if_neg z]
        have hr : (c.at p).role = 2 := Classical.byContradiction r
        have hr2 : (s.pr p).role = 2 := by rw [ea]; exact hr
        obtain ⟨w1, w2, w3⟩ := hw.lists hr
        have hin := h.inv.propose (r := ⟨(c.at p).term, (c.at p).log.length + 1, e.data⟩) hk hr2 (by rw [ea]; rfl) (by rw [ea]; rfl)
        have hrel := h.move (p := { c.at p with log := (c.at p).log ++ [⟨(c.at p).term, (c.at p).log.length + 1, e.data⟩], mat := (c.at p).mat.set p ((c.at p).log.length + 1) }) hk hin (Ext.propose h.inv hk hr2 _) (by
          show (if p = p then _ else _) = _
          rw [if_pos rfl, ea]
          show Pr.mk _ _ _ _ _ _ _ = Pr.mk _ _ _ _ _ _ _
          congr 1
          funext q
          show (if q = p then (c.at p).log.length + 1 else (c.at p).mat.getD q 0) = ((c.at p).mat.set p ((c.at p).log.length + 1)).getD q 0
          rw [getD_set _ _ _ _ _ (by rw [w2]; exact hk)]) (fun q hq => by show (if q = p then _ else _) = _; rw [if_neg hq]) ⟨fun x => by (have x : (c.at p).role = 1 := x; rw [hr] at x; cases x), fun _ => ⟨w1, by simp [w2], fun q hq => by
            have := w3 q hq
            refine ⟨this.1, ?_⟩
            show (c.at p).next.getD q 0 ≤ ((c.at p).log ++ [_]).length + 1
            rw [List.length_append]
            omega⟩⟩
        obtain ⟨s3, r3, c3, _⟩ := hrel.commits (hc.put (Nat.le_refl _) hk hlen) hk (by rw [at_put _ _ _ (by rw [hlen]; exact hk)]; exact hr)
        exact ⟨s3, r3, c3⟩
    · simp only [if_neg k']; exact ⟨s, h, hc⟩
/-- A cluster behind events, and a code of each. -/
def Cl.run (c : Cl) : List Ev → Cl × List Int
  | [] => (c, [])
  | e :: es => (((c.event e).1.run es).1, (c.event e).2 :: ((c.event e).1.run es).2)
theorem Rel.run {n : Nat} : ∀ (es : List Ev) (c : Cl) (s : St), Rel n c s → Cov n c → ∃ s', Rel n (c.run es).1 s' ∧ Cov n (c.run es).1
  | [], _, s, h, hc => ⟨s, h, hc⟩
  | e :: es, c, s, h, hc => by
    obtain ⟨s', h1, h2⟩ := h.event hc e
    exact Rel.run es _ s' h1 h2
theorem at_begin (n p : Nat) (h : p < n) : (Cl.begin n).at p = { Peer.zero with up := true } := by simp [Cl.begin, Cl.at, List.getD, h]
theorem Rel.begin (n : Nat) : Rel n (Cl.begin n) St.begin ∧ Cov n (Cl.begin n) :=
  ⟨⟨Inv.begin n, by simp [Cl.begin], fun p hp => by rw [at_begin n p hp]; rfl, fun p hp => by rw [at_begin n p hp]; exact ⟨fun x => (by cases x), fun x => (by cases x)⟩, fun m hm => by simp [Cl.begin] at hm, ⟨0, .inl rfl⟩, rfl⟩, fun p hp => by rw [at_begin n p hp]; exact Nat.zero_le _⟩
/-- What is promised of a cluster that began with nothing. -/
theorem safe (n : Nat) (es : List Ev) : (((Cl.begin n).run es).1.conflict = false) ∧
    (∀ p, p < n → (((Cl.begin n).run es).1.at p).commit ≤ (((Cl.begin n).run es).1.at p).log.length ∧ (((Cl.begin n).run es).1.at p).commit ≤ ((Cl.begin n).run es).1.chosen.length ∧ (((Cl.begin n).run es).1.at p).log.take (((Cl.begin n).run es).1.at p).commit = ((Cl.begin n).run es).1.chosen.take (((Cl.begin n).run es).1.at p).commit) ∧
    (∀ p q, p < n → q < n → (((Cl.begin n).run es).1.at p).role = 2 → (((Cl.begin n).run es).1.at q).role = 2 → (((Cl.begin n).run es).1.at p).term = (((Cl.begin n).run es).1.at q).term → p = q) ∧
    (∀ p q i x y, p < n → q < n → (((Cl.begin n).run es).1.at p).log[i]? = some x → (((Cl.begin n).run es).1.at q).log[i]? = some y → x.term = y.term → (((Cl.begin n).run es).1.at p).log.take (i + 1) = (((Cl.begin n).run es).1.at q).log.take (i + 1)) := by
  obtain ⟨s, h, hc⟩ := Rel.run es _ _ (Rel.begin n).1 (Rel.begin n).2
  generalize ((Cl.begin n).run es).1 = c at h hc ⊢
  refine ⟨h.clash, fun p hp => ?_, fun p q hp hq h1 h2 h3 => ?_, fun p q i x y hp hq h1 h2 h3 => ?_⟩
  · have := h.inv.comm p hp
    rw [h.abs p hp] at this
    have h1 : (c.at p).commit ≤ (c.at p).log.length := this.1
    have h2 : Comm n s ((c.at p).log.take (c.at p).commit) (c.at p).term := this.2
    obtain ⟨T, hT⟩ := h.chosen
    have hlen : ((c.at p).log.take (c.at p).commit).length = (c.at p).commit := by rw [List.length_take]; exact Nat.min_eq_left h1
    have := h.inv.agree h2 hT (by rw [hlen]; exact hc p hp)
    rw [hlen] at this
    exact ⟨h1, hc p hp, this⟩
  · exact h.inv.one hp hq (by rw [h.abs p hp]; exact h1) (by rw [h.abs q hq]; exact h2) (by rw [h.abs p hp, h.abs q hq]; exact h3)
  · have := h.inv.logs hp hq (i := i) (x := x) (y := y) (by rw [h.abs p hp]; exact h1) (by rw [h.abs q hq]; exact h2) h3
    rw [h.abs p hp, h.abs q hq] at this
    exact this
/-- What was chosen stays: it is the beginning of what is chosen later. -/
def Keeps (c d : Cl) : Prop := ∃ t, d.chosen = c.chosen ++ t
theorem Keeps.refl (c : Cl) : Keeps c c := ⟨[], by simp⟩
theorem Keeps.of {c d : Cl} (h : d.chosen = c.chosen) : Keeps c d := ⟨[], by rw [h]; simp⟩
theorem Keeps.trans {c d e : Cl} (h : Keeps c d) (h2 : Keeps d e) : Keeps c e := by
  obtain ⟨t, ht⟩ := h
  obtain ⟨u, hu⟩ := h2
  exact ⟨t ++ u, by rw [hu, ht, List.append_assoc]⟩
theorem keeps_send (c : Cl) (m : Msg) : Keeps c (c.send m) := .of (send_chosen c m).1
theorem keeps_note (c : Cl) (k : Nat) : Keeps c (c.note k) := ⟨_, rfl⟩
theorem keeps_commits (c : Cl) (k : Nat) : Keeps c (c.commits k) := ⟨_, rfl⟩
theorem keeps_fold {α : Type} (f : Cl → α → Cl) (hf : ∀ c a, Keeps c (f c a)) : ∀ (l : List α) (c : Cl), Keeps c (l.foldl f c)
  | [], c => .refl c
  | a :: l, c => (hf c a).trans (keeps_fold f hf l (f c a))
theorem keeps_toAll (c : Cl) (k : Nat) : Keeps c (c.toAll k) := keeps_fold _ (fun _ _ => keeps_send _ _) _ _
theorem keeps_elected (c : Cl) (k : Nat) : Keeps c (c.elected k) := by
  unfold Cl.elected
  simp only
  split
  · exact Keeps.trans (d := c.put k _) (.of rfl) ((keeps_commits _ k).trans (keeps_toAll _ k))
  · exact .refl c
theorem keeps_tick (c : Cl) (k : Nat) : Keeps c (c.tick k) := by
  unfold Cl.tick
  simp only
  split
  · exact keeps_toAll c k
  · split
    · exact .refl c
    · exact Keeps.trans (d := c.put k _) (.of rfl) ((keeps_fold _ (fun _ _ => keeps_send _ _) _ _).trans (keeps_elected _ k))
theorem keeps_down (c : Cl) (k T : Nat) : Keeps c (c.down k T) := .of rfl
theorem keeps_appended (c : Cl) (m : Msg) : Keeps c (c.appended m) := by
  unfold Cl.appended
  simp only
  split
  · exact keeps_send _ _
  · split
    · exact (keeps_down c _ _).trans (keeps_send _ _)
    · exact (keeps_down c m.to m.term).trans (Keeps.trans (d := (c.down m.to m.term).put m.to _) (.of rfl) ((keeps_note _ m.to).trans (keeps_send _ _)))
theorem keeps_deliver (c : Cl) (m : Msg) : Keeps c (c.deliver m) := by
  unfold Cl.deliver
  split
  · exact .refl c
  · have h0 : Keeps c (if (c.at m.to).term < m.term then c.down m.to m.term else c) := by
      split
      · exact keeps_down c _ _
      · exact .refl c
    simp only
    generalize (if (c.at m.to).term < m.term then c.down m.to m.term else c) = C at h0 ⊢
    refine h0.trans ?_
    split
    · refine Keeps.trans (d := if _ then C.put m.to { C.at m.to with vote := m.frm + 1 } else C) ?_ (keeps_send _ _)
      split
      · exact .of rfl
      · exact .refl C
    split
    · split
      · exact Keeps.trans (d := C.put m.to _) (.of rfl) (keeps_elected _ m.to)
      · exact .refl C
    split
    · exact keeps_appended C m
    split
    · split
      · exact .refl C
      · split
        · exact Keeps.trans (d := C.put m.to _) (.of rfl) (keeps_commits _ m.to)
        · split
          · exact Keeps.trans (d := C.put m.to _) (.of rfl) (keeps_send _ _)
          · exact .refl C
    · exact .refl C
theorem keeps_event (c : Cl) (e : Ev) : Keeps c (c.event e).1 := by
  unfold Cl.event
  split
  · split
    · exact .refl c
    · split
      · exact .refl c
      · next m _ =>
        split
        · exact Keeps.trans (d := { c with net := c.net.eraseIdx e.n.toNat }) (.of rfl) (keeps_deliver _ m)
        · split
          · exact .of rfl
          · exact keeps_send c m
  · split
    · split
      · exact .refl c
      · simp only
        split
        · exact .refl c
        split
        · exact keeps_tick c _
        split
        · exact .of rfl
        split
        · exact .of rfl
        split
        · exact .refl c
        split
        · exact .refl c
        · exact Keeps.trans (d := c.put e.n.toNat _) (.of rfl) (keeps_commits _ _)
    · exact .refl c
theorem keeps_run : ∀ (es : List Ev) (c : Cl), Keeps c (c.run es).1
  | [], c => .refl c
  | e :: es, c => (keeps_event c e).trans (keeps_run es _)
theorem run_append : ∀ (es fs : List Ev) (c : Cl), (c.run (es ++ fs)).1 = (((c.run es).1).run fs).1
  | [], _, _ => rfl
  | e :: es, fs, c => run_append es fs (c.event e).1
/-- What events ahead have chosen is the beginning of what all of them choose. -/
theorem grows (c : Cl) (es : List Ev) (k : Nat) : ∃ t, (c.run es).1.chosen = (c.run (es.take k)).1.chosen ++ t := by
  have : (c.run es).1 = (((c.run (es.take k)).1).run (es.drop k)).1 := by rw [← run_append, List.take_append_drop]
  rw [this]
  exact keeps_run _ _
end Go.Proofs.Ytklkglbimjajnaa.Raft
