/- A peer steps down, crashes, grants a vote. -/
import Derived.Test.YtklkglbimjajnaaLook
import Derived.BigRegion
namespace Go.Proofs.Ytklkglbimjajnaa.ndw
open Go.ChangeShapes Go.WideShapes Go.ChangeAt Go.RowKit
open Go.Proofs.Ytklkglbimjajnaa.Raft Go.Proofs.Ytklkglbimjajnaa.mem Go.Proofs.Ytklkglbimjajnaa.grp Go.Proofs.Ytklkglbimjajnaa.look
set_option linter.unusedVariables false

/-- Cells of one block, set one behind the other. -/
def sets (w : World) (b : Nat) : List (Nat × Value) → World
  | [] => w
  | (i, v) :: l => sets (w.setCell ⟨b, i, none⟩ v) b l
def setsA (cur : Array Value) : List (Nat × Value) → Array Value
  | [] => cur
  | (i, v) :: l => setsA (cur.setIfInBounds i v) l
theorem sets_at : ∀ (l : List (Nat × Value)) {w : World} {b t : Nat} {cur : Array Value}, w.heap[b]? = some (.cells cur t (0, 0)) → (sets w b l).heap[b]? = some (.cells (setsA cur l) t (0, 0))
  | [], _, _, _, _, h => h
  | (i, v) :: l, _, _, _, _, h => sets_at l (set_at h i v rfl)
theorem sets_ne : ∀ (l : List (Nat × Value)) (w : World) {b x : Nat}, x ≠ b → (sets w b l).heap[x]? = w.heap[x]?
  | [], _, _, _, _ => rfl
  | (i, v) :: l, w, b, x, h => (sets_ne l _ h).trans (Below.heap_setCell w ⟨b, i, none⟩ v x h)
theorem sets_aft {S : Nat → Prop} {M M' : Fz} {O O' : Lb} {w : World} {b lb : Nat} (hl : O' b = some lb) (hs : S lb) : ∀ (l : List (Nat × Value)) {w' : World}, Aft S M O w M' O' w' → Aft S M O w M' O' (sets w' b l)
  | [], _, h => h
  | (i, v) :: l, _, h => sets_aft hl hs l (h.set hl hs i v)

section
variable {w : World} {M : Fz} {O : Lb} {b k : Nat} {p : Peer} {us : List RV} {lv vv nv mv : Value}
/-- Cells of a peer's own block are set: its lists stay, or are gone. -/
theorem NDid.sets {W : World} (st : Sta M O w) (h : Nd w M O b k p us lv vv nv mv) (hW : Below w.heap.size w W) (l : List (Nat × Value)) (p' : Peer) (vv' nv' mv' : Value)
    (hc : setsA #[.int .i64 p.term, .int .i64 p.vote, lv, .int .i64 k, .bool p.up, .int .i64 p.commit, .int .i64 p.role, vv, nv, mv] l = #[.int .i64 p'.term, .int .i64 p'.vote, lv, .int .i64 k, .bool p'.up, .int .i64 p'.commit, .int .i64 p'.role, vv', nv', mv'])
    (hl : p'.log = p.log) (hv : (vv' = vv ∧ p'.votes = p.votes) ∨ (vv' = .slice none 0 0 ∧ p'.votes = [])) (hn : (nv' = nv ∧ p'.next = p.next) ∨ (nv' = .slice none 0 0 ∧ p'.next = []))
    (hm : (mv' = mv ∧ p'.mat = p.mat) ∨ (mv' = .slice none 0 0 ∧ p'.mat = [])) : NDid M O w b k p' (ndw.sets W b l) := by
  refine ⟨M, O, sets_aft (S := (· = 3 + k)) h.own rfl l ((Aft.refl _ st).below hW), ⟨us, lv, vv', nv', mv', ?_⟩⟩
  have h1 : Nd W M O b k p us lv vv nv mv := h.keep (fun x hx => hW.block x (st.ok x _ hx).2) (Le.refl _) (fun _ hx => hx)
  have hb := sets_at l h1.blk
  rw [hc] at hb
  exact h1.put p' hb (fun x hx => sets_ne l W hx) hl hv hn hm
theorem Nd.cs (h : Nd w M O b k p us lv vv nv mv) : (w.cell? ⟨b, 0, none⟩ = some (.int .i64 p.term) ∧ w.cell? ⟨b, 1, none⟩ = some (.int .i64 p.vote) ∧ w.cell? ⟨b, 2, none⟩ = some lv ∧ w.cell? ⟨b, 3, none⟩ = some (.int .i64 k) ∧ w.cell? ⟨b, 4, none⟩ = some (.bool p.up) ∧ w.cell? ⟨b, 5, none⟩ = some (.int .i64 p.commit) ∧ w.cell? ⟨b, 6, none⟩ = some (.int .i64 p.role) ∧ w.cell? ⟨b, 7, none⟩ = some vv ∧ w.cell? ⟨b, 8, none⟩ = some nv ∧ w.cell? ⟨b, 9, none⟩ = some mv) ∧
    (w.frozen? ⟨b, 0, none⟩ = false ∧ w.frozen? ⟨b, 1, none⟩ = false ∧ w.frozen? ⟨b, 2, none⟩ = false ∧ w.frozen? ⟨b, 3, none⟩ = false ∧ w.frozen? ⟨b, 4, none⟩ = false ∧ w.frozen? ⟨b, 5, none⟩ = false ∧ w.frozen? ⟨b, 6, none⟩ = false ∧ w.frozen? ⟨b, 7, none⟩ = false ∧ w.frozen? ⟨b, 8, none⟩ = false ∧ w.frozen? ⟨b, 9, none⟩ = false) :=
  ⟨⟨cell_of h.blk rfl, cell_of h.blk rfl, cell_of h.blk rfl, cell_of h.blk rfl, cell_of h.blk rfl, cell_of h.blk rfl, cell_of h.blk rfl, cell_of h.blk rfl, cell_of h.blk rfl, cell_of h.blk rfl⟩,
   ⟨frozen_of h.blk _, frozen_of h.blk _, frozen_of h.blk _, frozen_of h.blk _, frozen_of h.blk _, frozen_of h.blk _, frozen_of h.blk _, frozen_of h.blk _, frozen_of h.blk _, frozen_of h.blk _⟩⟩
theorem drewN_below (w : World) (m : Nat) : Below w.heap.size w (w.drewN m) := ⟨rfl, rfl, rfl, Nat.le_refl _, fun _ _ => rfl⟩
theorem Nd.sl (h : Nd w M O b k p us lv vv nv mv) : ∃ lo lc vo vc no nc mo mc, lv = .slice lo p.log.length lc ∧ vv = .slice vo p.votes.length vc ∧ nv = .slice no p.next.length nc ∧ mv = .slice mo p.mat.length mc ∧ p.log.length ≤ lc ∧ lc ≤ 9223372036854775807 := by
  obtain ⟨o, c, e, h1, h2⟩ := Nd.logs h
  obtain ⟨vo, vc, e1⟩ := own_slice h.votes
  obtain ⟨no, nc, e2⟩ := own_slice h.next
  obtain ⟨mo, mc, e3⟩ := own_slice h.mat
  unfold maxLen at h2
  exact ⟨o, c, vo, vc, no, nc, mo, mc, e, e1, e2, e3, h1, by omega⟩
end

def downP (p : Peer) (t : Nat) : Peer := { p with term := max p.term t, vote := if p.term < t then 0 else p.vote, role := 0, votes := [], next := [], mat := [] }
theorem down_put (c : Cl) (k t : Nat) : c.down k t = c.put k (downP (c.at k) t) := rfl

theorem stepDown_any (w : World) (M : Fz) (O : Lb) (b k : Nat) (p : Peer) (st : Sta M O w) (h : Nod w M O b k p) (t : Nat) :
    Calls Try.prog 127 #[.pointer (some ⟨b, 0, none⟩), .int .i64 t] w fun r w' => r = .returned (.tuple #[]) ∧ NDid M O w b k (downP p t) w' := by
  obtain ⟨us, lv, vv, nv, mv, h⟩ := h
  have c0 := cell_of (i := 0) h.blk rfl
  have f := frozen_of h.blk
  have f0 := f 0
  have f1 := f 1
  have f6 := f 6
  have f7 := f 7
  have f8 := f 8
  have f9 := f 9
  have c1 := cell_of (i := 1) h.blk rfl
  have c6 := cell_of (i := 6) h.blk rfl
  have c7 := cell_of (i := 7) h.blk rfl
  have c8 := cell_of (i := 8) h.blk rfl
  have c9 := cell_of (i := 9) h.blk rfl
  by_cases ht : p.term < t
  · have htI : (p.term : Int) < t := by omega
    have e1 : max p.term t = t := by omega
    have HF := hide (NDid.sets st h (Below.refl _ _) [(0, .int .i64 t), (1, .int .i64 0), (6, .int .i64 0), (7, .slice none 0 0), (8, .slice none 0 0), (9, .slice none 0 0)] (downP p t) (.slice none 0 0) (.slice none 0 0) (.slice none 0 0) (by simp [downP, e1, ht, setsA]) rfl (.inr ⟨rfl, rfl⟩) (.inr ⟨rfl, rfl⟩) (.inr ⟨rfl, rfl⟩))
    clear h st f
    go_enter Try.func127, Try.ntmps127
    go_wp2
    go_end0
    exact ⟨rfl, HF.out⟩
  · have htI : ¬ (p.term : Int) < t := by omega
    have e1 : max p.term t = p.term := by omega
    have HF := hide (NDid.sets st h (Below.refl _ _) [(6, .int .i64 0), (7, .slice none 0 0), (8, .slice none 0 0), (9, .slice none 0 0)] (downP p t) (.slice none 0 0) (.slice none 0 0) (.slice none 0 0) (by simp [downP, e1, ht, setsA]) rfl (.inr ⟨rfl, rfl⟩) (.inr ⟨rfl, rfl⟩) (.inr ⟨rfl, rfl⟩))
    clear h st f
    go_enter Try.func127, Try.ntmps127
    go_wp2
    go_end0
    exact ⟨rfl, HF.out⟩

def crashP (p : Peer) : Peer := ⟨false, p.term, p.vote, 0, 0, p.log, [], [], []⟩
set_option maxHeartbeats 1600000 in
theorem crash_any (w : World) (M : Fz) (O : Lb) (b k : Nat) (p : Peer) (st : Sta M O w) (h : Nod w M O b k p) :
    Calls Try.prog 95 #[.pointer (some ⟨b, 0, none⟩)] w fun r w' => r = .returned (.tuple #[]) ∧ NDid M O w b k (crashP p) w' := by
  obtain ⟨us, lv, vv, nv, mv, h⟩ := h
  obtain ⟨lo, lc, vo, vc, no, nc, mo, mc, rfl, rfl, rfl, rfl, h1, h2⟩ := Nd.sl h
  obtain ⟨⟨c0, c1, c2, c3, c4, c5, c6, c7, c8, c9⟩, ⟨f0, f1, f2, f3, f4, f5, f6, f7, f8, f9⟩⟩ := Nd.cs h
  have HF : Hid (NDid M O w b k (crashP p) (sets w b [(0, .int .i64 p.term), (1, .int .i64 p.vote), (2, .slice lo p.log.length lc), (3, .int .i64 k), (4, .bool false), (5, .int .i64 0), (6, .int .i64 0), (7, .slice none 0 0), (8, .slice none 0 0), (9, .slice none 0 0)])) := by
    refine NDid.sets st h (Below.refl _ _) _ (crashP p) (.slice none 0 0) (.slice none 0 0) (.slice none 0 0) ?_ rfl (.inr ⟨rfl, rfl⟩) (.inr ⟨rfl, rfl⟩) (.inr ⟨rfl, rfl⟩)
    simp [crashP, setsA]
  clear h st
  go_enter Try.func95, Try.ntmps95
  go_wp2
  go_region_law (fail)
  all_goals
    go_wp2
    go_end0
    exact ⟨rfl, HF.out.drew⟩
def grantP (p : Peer) (f : Nat) (ok : Bool) : Peer := if ok then { p with vote := f + 1 } else p
def okV (p : Peer) (m : Msg) : Bool := decide (m.term = p.term ∧ (p.vote = 0 ∨ p.vote = m.frm + 1) ∧ (lastTerm p.log < m.b ∨ m.b = lastTerm p.log ∧ p.log.length ≤ m.a))
/-- The cells of a message in a block. -/
def msgA (m : Msg) (lv : Value) : Array Value := #[.int .i64 m.kind, .int .i64 m.frm, .int .i64 m.to, .int .i64 m.term, .int .i64 m.a, .int .i64 m.b, .int .i64 m.c, .bool m.ok, lv]
end Go.Proofs.Ytklkglbimjajnaa.ndw
