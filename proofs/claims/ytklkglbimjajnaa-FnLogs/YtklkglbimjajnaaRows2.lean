/- An element of a peer's votes, places or matches is set; a peer's lists are new. -/
import Derived.Test.YtklkglbimjajnaaStand
namespace Go.Proofs.Ytklkglbimjajnaa.rows2
open Go.ChangeShapes Go.WideShapes Go.ChangeAt Go.RowKit
open Go.Proofs.Ytklkglbimjajnaa.Raft Go.Proofs.Ytklkglbimjajnaa.mem Go.Proofs.Ytklkglbimjajnaa.grp Go.Proofs.Ytklkglbimjajnaa.look Go.Proofs.Ytklkglbimjajnaa.ndw Go.Proofs.Ytklkglbimjajnaa.grant Go.Proofs.Ytklkglbimjajnaa.stand
set_option linter.unusedVariables false

/-- The row of a value that has a block. -/
theorem own_blk {w : World} {base e sz : Nat} {o : Option Addr} {n c : Nat} {xs : List Value} (h : w.ownsRow base e sz (.slice o n c) n xs) (hn : 0 < n) : ∃ g, o = some ⟨g, 0, none⟩ ∧ (Value.slice o n c).ownBlock = some g := by
  obtain ⟨g, cap, e1, _⟩ := own_at h hn
  simp only [Value.slice.injEq] at e1
  exact ⟨g, e1.1, by rw [e1.1]; rfl⟩
section
variable {w : World} {M : Fz} {O : Lb} {b k : Nat} {p : Peer} {us : List RV} {lv vv nv mv : Value}
theorem rowt {w : World} {base e sz : Nat} {v : Value} {n : Nat} {xs : List Value} (h : w.ownsRow base e sz v n xs) {g : Nat} (hg : v.ownBlock = some g) : ∃ cur, w.heap[g]? = some (.cells cur e (0, 0)) := by
  obtain ⟨h1, ⟨rfl, _⟩ | ⟨g', cap, cur, rfl, hb, hh, _⟩⟩ := h
  · simp [Value.ownBlock] at hg
  · simp only [Value.ownBlock, Option.some.injEq] at hg
    subst hg
    exact ⟨cur, hh⟩
theorem setv_keep {w : World} {g i : Nat} {v : Value} (x : Nat) (h : x ≠ g) : (w.setCell ⟨g, i, none⟩ v).heap[x]? = w.heap[x]? := Below.heap_setCell w ⟨g, i, none⟩ v x h
theorem NDid.setVotes (st : Sta M O w) {g n c : Nat} (h : Nd w M O b k p us lv (.slice (some ⟨g, 0, none⟩) n c) nv mv) (i : Nat) (x : Bool) : NDid M O w b k { p with votes := p.votes.set i x } (w.setCell ⟨g, i, none⟩ (.bool x)) := by
  have hO : O g = some (3 + k) := h.lab (.slice (some ⟨g, 0, none⟩) n c) (by simp) g rfl
  obtain ⟨cur, hg⟩ := rowt h.votes (g := g) rfl
  obtain ⟨n1, n2, n3, n4⟩ := h.ne
  have hgb : g ≠ b := fun e => n2 (by rw [e]; rfl)
  refine ⟨M, O, (Aft.refl (· = 3 + k) st).set hO rfl i (.bool x), us, lv, .slice (some ⟨g, 0, none⟩) n c, nv, mv, ?_⟩
  have hn : n = p.votes.length := by have := (own_cap h.votes).1; exact this
  have e1 : (w.setCell ⟨g, i, none⟩ (.bool x)).ownsRow 0 4 1 (.slice (some ⟨g, 0, none⟩) n c) (p.votes.set i x).length ((p.votes.set i x).map Value.bool) := by
    rw [List.length_set, List.map_set]
    have h2 := h.votes
    rw [← hn] at h2 ⊢
    exact own_set h2 i (.bool x)
  exact { blk := (setv_keep b (Ne.symm hgb)).trans h.blk, own := h.own, log := row_kept h.log fun y hy => setv_keep y (fun e => type_ne h.log hg (by decide) (e ▸ hy)), recs := h.recs, data := h.data, votes := e1, next := row_kept h.next fun y hy => setv_keep y (fun e => type_ne h.next hg (by decide) (e ▸ hy)), mat := row_kept h.mat fun y hy => setv_keep y (fun e => type_ne h.mat hg (by decide) (e ▸ hy)), lab := h.lab, apart := h.apart }
theorem NDid.setNext (st : Sta M O w) {g n c : Nat} (h : Nd w M O b k p us lv vv (.slice (some ⟨g, 0, none⟩) n c) mv) (i x : Nat) : NDid M O w b k { p with next := p.next.set i x } (w.setCell ⟨g, i, none⟩ (.int .i64 x)) := by
  have hO : O g = some (3 + k) := h.lab (.slice (some ⟨g, 0, none⟩) n c) (by simp) g rfl
  obtain ⟨cur, hg⟩ := rowt h.next (g := g) rfl
  obtain ⟨n1, n2, n3, n4⟩ := h.ne
  have hgb : g ≠ b := fun e => n3 (by rw [e]; rfl)
  refine ⟨M, O, (Aft.refl (· = 3 + k) st).set hO rfl i (.int .i64 x), us, lv, vv, .slice (some ⟨g, 0, none⟩) n c, mv, ?_⟩
  have hn : n = p.next.length := by have := (own_cap h.next).1; exact this
  have e1 : (w.setCell ⟨g, i, none⟩ (.int .i64 x)).ownsRow 0 3 1 (.slice (some ⟨g, 0, none⟩) n c) (p.next.set i x).length ((p.next.set i x).map fun (n : Nat) => Value.int .i64 (n : Int)) := by
    rw [List.length_set, List.map_set]
    have h2 := h.next
    rw [← hn] at h2 ⊢
    exact own_set h2 i (.int .i64 x)
  exact { blk := (setv_keep b (Ne.symm hgb)).trans h.blk, own := h.own, log := row_kept h.log fun y hy => setv_keep y (fun e => type_ne h.log hg (by decide) (e ▸ hy)), recs := h.recs, data := h.data, votes := row_kept h.votes fun y hy => setv_keep y (fun e => type_ne h.votes hg (by decide) (e ▸ hy)), next := e1, mat := row_kept h.mat fun y hy => setv_keep y (fun e => h.apart g rfl (e ▸ hy)), lab := h.lab, apart := h.apart }
theorem NDid.setMat (st : Sta M O w) {g n c : Nat} (h : Nd w M O b k p us lv vv nv (.slice (some ⟨g, 0, none⟩) n c)) (i x : Nat) : NDid M O w b k { p with mat := p.mat.set i x } (w.setCell ⟨g, i, none⟩ (.int .i64 x)) := by
  have hO : O g = some (3 + k) := h.lab (.slice (some ⟨g, 0, none⟩) n c) (by simp) g rfl
  obtain ⟨cur, hg⟩ := rowt h.mat (g := g) rfl
  obtain ⟨n1, n2, n3, n4⟩ := h.ne
  have hgb : g ≠ b := fun e => n4 (by rw [e]; rfl)
  refine ⟨M, O, (Aft.refl (· = 3 + k) st).set hO rfl i (.int .i64 x), us, lv, vv, nv, .slice (some ⟨g, 0, none⟩) n c, ?_⟩
  have hn : n = p.mat.length := by have := (own_cap h.mat).1; exact this
  have e1 : (w.setCell ⟨g, i, none⟩ (.int .i64 x)).ownsRow 0 3 1 (.slice (some ⟨g, 0, none⟩) n c) (p.mat.set i x).length ((p.mat.set i x).map fun (n : Nat) => Value.int .i64 (n : Int)) := by
    rw [List.length_set, List.map_set]
    have h2 := h.mat
    rw [← hn] at h2 ⊢
    exact own_set h2 i (.int .i64 x)
  exact { blk := (setv_keep b (Ne.symm hgb)).trans h.blk, own := h.own, log := row_kept h.log fun y hy => setv_keep y (fun e => type_ne h.log hg (by decide) (e ▸ hy)), recs := h.recs, data := h.data, votes := row_kept h.votes fun y hy => setv_keep y (fun e => type_ne h.votes hg (by decide) (e ▸ hy)), next := row_kept h.next fun y hy => setv_keep y (fun e => h.apart y hy (by rw [e]; rfl)), mat := e1, lab := h.lab, apart := h.apart }
end
/-- A row of numbers that is new, in any base. -/
theorem own_base {w : World} {base e sz : Nat} {v : Value} {n : Nat} {xs : List Value} (h : w.ownsRow base e sz v n xs) : w.ownsRow 0 e sz v n xs := by
  obtain ⟨h1, h2 | ⟨g, cap, cur, r1, r2, r3⟩⟩ := h
  · exact ⟨h1, .inl h2⟩
  · exact ⟨h1, .inr ⟨g, cap, cur, r1, Nat.zero_le _, r3⟩⟩
end Go.Proofs.Ytklkglbimjajnaa.rows2
