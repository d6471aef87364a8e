/- What a peer is told by: frozen memory that grows, clones. -/
import Derived.Test.YtklkglbimjajnaaMsgs
import Derived.Laws.EntriesVeiled
namespace Go.Proofs.Ytklkglbimjajnaa.ntold
open Go.ChangeShapes Go.WideShapes Go.ChangeAt Go.RowKit
open Go.Proofs.Ytklkglbimjajnaa.Raft Go.Proofs.Ytklkglbimjajnaa.mem Go.Proofs.Ytklkglbimjajnaa.grp Go.Proofs.Ytklkglbimjajnaa.look Go.Proofs.Ytklkglbimjajnaa.ndw Go.Proofs.Ytklkglbimjajnaa.grant Go.Proofs.Ytklkglbimjajnaa.stand Go.Proofs.Ytklkglbimjajnaa.rows2 Go.Proofs.Ytklkglbimjajnaa.clone Go.Proofs.Ytklkglbimjajnaa.behind Go.Proofs.Ytklkglbimjajnaa.post Go.Proofs.Ytklkglbimjajnaa.copy Go.Proofs.Ytklkglbimjajnaa.msgs
set_option linter.unusedVariables false

/-- More memory that is written no more. -/
structure FP (w : World) (M : Fz) (wx : World) (M' : Fz) : Prop where
  le : Le M M'
  inn : In M' wx
  below : Below w.heap.size w wx
  new : ∀ b, M' b ≠ none → M b ≠ none ∨ w.heap.size ≤ b
theorem FP.refl {w : World} {M : Fz} (h : In M w) : FP w M w M := ⟨Le.refl _, h, Below.refl _ _, fun _ hb => .inl hb⟩
theorem FP.more {w wx w' : World} {M M' : Fz} (h : FP w M wx M') (hb : Below wx.heap.size wx w') : FP w M w' M' := ⟨h.le, h.inn.below hb, h.below.trans (hb.mono h.below.size), h.new⟩
theorem FP.trans {w wx w' : World} {M M' M'' : Fz} (h : FP w M wx M') (k : FP wx M' w' M'') : FP w M w' M'' := ⟨h.le.trans k.le, k.inn, h.below.trans (k.below.mono h.below.size), fun b hb => by
  rcases k.new b hb with g | g
  · exact h.new b g
  · exact .inr (Nat.le_trans h.below.size g)⟩
/-- A clone is frozen. -/
theorem FP.clone {w wx w' : World} {M M' : Fz} (h : FP w M wx M') {e sz m : Nat} {xs : List Value} {r : Ending} (hc : CloneE wx e sz m xs r w') : ∃ o n c, r = .returned (.slice o n c) ∧ ∃ M'', FP w M w' M'' ∧ Le M' M'' ∧ RowM M'' (.slice o n c) m sz xs := by
  obtain ⟨v, rfl, hO, hb⟩ := hc
  obtain ⟨M2, h1, h2, h3, h4⟩ := RowM.freeze hO (h.inn.below hb) (fun g hg => h.inn.fresh (row_lt hO hg).1)
  obtain ⟨o, c, rfl⟩ := own_slice hO
  exact ⟨o, m, c, rfl, M2, ⟨h.le.trans h1, h2, h.below.trans (hb.mono h.below.size), fun b hb' => by
    rcases h4 b hb' with g | g
    · exact h.new b g
    · exact .inr (Nat.le_trans h.below.size (row_lt hO g).1)⟩, h1, h3⟩
theorem row_cells {w : World} {base e : Nat} {v : Value} {n : Nat} {xs : List Value} (h : w.ownsRow base e 1 v n xs) : (v = .slice none 0 0 ∧ n = 0 ∧ xs = []) ∨ ∃ g cap, v = .slice (some ⟨g, 0, none⟩) n cap ∧ ∀ j u, xs[j]? = some u → w.cell? ((⟨g, 0, none⟩ : Addr).add j) = some u := by
  obtain ⟨h1, ⟨rfl, rfl⟩ | ⟨g, cap, cur, rfl, hb, hg, hnc, hcm, hcs, ht⟩⟩ := id h
  · exact .inl ⟨rfl, rfl, List.length_eq_zero_iff.1 (by omega)⟩
  · exact .inr ⟨g, cap, rfl, World.ownsRow.cells h rfl⟩
theorem cloneB (w : World) (v : Value) (l : List Bool) (h : w.ownsRow 0 4 1 v l.length (l.map Value.bool)) (hl : l.length ≤ 1000) : Calls Try.prog 98 #[v] w fun r w' => CloneE w 4 1 l.length (l.map Value.bool) r w' := by
  rcases row_cells h with ⟨rfl, h1, h2⟩ | ⟨g, cap, rfl, hc⟩
  · rw [h1, h2]; exact clone_bools_nil w
  · exact clone_bools w _ _ cap _ (by simp) hc (by intro u hu; obtain ⟨y, _, rfl⟩ := List.mem_map.1 hu; rfl) hl
theorem cloneI (w : World) (v : Value) (l : List Nat) (h : w.ownsRow 0 3 1 v l.length (l.map (fun (n : Nat) => Value.int .i64 (n : Int)))) (hl : l.length ≤ 1000) : Calls Try.prog 99 #[v] w fun r w' => CloneE w 3 1 l.length (l.map (fun (n : Nat) => Value.int .i64 (n : Int))) r w' := by
  rcases row_cells h with ⟨rfl, h1, h2⟩ | ⟨g, cap, rfl, hc⟩
  · rw [h1, h2]; exact clone_ints_nil w
  · exact clone_ints w _ _ cap _ (by simp) hc (by intro u hu; obtain ⟨y, _, rfl⟩ := List.mem_map.1 hu; rfl) hl
/-- A peer that is read in frozen memory. -/
def PeerM (M : Fz) (p : Peer) (lv vv nv mv : Value) : Prop := RecsM M lv p.log ∧ RowM M vv p.votes.length 1 (p.votes.map Value.bool) ∧ RowM M nv p.next.length 1 (p.next.map (fun (n : Nat) => Value.int .i64 (n : Int))) ∧ RowM M mv p.mat.length 1 (p.mat.map (fun (n : Nat) => Value.int .i64 (n : Int)))
def ToldE (w : World) (M : Fz) (p : Peer) (r : Ending) (w' : World) : Prop :=
  ∃ (a1 : Option Addr) (a2 a3 : Nat) (b1 : Option Addr) (b2 b3 : Nat) (c1 : Option Addr) (c2 c3 : Nat) (d1 : Option Addr) (d2 d3 : Nat), r = .returned (.agg #[.bool p.up, .int .i64 p.term, .int .i64 p.vote, .int .i64 p.commit, .int .i64 p.role, .slice a1 a2 a3, .slice b1 b2 b3, .slice c1 c2 c3, .slice d1 d2 d3]) ∧ ∃ M', FP w M w' M' ∧ PeerM M' p (.slice a1 a2 a3) (.slice b1 b2 b3) (.slice c1 c2 c3) (.slice d1 d2 d3)

end Go.Proofs.Ytklkglbimjajnaa.ntold
