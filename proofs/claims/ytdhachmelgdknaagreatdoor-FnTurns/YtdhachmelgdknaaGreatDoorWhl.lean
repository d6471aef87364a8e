/- A command is taken. -/
import Derived.Test.YtdhachmelgdknaaGreatDoorAdd
namespace Go.Proofs.YtdhachmelgdknaaGreatDoor.rdr
open Go.ChangeShapes Go.WideShapes Go.ChangeAt Go.RowKit
open Go.Proofs.YtdhachmelgdknaaGreatDoor.bas
set_option linter.unusedVariables false
/-- Behind a whole command. -/
def WhE (base : Nat) (w : World) (d : Nat) (q : Q) (n : Nat) (xs : List Value) (k : Nat) (w' : World) : Prop :=
  ∃ g cap, w'.ownsRow base 60 26 (.slice (some ⟨g, 0, none⟩) (n + 1) cap) (n + 1) xs ∧ RB w' d { q with pl := k, ls := .slice (some ⟨g, 0, none⟩) (n + 1) cap } ∧ Two w w' d q.ls.ownBlock
theorem row_kept {base : Nat} {w w' : World} {d : Nat} {q : Q} {v : Value} {n : Nat} {ys : List Value} (h : RB w d q) (ho : w.ownsRow base 60 26 v n ys) (g : w.grownBy w' (some d)) : w'.ownsRow base 60 26 v n ys := ho.kept g (by
  cases hv : v.ownBlock with
  | none => exact .inl rfl
  | some k => exact .inr (fun e => own_ne h ho (by rw [hv, e])))
theorem Two.then {w w1 w2 : World} {d : Nat} {row : Option Nat} (h : Two w w1 d row) (g : w1.grownBy w2 (some d)) : Two w w2 d row :=
  ⟨g.os.trans h.os, g.tape.trans h.tape, g.output.trans h.output, Nat.le_trans h.size g.size, fun k hk hd hn => (g.block k (by have := h.size; omega) (by simpa using hd)).trans (h.block k hk hd hn)⟩
theorem Two.after {w w1 w2 : World} {d : Nat} {row : Option Nat} (b : w.grownBy w1 (some d)) (h : Two w1 w2 d row) (hr : ∀ k, row = some k → k < w.heap.size ∨ True) : Two w w2 d row :=
  ⟨h.os.trans b.os, h.tape.trans b.tape, h.output.trans b.output, Nat.le_trans b.size h.size, fun k hk hd hn => (h.block k (by have := b.size; omega) hd hn).trans (b.block k hk (by simpa using hd))⟩
set_option maxHeartbeats 1600000 in
theorem whole_any (base : Nat) {d : Nat} {q : Q} {w : World} (h : RB w d q) (hk : q.pl ≤ q.T.size) (hT : q.T.size ≤ 100000) (n : Nat) (ys : List Value) (ho : w.ownsRow base 60 26 q.ls n ys) (hb : base ≤ w.heap.size) (hn : n ≤ 100) (ak an : Int) (nt : Bool) (nm : ByteArray)
    (hok : ov sB q.T q.pl = q.T.size ∨ seesP q.T sE (ov sB q.T q.pl) = true) :
    Calls Tryz.prog 80 #[.pointer (some ⟨d, 0, none⟩), .agg (sedA ak an nt nm)] w fun e w' => e = .returned (.tuple #[]) ∧ WhE base w d q n (ys ++ (sedA ak an nt nm).toList) (ov sB q.T q.pl) w' := by
  obtain ⟨W0, hW0⟩ : ∃ W0, w.alloc (.cells (sedA ak an nt nm) 60) = W0 := ⟨_, rfl⟩
  have b0 : Below w.heap.size w W0 := by rw [← hW0]; exact more (Below.refl _ _) _
  have x0 : W0.heap[w.heap.size]? = some (.cells (sedA ak an nt nm) 60 (0, 0)) := by rw [← hW0]; exact heap_alloc_new w _
  have HX0 := hide x0
  have rb0 := h.below b0
  have ho0 : W0.ownsRow base 60 26 q.ls n ys := by rw [← hW0]; exact ho.alloc _
  have HA : Hid (Calls Tryz.prog 108 #[.pointer (some ⟨d, 0, none⟩), .agg (sedA ak an nt nm)] W0 fun e w1 => e = .returned (.tuple #[]) ∧ Hid (Calls Tryz.prog 110 #[.pointer (some ⟨d, 0, none⟩)] w1 fun e w2 => e = .returned (.tuple #[]) ∧ Hid (WhE base w d q n (ys ++ (sedA ak an nt nm).toList) (ov sB q.T q.pl) w2))) := by
    refine (add_any base rb0 n ys ho0 (Nat.le_trans hb b0.size) hn ak an nt nm).mono ?_
    rintro e w1 ⟨rfl, g, cap, o1, r1, t1⟩
    refine ⟨rfl, ?_⟩
    refine (behind_any (Mv.refl r1) hk hT hok).mono ?_
    rintro e w2 ⟨rfl, m2⟩
    exact ⟨rfl, g, cap, row_kept r1 o1 m2.gr, m2.rb, (Two.after (grown_of b0) t1 (fun _ _ => .inr trivial)).then m2.gr⟩
  clear h ho b0 x0 rb0 ho0 hok
  go_enter Tryz.func80, Tryz.ntmps80
  go_wp2_with (first
    | ((try rw [hW0]); refine wpList_load_row rfl _ _ rfl w.heap.size rfl 60 _ (0, 0) _ HX0.out Tryz.underlying60 rfl (size60 _ _ _ _) ?_)
    | (go_at_call 108; (try rw [hW0]); refine HA.out.mono ?_; rintro e w1 ⟨rfl, HB⟩)
    | (go_at_call 110; refine HB.out.mono ?_; rintro e w2 ⟨rfl, HC⟩))
  go_end0
  exact ⟨rfl, HC.out⟩
end Go.Proofs.YtdhachmelgdknaaGreatDoor.rdr
