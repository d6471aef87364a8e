/- A run at its beginning, and all its cycles. -/
import Derived.Test.YtdhachmelgdknaaGreatDoorCyw
namespace Go.Proofs.YtdhachmelgdknaaGreatDoor.run
open Go.ChangeShapes Go.WideShapes Go.ChangeAt Go.RowKit
open Go.Proofs.YtdhachmelgdknaaGreatDoor.bas Go.Proofs.YtdhachmelgdknaaGreatDoor.rdr Go.Proofs.YtdhachmelgdknaaGreatDoor.chk
set_option linter.unusedVariables false
/-- A run at its beginning, somewhere in new memory. -/
def New (W1 : World) (v : Value) (ls : List ByteArray) (q : Bool) (d : Nat) (wx : World) : Prop :=
  ∃ gl op, RU wx d ⟨⟨#[]⟩, ⟨#[]⟩, .slice none 0 0, .slice none 0 0, 0, v, .slice (some ⟨gl, 0, none⟩) ls.length (ls.length + 1), q, 0, false, false, op, 0, 0⟩ ∧ wx.heap[gl]? = some (.cells ((ls ++ [bas.mt]).map Value.string).toArray 9 (0, 0)) ∧ gl ≠ d ∧ W1.heap.size ≤ d ∧ Below W1.heap.size W1 wx
theorem new_of {W1 : World} {v : Value} {ls : List ByteArray} {q : Bool} {LL : Array Value} (hL : ((ls ++ [bas.mt]).map Value.string).toArray = LL) {d gl : Nat} {op : Value} {wx : World} (h1 : wx.heap[d]? = some (.cells #[.string ⟨#[]⟩, .string ⟨#[]⟩, .slice none 0 0, .slice none 0 0, .int .i64 0, v, .slice (some ⟨gl, 0, none⟩) ls.length (ls.length + 1), .bool q, .int .i64 0, .bool false, .bool false, op, .int .i64 0, .int .i64 0] 85 (0, 0))) (h2 : wx.heap[gl]? = some (.cells LL 9 (0, 0))) (h3 : gl ≠ d) (h4 : W1.heap.size ≤ d) (h5 : Below W1.heap.size W1 wx) : New W1 v ls q d wx :=
  ⟨gl, op, by simpa [RU, U.cells] using h1, by rw [hL]; exact h2, h3, h4, h5⟩
theorem new_cycles {W1 wx : World} {lo : Option Addr} {m lc : Nat} {ls : List ByteArray} {q : Bool} {d : Nat} (h : New W1 (.slice lo m lc) ls q d wx)
    (hlist : m = 0 ∨ ∃ g og, lo = some ⟨g, 0, none⟩ ∧ W1.heap[g]? = some og ∧ isB og = false ∧ Lst W1 g lc (List.replicate m cmP))
    (few : ls.length ≤ 1000) (cmds : m ≤ 60) (steps : ls.length * m ≤ 2000) (small : ∀ a ∈ ls, a.size ≤ 1000) (size : (joinL (rp (m + if q then 0 else 1) ls)).size ≤ 8000) :
    Calls Tryz.prog 38 #[.pointer (some ⟨d, 0, none⟩)] wx fun e w' => e = .returned (.tuple #[]) ∧ ∃ u', Rn W1.heap.size d w' u' (joinL (rp (m + if q then 0 else 1) ls)) ∧ KP W1.heap.size d wx w' := by
  obtain ⟨gl, op, hr, hl, hne, hd, hb⟩ := h
  have hW : Wk W1.heap.size d wx ⟨⟨#[]⟩, ⟨#[]⟩, .slice none 0 0, .slice none 0 0, 0, .slice lo m lc, .slice (some ⟨gl, 0, none⟩) ls.length (ls.length + 1), q, 0, false, false, op, 0, 0⟩ ls m q := by
    refine ⟨⟨gl, _, _, rfl, hl, rfl, hne, fun k a ha => cell_of hl ?_⟩, ⟨lo, lc, rfl, ?_⟩, rfl, few, cmds, steps, small, size⟩
    · have hk : k < ls.length := (List.getElem?_eq_some_iff.1 ha).1
      rw [List.getElem?_toArray, List.getElem?_map, List.getElem?_append_left hk, ha]; rfl
    · rcases hlist with h0 | ⟨g, og, e, hg, ho, hL⟩
      · exact Or.inl h0
      · have hlt : g < W1.heap.size := (Array.getElem?_eq_some_iff.1 hg).1
        exact Or.inr ⟨g, og, e, (hb.block g hlt).trans hg, ho, by omega, hL.below hb⟩
  have hA : At W1.heap.size d wx ⟨⟨#[]⟩, ⟨#[]⟩, .slice none 0 0, .slice none 0 0, 0, .slice lo m lc, .slice (some ⟨gl, 0, none⟩) ls.length (ls.length + 1), q, 0, false, false, op, 0, 0⟩ ls m q 0 wx := by
    refine ⟨⟨_, ⟨hr, ?_, rfl, rfl, by have := hr.lt; omega⟩, rfl, rfl, rfl, rfl, rfl, by show (0 : Nat) = 0 * m; rw [Nat.zero_mul]⟩, KP.refl _ _ _⟩
    simp [SD, rp, joinL, World.ownsRow, Lib.strCells]
    rfl
  refine (cycles_any hW wx hA).mono ?_
  rintro e w' ⟨rfl, ⟨⟨u', h1, _⟩, h2⟩⟩
  rw [List.take_length] at h1
  exact ⟨rfl, u', h1, h2⟩
end Go.Proofs.YtdhachmelgdknaaGreatDoor.run
