/- Edit of lines by scripts of commands p alone. -/
import Derived.Test.YtdhachmelgdknaaGreatDoorRed
import Derived.Test.YtdhachmelgdknaaGreatDoorRsw
import Derived.Test.YtdhachmelgdknaaGreatDoorMF
import Derived.Test.YtdhachmelgdknaaGreatDoorSok
namespace Go.Proofs.YtdhachmelgdknaaGreatDoor.run
open Go.ChangeShapes Go.WideShapes Go.ChangeAt Go.RowKit
open Go.Proofs.YtdhachmelgdknaaGreatDoor.bas Go.Proofs.YtdhachmelgdknaaGreatDoor.rdr Go.Proofs.YtdhachmelgdknaaGreatDoor.chk
set_option linter.unusedVariables false
theorem runScript_any (w : World) (ls : List ByteArray) (m : Nat) (q : Bool) (lo : Option Addr) (lc : Nat) (mm : Int) (hm : w.cell? ⟨0, 0, none⟩ = some (.int .i64 mm)) (hno : ∀ l ∈ ls, NoNl l) (hsz : (joinL ls).size < 4294967281) (hlen : ls.length ≤ 1000) (hm60 : m ≤ 60)
    (hlist : m = 0 ∨ ∃ g og, lo = some ⟨g, 0, none⟩ ∧ w.heap[g]? = some og ∧ isB og = false ∧ Lst w g lc (List.replicate m cmP)) (steps : ls.length * m ≤ 2000) (small : ∀ a ∈ ls, a.size ≤ 1000) (size : (joinL (rp (m + if q then 0 else 1) ls)).size ≤ 8000) :
    Calls Tryz.prog 20 #[.slice lo m lc, .string (joinL ls), .bool q] w fun e w' => RunE w (joinL (rp (m + if q then 0 else 1) ls)) e w' := by
  refine runScript_of w ls m q lo lc mm hm hno hsz hlen hm60 _ ?_
  intro W1 bb d wx hN
  refine new_cycles hN ?_ hlen hm60 steps small size
  rcases hlist with h0 | ⟨g, og, e, hg, ho, hL⟩
  · exact Or.inl h0
  · exact Or.inr ⟨g, og, e, (bb.block g (Array.getElem?_eq_some_iff.1 hg).1).trans hg, ho, hL.below bb⟩
set_option maxRecDepth 20000 in
theorem edit_p (w : World) (ls : List ByteArray) (m : Nat) (sc : ByteArray) (ere q : Bool) (mm : Int) (hm : w.cell? ⟨0, 0, none⟩ = some (.int .i64 mm)) (hno : ∀ l ∈ ls, NoNl l) (h6 : ∀ l ∈ ls, l.size ≤ 6) (hlen : ls.length ≤ 6) (hm1 : m ≤ 1) (hsz : sc.size ≤ 2000) (hs : Scr sc 0 (List.replicate m cmP)) :
    Calls Tryz.prog 6 #[.string sc, .string (joinL ls), .bool ere, .bool q] w fun e w' => EdE w (joinL (rp (m + if q then 0 else 1) ls)) e w' := by
  have hz := szLe ls h6
  have hlr : (List.replicate m cmP).length = m := List.length_replicate
  refine edit_of w sc (joinL ls) ere q (List.replicate m cmP) _ (by omega) (parse_any w sc ere _ hsz hs (by rw [hlr]; omega)) ?_
  intro w1 lo lc b1 o
  have hok : Calls Tryz.prog 19 #[.slice lo (List.replicate m cmP).length lc] w1 fun e w' => e = .returned (.bool true) ∧ Below w1.heap.size w1 w' := by
    have o' := o
    obtain ⟨h1, ⟨e, hx⟩ | ⟨g, cap, cur, e, hb, hg, _⟩⟩ := o
    · simp only [Value.slice.injEq] at e
      obtain ⟨rfl, e2, rfl⟩ := e
      rw [hx]
      exact sedOK_nil w1 0
    · simp only [Value.slice.injEq] at e
      obtain ⟨rfl, e2, rfl⟩ := e
      refine sedOK_any w1 g lc _ (Lst.of o') (by rw [hlr]; omega) ?_ ?_
      · first | exact h1 | (obtain ⟨_, ⟨e3, _⟩ | ⟨g3, cap3, cur3, e3, r3⟩⟩ := o'; cases e3; simp only [Value.slice.injEq] at e3; omega)
      · intro c hc
        exact ok_p c (List.eq_of_mem_replicate hc)
  refine runSed_of w1 lo _ lc _ q _ (by rw [hlr]; omega) (by omega) hok ?_
  intro w2 b2
  rw [hlr]
  rw [hlr] at o
  have hc0 : w2.cell? ⟨0, 0, none⟩ = some (.int .i64 mm) := cell_at b2 (cell_at b1 hm (Nat.le_refl _)) (Nat.le_refl _)
  refine runScript_any w2 ls m q lo lc mm hc0 hno (by omega) (by omega) (by omega) ?_ (by have : ls.length * m ≤ 6 * 1 := Nat.mul_le_mul hlen hm1; omega) (fun a ha => by have := h6 a ha; omega) ?_
  · obtain ⟨h1, ⟨e, hx⟩ | ⟨g, cap, cur, e, hb, hg, hr⟩⟩ := o
    · exact Or.inl hx
    · have o' : w1.ownsRow w.heap.size 60 26 (.slice lo m lc) m ((List.replicate m cmP).flatMap fun c => c.cells.toList) := ⟨h1, .inr ⟨g, cap, cur, e, hb, hg, hr⟩⟩
      simp only [Value.slice.injEq] at e
      obtain ⟨rfl, e2, rfl⟩ := e
      refine Or.inr ⟨g, _, rfl, (b2.block g (Array.getElem?_eq_some_iff.1 hg).1).trans hg, rfl, ?_⟩
      have hL : Lst w1 g lc (List.replicate m cmP) := Lst.of (base := w.heap.size) (by rw [hlr]; exact o')
      exact hL.below b2
  · rw [szRp]
    cases q
    · show (m + 1) * (joinL ls).size ≤ 8000
      have : (m + 1) * (joinL ls).size ≤ 2 * 42 := Nat.mul_le_mul (by omega) (by omega)
      omega
    · show (m + 0) * (joinL ls).size ≤ 8000
      have : (m + 0) * (joinL ls).size ≤ 2 * 42 := Nat.mul_le_mul (by omega) (by omega)
      omega
end Go.Proofs.YtdhachmelgdknaaGreatDoor.run
