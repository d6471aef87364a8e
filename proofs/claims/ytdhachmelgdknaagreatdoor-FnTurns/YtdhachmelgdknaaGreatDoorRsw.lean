/- A run from its beginning to its end: the walk. -/
import Derived.Test.YtdhachmelgdknaaGreatDoorRns
import Derived.Test.YtdhachmelgdknaaGreatDoorSds
import Derived.Test.YtdhachmelgdknaaGreatDoorRed
import Derived.Deep.RegionHeld3
namespace Go.Proofs.YtdhachmelgdknaaGreatDoor.run
open Go.ChangeShapes Go.WideShapes Go.ChangeAt Go.RowKit
open Go.Proofs.YtdhachmelgdknaaGreatDoor.bas Go.Proofs.YtdhachmelgdknaaGreatDoor.rdr Go.Proofs.YtdhachmelgdknaaGreatDoor.chk
set_option linter.unusedVariables false
theorem al_eq (w : World) (o : Obj) : (w.alloc o).heap = w.heap.push o := rfl
theorem dr_eq (w : World) : w.drew.heap = w.heap := rfl
theorem at0 (W : World) (A B C : Obj) : (((W.alloc A).alloc B).alloc C).drew.heap[W.heap.size]? = some A := by
  simp only [dr_eq, al_eq, Array.getElem?_push, Array.size_push]
  rw [if_neg (by omega), if_neg (by omega)]
  exact if_pos trivial
theorem at1 (W : World) (A B C : Obj) : (((W.alloc A).alloc B).alloc C).drew.heap[W.heap.size + 1]? = some B := by
  simp only [dr_eq, al_eq, Array.getElem?_push, Array.size_push]
  rw [if_neg (by omega)]
  exact if_pos trivial
theorem at2 (W : World) (A B C : Obj) : (((W.alloc A).alloc B).alloc C).drew.heap[W.heap.size + 1 + 1]? = some C := by
  simp only [dr_eq, al_eq, Array.getElem?_push, Array.size_push]
  exact if_pos trivial
theorem gen_world {P : Program} {c : Code} {Q : Exit → Act → World → Prop} {a : Act} {w : World} (p : World → Prop) (h : p w) (k : ∀ wx, p wx → c.wp P Q a wx) : c.wp P Q a w := k w h
/-- The two results are written. -/
theorem fin20 {w3 : World} {a b : Nat} {x y : Value} (g6 : w3.heap[a]? = some (.cells #[x] 9 (0, 0))) (g7 : w3.heap[b]? = some (.cells #[y] 3 (0, 0))) (hab : a ≠ b) (v1 v2 : Value) :
    ((w3.setCell ⟨a, 0, none⟩ v1).setCell ⟨b, 0, none⟩ v2).cell? ⟨a, 0, none⟩ = some v1 ∧ ((w3.setCell ⟨a, 0, none⟩ v1).setCell ⟨b, 0, none⟩ v2).cell? ⟨b, 0, none⟩ = some v2 := by
  have h1 : (w3.setCell ⟨a, 0, none⟩ v1).heap[a]? = some (.cells #[v1] 9 (0, 0)) := by
    have := heap_setCell_same w3 a 0 _ 9 v1 g6
    simpa using this
  have h2 : (w3.setCell ⟨a, 0, none⟩ v1).heap[b]? = some (.cells #[y] 3 (0, 0)) := (Below.heap_setCell _ _ _ _ (by show b ≠ a; exact fun e => hab e.symm)).trans g7
  have h3 : ((w3.setCell ⟨a, 0, none⟩ v1).setCell ⟨b, 0, none⟩ v2).heap[b]? = some (.cells #[v2] 3 (0, 0)) := by
    have := heap_setCell_same _ b 0 _ 3 v2 h2
    simpa using this
  have h4 : ((w3.setCell ⟨a, 0, none⟩ v1).setCell ⟨b, 0, none⟩ v2).heap[a]? = some (.cells #[v1] 9 (0, 0)) := (Below.heap_setCell _ _ _ _ (by show a ≠ b; exact hab)).trans h1
  exact ⟨cell_of h4 rfl, cell_of h3 rfl⟩
set_option maxRecDepth 20000 in
set_option maxHeartbeats 40000000 in
theorem runScript_of (w : World) (ls : List ByteArray) (m : Nat) (q : Bool) (lo : Option Addr) (lc : Nat) (mm : Int) (hm : w.cell? ⟨0, 0, none⟩ = some (.int .i64 mm)) (hno : ∀ l ∈ ls, NoNl l) (hsz : (joinL ls).size < 4294967281) (hlen : ls.length ≤ 1000) (hm60 : m ≤ 60) (ST : ByteArray)
    (HCy : ∀ W1, Below w.heap.size w W1 → ∀ d wx, New W1 (.slice lo m lc) ls q d wx → Calls Tryz.prog 38 #[.pointer (some ⟨d, 0, none⟩)] wx fun e w' => e = .returned (.tuple #[]) ∧ ∃ u', Rn W1.heap.size d w' u' ST ∧ KP W1.heap.size d wx w') :
    Calls Tryz.prog 20 #[.slice lo m lc, .string (joinL ls), .bool q] w fun e w' => RunE w ST e w' := by
  obtain ⟨W0, hW0⟩ : ∃ W0, w.alloc (.cells #[.string ⟨#[]⟩] 9) = W0 := ⟨_, rfl⟩
  obtain ⟨W1, hW1⟩ : ∃ W1, W0.alloc (.cells #[.int .i64 0] 3) = W1 := ⟨_, rfl⟩
  have bb : Below w.heap.size w W1 := by rw [← hW1, ← hW0]; exact more (more (Below.refl _ _) _) _
  have H6 : Hid (W1.heap[w.heap.size]? = some (.cells #[.string ⟨#[]⟩] 9 (0, 0))) := by rw [← hW1, ← hW0]; show _ = _; simp only [al_eq, Array.getElem?_push, Array.size_push]; simp
  have H7 : Hid (W1.heap[W0.heap.size]? = some (.cells #[.int .i64 0] 3 (0, 0))) := by rw [← hW1, ← hW0]; show _ = _; simp only [al_eq, Array.getElem?_push, Array.size_push]; simp
  have e0 : W0.heap.size = w.heap.size + 1 := by rw [← hW0]; rw [al_eq, Array.size_push]
  have e1 : W1.heap.size = W0.heap.size + 1 := by rw [← hW1]; rw [al_eq, Array.size_push]
  have HI := hide (HCy W1 bb)
  have HE : Hid (W0.heap.size = w.heap.size + 1 ∧ W1.heap.size = W0.heap.size + 1) := ⟨e0, e1⟩
  have HBB := hide bb
  clear HCy e0 e1
  have HL : Hid (∀ wx, Below W1.heap.size W1 wx → Calls Tryz.prog 37 #[.string (joinL ls)] wx fun e w' => e = .returned (.slice (some ⟨wx.heap.size, 0, none⟩) ls.length (ls.length + 1)) ∧ w' = wx.alloc (.cells ((ls ++ [bas.mt]).map Value.string).toArray 9)) := fun wx hb => linesOf_any wx ls hno hsz hlen mm (cell_at hb (cell_at bb hm (Nat.le_refl _)) (Nat.le_refl _))
  have k63 : ∀ W : World, (Instr.makeSlice 63 (.int .i64 (m : Int)) (.int .i64 (m : Int))).run Tryz.prog W = .ok (.slice (some ⟨W.heap.size, 0, none⟩) m m) (W.alloc (.cells (madeCells #[.bool false] (m * 1)) 4)) := fun W => make63 m (by omega) W
  obtain ⟨T, hT⟩ : ∃ T, joinL ls = T := ⟨_, rfl⟩
  rw [hT] at HL ⊢
  obtain ⟨LL, hLL⟩ : ∃ LL, ((ls ++ [bas.mt]).map Value.string).toArray = LL := ⟨_, rfl⟩
  rw [hLL] at HL
  have HLL := hide hLL
  clear hno hsz hm hT hLL
  go_enter_defers Tryz.func20, Tryz.ntmps20
  go_wp2_with fail
  (try rw [hW1])
  clear hW0 hW1
  refine wp_region_noPanic ?_
  go_region_law (first | (go_simp; go_at_call 37; refine (HL.out _ (by first | exact (Below.refl _ _).drew | exact more (Below.refl _ _).drew _ | exact more (more (Below.refl _ _).drew _) _)).mono ?_; rintro e w2 ⟨rfl, hw2⟩; subst hw2))
  all_goals rename_i Q K hK
  all_goals refine NoPanic.normal (hK _ _ ?_)
  all_goals clear hK
  all_goals first
    | refine gen_world _ (new_of (v := .slice lo m lc) (q := q) HLL.out (at0 W1 _ _ _) (at1 W1 _ _ _) (by omega) (by omega) (more (more (more (Below.refl _ _) _) _) _).drew) ?_
    | refine gen_world _ (new_of (v := .slice lo m lc) (q := q) HLL.out (at0 W1 _ _ _) (at2 W1 _ _ _) (by omega) (by omega) (more (more (more (Below.refl _ _) _) _) _).drew) ?_
    | refine gen_world _ (new_of (v := .slice lo m lc) (q := q) HLL.out (at1 W1 _ _ _) (at0 W1 _ _ _) (by omega) (by omega) (more (more (more (Below.refl _ _) _) _) _).drew) ?_
    | refine gen_world _ (new_of (v := .slice lo m lc) (q := q) HLL.out (at1 W1 _ _ _) (at2 W1 _ _ _) (by omega) (by omega) (more (more (more (Below.refl _ _) _) _) _).drew) ?_
    | refine gen_world _ (new_of (v := .slice lo m lc) (q := q) HLL.out (at2 W1 _ _ _) (at0 W1 _ _ _) (by omega) (by omega) (more (more (more (Below.refl _ _) _) _) _).drew) ?_
    | refine gen_world _ (new_of (v := .slice lo m lc) (q := q) HLL.out (at2 W1 _ _ _) (at1 W1 _ _ _) (by omega) (by omega) (more (more (more (Below.refl _ _) _) _) _).drew) ?_
  all_goals (
    intro wx hN
    have HC := hide (HI.out _ wx hN)
    have HN := hide hN
    clear hN
    go_wp2_with fail
    refine HC.out.mono ?_
    rintro e w3 ⟨rfl, u', hRn, hKP⟩
    obtain ⟨gl', op', hr, hl, hne, hd, hb⟩ := HN.out
    have e0 := HE.out.1
    have e1 := HE.out.2
    have g6 := (hKP.low w.heap.size (by omega) (by omega)).trans ((hb.block w.heap.size (by omega)).trans H6.out)
    have g7 := (hKP.low W0.heap.size (by omega) (by omega)).trans ((hb.block W0.heap.size (by omega)).trans H7.out)
    have c6 := cell_of (i := 0) g6 rfl
    have f6 := frozen_of g6 0
    have c7 := cell_of (i := 0) g7 rfl
    have f7 := frozen_of g7 0
    have n67 : ¬ w.heap.size = W0.heap.size := by omega
    have n76 : ¬ W0.heap.size = w.heap.size := by omega
    have c2 := hRn.ru.c2
    have hs := sd_str hRn.sd
    have d6 : (w3.setCell ⟨w.heap.size, 0, none⟩ (.string ST)).cell? ⟨W0.heap.size, 0, none⟩ = some (.int .i64 0) := cell_of ((Below.heap_setCell _ _ _ _ (by show W0.heap.size ≠ w.heap.size; omega)).trans g7) rfl
    have df : (w3.setCell ⟨w.heap.size, 0, none⟩ (.string ST)).frozen? ⟨W0.heap.size, 0, none⟩ = false := frozen_of ((Below.heap_setCell _ _ _ _ (by show W0.heap.size ≠ w.heap.size; omega)).trans g7) 0
    obtain ⟨t0, t1⟩ := fin20 g6 g7 n67 (.string ST) (.int .i64 0)
    have hB : Below w.heap.size w ((w3.setCell ⟨w.heap.size, 0, none⟩ (.string ST)).setCell ⟨W0.heap.size, 0, none⟩ (.int .i64 0)) := by
      have b3 : Below w.heap.size w w3 := ⟨hKP.os.trans (hb.os.trans HBB.out.os), hKP.tape.trans (hb.tape.trans HBB.out.tape), hKP.output.trans (hb.output.trans HBB.out.output), Nat.le_trans HBB.out.size (Nat.le_trans hb.size hKP.size), fun k hk => (hKP.low k (by omega) (by omega)).trans ((hb.block k (by omega)).trans (HBB.out.block k hk))⟩
      exact (b3.setCell (p := ⟨w.heap.size, 0, none⟩) (Nat.le_refl _) _).setCell (p := ⟨W0.heap.size, 0, none⟩) (by show w.heap.size ≤ W0.heap.size; omega) _
    obtain ⟨WF, hWF⟩ : ∃ WF, (w3.setCell ⟨w.heap.size, 0, none⟩ (.string ST)).setCell ⟨W0.heap.size, 0, none⟩ (.int .i64 0) = WF := ⟨_, rfl⟩
    rw [hWF] at t0 t1 hB
    have HB := hide hB
    have HT := hide (And.intro t0 t1)
    clear hRn hKP hb hr hl hne hd g6 g7 HC HL k63 e0 e1 HI HN hB t0 t1
    go_wp2
    (try rw [hWF])
    obtain ⟨t0, t1⟩ := HT.out
    refine leaves_cons (f := 36) (args := #[.pointer (some ⟨w.heap.size, 0, none⟩), .pointer (some ⟨W0.heap.size, 0, none⟩)]) (by simp) (by simp [go_sem]) ?_
    refine (idle36 ⟨w.heap.size, 0, none⟩ ⟨W0.heap.size, 0, none⟩ _).mono ?_
    rintro e u' w'' ⟨rfl, rfl, hw9⟩
    subst hw9
    simp [Leaves, settle, results, Tryz.results20, go_sem, t0, t1]
    exact ⟨rfl, HB.out⟩)
end Go.Proofs.YtdhachmelgdknaaGreatDoor.run
