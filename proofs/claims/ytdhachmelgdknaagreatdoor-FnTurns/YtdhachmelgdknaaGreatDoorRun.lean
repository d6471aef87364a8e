/- A run of a script: its lines, its spaces. -/
import Derived.Test.YtdhachmelgdknaaGreatDoorSok
namespace Go.Proofs.YtdhachmelgdknaaGreatDoor.run
open Go.ChangeShapes Go.WideShapes Go.ChangeAt Go.RowKit
open Go.Proofs.YtdhachmelgdknaaGreatDoor.bas Go.Proofs.YtdhachmelgdknaaGreatDoor.rdr
set_option linter.unusedVariables false
set_option maxHeartbeats 1600000 in
theorem linesOf_any (w : World) (ls : List ByteArray) (hno : ∀ l ∈ ls, NoNl l) (hsz : (joinL ls).size < 4294967281) (hlen : ls.length ≤ 1000) (m : Int) (hm : w.cell? ⟨0, 0, none⟩ = some (.int .i64 m)) :
    Calls Tryz.prog 37 #[.string (joinL ls)] w fun e w' => e = .returned (.slice (some ⟨w.heap.size, 0, none⟩) ls.length (ls.length + 1)) ∧ w' = w.alloc (.cells ((ls ++ [mt]).map Value.string).toArray 9) := by
  have HS := Tryz.strings_Split (joinL ls) nl m w hsz hm (by decide)
  rw [count_join ls hno, split_join ls hno] at HS
  obtain ⟨W1, hW1⟩ : ∃ W1, w.alloc (.cells ((ls ++ [mt]).map Value.string).toArray 9) = W1 := ⟨_, rfl⟩
  rw [hW1] at HS ⊢
  have x1 : W1.heap[w.heap.size]? = some (.cells ((ls ++ [mt]).map Value.string).toArray 9 (0, 0)) := by rw [← hW1]; exact heap_alloc_new w _
  have c1 : W1.cell? ⟨w.heap.size, ls.length, none⟩ = some (.string ⟨#[]⟩) := cell_of x1 (by simp [bas.mt])
  have HS := hide HS
  have hmt : (⟨#[]⟩ : ByteArray).toList.isEmpty = true := by rw [ByteArray.toList_eq]; rfl
  obtain ⟨T, hT⟩ : ∃ T, joinL ls = T := ⟨_, rfl⟩
  rw [hT] at HS ⊢
  unfold nl at HS
  clear x1 hW1 hno hsz hT
  go_enter Tryz.func37, Tryz.ntmps37
  go_wp2_with fail
  refine HS.out.mono ?_
  rintro e w1 ⟨rfl, hw⟩
  subst hw
  clear HS
  go_wp2
  go_ret
  exact ⟨rfl, rfl⟩
/-- A run. -/
structure U where
  pat : ByteArray
  hold : ByteArray
  sd : Value
  kp : Value
  ks : Int
  ls : Value
  ln : Value
  quiet : Bool
  num : Nat
  left : Bool
  flag : Bool
  op : Value
  at_ : Nat
  steps : Nat
def U.cells (u : U) : Array Value := #[.string u.pat, .string u.hold, u.sd, u.kp, .int .i64 u.ks, u.ls, u.ln, .bool u.quiet, .int .i64 (u.num : Nat), .bool u.left, .bool u.flag, u.op, .int .i64 (u.at_ : Nat), .int .i64 (u.steps : Nat)]
/-- The run at block d. -/
def RU (w : World) (d : Nat) (u : U) : Prop := w.heap[d]? = some (.cells u.cells 85 (0, 0))
theorem RU.lt {w : World} {d : Nat} {u : U} (h : RU w d u) : d < w.heap.size := (Array.getElem?_eq_some_iff.1 h).1
theorem RU.keep {w w' : World} {d : Nat} {u : U} (h : RU w d u) (hk : w'.heap[d]? = w.heap[d]?) : RU w' d u := hk.trans h
theorem RU.below {w w' : World} {d : Nat} {u : U} (h : RU w d u) (hb : Below w.heap.size w w') : RU w' d u := h.keep (hb.block d h.lt)
theorem RU.fz {w : World} {d : Nat} {u : U} (h : RU w d u) (i : Nat) : w.frozen? ⟨d, i, none⟩ = false := frozen_of h i
theorem RU.c0 {w : World} {d : Nat} {u : U} (h : RU w d u) : w.cell? ⟨d, 0, none⟩ = some (.string u.pat) := cell_of h rfl
theorem RU.set0 {w : World} {d : Nat} {u : U} (h : RU w d u) (x : ByteArray) : RU (w.setCell ⟨d, 0, none⟩ (.string x)) d { u with pat := x } := by
  have := heap_setCell_same w d 0 _ 85 (.string x) h
  simpa [RU, U.cells] using this
theorem RU.c1 {w : World} {d : Nat} {u : U} (h : RU w d u) : w.cell? ⟨d, 1, none⟩ = some (.string u.hold) := cell_of h rfl
theorem RU.set1 {w : World} {d : Nat} {u : U} (h : RU w d u) (x : ByteArray) : RU (w.setCell ⟨d, 1, none⟩ (.string x)) d { u with hold := x } := by
  have := heap_setCell_same w d 1 _ 85 (.string x) h
  simpa [RU, U.cells] using this
theorem RU.c2 {w : World} {d : Nat} {u : U} (h : RU w d u) : w.cell? ⟨d, 2, none⟩ = some (u.sd) := cell_of h rfl
theorem RU.set2 {w : World} {d : Nat} {u : U} (h : RU w d u) (x : Value) : RU (w.setCell ⟨d, 2, none⟩ (x)) d { u with sd := x } := by
  have := heap_setCell_same w d 2 _ 85 (x) h
  simpa [RU, U.cells] using this
theorem RU.c3 {w : World} {d : Nat} {u : U} (h : RU w d u) : w.cell? ⟨d, 3, none⟩ = some (u.kp) := cell_of h rfl
theorem RU.set3 {w : World} {d : Nat} {u : U} (h : RU w d u) (x : Value) : RU (w.setCell ⟨d, 3, none⟩ (x)) d { u with kp := x } := by
  have := heap_setCell_same w d 3 _ 85 (x) h
  simpa [RU, U.cells] using this
theorem RU.c4 {w : World} {d : Nat} {u : U} (h : RU w d u) : w.cell? ⟨d, 4, none⟩ = some (.int .i64 u.ks) := cell_of h rfl
theorem RU.set4 {w : World} {d : Nat} {u : U} (h : RU w d u) (x : Int) : RU (w.setCell ⟨d, 4, none⟩ (.int .i64 x)) d { u with ks := x } := by
  have := heap_setCell_same w d 4 _ 85 (.int .i64 x) h
  simpa [RU, U.cells] using this
theorem RU.c5 {w : World} {d : Nat} {u : U} (h : RU w d u) : w.cell? ⟨d, 5, none⟩ = some (u.ls) := cell_of h rfl
theorem RU.set5 {w : World} {d : Nat} {u : U} (h : RU w d u) (x : Value) : RU (w.setCell ⟨d, 5, none⟩ (x)) d { u with ls := x } := by
  have := heap_setCell_same w d 5 _ 85 (x) h
  simpa [RU, U.cells] using this
theorem RU.c6 {w : World} {d : Nat} {u : U} (h : RU w d u) : w.cell? ⟨d, 6, none⟩ = some (u.ln) := cell_of h rfl
theorem RU.set6 {w : World} {d : Nat} {u : U} (h : RU w d u) (x : Value) : RU (w.setCell ⟨d, 6, none⟩ (x)) d { u with ln := x } := by
  have := heap_setCell_same w d 6 _ 85 (x) h
  simpa [RU, U.cells] using this
theorem RU.c7 {w : World} {d : Nat} {u : U} (h : RU w d u) : w.cell? ⟨d, 7, none⟩ = some (.bool u.quiet) := cell_of h rfl
theorem RU.set7 {w : World} {d : Nat} {u : U} (h : RU w d u) (x : Bool) : RU (w.setCell ⟨d, 7, none⟩ (.bool x)) d { u with quiet := x } := by
  have := heap_setCell_same w d 7 _ 85 (.bool x) h
  simpa [RU, U.cells] using this
theorem RU.c8 {w : World} {d : Nat} {u : U} (h : RU w d u) : w.cell? ⟨d, 8, none⟩ = some (.int .i64 (u.num : Nat)) := cell_of h rfl
theorem RU.set8 {w : World} {d : Nat} {u : U} (h : RU w d u) (x : Nat) : RU (w.setCell ⟨d, 8, none⟩ (.int .i64 (x : Nat))) d { u with num := x } := by
  have := heap_setCell_same w d 8 _ 85 (.int .i64 (x : Nat)) h
  simpa [RU, U.cells] using this
theorem RU.c9 {w : World} {d : Nat} {u : U} (h : RU w d u) : w.cell? ⟨d, 9, none⟩ = some (.bool u.left) := cell_of h rfl
theorem RU.set9 {w : World} {d : Nat} {u : U} (h : RU w d u) (x : Bool) : RU (w.setCell ⟨d, 9, none⟩ (.bool x)) d { u with left := x } := by
  have := heap_setCell_same w d 9 _ 85 (.bool x) h
  simpa [RU, U.cells] using this
theorem RU.c10 {w : World} {d : Nat} {u : U} (h : RU w d u) : w.cell? ⟨d, 10, none⟩ = some (.bool u.flag) := cell_of h rfl
theorem RU.set10 {w : World} {d : Nat} {u : U} (h : RU w d u) (x : Bool) : RU (w.setCell ⟨d, 10, none⟩ (.bool x)) d { u with flag := x } := by
  have := heap_setCell_same w d 10 _ 85 (.bool x) h
  simpa [RU, U.cells] using this
theorem RU.c11 {w : World} {d : Nat} {u : U} (h : RU w d u) : w.cell? ⟨d, 11, none⟩ = some (u.op) := cell_of h rfl
theorem RU.set11 {w : World} {d : Nat} {u : U} (h : RU w d u) (x : Value) : RU (w.setCell ⟨d, 11, none⟩ (x)) d { u with op := x } := by
  have := heap_setCell_same w d 11 _ 85 (x) h
  simpa [RU, U.cells] using this
theorem RU.c12 {w : World} {d : Nat} {u : U} (h : RU w d u) : w.cell? ⟨d, 12, none⟩ = some (.int .i64 (u.at_ : Nat)) := cell_of h rfl
theorem RU.set12 {w : World} {d : Nat} {u : U} (h : RU w d u) (x : Nat) : RU (w.setCell ⟨d, 12, none⟩ (.int .i64 (x : Nat))) d { u with at_ := x } := by
  have := heap_setCell_same w d 12 _ 85 (.int .i64 (x : Nat)) h
  simpa [RU, U.cells] using this
theorem RU.c13 {w : World} {d : Nat} {u : U} (h : RU w d u) : w.cell? ⟨d, 13, none⟩ = some (.int .i64 (u.steps : Nat)) := cell_of h rfl
theorem RU.set13 {w : World} {d : Nat} {u : U} (h : RU w d u) (x : Nat) : RU (w.setCell ⟨d, 13, none⟩ (.int .i64 (x : Nat))) d { u with steps := x } := by
  have := heap_setCell_same w d 13 _ 85 (.int .i64 (x : Nat)) h
  simpa [RU, U.cells] using this
/-- The lines of a run, in memory. -/
def LN (w : World) (gl : Nat) (ls : List ByteArray) : Prop := ∀ k a, ls[k]? = some a → w.cell? ⟨gl, k, none⟩ = some (.string a)
set_option maxHeartbeats 800000 in
theorem within_any (w : World) (s : ByteArray) (h : s.size ≤ 1000) : Calls Tryz.prog 125 #[.string s] w fun e w' => e = .returned (.string s) ∧ w' = w := by
  have h1 : decide (1000 < (s.size : Int)) = false := by simp; omega
  go_enter Tryz.func125, Tryz.ntmps125
  go_wp2
  go_ret
  exact ⟨rfl, rfl⟩
set_option maxHeartbeats 800000 in
theorem put_any {w : World} {d : Nat} {u : U} (h : RU w d u) (s : ByteArray) (hs : s.size ≤ 1000) :
    Calls Tryz.prog 94 #[.pointer (some ⟨d, 0, none⟩), .string s] w fun e w' => e = .returned (.tuple #[]) ∧ RU w' d { u with pat := s } ∧ w.grownBy w' (some d) := by
  have HW := hide (within_any w s hs)
  have c0 := h.c0
  have f0 := h.fz 0
  have HF : Hid (RU (w.setCell ⟨d, 0, none⟩ (.string s)) d { u with pat := s } ∧ w.grownBy (w.setCell ⟨d, 0, none⟩ (.string s)) (some d)) := ⟨h.set0 s, grown_set (grown_refl w d) _ _⟩
  clear h hs
  go_enter Tryz.func94, Tryz.ntmps94
  go_wp2_with fail
  refine HW.out.mono ?_
  rintro e w' ⟨rfl, hw⟩
  subst hw
  clear HW
  go_wp2
  go_end0
  exact ⟨rfl, HF.out⟩
set_option maxHeartbeats 800000 in
theorem last_any {w : World} {d : Nat} {u : U} (h : RU w d u) (lo : Option Addr) (n lc : Nat) (hl : u.ln = .slice lo n lc) (hn : u.num ≤ n) (hn2 : n ≤ 1000) :
    Calls Tryz.prog 93 #[.pointer (some ⟨d, 0, none⟩)] w fun e w' => e = .returned (.bool (decide (u.num = n))) ∧ ∃ q, w' = w.drewN q := by
  have c6 := h.c6
  have c8 := h.c8
  rw [hl] at c6
  have hb : ((u.num : Int) == (n : Int)) = decide (u.num = n) := by
    by_cases e : u.num = n
    · rw [decide_eq_true e, beq_iff_eq]; omega
    · rw [decide_eq_false e, beq_eq_false_iff_ne]; omega
  obtain ⟨b, eb⟩ : ∃ b, decide (u.num = n) = b := ⟨_, rfl⟩
  rw [eb] at hb ⊢
  obtain ⟨k, ek⟩ : ∃ k, u.num = k := ⟨_, rfl⟩
  rw [ek] at hb c8
  clear h eb ek hn hl
  go_enter Tryz.func93, Tryz.ntmps93
  go_wp2
  go_quiet (fail)
  go_wp2
  go_ret
  exact ⟨rfl, _, rfl⟩
set_option maxHeartbeats 1600000 in
theorem nextLine_any {w : World} {d : Nat} {u : U} (h : RU w d u) (gl : Nat) (ls : List ByteArray) (n lc : Nat) (hl : u.ln = .slice (some ⟨gl, 0, none⟩) n lc) (hL : LN w gl ls) (a : ByteArray) (ha : ls[u.num]? = some a) (hn : u.num < n) (hn2 : n ≤ 1000) :
    Calls Tryz.prog 95 #[.pointer (some ⟨d, 0, none⟩)] w fun e w' => e = .returned (.string a) ∧ RU w' d { u with num := u.num + 1 } ∧ w.grownBy w' (some d) := by
  have c6 := h.c6
  have c8 := h.c8
  have f8 := h.fz 8
  rw [hl] at c6
  have cl := hL u.num a ha
  have HF : Hid (∀ q, RU ((w.drewN q).setCell ⟨d, 8, none⟩ (.int .i64 ((u.num : Int) + 1))) d { u with num := u.num + 1 } ∧ w.grownBy ((w.drewN q).setCell ⟨d, 8, none⟩ (.int .i64 ((u.num : Int) + 1))) (some d)) := fun q => ⟨RU.set8 (w := w.drewN q) h (u.num + 1), grown_set (grown_drew (grown_refl w d) q) _ _⟩
  obtain ⟨k, ek⟩ : ∃ k, u.num = k := ⟨_, rfl⟩
  rw [ek] at c8 cl HF hn ⊢
  have hkI : (k : Int) < (n : Int) := by omega
  clear h hl hL ha ek
  go_enter Tryz.func95, Tryz.ntmps95
  go_wp2
  go_quiet (fail)
  have z8 : (w.drewN nq).cell? ⟨d, 8, none⟩ = some (.int .i64 (k : Nat)) := c8
  have g8 : (w.drewN nq).frozen? ⟨d, 8, none⟩ = false := f8
  go_wp2
  go_ret
  exact ⟨rfl, HF.out _⟩
end Go.Proofs.YtdhachmelgdknaaGreatDoor.run
