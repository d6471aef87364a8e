/- What a right script is. -/
import Derived.Test.YtdhachmelgdknaaGreatDoorCok
import Derived.Deep.MidRow
namespace Go.Proofs.YtdhachmelgdknaaGreatDoor.chk
open Go.ChangeShapes Go.WideShapes Go.ChangeAt Go.RowKit
open Go.Proofs.YtdhachmelgdknaaGreatDoor.bas Go.Proofs.YtdhachmelgdknaaGreatDoor.rdr
set_option linter.unusedVariables false
/-- A right command, as the program sees it. -/
def CmOK (cm : Cm) : Prop := ∀ (w : World) (i j : Int), Calls Tryz.prog 35 #[.agg cm.cells, .int .i64 i, .int .i64 j] w fun e w' => e = .returned (.bool true) ∧ Below w.heap.size w w'
theorem ok_p (w : Cm) (h : w = cmP) : CmOK w := by
  subst h
  intro w i j
  exact commandOK_p w 0 0 false (.inl ⟨rfl, rfl⟩) i j
theorem wpList_load_at {P : Program} {ops : Array Oper} {rest : List Oper} {op : Oper} {a : Act} {w : World} {Q : Exit → Act → World → Prop} (hgd : op.guard = none) (ty : TypeId) (x : Operand) (ho : op.op = .load ty x)
    (b o : Nat) (hx : a.eval x = .pointer (some ⟨b, o, none⟩)) (cs : Array Value) (d : TypeDesc) (hc : w.rangeAt b o cs.toList)
    (hu : P.underlying ty = some d) (hd : d.isRow = true) (hi : (P.info? ty).map (·.size) = some cs.size)
    (h : wpList P ops Q rest (a.put op.dst (.agg cs)) w) : wpList P ops Q (op :: rest) a w :=
  wpList_load_mid hgd ty x ho b o hx cs.toList d hc hu hd (by rw [hi]; simp) (by rw [Array.toArray_toList]; exact h)
theorem sizeC (c : Cm) : (Tryz.prog.info? 60).map (·.size) = some c.cells.size := size60 _ _ _ _
theorem sed_len (c : Cm) : c.cells.toList.length = 26 := rfl
theorem flat_at : ∀ (cs : List Cm) (k : Nat) (c : Cm), cs[k]? = some c → ∀ j v, c.cells.toList[j]? = some v → (cs.flatMap fun c => c.cells.toList)[k * 26 + j]? = some v
  | [], k, c, h, j, v, hv => by simp at h
  | a :: r, 0, c, h, j, v, hv => by
    obtain rfl : a = c := by simpa using h
    rw [List.flatMap_cons, Nat.zero_mul, Nat.zero_add, List.getElem?_append_left (List.getElem?_eq_some_iff.1 hv).1]
    exact hv
  | a :: r, k + 1, c, h, j, v, hv => by
    rw [List.flatMap_cons, List.getElem?_append_right (by rw [sed_len]; omega), sed_len, show (k + 1) * 26 + j - 26 = k * 26 + j by omega]
    exact flat_at r k c (by simpa using h) j v hv
/-- A list of commands in memory. -/
structure Lst (w : World) (g cap : Nat) (cs : List Cm) : Prop where
  at_ : ∀ k c, cs[k]? = some c → w.rangeAt g (k * 26) c.cells.toList
  lt : g < w.heap.size
theorem Lst.of {w : World} {base g cap : Nat} {cs : List Cm} (h : w.ownsRow base 60 26 (.slice (some ⟨g, 0, none⟩) cs.length cap) cs.length (cs.flatMap fun c => c.cells.toList)) : Lst w g cap cs := by
  refine ⟨fun k c hc j v hv => ?_, (World.ownsRow.lt h g rfl).2⟩
  have hj : j < 26 := by have := (List.getElem?_eq_some_iff.1 hv).1; rw [sed_len] at this; exact this
  have hk : k < cs.length := (List.getElem?_eq_some_iff.1 hc).1
  rw [h.cellAt (k * 26 + j) (by omega)]
  exact flat_at cs k c hc j v hv
theorem Lst.below {w w' : World} {g cap : Nat} {cs : List Cm} (h : Lst w g cap cs) (b : Below w.heap.size w w') : Lst w' g cap cs :=
  ⟨fun k c hc j v hv => cell_at b (h.at_ k c hc j v hv) (Nat.le_refl _), Nat.lt_of_lt_of_le h.lt b.size⟩
set_option maxRecDepth 20000 in
set_option maxHeartbeats 3200000 in
theorem sedOK_nil (w : World) (lc : Nat) : Calls Tryz.prog 19 #[.slice none 0 lc] w fun e w' => e = .returned (.bool true) ∧ Below w.heap.size w w' := by
  have HB : Hid (Below w.heap.size w w) := Below.refl _ _
  go_enter Tryz.func19, Tryz.ntmps19
  go_wp2
  go_loopw [10] (fun v wr => v = .int .i64 0 ∧ wr = w) (fun v _ => 0)
  case atStart => exact ⟨rfl, rfl⟩
  case round =>
    obtain ⟨rfl, rfl⟩ := hrel
    go_wp2
    go_ret
    exact ⟨rfl, HB.out⟩
set_option maxRecDepth 20000 in
set_option maxHeartbeats 3200000 in
theorem sedOK_any (w : World) (g cap : Nat) (cs : List Cm) (hl : Lst w g cap cs) (hn : cs.length ≤ 60) (hcap : cs.length ≤ cap) (hok : ∀ c ∈ cs, CmOK c) :
    Calls Tryz.prog 19 #[.slice (some ⟨g, 0, none⟩) cs.length cap] w fun e w' => e = .returned (.bool true) ∧ Below w.heap.size w w' := by
  have HL := hide hl
  have HO := hide hok
  have HB0 : Hid (Below w.heap.size w w) := Below.refl _ _
  have hgt : decide (60 < (cs.length : Int)) = false := by simp; omega
  clear hl hok
  go_enter Tryz.func19, Tryz.ntmps19
  go_wp2
  go_loopw [10] (fun v wr => ∃ k : Nat, k ≤ cs.length ∧ v = .int .i64 k ∧ Hid (Below w.heap.size w wr)) (fun v _ => cs.length - (intOf v).toNat)
  case atStart => exact ⟨0, by omega, rfl, HB0⟩
  case round =>
    obtain ⟨k, hk, rfl, HB⟩ := hrel
    clear HB0
    by_cases hlt : k < cs.length
    · obtain ⟨c, hc⟩ : ∃ c, cs[k]? = some c := ⟨_, List.getElem?_eq_getElem hlt⟩
      have HR := hide ((HL.out.below HB.out).at_ k c hc)
      have hs26 : c.cells.size = 26 := rfl
      have x1 : (wr.alloc (.cells #[.int .i64 0, .int .i64 0, .int .i64 0, .int .i64 0, .int .i64 0, .string ⟨#[]⟩, .slice none 0 0, .int .i64 0, .int .i64 0, .int .i64 0, .int .i64 0, .int .i64 0, .string ⟨#[]⟩, .slice none 0 0, .bool false, .string ⟨#[]⟩, .string ⟨#[]⟩, .int .i64 0, .int .i64 0, .int .i64 0, .string ⟨#[]⟩, .slice none 0 0, .bool false, .bool false, .int .i64 0, .int .i64 0] 60)).heap[wr.heap.size]? = some (.cells #[.int .i64 0, .int .i64 0, .int .i64 0, .int .i64 0, .int .i64 0, .string ⟨#[]⟩, .slice none 0 0, .int .i64 0, .int .i64 0, .int .i64 0, .int .i64 0, .int .i64 0, .string ⟨#[]⟩, .slice none 0 0, .bool false, .string ⟨#[]⟩, .string ⟨#[]⟩, .int .i64 0, .int .i64 0, .int .i64 0, .string ⟨#[]⟩, .slice none 0 0, .bool false, .bool false, .int .i64 0, .int .i64 0] 60 (0, 0)) := heap_alloc_new wr _
      have hst := run_storeCells_row (P := Tryz.prog) _ _ 60 _ c.cells x1 rfl (one_sed _ _ _ _)
      have x2 := setRow_heap (wr.alloc (.cells #[.int .i64 0, .int .i64 0, .int .i64 0, .int .i64 0, .int .i64 0, .string ⟨#[]⟩, .slice none 0 0, .int .i64 0, .int .i64 0, .int .i64 0, .int .i64 0, .int .i64 0, .string ⟨#[]⟩, .slice none 0 0, .bool false, .string ⟨#[]⟩, .string ⟨#[]⟩, .int .i64 0, .int .i64 0, .int .i64 0, .string ⟨#[]⟩, .slice none 0 0, .bool false, .bool false, .int .i64 0, .int .i64 0] 60)) wr.heap.size _ c.cells 60 (0, 0) x1
      have HC : Hid (Calls Tryz.prog 35 #[.agg c.cells, .int .i64 k, .int .i64 cs.length] ((wr.alloc (.cells #[.int .i64 0, .int .i64 0, .int .i64 0, .int .i64 0, .int .i64 0, .string ⟨#[]⟩, .slice none 0 0, .int .i64 0, .int .i64 0, .int .i64 0, .int .i64 0, .int .i64 0, .string ⟨#[]⟩, .slice none 0 0, .bool false, .string ⟨#[]⟩, .string ⟨#[]⟩, .int .i64 0, .int .i64 0, .int .i64 0, .string ⟨#[]⟩, .slice none 0 0, .bool false, .bool false, .int .i64 0, .int .i64 0] 60)).setRow wr.heap.size c.cells) fun e w' => e = .returned (.bool true) ∧ Hid (Below w.heap.size w w')) := by
        refine (HO.out c (List.mem_of_getElem? hc) _ k cs.length).mono ?_
        rintro e w' ⟨rfl, b⟩
        have bb := HB.out
        have s2 : ((wr.alloc (.cells #[.int .i64 0, .int .i64 0, .int .i64 0, .int .i64 0, .int .i64 0, .string ⟨#[]⟩, .slice none 0 0, .int .i64 0, .int .i64 0, .int .i64 0, .int .i64 0, .int .i64 0, .string ⟨#[]⟩, .slice none 0 0, .bool false, .string ⟨#[]⟩, .string ⟨#[]⟩, .int .i64 0, .int .i64 0, .int .i64 0, .string ⟨#[]⟩, .slice none 0 0, .bool false, .bool false, .int .i64 0, .int .i64 0] 60)).setRow wr.heap.size c.cells).heap.size = wr.heap.size + 1 := by simp [World.setRow]
        have ba : Below wr.heap.size wr (wr.alloc (.cells #[.int .i64 0, .int .i64 0, .int .i64 0, .int .i64 0, .int .i64 0, .string ⟨#[]⟩, .slice none 0 0, .int .i64 0, .int .i64 0, .int .i64 0, .int .i64 0, .int .i64 0, .string ⟨#[]⟩, .slice none 0 0, .bool false, .string ⟨#[]⟩, .string ⟨#[]⟩, .int .i64 0, .int .i64 0, .int .i64 0, .string ⟨#[]⟩, .slice none 0 0, .bool false, .bool false, .int .i64 0, .int .i64 0] 60)) := more (Below.refl _ _) _
        have b2 : Below w.heap.size w ((wr.alloc (.cells #[.int .i64 0, .int .i64 0, .int .i64 0, .int .i64 0, .int .i64 0, .string ⟨#[]⟩, .slice none 0 0, .int .i64 0, .int .i64 0, .int .i64 0, .int .i64 0, .int .i64 0, .string ⟨#[]⟩, .slice none 0 0, .bool false, .string ⟨#[]⟩, .string ⟨#[]⟩, .int .i64 0, .int .i64 0, .int .i64 0, .string ⟨#[]⟩, .slice none 0 0, .bool false, .bool false, .int .i64 0, .int .i64 0] 60)).setRow wr.heap.size c.cells) := by
          have b1 := bb.trans (ba.mono bb.size)
          exact ⟨b1.os, b1.tape, b1.output, by have := bb.size; omega, fun j hj => (setRow_other _ _ _ _ (by have := bb.size; omega)).trans (b1.block j hj)⟩
        exact ⟨rfl, b2.trans (b.mono (by have := bb.size; omega))⟩
      obtain ⟨W2, hW2⟩ : ∃ W2, (wr.alloc (.cells #[.int .i64 0, .int .i64 0, .int .i64 0, .int .i64 0, .int .i64 0, .string ⟨#[]⟩, .slice none 0 0, .int .i64 0, .int .i64 0, .int .i64 0, .int .i64 0, .int .i64 0, .string ⟨#[]⟩, .slice none 0 0, .bool false, .string ⟨#[]⟩, .string ⟨#[]⟩, .int .i64 0, .int .i64 0, .int .i64 0, .string ⟨#[]⟩, .slice none 0 0, .bool false, .bool false, .int .i64 0, .int .i64 0] 60)).setRow wr.heap.size c.cells = W2 := ⟨_, rfl⟩
      rw [hW2] at HC x2 hst
      have HX2 := hide x2
      clear x1 x2 hW2 hc HB HL HO
      go_wp2_with (first
        | (refine wpList_load_at rfl _ _ rfl g (k * 26) rfl c.cells _ HR.out Tryz.underlying60 rfl (sizeC c) ?_)
        | (refine wpList_load_row rfl _ _ rfl wr.heap.size rfl 60 _ (0, 0) _ HX2.out Tryz.underlying60 rfl (sizeC c) ?_)
        | (go_at_call 35; refine HC.out.mono ?_; rintro e w' ⟨rfl, HB⟩))
      go_roundw
      case rel => exact ⟨k + 1, by omega, by go_num, HB⟩
      case measure => simp [intOf]; omega
    · have hke : k = cs.length := by omega
      subst hke
      clear HL HO hlt
      go_wp2
      go_ret
      exact ⟨rfl, HB.out⟩
end Go.Proofs.YtdhachmelgdknaaGreatDoor.chk
