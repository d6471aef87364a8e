/- Arrays of whole numbers in memory. -/
import Derived.Test.YtkkildgdeagpeahRoot
import Derived.Laws.Tables
import Derived.Laws.Rows
import Derived.Laws.CopyOwn
namespace Go.Proofs.Ytkkildgdeagpeah.arr
open Go.ChangeShapes Go.WideShapes Go.ChangeAt Go.RowKit
open Go.Proofs.Ytkkildgdeagpeah.bytes Go.Proofs.Ytkkildgdeagpeah.rot Go.Proofs.Ytkkildgdeagpeah.root
set_option linter.unusedVariables false

def vals (k : IntKind) (xs : List Nat) : List Value := xs.map fun x => .int k (x : Nat)
theorem vals_length (k : IntKind) (xs : List Nat) : (vals k xs).length = xs.length := by simp [vals]
theorem vals_get {k : IntKind} {xs : List Nat} {i : Nat} (h : i < xs.length) : (vals k xs)[i]? = some (.int k (xs.getD i 0 : Nat)) := by
  unfold vals
  rw [List.getElem?_map, List.getElem?_eq_getElem h, List.getD_eq_getElem?_getD, List.getElem?_eq_getElem h]
  rfl
theorem vals_all (k : IntKind) (xs : List Nat) : (vals k xs).toArray.all (·.oneCell') = true := by
  rw [Array.all_eq_true_iff_forall_mem]
  intro v hv
  simp [vals] at hv
  obtain ⟨x, _, rfl⟩ := hv
  rfl

/-- Block g is an array of these numbers. -/
def Arr (w : World) (g t : Nat) (k : IntKind) (xs : List Nat) : Prop := w.heap[g]? = some (.cells (vals k xs).toArray t (0, 0))
theorem Arr.lt {w : World} {g t : Nat} {k : IntKind} {xs : List Nat} (h : Arr w g t k xs) : g < w.heap.size := (Array.getElem?_eq_some_iff.1 h).1
theorem Arr.cell {w : World} {g t : Nat} {k : IntKind} {xs : List Nat} (h : Arr w g t k xs) {i : Nat} (hi : i < xs.length) : w.cell? ⟨g, i, none⟩ = some (.int k (xs.getD i 0 : Nat)) := by
  unfold Arr at h
  simp only [World.cell?, h]
  have := vals_get (k := k) hi
  simpa using this
theorem Arr.frozen {w : World} {g t : Nat} {k : IntKind} {xs : List Nat} (h : Arr w g t k xs) (i : Nat) : w.frozen? ⟨g, i, none⟩ = false := by
  unfold Arr at h
  simp [World.frozen?, h]
theorem Arr.set {w : World} {g t : Nat} {k : IntKind} {xs : List Nat} (h : Arr w g t k xs) (i x : Nat) (u : Value) (hu : u = .int k (x : Nat)) : Arr (w.setCell ⟨g, i, none⟩ u) g t k (xs.set i x) := by
  unfold Arr at h ⊢
  rw [heap_setCell_same w g i _ t u h, hu]
  congr 2
  apply Array.toList_inj.1
  simp [vals, List.map_set]
theorem Arr.setNe {w : World} {g t : Nat} {k : IntKind} {xs : List Nat} (h : Arr w g t k xs) {b : Nat} (hb : b ≠ g) (i : Nat) (u : Value) : Arr (w.setCell ⟨b, i, none⟩ u) g t k xs := by
  unfold Arr at h ⊢
  rw [Below.heap_setCell w ⟨b, i, none⟩ u g (fun e => hb e.symm)]
  exact h
theorem Arr.alloc {w : World} {g t : Nat} {k : IntKind} {xs : List Nat} (h : Arr w g t k xs) (o : Obj) : Arr (w.alloc o) g t k xs := by
  have hl := h.lt
  unfold Arr at h ⊢
  rw [Below.heap_alloc w o g hl]
  exact h
theorem Arr.below {w w' : World} {g t B : Nat} {k : IntKind} {xs : List Nat} (h : Arr w g t k xs) (hb : Below B w w') (hB : g < B) : Arr w' g t k xs := (hb.block g hB).trans h
theorem Arr.new (w : World) (t : Nat) (k : IntKind) (xs : List Nat) (cs : Array Value) (hc : cs = (vals k xs).toArray) : Arr (w.alloc (.cells cs t)) w.heap.size t k xs := by
  unfold Arr
  rw [hc]
  exact heap_alloc_new w _
theorem Arr.setRow {w : World} {g t : Nat} {k : IntKind} {xs : List Nat} (h : Arr w g t k xs) (ys : List Nat) : Arr (w.setRow g (vals k ys).toArray) g t k ys := by
  unfold Arr at h ⊢
  simp [World.setRow, Array.getElem?_modify, h]
theorem Arr.setRowNe {w : World} {g t b : Nat} {k : IntKind} {xs : List Nat} (h : Arr w g t k xs) (hb : b ≠ g) (cs : Array Value) : Arr (w.setRow b cs) g t k xs := by
  unfold Arr at h ⊢
  simp [World.setRow, Array.getElem?_modify, h, hb]

/-! ### A number that another divides -/
set_option maxHeartbeats 1600000 in
theorem hasDivisor_any (w : World) (n : Nat) (hn : n < 18446744073709551616) (b : Nat) (cap : Nat) (ps : List Nat) (hl : ps.length ≤ 64) (hp : ∀ p ∈ ps, 0 < p ∧ p < 18446744073709551616)
    (hc : ∀ i, i < ps.length → w.cell? ⟨b, i, none⟩ = some (.int .u64 (ps.getD i 0 : Nat))) :
    Calls Try.prog 58 #[.int .u64 n, .slice (some ⟨b, 0, none⟩) ps.length cap] w fun e w' => e = .returned (.bool (ps.any fun p => n % p == 0)) ∧ w' = w := by
  go_enter Try.func58, Try.ntmps58
  go_wp2
  go_loop [9] (fun i => ∃ k : Nat, k ≤ ps.length ∧ i = .int .i64 k ∧ (ps.take k).any (fun p => n % p == 0) = false) (fun i => ps.length - (intOf i).toNat)
  case atStart => exact ⟨0, by omega, rfl, by simp⟩
  case round =>
    obtain ⟨k, hk, rfl, hno⟩ := hrel
    by_cases hlt : k < ps.length
    · have hck := hc k hlt
      have hpk : 0 < ps.getD k 0 ∧ ps.getD k 0 < 18446744073709551616 := by
        have := hp (ps.getD k 0) (by rw [List.getD_eq_getElem?_getD, List.getElem?_eq_getElem hlt]; exact List.getElem_mem hlt)
        exact this
      have HT : Hid ((ps.take (k + 1)).any (fun p => n % p == 0) = (n % ps.getD k 0 == 0)) := by
        unfold Hid
        rw [List.take_add_one, List.any_append, hno, List.getElem?_eq_getElem hlt, List.getD_eq_getElem?_getD, List.getElem?_eq_getElem hlt]
        simp
      have HW : Hid (ps.any (fun p => n % p == 0) = ((ps.take (k + 1)).any (fun p => n % p == 0) || (ps.drop (k + 1)).any (fun p => n % p == 0))) := by
        unfold Hid
        rw [← List.any_append, List.take_append_drop]
      generalize ps.getD k 0 = p at hck hpk HT
      have hm : (n : Int) % (p : Int) = ((n % p : Nat) : Int) := (Int.natCast_emod n p).symm
      have hml : n % p < p := Nat.mod_lt _ hpk.1
      generalize n % p = r at hm hml HT
      clear hc hp hno
      by_cases hr : r = 0
      · subst hr
        go_wp2
        go_ret
        exact ⟨by rw [HW.out, HT.out]; rfl, rfl⟩
      · have hr' : ¬ (r : Int) = 0 := by omega
        have hf : (r == 0) = false := by simp [hr]
        rw [hf] at HT
        go_wp2
        go_round
        case rel => exact ⟨k + 1, by omega, by go_num, HT.out⟩
        case measure => simp [intOf]; omega
    · obtain rfl : k = ps.length := by omega
      rw [List.take_length] at hno
      have HNo := hide hno
      clear hno
      go_wp2
      go_ret
      exact ⟨by rw [HNo.out]; rfl, rfl⟩
end Go.Proofs.Ytkkildgdeagpeah.arr
