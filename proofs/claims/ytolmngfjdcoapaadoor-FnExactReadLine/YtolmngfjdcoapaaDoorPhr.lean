/- A line that is read word by word: the program's side. -/
import Derived.Test.YtolmngfjdcoapaaDoorShelf
import Derived.Test.YtolmngfjdcoapaaDoorSJobs
import Derived.Test.YtolmngfjdcoapaaDoorNum
import Derived.Lib.QuietBelow
import Derived.Lib.AtoiErrMem
import Derived.Lib.AppendIntMem
import Derived.Lib.BufferOwn
namespace Go.Proofs.YtolmngfjdcoapaaDoor.phr
open Go.ChangeShapes Go.WideShapes Go.ChangeAt Go.RowKit
open Go.Proofs.YtolmngfjdcoapaaDoor.bytes Go.Proofs.YtolmngfjdcoapaaDoor.pile Go.Proofs.YtolmngfjdcoapaaDoor.jhelp Go.Proofs.YtolmngfjdcoapaaDoor.num
set_option linter.unusedVariables false
/-- The library's variables hold what the text lays. -/
structure Vr (w : World) : Prop where
  maxlen : ∃ m, w.cell? ⟨0, 0, none⟩ = some (.int .i64 m)
  syn : ∃ tp p, w.cell? ⟨1, 0, none⟩ = some (.iface tp p)
  rng : ∃ tp p, w.cell? ⟨2, 0, none⟩ = some (.iface tp p)
  tab : Lib.TabIs Tryd.prog w "internal/strconv.uint64pow10" .u64 Lib.pow10Tab
  size : 4 ≤ w.heap.size
theorem gTab : Tryd.prog.globalNamed "internal/strconv.uint64pow10" = some 3 := by kernel_rfl
theorem Vr.keep {w w' : World} (h : Vr w) (hk : ∀ b, b < 4 → w'.heap[b]? = w.heap[b]?) (hs : w.heap.size ≤ w'.heap.size) : Vr w' := by
  have e : ∀ b, b < 4 → w'.cell? ⟨b, 0, none⟩ = w.cell? ⟨b, 0, none⟩ := fun b hb => World.cell?_of_block (hk b hb)
  refine ⟨by rw [e 0 (by decide)]; exact h.maxlen, by rw [e 1 (by decide)]; exact h.syn, by rw [e 2 (by decide)]; exact h.rng, ?_, Nat.le_trans h.size hs⟩
  have ht := h.tab
  unfold Lib.TabIs World.var? at ht ⊢
  rw [gTab] at ht ⊢
  simp only [Option.bind_some] at ht ⊢
  rw [hk 3 (by decide)]
  exact ht
theorem Vr.below {w w' : World} (h : Vr w) (hb : Below w.heap.size w w') : Vr w' := h.keep (fun b hb' => hb.block b (by have := h.size; omega)) hb.size
theorem Vr.grown {w w' : World} {d : Nat} (h : Vr w) (hb : w.grownBy w' (some d)) (hd : 4 ≤ d) : Vr w' := h.keep (fun b hb' => hb.block b (by have := h.size; omega) (by simp; omega)) hb.size
theorem empt (A : ByteArray) : A.toList.isEmpty = decide (A = (⟨#[]⟩ : ByteArray)) := by
  rw [ByteArray.toList_eq]
  obtain ⟨⟨l⟩⟩ := A
  cases l <;> simp
def cutA (s : ByteArray) : ByteArray := ⟨(Lib.cut s.data.toList [32]).1.toArray⟩
def cutB (s : ByteArray) : ByteArray := ⟨(Lib.cut s.data.toList [32]).2.1.toArray⟩
def emp : ByteArray := ⟨#[]⟩
/-- A phrase at a block. -/
def Ph (w : World) (b : Nat) (s : ByteArray) (f : Bool) : Prop := w.heap[b]? = some (.cells #[.string s, .bool f] 39 (0, 0))
theorem Ph.lt {w : World} {b : Nat} {s : ByteArray} {f : Bool} (h : Ph w b s f) : b < w.heap.size := (Array.getElem?_eq_some_iff.1 h).1
theorem Ph.below {w w' : World} {b : Nat} {s : ByteArray} {f : Bool} (h : Ph w b s f) (hb : Below w.heap.size w w') : Ph w' b s f := (hb.block b h.lt).trans h
theorem grown_of {w w' : World} {d : Nat} (h : Below w.heap.size w w') : w.grownBy w' (some d) := ⟨h.os, h.tape, h.output, h.size, fun k hk _ => h.block k hk⟩
theorem grown_set {w w' : World} {d : Nat} (h : w.grownBy w' (some d)) (i : Nat) (v : Value) : w.grownBy (w'.setCell ⟨d, i, none⟩ v) (some d) := ⟨h.os, h.tape, h.output, by simpa using h.size, fun k hk hn => (Below.heap_setCell _ _ _ _ (fun e => hn (by rw [e]))).trans (h.block k hk hn)⟩
theorem grown_tr {a b c : World} {d : Nat} (h : a.grownBy b (some d)) (k : b.grownBy c (some d)) : a.grownBy c (some d) := ⟨k.os.trans h.os, k.tape.trans h.tape, k.output.trans h.output, Nat.le_trans h.size k.size, fun x hx hn => (k.block x (by have := h.size; omega) hn).trans (h.block x hx hn)⟩
theorem grown_bel {w w' : World} {d B : Nat} (h : w.grownBy w' (some d)) (hB : B ≤ d) (hBw : B ≤ w.heap.size) : Below B w w' := ⟨h.os, h.tape, h.output, h.size, fun k hk => h.block k (by omega) (by simp; omega)⟩
theorem set0 {w : World} {b : Nat} {s : ByteArray} {f : Bool} (h : Ph w b s f) (s' : ByteArray) : Ph (w.setCell ⟨b, 0, none⟩ (.string s')) b s' f := by
  have := heap_setCell_same w b 0 _ 39 (.string s') h
  simpa [Ph] using this
theorem set1 {w : World} {b : Nat} {s : ByteArray} {f : Bool} (h : Ph w b s f) (f' : Bool) : Ph (w.setCell ⟨b, 1, none⟩ (.bool f')) b s f' := by
  have := heap_setCell_same w b 1 _ 39 (.bool f') h
  simpa [Ph] using this
theorem cut_size (s : ByteArray) : (cutA s).size ≤ s.size ∧ (cutB s).size ≤ s.size := by
  have e : s.size = s.data.toList.length := rfl
  have h1 : (cutA s).size = (Lib.cut s.data.toList [32]).1.length := by simp [cutA, ByteArray.size]
  have h2 : (cutB s).size = (Lib.cut s.data.toList [32]).2.1.length := by simp [cutB, ByteArray.size]
  rw [h1, h2, e]
  unfold Lib.cut
  split
  · simp only [List.length_take, List.length_drop]; omega
  · simp
set_option maxHeartbeats 800000 in
theorem word_any (w : World) (b : Nat) (s : ByteArray) (f : Bool) (h : Ph w b s f) (hs : s.size < 4294967281) (hv : Vr w) :
    Calls Tryd.prog 14 #[.pointer (some ⟨b, 0, none⟩)] w fun e w' => e = .returned (.string (cutA s)) ∧ Hid (Ph w' b (cutB s) (f || decide (cutA s = emp)) ∧ w.grownBy w' (some b)) := by
  obtain ⟨m, hm⟩ := hv.maxlen
  have HC : Hid (Calls Tryd.prog 22 #[.string s, .string ⟨#[32]⟩] w fun e w' => ∃ q, e = .returned (.tuple #[.string (cutA s), .string (cutB s), .bool q]) ∧ ∃ n, w' = w.drewN n) := (Tryd.strings_Cut s ⟨#[32]⟩ m w hs hm).mono fun e w' h => ⟨_, h.1, h.2⟩
  obtain ⟨A, hA⟩ : ∃ A, cutA s = A := ⟨_, rfl⟩
  obtain ⟨B, hB⟩ : ∃ B, cutB s = B := ⟨_, rfl⟩
  rw [hA, hB] at HC ⊢
  have c0 : w.cell? ⟨b, 0, none⟩ = some (.string s) := cell_of h rfl
  have c1 : w.cell? ⟨b, 1, none⟩ = some (.bool f) := cell_of h rfl
  have f0 := frozen_of h 0
  have f1 := frozen_of h 1
  have HN : Hid (∀ n, Ph ((w.drewN n).setCell ⟨b, 0, none⟩ (.string B)) b B f ∧ w.grownBy ((w.drewN n).setCell ⟨b, 0, none⟩ (.string B)) (some b)) := fun n => ⟨set0 (w := w.drewN n) h B, ⟨rfl, rfl, rfl, by simp, fun k hk hn => Below.heap_setCell _ _ _ _ (fun e => hn (by rw [e]))⟩⟩
  have HN2 : Hid (∀ n, Ph (((w.drewN n).setCell ⟨b, 0, none⟩ (.string B)).setCell ⟨b, 1, none⟩ (.bool true)) b B true ∧ w.grownBy (((w.drewN n).setCell ⟨b, 0, none⟩ (.string B)).setCell ⟨b, 1, none⟩ (.bool true)) (some b)) := fun n => ⟨set1 (set0 (w := w.drewN n) h B) true, ⟨rfl, rfl, rfl, by simp, fun k hk hn => (Below.heap_setCell _ _ _ _ (fun e => hn (by rw [e]))).trans (Below.heap_setCell _ _ _ _ (fun e => hn (by rw [e])))⟩⟩
  clear hA hB h hv hm
  by_cases he : A = emp
  · subst he
    have hb : emp.toList.isEmpty = true := by rw [empt]; simp [emp]
    have hd : decide (emp = emp) = true := by simp
    rw [hd, Bool.or_true]
    clear hd
    go_enter Tryd.func14, Tryd.ntmps14
    go_wp2_with (go_at_call 22; refine HC.out.mono ?_; rintro e w1 ⟨q, rfl, n, rfl⟩)
    go_ret
    exact ⟨rfl, HN2.out _⟩
  · have hb : A.toList.isEmpty = false := by rw [empt]; simpa [emp] using he
    have hd : decide (A = emp) = false := by simp [he]
    rw [hd, Bool.or_false]
    clear hd he
    go_enter Tryd.func14, Tryd.ntmps14
    go_wp2_with (go_at_call 22; refine HC.out.mono ?_; rintro e w1 ⟨q, rfl, n, rfl⟩)
    go_ret
    exact ⟨rfl, HN.out _⟩
set_option maxHeartbeats 800000 in
theorem end_any (w : World) (b : Nat) (s : ByteArray) (f : Bool) (h : Ph w b s f) :
    Calls Tryd.prog 28 #[.pointer (some ⟨b, 0, none⟩)] w fun e w' => e = .returned (.tuple #[]) ∧ Hid (Ph w' b s (f || !decide (s = emp)) ∧ w.grownBy w' (some b)) := by
  have c0 : w.cell? ⟨b, 0, none⟩ = some (.string s) := cell_of h rfl
  have c1 : w.cell? ⟨b, 1, none⟩ = some (.bool f) := cell_of h rfl
  have f0 := frozen_of h 0
  have f1 := frozen_of h 1
  have HN : Hid (Ph w b s f ∧ w.grownBy w (some b)) := ⟨h, rfl, rfl, rfl, Nat.le_refl _, fun _ _ _ => rfl⟩
  have HN2 : Hid (Ph (w.setCell ⟨b, 1, none⟩ (.bool true)) b s true ∧ w.grownBy (w.setCell ⟨b, 1, none⟩ (.bool true)) (some b)) := ⟨set1 h true, grown_set ⟨rfl, rfl, rfl, Nat.le_refl _, fun _ _ _ => rfl⟩ 1 _⟩
  clear h
  by_cases he : s = emp
  · subst he
    have hb : emp.toList.isEmpty = true := by rw [empt]; simp [emp]
    have hd : decide (emp = emp) = true := by simp
    rw [hd, Bool.not_true, Bool.or_false]
    clear hd
    go_enter Tryd.func28, Tryd.ntmps28
    go_wp2
    go_end0
    exact ⟨rfl, HN.out⟩
  · have hb : s.toList.isEmpty = false := by rw [empt]; simpa [emp] using he
    have hd : decide (s = emp) = false := by simp [he]
    rw [hd, Bool.not_false, Bool.or_true]
    clear hd he
    go_enter Tryd.func28, Tryd.ntmps28
    go_wp2
    go_end0
    exact ⟨rfl, HN2.out⟩
end Go.Proofs.YtolmngfjdcoapaaDoor.phr
