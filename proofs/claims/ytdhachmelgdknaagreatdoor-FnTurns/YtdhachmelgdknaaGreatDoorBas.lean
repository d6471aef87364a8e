/- Words of my own: worlds that grow, cells, lines of texts. -/
import Derived.Test.YtdhachmelgdknaaGreatDoorShelf
import Derived.Test.YtdhachmelgdknaaGreatDoorProg
import Derived.WalkKit
import Derived.ProofKit
import Derived.WalkSpells
import Derived.Below
import Derived.WalkSmall
import Derived.Laws.OwnMore
import Derived.Deep.QuietTactic
import Derived.BigQuiet
import Derived.Outline
import Derived.Laws.ResultCell
import Derived.Deep.RegionLaw
import Derived.Deep.RegionHeldLaw
import Derived.Deep.AppendLies
import Derived.BigRegion
import Derived.Lib.AppendStr
import Derived.Lib.Split
namespace Go.Proofs.YtdhachmelgdknaaGreatDoor.bas
open Go.ChangeShapes Go.WideShapes Go.ChangeAt Go.RowKit
set_option linter.unusedVariables false
theorem hide {p : Prop} (h : p) : Hid p := h
theorem more {W wx : World} (h : Below W.heap.size W wx) (o : Obj) : Below W.heap.size W (wx.alloc o) := h.alloc h.size o
theorem cell_lt {w : World} {a : Addr} {v : Value} (h : w.cell? a = some v) : a.block < w.heap.size := by
  unfold World.cell? at h
  rcases Nat.lt_or_ge a.block w.heap.size with h' | h'
  · exact h'
  · rw [Array.getElem?_eq_none h'] at h
    simp at h
theorem cell_at {w w' : World} {B : Nat} {a : Addr} {v : Value} (h : Below B w w') (hc : w.cell? a = some v) (hB : w.heap.size ≤ B) : w'.cell? a = some v := (h.cell (by have := cell_lt hc; omega)).trans hc
theorem kept {w w' : World} {B k : Nat} {o : Obj} (h : Below B w w') (hk : w.heap[k]? = some o) (hB : w.heap.size ≤ B) : w'.heap[k]? = some o := (h.block k (by have := (Array.getElem?_eq_some_iff.1 hk).1; omega)).trans hk
theorem cell_of {w : World} {b i : Nat} {cur : Array Value} {t : Nat} {v : Value} (h : w.heap[b]? = some (.cells cur t (0, 0))) (hv : cur[i]? = some v) : w.cell? ⟨b, i, none⟩ = some v := by simp [World.cell?, h, hv]
theorem frozen_of {w : World} {b : Nat} {cur : Array Value} {t : Nat} (h : w.heap[b]? = some (.cells cur t (0, 0))) (i : Nat) : w.frozen? ⟨b, i, none⟩ = false := by simp [World.frozen?, h]
theorem below_drewN {B : Nat} {w w' : World} (h : Below B w w') (n : Nat) : Below B w (w'.drewN n) := ⟨h.os, h.tape, h.output, h.size, h.block⟩
theorem grown_of {w w' : World} {d : Nat} (h : Below w.heap.size w w') : w.grownBy w' (some d) := ⟨h.os, h.tape, h.output, h.size, fun k hk _ => h.block k hk⟩
theorem grown_refl (w : World) (d : Nat) : w.grownBy w (some d) := ⟨rfl, rfl, rfl, Nat.le_refl _, fun _ _ _ => rfl⟩
theorem grown_drew {w w' : World} {d : Nat} (h : w.grownBy w' (some d)) (n : Nat) : w.grownBy (w'.drewN n) (some d) := ⟨h.os, h.tape, h.output, h.size, h.block⟩
theorem grown_set {w w' : World} {d : Nat} (h : w.grownBy w' (some d)) (i : Nat) (v : Value) : w.grownBy (w'.setCell ⟨d, i, none⟩ v) (some d) := ⟨h.os, h.tape, h.output, by simpa using h.size, fun k hk hn => (Below.heap_setCell _ _ _ _ (fun e => hn (by rw [e]))).trans (h.block k hk hn)⟩
theorem grown_tr {a b c : World} {d : Nat} (h : a.grownBy b (some d)) (k : b.grownBy c (some d)) : a.grownBy c (some d) := ⟨k.os.trans h.os, k.tape.trans h.tape, k.output.trans h.output, Nat.le_trans h.size k.size, fun x hx hn => (k.block x (by have := h.size; omega) hn).trans (h.block x hx hn)⟩
theorem grown_alloc {w w' : World} {d : Nat} (h : w.grownBy w' (some d)) (o : Obj) : w.grownBy (w'.alloc o) (some d) := grown_tr h (grown_of ((Below.refl _ _).alloc (Nat.le_refl _) _))
theorem grown_bel {w w' : World} {d B : Nat} (h : w.grownBy w' (some d)) (hB : B ≤ d) (hBw : B ≤ w.heap.size) : Below B w w' := ⟨h.os, h.tape, h.output, h.size, fun k hk => h.block k (by omega) (by simp; omega)⟩
/-- A line end. -/
def nl : ByteArray := ⟨#[10]⟩
def mt : ByteArray := ⟨#[]⟩
/-- A text of lines, each with its end. -/
def joinL : List ByteArray → ByteArray
  | [] => mt
  | l :: r => l ++ nl ++ joinL r
/-- No line end within. -/
def NoNl (l : ByteArray) : Prop := ∀ b ∈ l.data.toList, b ≠ 10
theorem of_list {a b : ByteArray} (h : a.data.toList = b.data.toList) : a = b := by
  obtain ⟨⟨x⟩⟩ := a
  obtain ⟨⟨y⟩⟩ := b
  exact congrArg (fun l => (⟨⟨l⟩⟩ : ByteArray)) h
theorem ap_list (a b : ByteArray) : (a ++ b).data.toList = a.data.toList ++ b.data.toList := by simp
theorem sz_list (a : ByteArray) : a.data.toList.length = a.size := rfl
theorem ex_list (s : ByteArray) (a b : Nat) : (s.extract a b).data.toList = (s.data.toList.drop a).take (b - a) := by
  rw [ByteArray.data_extract, Array.toList_extract, List.extract_eq_take_drop]
theorem occ1 (l : List UInt8) (c : UInt8) (i : Nat) : Lib.occAt l [c] i = true ↔ l[i]? = some c := by
  unfold Lib.occAt
  have e : l[i]? = (l.drop i).head? := by rw [List.head?_drop]
  rw [e]
  cases l.drop i with
  | nil => simp
  | cons b r =>
    show (c == b && ([] : List UInt8).isPrefixOf r) = true ↔ some b = some c
    rw [show ([] : List UInt8).isPrefixOf r = true by cases r <;> rfl, Bool.and_true, beq_iff_eq, Option.some.injEq, eq_comm]
theorem index_line (l r : ByteArray) (h : NoNl l) : Lib.indexB (l ++ nl ++ r) nl = (l.size : Nat) := by
  have hd : (l ++ nl ++ r).data.toList = l.data.toList ++ (10 :: r.data.toList) := by rw [ap_list, ap_list]; simp [nl]
  show Lib.index (l ++ nl ++ r).data.toList nl.data.toList = _
  rw [hd]
  refine Lib.index_first (by simp) ?_ ?_
  · show Lib.occAt _ [10] _ = true
    rw [occ1, ← sz_list, List.getElem?_append_right (Nat.le_refl _)]
    simp
  · intro j hj
    show Lib.occAt _ [10] _ = false
    rw [Bool.eq_false_iff]
    intro e
    rw [occ1, List.getElem?_append_left (by rw [sz_list]; exact hj)] at e
    exact h _ (List.mem_of_getElem? e) rfl
theorem index_mt : Lib.indexB mt nl = -1 := by decide
theorem ex_front (l r : ByteArray) : (l ++ nl ++ r).extract 0 (l.size + 0) = l := by
  apply of_list
  rw [ex_list, ap_list, ap_list, List.drop_zero, List.append_assoc, List.take_append_of_le_length (by rw [sz_list]; omega), List.take_of_length_le (by rw [sz_list]; omega)]
theorem ex_back (l r : ByteArray) : (l ++ nl ++ r).extract (l.size + nl.size) (l ++ nl ++ r).size = r := by
  apply of_list
  rw [ex_list]
  have hs : (l ++ nl ++ r).size = l.size + nl.size + r.size := by simp
  have hd : (l ++ nl ++ r).data.toList.drop (l.size + nl.size) = r.data.toList := by
    rw [ap_list, List.drop_append_of_le_length (by rw [sz_list]; simp), List.drop_of_length_le (by rw [sz_list]; simp)]
    rfl
  rw [hd, hs, List.take_of_length_le (by rw [sz_list]; omega)]
theorem count_join : ∀ (ls : List ByteArray), (∀ l ∈ ls, NoNl l) → Lib.countB (joinL ls) nl = ls.length
  | [], _ => Lib.countB_miss _ _ index_mt
  | l :: r, h => by
    rw [joinL, Lib.countB_hit _ _ l.size (by decide) (index_line l _ (h l (by simp))), ex_back, count_join r (fun x hx => h x (by simp [hx]))]
    simp; omega
theorem split_join : ∀ (ls : List ByteArray), (∀ l ∈ ls, NoNl l) → Lib.splitB nl 0 ls.length (joinL ls) = ls ++ [mt]
  | [], _ => rfl
  | l :: r, h => by
    rw [joinL, List.length_cons, Lib.splitB_hit _ _ _ _ l.size (index_line l _ (h l (by simp))), ex_back, ex_front, split_join r (fun x hx => h x (by simp [hx]))]
    rfl
end Go.Proofs.YtdhachmelgdknaaGreatDoor.bas
