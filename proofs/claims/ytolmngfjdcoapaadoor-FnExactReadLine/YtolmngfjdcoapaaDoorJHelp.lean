/- Words on jobs: what a job's fields are, when it is right, what its bytes are; contracts of the small functions on them. -/
import Derived.Test.YtolmngfjdcoapaaDoorPut
import Derived.Test.YtolmngfjdcoapaaDoorPile
import Derived.Lib.AppendStr
import Derived.Deep.RegionLaw
namespace Go.Proofs.YtolmngfjdcoapaaDoor.jhelp
open Go.ChangeShapes Go.WideShapes Go.ChangeAt Go.RowKit
open Go.Proofs.YtolmngfjdcoapaaDoor.bytes Go.Proofs.YtolmngfjdcoapaaDoor.pile Go.Proofs.YtolmngfjdcoapaaDoor.put
set_option linter.unusedVariables false

theorem more {W wx : World} (h : Below W.heap.size W wx) (o : Obj) : Below W.heap.size W (wx.alloc o) := h.alloc h.size o
theorem cell_at {w w' : World} {B : Nat} {a : Addr} {v : Value} (h : Below B w w') (hc : w.cell? a = some v) (hB : w.heap.size ≤ B) : w'.cell? a = some v := (h.cell (by have := cell_lt hc; omega)).trans hc
theorem kept {w w' : World} {B k : Nat} {o : Obj} (h : Below B w w') (hk : w.heap[k]? = some o) (hB : w.heap.size ≤ B) : w'.heap[k]? = some o := (h.block k (by have := (Array.getElem?_eq_some_iff.1 hk).1; omega)).trans hk
theorem new_at {w : World} {o : Obj} {k : Nat} (h : w.heap.size = k) : (w.alloc o).heap[k]? = some o := by subst h; exact heap_alloc_new w o
theorem cell_of {w : World} {b i : Nat} {cur : Array Value} {t : Nat} {v : Value} (h : w.heap[b]? = some (.cells cur t (0, 0))) (hv : cur[i]? = some v) : w.cell? ⟨b, i, none⟩ = some v := by simp [World.cell?, h, hv]
theorem frozen_of {w : World} {b : Nat} {cur : Array Value} {t : Nat} (h : w.heap[b]? = some (.cells cur t (0, 0))) (i : Nat) : w.frozen? ⟨b, i, none⟩ = false := by simp [World.frozen?, h]
theorem below_drew' {B : Nat} {w w' : World} (h : Below B w w') (n : Nat) : Below B w (w'.drewN n) := ⟨h.os, h.tape, h.output, h.size, h.block⟩

/-- The bytes of a text, as numbers. -/
def strN (s : ByteArray) : List Int := s.data.toList.map fun b => (b.toNat : Int)
theorem strN_length (s : ByteArray) : (strN s).length = s.size := by
  rw [strN, List.length_map, Array.length_toList]
  rfl
theorem strN_bd (s : ByteArray) : ∀ x ∈ strN s, 0 ≤ x ∧ x ≤ 255 := by
  intro x hx
  simp only [strN, List.mem_map] at hx
  obtain ⟨b, _, rfl⟩ := hx
  have := b.toNat_lt
  omega
theorem strCells_eq (s : ByteArray) : Lib.strCells s = (strN s).map (Value.int .u8) := by
  simp [Lib.strCells, strN]

/-- A number of clients, jobs or versions in its bounds. -/
def inT (lo n : Int) : Bool := decide (lo ≤ n ∧ n ≤ 1000000)

/-- A job is right. -/
def jobB (c s : Int) (F : Nat) (v : Int) (S T : Nat) : Bool := inT 1 c && (inT 1 s && (inT 0 v && (decide (F ≤ 40) && (decide (S ≤ 2000) && decide (T ≤ 2000)))))

/-- A text's bytes, and a job's. -/
def textN (s : ByteArray) : List Int := putN s.size ++ strN s
def flagN (e q : Bool) : Int := (if e then 1 else 0) + 2 * (if q then 1 else 0)
def jobN (c s : Int) (F : ByteArray) (v : Int) (S T : ByteArray) (e q : Bool) : List Int :=
  (((((putN c.toNat ++ putN s.toNat) ++ textN F) ++ putN v.toNat) ++ textN S) ++ textN T) ++ [flagN e q]

theorem inT_yes {lo n : Int} (h : inT lo n = true) : lo ≤ n ∧ n ≤ 1000000 := by simpa [inT] using h
theorem jobB_yes {c s v : Int} {F S T : Nat} (h : jobB c s F v S T = true) : (1 ≤ c ∧ c ≤ 1000000) ∧ (1 ≤ s ∧ s ≤ 1000000) ∧ (0 ≤ v ∧ v ≤ 1000000) ∧ F ≤ 40 ∧ S ≤ 2000 ∧ T ≤ 2000 := by
  simpa [jobB, inT] using h

theorem put3 {n : Nat} (h : n ≤ 1000000) : (putN n).length ≤ 3 := putN_len 2 n (by omega)
theorem textN_len {s : ByteArray} (h : s.size ≤ 2000) : (textN s).length ≤ 2003 := by
  have := put3 (n := s.size) (by omega)
  simp [textN, strN_length]
  omega
theorem flag_bd (e q : Bool) : 0 ≤ flagN e q ∧ flagN e q ≤ 3 := by cases e <;> cases q <;> simp [flagN]
theorem jobN_len {c s v : Int} {F S T : ByteArray} {e q : Bool} (h : jobB c s F.size v S.size T.size = true) : (jobN c s F v S T e q).length ≤ 6020 := by
  obtain ⟨h1, h2, h3, h4, h5, h6⟩ := jobB_yes h
  have a1 := put3 (n := c.toNat) (by omega)
  have a2 := put3 (n := s.toNat) (by omega)
  have a3 := put3 (n := v.toNat) (by omega)
  have a4 := textN_len (s := F) (by omega)
  have a5 := textN_len h5
  have a6 := textN_len h6
  simp [jobN]
  omega

/-- Own behind a string that is put behind. -/
theorem own_str {w' : World} {base : Nat} {v' : Value} {xs : List Int} {s : ByteArray} (hx : ∀ x ∈ xs, 0 ≤ x ∧ x ≤ 255) (h : w'.ownsRow base 5 1 v' (xs.length + s.size) (xs.map (Value.int .u8) ++ Lib.strCells s)) : Own w' base v' (xs ++ strN s) := by
  refine ⟨?_, ?_⟩
  · intro x hx'
    rcases List.mem_append.1 hx' with h' | h'
    · exact hx x h'
    · exact strN_bd s x h'
  · rw [List.length_append, strN_length, List.map_append, ← strCells_eq]
    exact h

theorem in_any (w : World) (n lo : Int) : Calls Tryd.prog 23 #[.int .i64 n, .int .i64 lo, .int .i64 1000000] w fun e w' => e = .returned (.bool (inT lo n)) ∧ w' = w := by
  by_cases h1 : lo ≤ n
  · by_cases h2 : n ≤ 1000000
    · have hd : inT lo n = true := by simp [inT, h1, h2]
      rw [hd]
      go_enter Tryd.func23, Tryd.ntmps23
      go_wp2
      go_ret
      exact ⟨rfl, rfl⟩
    · have hd : inT lo n = false := by simp [inT, h1, h2]
      rw [hd]
      have h2' : (1000000 : Int) < n := by omega
      go_enter Tryd.func23, Tryd.ntmps23
      go_wp2
      go_ret
      exact ⟨rfl, rfl⟩
  · have hd : inT lo n = false := by simp [inT, h1]
    rw [hd]
    have h1' : n < lo := by omega
    go_enter Tryd.func23, Tryd.ntmps23
    go_wp2
    go_ret
    exact ⟨rfl, rfl⟩

theorem flag_any (w : World) (b : Bool) : Calls Tryd.prog 26 #[.bool b] w fun e w' => e = .returned (.int .i64 (if b then 1 else 0)) ∧ w' = w := by
  cases b
  · go_enter Tryd.func26, Tryd.ntmps26
    go_wp2
    go_ret
    exact ⟨rfl, rfl⟩
  · go_enter Tryd.func26, Tryd.ntmps26
    go_wp2
    go_ret
    exact ⟨rfl, rfl⟩

set_option maxHeartbeats 800000 in
theorem text_own (w : World) (s : ByteArray) (hs : s.size ≤ 1048576) : Calls Tryd.prog 25 #[.string s] w fun e w' => ∃ v, e = .returned v ∧ Own w' w.heap.size v (textN s) ∧ Below w.heap.size w w' := by
  obtain ⟨i0, hi, hz0, hz1, hz2⟩ := info_parts info5
  have HI : Hid (Tryd.prog.info? 5 = some i0 ∧ i0.zero = some (.int .u8 0) ∧ i0.size = 1 ∧ i0.bytes = 1) := ⟨hi, hz0, hz1, hz2⟩
  clear hi hz0 hz1 hz2
  have hpl : (putN s.size).length ≤ 10 := putN_len 9 s.size (by omega)
  have HC := l01Put_own s.size w (by unfold maxLen; omega)
  have HPL : Hid ((putN s.size).length ≤ 10) := hpl
  clear hpl
  go_enter Tryd.func25, Tryd.ntmps25
  go_wp2_with fail
  refine HC.mono ?_
  rintro e w1 ⟨v1, rfl, O1, b1⟩
  have s1 := b1.size
  have HO : Hid (Own w1 w.heap.size v1 (putN s.size)) := O1
  clear O1
  go_wp2_with (at_builtin; refine Lib.wpList_append_own_string w1 rfl _ _ 22 9 rfl w.heap.size 5 i0 Tryd.underlying22 Tryd.underlying9 HI.out.1 HI.out.2.1 HI.out.2.2.1 HI.out.2.2.2 v1 _ _ rfl HO.out.2 s rfl (by have := HPL.out; unfold maxLen; omega) (by have := HPL.out; omega) s1 ?_; intro v2 w2 hown2 hg2 _; have H2 : Hid (Own w2 w.heap.size v2 (textN s) ∧ Below w.heap.size w w2) := ⟨own_str HO.out.1 hown2, b1.grown hg2 s1 (fun k hk => (HO.out.lt k hk).1)⟩; clear hown2 hg2)
  go_ret
  exact ⟨_, rfl, H2.out⟩
end Go.Proofs.YtolmngfjdcoapaaDoor.jhelp
