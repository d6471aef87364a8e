/- The words that name events: the program's table of functions. -/
import Derived.Test.YtolmngfjdcoapaaDoorPjob
import Derived.Maps.OwnSet
namespace Go.Proofs.YtolmngfjdcoapaaDoor.ew
open Go.ChangeShapes Go.WideShapes Go.ChangeAt Go.RowKit
open Go.Proofs.YtolmngfjdcoapaaDoor.bytes
set_option linter.unusedVariables false
/-- A function with one bound number. -/
def dec : Value → Option (Nat × Int)
  | .func (.func f) ⟨[.int .i64 k]⟩ ⟨[]⟩ => some (f, k)
  | _ => none
theorem dec_inv {v : Value} {f : Nat} {k : Int} (h : dec v = some (f, k)) : v = .func (.func f) #[.int .i64 k] #[] := by
  unfold dec at h
  split at h
  · simp only [Option.some.injEq, Prod.mk.injEq] at h
    obtain ⟨rfl, rfl⟩ := h
    rfl
  · cases h
def dat (f : Nat) (k : Int) : DataW Unit := .agg [.lit (.int .i64 f), .lit (.int .i64 k)]
def R (v : Value) : Option (DataW Unit × List MemPlace) :=
  match dec v with
  | some (f, k) => some (dat f k, [])
  | none => some (.lit (.bool false), [])
theorem R_mk (f : Nat) (k : Int) : R (.func (.func f) #[.int .i64 k] #[]) = some (dat f k, []) := rfl
theorem R_inv {v : Value} {f : Nat} {k : Int} {ps : List MemPlace} (h : R v = some (dat f k, ps)) : v = .func (.func f) #[.int .i64 k] #[] := by
  unfold R at h
  split at h
  · rename_i f' k' e
    simp only [Option.some.injEq, Prod.mk.injEq, dat, DataW.agg.injEq, List.cons.injEq, DataW.lit.injEq, Lit.int.injEq, true_and, and_true] at h
    rw [dec_inv e]
    obtain ⟨⟨h1, h2⟩, _⟩ := h
    rw [h2, Int.ofNat_inj.1 h1]
  · simp [dat] at h
def D0 : DataW Unit := .map []
def N1 : ByteArray := ⟨#[116, 105, 99, 107]⟩
def D1 : DataW Unit := D0.put (.string N1.data.toList) (dat 20 1)
def N2 : ByteArray := ⟨#[100, 101, 108, 105, 118, 101, 114]⟩
def D2 : DataW Unit := D1.put (.string N2.data.toList) (dat 20 2)
def N3 : ByteArray := ⟨#[100, 114, 111, 112]⟩
def D3 : DataW Unit := D2.put (.string N3.data.toList) (dat 20 3)
def N4 : ByteArray := ⟨#[100, 111, 117, 98, 108, 101]⟩
def D4 : DataW Unit := D3.put (.string N4.data.toList) (dat 20 4)
def N5 : ByteArray := ⟨#[99, 114, 97, 115, 104]⟩
def D5 : DataW Unit := D4.put (.string N5.data.toList) (dat 20 5)
def N6 : ByteArray := ⟨#[115, 116, 97, 114, 116]⟩
def D6 : DataW Unit := D5.put (.string N6.data.toList) (dat 20 6)
def N7 : ByteArray := ⟨#[106, 111, 98]⟩
def D7 : DataW Unit := D6.put (.string N7.data.toList) (dat 21 7)
theorem k9 : Maps.Keyed Tryd.prog 9 := Maps.string_keyed Tryd.underlying9
set_option maxHeartbeats 1600000 in
set_option maxRecDepth 20000 in
theorem ew_any (w : World) :
    Calls Tryd.prog 13 #[] w fun e w' => e = .returned (.map (some w.heap.size)) ∧ w'.ownsMap Tryd.prog 9 R w.heap.size 7 D7 ∧ Below w.heap.size w w' := by
  have hm := run_makeMap (P := Tryd.prog) 42 w
  have o0 : (w.alloc (.map #[] 0)).ownsMap Tryd.prog 9 R w.heap.size 0 D0 := World.ownsMap_made w Tryd.prog 9 R
  have b0 : Below w.heap.size w (w.alloc (.map #[] 0)) := (Below.refl _ _).alloc (Nat.le_refl _) _
  have s0 : w.heap.size < (w.alloc (.map #[] 0)).heap.size := by simp
  obtain ⟨w0, hw0⟩ : ∃ w0, w.alloc (.map #[] 0) = w0 := ⟨_, rfl⟩
  rw [hw0] at hm o0 b0 s0
  obtain ⟨w1, r1, o1, t1⟩ := o0.store (t := 42) (e := 40) (key := .string N1) (val := .func (.func 20) #[.int .i64 1] #[]) (kl := .string N1.data.toList) k9 Tryd.underlying42 (by unfold maxLen; omega) (by kernel_rfl) (R_mk 20 1)
  have b1 : Below w.heap.size w w1 := b0.grown t1.grown (by omega) (fun k hk => by cases hk; exact Nat.le_refl _)
  have s1 : w.heap.size < w1.heap.size := Nat.lt_of_lt_of_le s0 t1.grown.size
  simp only [N1] at r1
  clear t1 b0 o0 s0
  obtain ⟨w2, r2, o2, t2⟩ := o1.store (t := 42) (e := 40) (key := .string N2) (val := .func (.func 20) #[.int .i64 2] #[]) (kl := .string N2.data.toList) k9 Tryd.underlying42 (by unfold maxLen; omega) (by kernel_rfl) (R_mk 20 2)
  have b2 : Below w.heap.size w w2 := b1.grown t2.grown (by omega) (fun k hk => by cases hk; exact Nat.le_refl _)
  have s2 : w.heap.size < w2.heap.size := Nat.lt_of_lt_of_le s1 t2.grown.size
  simp only [N2] at r2
  clear t2 b1 o1 s1
  obtain ⟨w3, r3, o3, t3⟩ := o2.store (t := 42) (e := 40) (key := .string N3) (val := .func (.func 20) #[.int .i64 3] #[]) (kl := .string N3.data.toList) k9 Tryd.underlying42 (by unfold maxLen; omega) (by kernel_rfl) (R_mk 20 3)
  have b3 : Below w.heap.size w w3 := b2.grown t3.grown (by omega) (fun k hk => by cases hk; exact Nat.le_refl _)
  have s3 : w.heap.size < w3.heap.size := Nat.lt_of_lt_of_le s2 t3.grown.size
  simp only [N3] at r3
  clear t3 b2 o2 s2
  obtain ⟨w4, r4, o4, t4⟩ := o3.store (t := 42) (e := 40) (key := .string N4) (val := .func (.func 20) #[.int .i64 4] #[]) (kl := .string N4.data.toList) k9 Tryd.underlying42 (by unfold maxLen; omega) (by kernel_rfl) (R_mk 20 4)
  have b4 : Below w.heap.size w w4 := b3.grown t4.grown (by omega) (fun k hk => by cases hk; exact Nat.le_refl _)
  have s4 : w.heap.size < w4.heap.size := Nat.lt_of_lt_of_le s3 t4.grown.size
  simp only [N4] at r4
  clear t4 b3 o3 s3
  obtain ⟨w5, r5, o5, t5⟩ := o4.store (t := 42) (e := 40) (key := .string N5) (val := .func (.func 20) #[.int .i64 5] #[]) (kl := .string N5.data.toList) k9 Tryd.underlying42 (by unfold maxLen; omega) (by kernel_rfl) (R_mk 20 5)
  have b5 : Below w.heap.size w w5 := b4.grown t5.grown (by omega) (fun k hk => by cases hk; exact Nat.le_refl _)
  have s5 : w.heap.size < w5.heap.size := Nat.lt_of_lt_of_le s4 t5.grown.size
  simp only [N5] at r5
  clear t5 b4 o4 s4
  obtain ⟨w6, r6, o6, t6⟩ := o5.store (t := 42) (e := 40) (key := .string N6) (val := .func (.func 20) #[.int .i64 6] #[]) (kl := .string N6.data.toList) k9 Tryd.underlying42 (by unfold maxLen; omega) (by kernel_rfl) (R_mk 20 6)
  have b6 : Below w.heap.size w w6 := b5.grown t6.grown (by omega) (fun k hk => by cases hk; exact Nat.le_refl _)
  have s6 : w.heap.size < w6.heap.size := Nat.lt_of_lt_of_le s5 t6.grown.size
  simp only [N6] at r6
  clear t6 b5 o5 s5
  obtain ⟨w7, r7, o7, t7⟩ := o6.store (t := 42) (e := 40) (key := .string N7) (val := .func (.func 21) #[.int .i64 7] #[]) (kl := .string N7.data.toList) k9 Tryd.underlying42 (by unfold maxLen; omega) (by kernel_rfl) (R_mk 21 7)
  have b7 : Below w.heap.size w w7 := b6.grown t7.grown (by omega) (fun k hk => by cases hk; exact Nat.le_refl _)
  have s7 : w.heap.size < w7.heap.size := Nat.lt_of_lt_of_le s6 t7.grown.size
  simp only [N7] at r7
  clear t7 b6 o6 s6
  have HB : Hid (w7.ownsMap Tryd.prog 9 R w.heap.size 7 D7 ∧ Below w.heap.size w w7) := ⟨o7, b7⟩
  clear o7 b7 s7 hw0
  go_enter Tryd.func13, Tryd.ntmps13
  go_wp2
  go_ret
  exact ⟨rfl, HB.out⟩
end Go.Proofs.YtolmngfjdcoapaaDoor.ew
