/- Contracts of GetNumber: what it answers at all bytes and every place. -/
import Derived.Test.YtipcdioolafkpaaDec
import Derived.OpenShut
import Derived.ShutString
import Derived.ChangeOld
namespace Go.Proofs.Ytipcdioolafkpaa.fnExactGetNumber
open Go.ChangeShapes Go.WideShapes Go.ChangeAt Go.RowKit
open Go.ChangeMaps (open_string shut_string)
open Go.Proofs.Ytipcdioolafkpaa.bytes Go.Proofs.Ytipcdioolafkpaa.get Go.Proofs.Ytipcdioolafkpaa.dec
set_option linter.unusedVariables false

def getA (xs : List Int) (a : Int) : Int × Int × Int :=
  if 65536 < xs.length then (0, 0, 2) else if a < 0 ∨ (xs.length : Int) < a then (0, 0, 5) else
    if (gotN xs a.toNat).2.2 = 0 then ((gotN xs a.toNat).1, a + (gotN xs a.toNat).2.1, 0) else (0, 0, 3)
def tri (r : Int × Int × Int) : Value := .tuple #[.int .i64 r.1, .int .i64 r.2.1, .int .i64 r.2.2]

theorem getA_long {xs : List Int} {a : Int} (h : 65536 < xs.length) : getA xs a = (0, 0, 2) := by simp [getA, h]
theorem getA_range {xs : List Int} {a : Int} (h : ¬ 65536 < xs.length) (ha : a < 0 ∨ (xs.length : Int) < a) : getA xs a = (0, 0, 5) := by rw [getA, if_neg h, if_pos ha]
theorem getA_good {xs : List Int} {a : Nat} (h : ¬ 65536 < xs.length) (ha : a ≤ xs.length) (hg : (gotN xs a).2.2 = 0) : getA xs a = ((gotN xs a).1, (a : Int) + ((gotN xs a).2.1 : Int), 0) := by
  rw [getA, if_neg h, if_neg (by omega), Int.toNat_natCast, if_pos hg]
theorem getA_bad {xs : List Int} {a : Nat} (h : ¬ 65536 < xs.length) (ha : a ≤ xs.length) (hg : (gotN xs a).2.2 ≠ 0) : getA xs a = (0, 0, 3) := by
  rw [getA, if_neg h, if_neg (by omega), Int.toNat_natCast, if_neg hg]

set_option maxHeartbeats 400000 in
theorem implGet (w : World) (b : Value) (xs : List Int) (a : Int) (hb : Rd w b xs) :
    Calls Try.prog 12 #[b, .int .i64 a] w fun e w' => e = .returned (tri (getA xs a)) ∧ Below w.heap.size w w' := by
  have hb' := hb
  obtain ⟨ao, ca, rfl, ha1, ha2, hx, ha3⟩ := hb
  unfold maxLen at ha2
  clear ha3 hx
  by_cases hl : 65536 < xs.length
  · rw [getA_long hl]
    have hl' : (65536 : Int) < xs.length := by omega
    go_enter Try.func12, Try.ntmps12
    go_wp2
    go_ret3
    exact ⟨rfl, Below.refl _ _⟩
  · have hl' : ¬ (65536 : Int) < xs.length := by omega
    by_cases h0 : a < 0
    · rw [getA_range hl (.inl h0)]
      go_enter Try.func12, Try.ntmps12
      go_wp2
      go_ret3
      exact ⟨rfl, Below.refl _ _⟩
    · by_cases h1 : (xs.length : Int) < a
      · rw [getA_range hl (.inr h1)]
        go_enter Try.func12, Try.ntmps12
        go_wp2
        go_ret3
        exact ⟨rfl, Below.refl _ _⟩
      · obtain ⟨n, rfl⟩ := Int.eq_ofNat_of_zero_le (show 0 ≤ a by omega)
        have hba : Below w.heap.size w (w.alloc (.cells #[.slice ao xs.length ca, .int .i64 n] 60)) := (Below.refl _ _).alloc (Nat.le_refl _) _
        have hrd := hb'.below hba (Nat.le_refl _)
        rcases Bool.eq_false_or_eq_true ((gotN xs n).2.2 != 0) with hg | hg
        · rw [getA_bad hl (by omega) (by simpa using hg)]
          go_enter Try.func12, Try.ntmps12
          go_wp2_with fail
          refine (number_any _ w.heap.size ao ca n xs (by omega) (by omega) (by exact hrd) (by simp) (by simp) (by simp)).mono ?_
          rintro e w' ⟨rfl, _, hw⟩
          obtain ⟨m, rfl⟩ := hw (by simpa using hg)
          go_wp2
          go_ret3
          exact ⟨rfl, below_drewN hba m⟩
        · have hg' : (gotN xs n).2.2 = 0 := by simpa using hg
          have HB : Hid (tri (getA xs n) = .tuple #[.int .i64 (gotN xs n).1, .int .i64 ((n : Int) + ((gotN xs n).2.1 : Int)), .int .i64 0]) := by
            rw [getA_good hl (by omega) hg']; simp [tri, Hid]
          have HG' : Hid ((gotN xs n).2.2 = 0) := hg'
          clear hg'
          rw [HB.out]
          go_enter Try.func12, Try.ntmps12
          go_wp2_with fail
          refine (number_any _ w.heap.size ao ca n xs (by omega) (by omega) (by exact hrd) (by simp) (by simp) (by simp)).mono ?_
          rintro e w' ⟨rfl, hw, _⟩
          obtain ⟨m, rfl⟩ := hw HG'.out
          clear hw
          have hcell : (((w.alloc (.cells #[.slice ao xs.length ca, .int .i64 n] 60)).drewN m).setCell ⟨w.heap.size, 1, none⟩ (.int .i64 ((n : Int) + ((gotN xs n).2.1 : Int)))).cell? ⟨w.heap.size, 1, none⟩ = some (.int .i64 ((n : Int) + ((gotN xs n).2.1 : Int))) := by
            exact World.cell?_setCell_same' _ _ _ (by rw [World.cell?_drewN]; simp)
          have HBW : Hid (Below w.heap.size w (((w.alloc (.cells #[.slice ao xs.length ca, .int .i64 n] 60)).drewN m).setCell ⟨w.heap.size, 1, none⟩ (.int .i64 ((n : Int) + ((gotN xs n).2.1 : Int))))) :=
            (below_drewN hba m).setCell (Nat.le_refl _) _
          generalize (((w.alloc (.cells #[.slice ao xs.length ca, .int .i64 n] 60)).drewN m).setCell ⟨w.heap.size, 1, none⟩ (.int .i64 ((n : Int) + ((gotN xs n).2.1 : Int)))) = w2 at hcell HBW ⊢
          go_wp2
          go_quiet (fail)
          go_wp2
          go_ret3
          exact ⟨rfl, below_drewN HBW.out _⟩

theorem own : ownKnob Try.prog.godebug = none := by kernel_rfl
theorem laidOut : laidOutB Try.prog = true := by kernel_rfl

/-- WHAT THE WALK IS TOLD OF A SLICE OF INTEGERS THAT CAME IN: it is nil; or it leads to a row of 'cap' cells, the numbers 'zs' (the first 'len' are its elements, the rest its spare room), each fitting its kind. -/
def IsRow (k : IntKind) (w : World) (a : Option Addr) (len cap : Nat) (zs : List Int) : Prop :=
  (a = none ∧ len = 0 ∧ cap = 0 ∧ zs = []) ∨
  ∃ x, a = some x ∧ len ≤ cap ∧ cap ≤ maxLen ∧ zs.length = cap ∧ (∀ i, i < zs.length → w.cell? (x.add i) = some (.int k (zs.getD i 0))) ∧ ∀ n ∈ zs, (Lit.int k n).wf = true

theorem rd_of_row {w : World} {a : Option Addr} {len cap : Nat} {zs : List Int} (h : IsRow .u8 w a len cap zs) : ∃ xs : List Int, Rd w (.slice a len cap) xs ∧ xs.length = len := by
  rcases h with ⟨rfl, rfl, rfl, rfl⟩ | ⟨x, rfl, hl, hm, hz, hcell, hwz⟩
  · exact ⟨[], ⟨none, 0, rfl, by simp, by simp [maxLen], by simp, by simp⟩, rfl⟩
  · have hlen : (zs.take len).length = len := by simp; omega
    refine ⟨zs.take len, ⟨some x, cap, by rw [hlen], by omega, hm, ?_, fun hp => ?_⟩, hlen⟩
    · intro y hy
      have := hwz y (List.mem_of_mem_take hy)
      simpa [Lit.wf, IntKind.min, IntKind.max, IntKind.signed, IntKind.bits] using this
    · obtain ⟨b, off, spot⟩ := x
      have hc := hcell 0 (by omega)
      have hspot : spot = none := by simpa [Addr.add] using World.cell?_spot hc
      subst hspot
      refine ⟨b, off, rfl, fun i hi => ?_⟩
      have := hcell i (by omega)
      have hadd : (⟨b, off, none⟩ : Addr).add i = ⟨b, off + i, none⟩ := by
        unfold Addr.add
        split
        · rename_i h; subst h; rfl
        · rfl
      rw [hadd] at this
      rw [this]
      have hi' : i < len := by omega
      simp [List.getD_eq_getElem?_getD, hi']

theorem le_max_of {w : World} {v : Value} {xs : List Int} (h : Rd w v xs) : xs.length ≤ maxLen := by
  obtain ⟨ao, cap, _, h1, h2, _⟩ := h
  omega

end Go.Proofs.Ytipcdioolafkpaa.fnExactGetNumber
