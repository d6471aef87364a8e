/- The key of a text, as the program reckons it. -/
import Derived.Test.YtkkildgdeagpeahDig
import Derived.Test.YtkkildgdeagpeahPad
import Derived.Test.YtkkildgdeagpeahKeys
namespace Go.Proofs.Ytkkildgdeagpeah.isha
open Go.ChangeShapes Go.WideShapes Go.ChangeAt Go.RowKit
open Go.Proofs.Ytkkildgdeagpeah.bytes Go.Proofs.Ytkkildgdeagpeah.pile Go.Proofs.Ytkkildgdeagpeah.rot Go.Proofs.Ytkkildgdeagpeah.arr Go.Proofs.Ytkkildgdeagpeah.rule Go.Proofs.Ytkkildgdeagpeah.block Go.Proofs.Ytkkildgdeagpeah.pad Go.Proofs.Ytkkildgdeagpeah.dig Go.Proofs.Ytkkildgdeagpeah.keys
set_option linter.unusedVariables false

/-- The key of a text, as numbers. -/
def shaN (xs : List Int) : List Int := (kyTo (byts (foldB (ruleL.take 8) (padN xs) ((padN xs).length / 64)) 32) 32).map (fun x => ((x : Nat) : Int))
theorem pad_length (xs : List Int) : ∃ K, (padN xs).length = 64 * K ∧ 1 ≤ K ∧ K ≤ xs.length / 64 + 2 := by
  have h : (padN xs).length = xs.length + (1 + ((63 - (xs.length + 8) % 64) + 8)) := by
    unfold padN
    simp [lt_length]
    omega
  refine ⟨(padN xs).length / 64, ?_, ?_, ?_⟩ <;> omega
theorem byts_lt (st : List Nat) (j : Nat) : ∀ x ∈ byts st j, x < 256 := by
  induction j with
  | zero => intro x hx; have := List.eq_of_mem_replicate hx; omega
  | succ j ih =>
    intro x hx
    rw [byts] at hx
    rcases List.mem_or_eq_of_mem_set hx with h | rfl
    · exact ih x h
    · exact Nat.mod_lt _ (by decide)

set_option maxHeartbeats 2000000 in
theorem implSha_long (w : World) (ao : Option Addr) (cap : Nat) (xs : List Int) (hl : 65536 < xs.length) (h : RdA w (.slice ao xs.length cap) xs) :
    Calls Try.prog 9 #[.slice ao xs.length cap] w fun e w' => e = .returned (.string ⟨#[]⟩) ∧ Below w.heap.size w w' := by
  have hl' : (65536 : Int) < xs.length := by omega
  clear h
  go_enter Try.func9, Try.ntmps9
  go_wp2
  go_ret
  exact ⟨rfl, Below.refl _ _⟩

set_option maxHeartbeats 4000000 in
theorem implSha_any (w : World) (ao : Option Addr) (cap : Nat) (xs : List Int) (hl : xs.length ≤ 65536) (h : RdA w (.slice ao xs.length cap) xs) :
    Calls Try.prog 9 #[.slice ao xs.length cap] w fun e w' => e = .returned (.string (strOfNums (shaN xs))) ∧ Below w.heap.size w w' := by
  have hl' : ¬ (65536 : Int) < xs.length := by omega
  have HRd := hide h
  clear h
  have HN := hide (newHashRule_any w)
  obtain ⟨K, hK, hK1, hK2⟩ := pad_length xs
  have HKd : Hid ((padN xs).length / 64 = K) := hide (by omega)
  have HK := hide hK
  have hK3 : K ≤ 2000 := by omega
  clear hK hK2
  go_enter Try.func9, Try.ntmps9
  go_wp2_with fail
  refine HN.out.mono ?_
  rintro e w1 ⟨rfl, B1⟩
  have HD := hide (digest_any w1 ao cap xs (padN xs) K HK.out hK1 hK3 (fun W hW => padded_any W ao cap xs hl hW) (HRd.out.below B1 (Nat.le_refl _)))
  have HB1 := hide B1
  clear HN B1
  go_wp2_with fail
  refine HD.out.mono ?_
  rintro e w2 ⟨rfl, B2⟩
  have HB2 := hide (HB1.out.trans (B2.mono HB1.out.size))
  have HKy := hide (key_any w2 (byts (foldB (ruleL.take 8) (padN xs) K) 32) (byts_length _ _) (byts_lt _ _))
  have HSh : Hid (shaN xs = (kyTo (byts (foldB (ruleL.take 8) (padN xs) K) 32) 32).map (fun x => ((x : Nat) : Int))) := hide (by unfold shaN; rw [HKd.out])
  clear HD B2 HB1
  go_wp2_with fail
  refine HKy.out.mono ?_
  rintro e w3 ⟨rfl, B3⟩
  have HB3 := hide (HB2.out.trans (B3.mono HB2.out.size))
  clear HKy B3
  go_wp2
  go_ret
  exact ⟨by rw [HSh.out]; rfl, HB3.out⟩
end Go.Proofs.Ytkkildgdeagpeah.isha
