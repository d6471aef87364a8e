/- Contracts of the specification's own functions on disks: how large, right or not, all bytes. -/
import Derived.Test.YtipcdioolafkpaaDiskMarks
namespace Go.Proofs.Ytipcdioolafkpaa.specdisk
open Go.ChangeShapes Go.WideShapes Go.ChangeAt Go.RowKit
open Go.Proofs.Ytipcdioolafkpaa.bytes Go.Proofs.Ytipcdioolafkpaa.pile Go.Proofs.Ytipcdioolafkpaa.reader Go.Proofs.Ytipcdioolafkpaa.lists Go.Proofs.Ytipcdioolafkpaa.sizes Go.Proofs.Ytipcdioolafkpaa.marked Go.Proofs.Ytipcdioolafkpaa.disks Go.Proofs.Ytipcdioolafkpaa.diskmarks
set_option linter.unusedVariables false

/-- A disk is right. -/
def Right (xs : List Int) (cs : List (List Int)) : Prop := cs.length ≤ 200 ∧ xs.length + cs.flatten.length ≤ 8192
/-- What DiskBytes answers. -/
noncomputable def diskA (xs : List Int) (cs : List (List Int)) : List Int × Int := by
  classical
  exact if Right xs cs then (xs ++ cs.flatten, 0) else ([], 1)
theorem diskA_right {xs : List Int} {cs : List (List Int)} (h : Right xs cs) : diskA xs cs = (xs ++ cs.flatten, 0) := by unfold diskA; rw [if_pos h]
theorem diskA_wrong {xs : List Int} {cs : List (List Int)} (h : ¬ Right xs cs) : diskA xs cs = ([], 1) := by unfold diskA; rw [if_neg h]

set_option maxHeartbeats 800000 in
theorem size_any (w : World) (s p : Value) (xs : List Int) (us : List Value) (cs : List (List Int)) (h1 : RdA w s xs) (h2 : RdS w p us) (h3 : Texts w us cs) (hl : xs.length + cs.flatten.length ≤ 1099511627776) :
    Calls Try.prog 67 #[.agg #[s, p]] w fun e w' => e = .returned (.int .i64 ((xs.length : Int) + (cs.flatten.length : Int))) ∧ Below w.heap.size w w' := by
  have HU : Hid (us.length = cs.length) := h3.1
  have HT : Hid (Texts w us cs) := h3
  obtain ⟨⟨a0, c0, rfl, _, _⟩, _⟩ := h1
  obtain ⟨a1, c1, rfl, ha1, ha2, ha3⟩ := h2
  unfold maxLen at ha2
  obtain ⟨T, hT⟩ : ∃ T, T = cs.flatten.length := ⟨_, rfl⟩
  have HTT : Hid (T = cs.flatten.length) := hT
  rw [← hT] at hl ⊢
  clear hT h3
  have HB : Hid (Below w.heap.size w (w.alloc (.cells #[.slice a0 xs.length c0, .slice a1 us.length c1] 40))) := (Below.refl _ _).alloc (Nat.le_refl _) _
  go_enter Try.func67, Try.ntmps67
  go_wp2
  go_loop [3, 4] (fun n i => ∃ k : Nat, k ≤ us.length ∧ i = .int .i64 k ∧ n = .int .i64 ((xs.length : Int) + (sizeTo cs k : Int))) (fun _ i => us.length - (intOf i).toNat)
  case atStart => exact ⟨0, by omega, rfl, by simp [sizeTo]⟩
  case round =>
    obtain ⟨k, hk, rfl, rfl⟩ := hrel
    have hsz : sizeTo cs k ≤ T := by rw [HTT.out]; exact sizeTo_le cs k
    by_cases hlt : k < us.length
    · obtain ⟨ab, aoff, rfl, hca⟩ := ha3 (by omega)
      have hck := hca k hlt
      have hcl : (w.alloc (.cells #[.slice a0 xs.length c0, .slice (some ⟨ab, aoff, none⟩) us.length c1] 40)).cell? ⟨ab, aoff + k, none⟩ = some (us.getD k (.slice none 0 0)) := (HB.out.cell (cell_lt hck)).trans hck
      have HS : Hid (sizeTo cs (k + 1) = sizeTo cs k + (cs.getD k []).length) := sizeTo_succ (xss := cs) (k := k) (by rw [← HU.out]; exact hlt)
      have hs2 : sizeTo cs (k + 1) ≤ T := by rw [HTT.out]; exact sizeTo_le cs (k + 1)
      obtain ⟨⟨co, c2, hcv, _⟩, _⟩ := HT.out.2 k hlt
      rw [hcv] at hcl
      rw [HS.out] at hs2
      generalize (cs.getD k []).length = L at hcl HS hs2
      clear hca hck hcv ha3
      go_wp2
      go_round
      case rel => exact ⟨k + 1, by omega, by go_num, by rw [HS.out]; go_num⟩
      case measure => simp [intOf]; omega
    · have hkT : sizeTo cs k = T := by
        rw [HTT.out]
        unfold sizeTo
        rw [List.take_of_length_le (by rw [← HU.out]; omega)]
      rw [hkT]
      go_wp2
      go_ret
      exact ⟨rfl, HB.out⟩

/-- It says whether a disk is right. -/
def OkE (xs : List Int) (cs : List (List Int)) (e : Ending) : Prop := ∃ b : Bool, e = .returned (.bool b) ∧ (b = true ↔ Right xs cs)
theorem own_lit (w : World) {base K : Nat} (h : base ≤ w.heap.size) (hK : w.heap.size = K) : Own (w.alloc (.cells #[] 5)) base (.slice (some ⟨K, 0, none⟩) 0 0) [] := by
  subst hK
  exact ⟨by simp, World.ownsRow_lit _ #[] 0 h (by simp [maxLen]) (by simp)⟩

/-- All bytes of a disk, in memory of its own. -/
def BytesAt (w : World) (xs : List Int) (v : Value) (w' : World) : Prop := Own w' w.heap.size v xs ∧ Below w.heap.size w w'

set_option maxHeartbeats 1000000 in
theorem bytes_own (w : World) (s p : Value) (xs : List Int) (us : List Value) (cs : List (List Int)) (h1 : RdA w s xs) (h2 : RdS w p us) (h3 : Texts w us cs) (hl : xs.length + cs.flatten.length ≤ 1099511627776) :
    Calls Try.prog 68 #[.agg #[s, p]] w fun e w' => ∃ v, e = .returned v ∧ BytesAt w (xs ++ cs.flatten) v w' := by
  have HU : Hid (us.length = cs.length) := h3.1
  have HS : Hid (RdA w s xs ∧ RdS w p us ∧ Texts w us cs) := ⟨h1, h2, h3⟩
  obtain ⟨⟨a0, c0, rfl, _, _⟩, _⟩ := h1
  obtain ⟨a1, c1, rfl, ha1, ha2, ha3⟩ := h2
  unfold maxLen at ha2
  obtain ⟨T, hT⟩ : ∃ T, T = cs.flatten.length := ⟨_, rfl⟩
  have HTT : Hid (T = cs.flatten.length) := hT
  rw [← hT] at hl
  clear hT h3
  have HW0 : Hid (Below w.heap.size w (w.alloc (.cells #[.slice a0 xs.length c0, .slice a1 us.length c1] 40))) := (Below.refl _ _).alloc (Nat.le_refl _) _
  have HW1 : Hid (Below w.heap.size w ((w.alloc (.cells #[.slice a0 xs.length c0, .slice a1 us.length c1] 40)).alloc (.cells #[] 5))) := HW0.out.alloc (by simp) _
  have HE0 : Hid (Own ((w.alloc (.cells #[.slice a0 xs.length c0, .slice a1 us.length c1] 40)).alloc (.cells #[] 5)) (w.heap.size + 1) (.slice (some ⟨w.heap.size + 1, 0, none⟩) 0 0) []) := by
    exact own_lit _ (by simp) (by simp)
  have HK0 : Hid (((w.alloc (.cells #[.slice a0 xs.length c0, .slice a1 us.length c1] 40)).alloc (.cells #[] 5)).heap[w.heap.size]? = some (.cells #[.slice a0 xs.length c0, .slice a1 us.length c1] 40 (0, 0))) := by
    unfold Hid
    rw [Below.heap_alloc _ _ _ (by simp)]
    exact heap_alloc_new w _
  have HS1 : Hid (w.heap.size + 1 ≤ ((w.alloc (.cells #[.slice a0 xs.length c0, .slice a1 us.length c1] 40)).alloc (.cells #[] 5)).heap.size) := by unfold Hid; simp
  go_enter Try.func68, Try.ntmps68
  go_wp2_with (at_builtin; refine wpList_append_rd _ rfl _ _ 22 rfl Try.underlying22 info5 _ _ [] rfl HE0.out _ xs rfl (HS.out.1.below HW1.out (Nat.le_refl _)) (by simp only [List.length_nil]; omega) HS1.out ?_)
  intro v1 w1 hO1 hg1
  have H1 : Hid (Own w1 (w.heap.size + 1) v1 xs ∧ Below w.heap.size w w1 ∧ w1.heap[w.heap.size]? = some (.cells #[.slice a0 xs.length c0, .slice a1 us.length c1] 40 (0, 0)) ∧ w.heap.size + 1 ≤ w1.heap.size) := by
    have hs1 := HS1.out
    have hs2 := hg1.size
    refine hide ⟨by simpa using hO1, HW1.out.grown hg1 (by omega) (fun k hk => by have := (HE0.out.lt k hk).1; omega), (hg1.block _ (by omega) (fun e => ?_)).trans HK0.out, by omega⟩
    have := (HE0.out.lt _ e.symm).1
    omega
  clear hO1 hg1 HE0 HK0 HS1 HW0 HW1
  go_wp2
  go_loopw [3, 4] (fun v i wr => ∃ k : Nat, k ≤ us.length ∧ i = .int .i64 k ∧ wr.cell? ⟨w.heap.size, 1, none⟩ = some (.slice a1 us.length c1) ∧ Hid (Own wr (w.heap.size + 1) v (xs ++ (cs.take k).flatten) ∧ Below w.heap.size w wr ∧ wr.heap[w.heap.size]? = some (.cells #[.slice a0 xs.length c0, .slice a1 us.length c1] 40 (0, 0)) ∧ w.heap.size + 1 ≤ wr.heap.size)) (fun _ i _ => us.length - (intOf i).toNat)
  case atStart => exact ⟨0, by omega, rfl, cell_of H1.out.2.2.1 rfl, hide ⟨by simpa using H1.out.1, H1.out.2.1, H1.out.2.2.1, H1.out.2.2.2⟩⟩
  case round =>
    clear H1
    obtain ⟨k, hk, rfl, hbox, HR⟩ := hrel
    by_cases hlt : k < us.length
    · obtain ⟨ab, aoff, rfl, hca⟩ := ha3 (by omega)
      have hck := hca k hlt
      have hcl : wr.cell? ⟨ab, aoff + k, none⟩ = some (us.getD k (.slice none 0 0)) := (HR.out.2.1.cell (cell_lt hck)).trans hck
      have HCh : Hid (RdA wr (us.getD k (.slice none 0 0)) (cs.getD k [])) := (HS.out.2.2.below HR.out.2.1 (Nat.le_refl _)).2 k hlt
      have HF : Hid ((cs.take (k + 1)).flatten = (cs.take k).flatten ++ cs.getD k []) := flat_succ (by rw [← HU.out]; exact hlt)
      have hsz : (cs.take k).flatten.length + (cs.getD k []).length ≤ T := by
        have h1 := sizeTo_le cs (k + 1)
        unfold sizeTo at h1
        rw [HF.out, List.length_append] at h1
        rw [HTT.out]
        exact h1
      generalize us.getD k (.slice none 0 0) = u at hcl HCh
      generalize cs.getD k [] = ch at HCh HF hsz
      have hs0 := HR.out.2.2.2
      clear hca hck ha3
      go_wp2_with (at_builtin; refine wpList_append_rd _ rfl _ _ 22 rfl Try.underlying22 info5 _ _ (xs ++ (cs.take k).flatten) rfl HR.out.1 _ ch rfl HCh.out (by rw [List.length_append]; omega) HR.out.2.2.2 ?_)
      intro v2 w2 hO2 hg2
      have H2 : Hid (Own w2 (w.heap.size + 1) v2 (xs ++ (cs.take (k + 1)).flatten) ∧ Below w.heap.size w w2 ∧ w2.heap[w.heap.size]? = some (.cells #[.slice a0 xs.length c0, .slice (some ⟨ab, aoff, none⟩) us.length c1] 40 (0, 0)) ∧ w.heap.size + 1 ≤ w2.heap.size) := by
        have hs2 := hg2.size
        refine hide ⟨by rw [HF.out]; first | exact hO2 | (rw [← List.append_assoc]; exact hO2), HR.out.2.1.grown hg2 (by omega) (fun j hj => by have := (HR.out.1.lt j hj).1; omega), (hg2.block _ (by omega) (fun e => ?_)).trans HR.out.2.2.1, by omega⟩
        have := (HR.out.1.lt _ e.symm).1
        omega
      have hbox2 := cell_of H2.out.2.2.1 (i := 1) rfl
      clear hO2 hg2 HR HCh
      go_wp2
      go_roundw
      case rel => exact ⟨k + 1, by omega, by go_num, hbox2, H2⟩
      case measure => simp [intOf]; omega
    · have HE : Hid (BytesAt w (xs ++ cs.flatten) u3 wr) := by
        have h1 := HR.out.1
        rw [List.take_of_length_le (by rw [← HU.out]; omega)] at h1
        exact hide ⟨h1.mono (by omega), HR.out.2.1⟩
      go_wp2
      go_ret
      exact ⟨_, rfl, HE.out⟩

end Go.Proofs.Ytipcdioolafkpaa.specdisk
