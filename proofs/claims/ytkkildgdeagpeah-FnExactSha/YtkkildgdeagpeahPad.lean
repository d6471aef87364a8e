/- A text with what is put behind it, as the program does it. -/
import Derived.Test.YtkkildgdeagpeahBlock
import Derived.Test.YtkkildgdeagpeahJoin
import Derived.Deep.RegionLaw
namespace Go.Proofs.Ytkkildgdeagpeah.pad
open Go.ChangeShapes Go.WideShapes Go.ChangeAt Go.RowKit
open Go.Proofs.Ytkkildgdeagpeah.bytes Go.Proofs.Ytkkildgdeagpeah.pile Go.Proofs.Ytkkildgdeagpeah.join Go.Proofs.Ytkkildgdeagpeah.rot Go.Proofs.Ytkkildgdeagpeah.root Go.Proofs.Ytkkildgdeagpeah.arr Go.Proofs.Ytkkildgdeagpeah.primes Go.Proofs.Ytkkildgdeagpeah.rule Go.Proofs.Ytkkildgdeagpeah.word Go.Proofs.Ytkkildgdeagpeah.round Go.Proofs.Ytkkildgdeagpeah.block
set_option linter.unusedVariables false

/-- How many bits n bytes have, in eight bytes: the first j of them. -/
def lt (n : Nat) : Nat → List Nat
  | 0 => List.replicate 8 0
  | j + 1 => (lt n j).set j (8 * n / 2 ^ (8 * (7 - j)) % 256)
theorem lt_length (n j : Nat) : (lt n j).length = 8 := by
  induction j with
  | zero => rfl
  | succ j ih => rw [lt, List.length_set, ih]
theorem lt_lt (n j : Nat) : ∀ x ∈ lt n j, x < 256 := by
  induction j with
  | zero => intro x hx; have := List.eq_of_mem_replicate hx; omega
  | succ j ih =>
    intro x hx
    rw [lt] at hx
    rcases List.mem_or_eq_of_mem_set hx with h1 | rfl
    · exact ih x h1
    · exact Nat.mod_lt _ (by decide)
/-- A text with what is put behind it. -/
def padN (xs : List Int) : List Int := xs ++ (128 :: (List.replicate (63 - (xs.length + 8) % 64) 0 ++ (lt xs.length 8).map (fun x => ((x : Nat) : Int))))

theorem le_cap {w : World} {a : Option Addr} {n c : Nat} {xs : List Int} (h : Rd w (.slice a n c) xs) : n = xs.length ∧ xs.length ≤ c ∧ c ≤ maxLen := by
  obtain ⟨ao, ca, e, h1, h2, _⟩ := h
  simp only [Value.slice.injEq] at e
  obtain ⟨rfl, rfl, rfl⟩ := e
  exact ⟨rfl, h1, h2⟩
theorem arr_rdA {w : World} {g t : Nat} {xs : List Nat} (h : Arr w g t .u8 xs) (hl : ∀ x ∈ xs, x < 256) (hm : xs.length ≤ maxLen) : RdA w (.slice (some ⟨g, 0, none⟩) xs.length xs.length) (xs.map (fun x => ((x : Nat) : Int))) := by
  refine ⟨⟨some ⟨g, 0, none⟩, xs.length, by rw [List.length_map], by rw [List.length_map]; exact Nat.le_refl _, hm, ?_, fun _ => ⟨g, 0, rfl, fun i hi => ?_⟩⟩, fun n c e => by simp at e⟩
  · intro x hx
    rw [List.mem_map] at hx
    obtain ⟨y, hy, rfl⟩ := hx
    have := hl y hy
    omega
  · rw [List.length_map] at hi
    rw [Nat.zero_add, h.cell hi]
    simp [List.getD_eq_getElem?_getD, List.getElem?_map, List.getElem?_eq_getElem hi]

theorem made_at (w : World) (n : Nat) (hn : n ≤ 1000) : ∃ w', (Instr.makeSlice 22 (.int .i64 (n : Int)) (.int .i64 (n : Int))).run Try.prog w = .ok (.slice (some ⟨w.heap.size, 0, none⟩) n n) w' ∧ Hid (Own w' w.heap.size (.slice (some ⟨w.heap.size, 0, none⟩) n n) (List.replicate n 0) ∧ w.grownBy w' none) := by
  obtain ⟨i0, hi, hz0, hz1, hz2⟩ := info_parts info5
  obtain ⟨w', hrun, r1, r2⟩ := run_make_full (P := Try.prog) w w.heap.size 22 5 i0 (.int .u8 0) 1 Try.underlying22 hi hz0 hz1 .i64 .i64 n (by rw [hz2]; omega) (by unfold maxLen; omega) (Nat.le_refl _)
  refine ⟨w', hrun, hide ⟨⟨fun x hx => by have := List.eq_of_mem_replicate hx; omega, ?_⟩, r2⟩⟩
  rw [made_list] at r1
  simpa using r1
theorem own_block {w : World} {base g n c : Nat} {xs : List Int} (h : Own w base (.slice (some ⟨g, 0, none⟩) n c) xs) : ∃ cur, w.heap[g]? = some (.cells cur 5 (0, 0)) := by
  obtain ⟨_, _, ⟨h1, _⟩ | ⟨g', cap, cur, h1, _, h3, _⟩⟩ := h
  · simp at h1
  · simp only [Value.slice.injEq, Option.some.injEq, Addr.mk.injEq] at h1
    obtain ⟨⟨rfl, _⟩, _⟩ := h1
    exact ⟨cur, h3⟩
/-- The four pieces joined. -/
theorem pad_join (wx : World) (B k1 k2 k3 : Nat) (ao : Option Addr) (cap : Nat) (xs : List Int) (hl : xs.length ≤ 65536) (nz : Nat) (hnz : nz = 63 - (xs.length + 8) % 64)
    (hB : wx.heap[B]? = some (.cells #[.slice ao xs.length cap, .slice (some ⟨k1, 0, none⟩) 1 1, .slice (some ⟨k2, 0, none⟩) nz nz, .slice (some ⟨k3, 0, none⟩) 8 8] 22 (0, 0)))
    (h0 : RdA wx (.slice ao xs.length cap) xs) (h1 : wx.heap[k1]? = some (.cells #[.int .u8 128] 5 (0, 0))) (h2 : RdA wx (.slice (some ⟨k2, 0, none⟩) nz nz) (List.replicate nz 0)) (h3 : Arr wx k3 96 .u8 (lt xs.length 8)) :
    Calls Try.prog 33 #[.slice (some ⟨B, 0, none⟩) 4 4] wx fun e w' => ∃ v, e = .returned v ∧ Own w' wx.heap.size v (padN xs) ∧ Below wx.heap.size wx w' := by
  have h4 := arr_rdA h3 (lt_lt _ _) (by rw [lt_length]; unfold maxLen; omega)
  rw [lt_length] at h4
  have h5 : RdA wx (.slice (some ⟨k1, 0, none⟩) 1 1) [128] := by
    have h := arr_rdA (w := wx) (g := k1) (t := 5) (xs := [128]) h1 (by simp) (by unfold maxLen; simp)
    exact h
  have h := join_own wx (.slice (some ⟨B, 0, none⟩) 4 4) [.slice ao xs.length cap, .slice (some ⟨k1, 0, none⟩) 1 1, .slice (some ⟨k2, 0, none⟩) nz nz, .slice (some ⟨k3, 0, none⟩) 8 8] [xs, [128], List.replicate nz 0, (lt xs.length 8).map (fun x => ((x : Nat) : Int))] ⟨_, _, rfl, Nat.le_refl _, by simp [maxLen], fun _ => ⟨B, 0, rfl, fun i hi => by
      have h3 : i = 0 ∨ i = 1 ∨ i = 2 ∨ i = 3 := by simp at hi; omega
      rcases h3 with rfl | rfl | rfl | rfl <;> simp [World.cell?, hB]⟩⟩ ⟨rfl, fun i hi => by
      have h3 : i = 0 ∨ i = 1 ∨ i = 2 ∨ i = 3 := by simp at hi; omega
      rcases h3 with rfl | rfl | rfl | rfl
      · exact h0
      · exact h5
      · exact h2
      · exact h4⟩ (by simp [lt_length]; omega)
  rw [show [xs, [128], List.replicate nz 0, (lt xs.length 8).map (fun x => ((x : Nat) : Int))].flatten = padN xs by unfold padN; rw [hnz]; simp] at h
  exact h

set_option maxRecDepth 20000 in
set_option maxHeartbeats 8000000 in
theorem padded_any (w : World) (ao : Option Addr) (cap : Nat) (xs : List Int) (hl : xs.length ≤ 65536) (h : RdA w (.slice ao xs.length cap) xs) :
    Calls Try.prog 52 #[.slice ao xs.length cap] w fun e w' => ∃ v, e = .returned v ∧ Own w' w.heap.size v (padN xs) ∧ Below w.heap.size w w' := by
  obtain ⟨_, h1, h2⟩ := le_cap h.1
  unfold maxLen at h2
  have HRd := hide h
  clear h
  obtain ⟨W1, hW1⟩ : ∃ W1, W1 = w.alloc (.cells #[.int .u8 0, .int .u8 0, .int .u8 0, .int .u8 0, .int .u8 0, .int .u8 0, .int .u8 0, .int .u8 0] 96) := ⟨_, rfl⟩
  have HS : Hid (Arr W1 w.heap.size 96 .u8 (lt xs.length 0) ∧ Below w.heap.size w W1 ∧ W1.heap.size = w.heap.size + 1) := by
    rw [hW1]
    exact hide ⟨Arr.new w 96 .u8 (List.replicate 8 0) #[.int .u8 0, .int .u8 0, .int .u8 0, .int .u8 0, .int .u8 0, .int .u8 0, .int .u8 0, .int .u8 0] rfl, (Below.refl _ _).alloc (Nat.le_refl _) _, by simp⟩
  go_enter Try.func52, Try.ntmps52
  go_wp2
  rw [← hW1]
  clear hW1
  go_loopw [16] (fun i wr => ∃ j : Nat, j ≤ 8 ∧ i = .int .i64 j ∧ Hid (Arr wr w.heap.size 96 .u8 (lt xs.length j) ∧ Below w.heap.size w wr)) (fun i _ => 8 - (intOf i).toNat)
  case atStart => exact ⟨0, by omega, rfl, hide ⟨HS.out.1, HS.out.2.1⟩⟩
  case round =>
    obtain ⟨j, hj, rfl, HR⟩ := hrel
    clear HS
    rcases (show j = 0 ∨ j = 1 ∨ j = 2 ∨ j = 3 ∨ j = 4 ∨ j = 5 ∨ j = 6 ∨ j = 7 ∨ j = 8 by omega) with rfl | rfl | rfl | rfl | rfl | rfl | rfl | rfl | rfl
    · have HV : Hid (lt xs.length (0 + 1) = (lt xs.length 0).set 0 (8 * xs.length / 2 ^ (8 * (7 - 0)) % 256)) := hide rfl
      have ca := HR.out.1.cell (i := 0) (by rw [lt_length]; decide)
      have fa := HR.out.1.frozen 0
      go_wp2
      go_roundw
      case rel => exact ⟨0 + 1, by omega, by go_num, hide ⟨by rw [HV.out]; exact HR.out.1.set 0 _ _ (by rw [show (2 : Nat) ^ (8 * (7 - 0)) = 72057594037927936 by decide]; congr 1; omega), HR.out.2.setCell (Nat.le_refl _) _⟩⟩
      case measure => simp [intOf]
    · have HV : Hid (lt xs.length (1 + 1) = (lt xs.length 1).set 1 (8 * xs.length / 2 ^ (8 * (7 - 1)) % 256)) := hide rfl
      have ca := HR.out.1.cell (i := 1) (by rw [lt_length]; decide)
      have fa := HR.out.1.frozen 1
      go_wp2
      go_roundw
      case rel => exact ⟨1 + 1, by omega, by go_num, hide ⟨by rw [HV.out]; exact HR.out.1.set 1 _ _ (by rw [show (2 : Nat) ^ (8 * (7 - 1)) = 281474976710656 by decide]; congr 1; omega), HR.out.2.setCell (Nat.le_refl _) _⟩⟩
      case measure => simp [intOf]
    · have HV : Hid (lt xs.length (2 + 1) = (lt xs.length 2).set 2 (8 * xs.length / 2 ^ (8 * (7 - 2)) % 256)) := hide rfl
      have ca := HR.out.1.cell (i := 2) (by rw [lt_length]; decide)
      have fa := HR.out.1.frozen 2
      go_wp2
      go_roundw
      case rel => exact ⟨2 + 1, by omega, by go_num, hide ⟨by rw [HV.out]; exact HR.out.1.set 2 _ _ (by rw [show (2 : Nat) ^ (8 * (7 - 2)) = 1099511627776 by decide]; congr 1; omega), HR.out.2.setCell (Nat.le_refl _) _⟩⟩
      case measure => simp [intOf]
    · have HV : Hid (lt xs.length (3 + 1) = (lt xs.length 3).set 3 (8 * xs.length / 2 ^ (8 * (7 - 3)) % 256)) := hide rfl
      have ca := HR.out.1.cell (i := 3) (by rw [lt_length]; decide)
      have fa := HR.out.1.frozen 3
      go_wp2
      go_roundw
      case rel => exact ⟨3 + 1, by omega, by go_num, hide ⟨by rw [HV.out]; exact HR.out.1.set 3 _ _ (by rw [show (2 : Nat) ^ (8 * (7 - 3)) = 4294967296 by decide]; congr 1; omega), HR.out.2.setCell (Nat.le_refl _) _⟩⟩
      case measure => simp [intOf]
    · have HV : Hid (lt xs.length (4 + 1) = (lt xs.length 4).set 4 (8 * xs.length / 2 ^ (8 * (7 - 4)) % 256)) := hide rfl
      have ca := HR.out.1.cell (i := 4) (by rw [lt_length]; decide)
      have fa := HR.out.1.frozen 4
      go_wp2
      go_roundw
      case rel => exact ⟨4 + 1, by omega, by go_num, hide ⟨by rw [HV.out]; exact HR.out.1.set 4 _ _ (by rw [show (2 : Nat) ^ (8 * (7 - 4)) = 16777216 by decide]; congr 1; omega), HR.out.2.setCell (Nat.le_refl _) _⟩⟩
      case measure => simp [intOf]
    · have HV : Hid (lt xs.length (5 + 1) = (lt xs.length 5).set 5 (8 * xs.length / 2 ^ (8 * (7 - 5)) % 256)) := hide rfl
      have ca := HR.out.1.cell (i := 5) (by rw [lt_length]; decide)
      have fa := HR.out.1.frozen 5
      go_wp2
      go_roundw
      case rel => exact ⟨5 + 1, by omega, by go_num, hide ⟨by rw [HV.out]; exact HR.out.1.set 5 _ _ (by rw [show (2 : Nat) ^ (8 * (7 - 5)) = 65536 by decide]; congr 1; omega), HR.out.2.setCell (Nat.le_refl _) _⟩⟩
      case measure => simp [intOf]
    · have HV : Hid (lt xs.length (6 + 1) = (lt xs.length 6).set 6 (8 * xs.length / 2 ^ (8 * (7 - 6)) % 256)) := hide rfl
      have ca := HR.out.1.cell (i := 6) (by rw [lt_length]; decide)
      have fa := HR.out.1.frozen 6
      go_wp2
      go_roundw
      case rel => exact ⟨6 + 1, by omega, by go_num, hide ⟨by rw [HV.out]; exact HR.out.1.set 6 _ _ (by rw [show (2 : Nat) ^ (8 * (7 - 6)) = 256 by decide]; congr 1; omega), HR.out.2.setCell (Nat.le_refl _) _⟩⟩
      case measure => simp [intOf]
    · have HV : Hid (lt xs.length (7 + 1) = (lt xs.length 7).set 7 (8 * xs.length / 2 ^ (8 * (7 - 7)) % 256)) := hide rfl
      have ca := HR.out.1.cell (i := 7) (by rw [lt_length]; decide)
      have fa := HR.out.1.frozen 7
      go_wp2
      go_roundw
      case rel => exact ⟨7 + 1, by omega, by go_num, hide ⟨by rw [HV.out]; exact HR.out.1.set 7 _ _ (by rw [show (2 : Nat) ^ (8 * (7 - 7)) = 1 by decide]; congr 1; omega), HR.out.2.setCell (Nat.le_refl _) _⟩⟩
      case measure => simp [intOf]
    · have HA8 := hide HR.out.1
      have HB8 := hide HR.out.2
      have hg8 := HA8.out.lt
      have HRd8 := hide (HRd.out.below HB8.out (Nat.le_refl _))
      obtain ⟨nz, hnz⟩ : ∃ nz : Nat, nz = 63 - (xs.length + 8) % 64 := ⟨_, rfl⟩
      have hnl : (63 - ((xs.length : Int) + 8) % 64) = (nz : Int) := by omega
      have hn63 : nz ≤ 63 := by omega
      have HNz := hide hnz
      clear hnz
      clear HR HRd
      obtain ⟨wA, hrA, HrA⟩ : ∃ wA, (Instr.makeSlice 22 (.int .i64 (nz : Int)) (.int .i64 (nz : Int))).run Try.prog wr.drew = .ok (.slice (some ⟨wr.heap.size, 0, none⟩) nz nz) wA ∧ Hid (Own wA wr.heap.size (.slice (some ⟨wr.heap.size, 0, none⟩) nz nz) (List.replicate nz 0) ∧ wr.drew.grownBy wA none) := made_at wr.drew nz (by omega)
      obtain ⟨wB, hrB, HrB⟩ : ∃ wB, (Instr.makeSlice 22 (.int .i64 (nz : Int)) (.int .i64 (nz : Int))).run Try.prog (wr.alloc (.cells #[.int .u8 128] 5)).drew = .ok (.slice (some ⟨wr.heap.size + 1, 0, none⟩) nz nz) wB ∧ Hid (Own wB (wr.heap.size + 1) (.slice (some ⟨wr.heap.size + 1, 0, none⟩) nz nz) (List.replicate nz 0) ∧ (wr.alloc (.cells #[.int .u8 128] 5)).drew.grownBy wB none) := by
        have h := made_at (wr.alloc (.cells #[.int .u8 128] 5)).drew nz (by omega)
        rw [show (wr.alloc (.cells #[.int .u8 128] 5)).drew.heap.size = wr.heap.size + 1 from (show (wr.alloc (.cells #[.int .u8 128] 5)).heap.size = wr.heap.size + 1 by simp)] at h
        exact h
      have bA : Below wr.heap.size wr wA := Below.grown (w := wr.drew) ⟨rfl, rfl, rfl, Nat.le_refl _, fun _ _ => rfl⟩ HrA.out.2 (Nat.le_refl _) (fun k hk => by simp at hk)
      have bB0 : Below wr.heap.size wr (wr.alloc (.cells #[.int .u8 128] 5)).drew := ((Below.refl _ _).alloc (Nat.le_refl _) _).drew
      have bB : Below wr.heap.size wr wB := bB0.grown HrB.out.2 (show wr.heap.size ≤ (wr.alloc (.cells #[.int .u8 128] 5)).heap.size by simp) (fun k hk => by simp at hk)
      have sA : wr.heap.size < wA.heap.size := (Array.getElem?_eq_some_iff.1 (own_block HrA.out.1).choose_spec).1
      have sB : wr.heap.size + 1 < wB.heap.size := (Array.getElem?_eq_some_iff.1 (own_block HrB.out.1).choose_spec).1
      have HJA : Hid (Calls Try.prog 33 #[.slice (some ⟨wB.heap.size, 0, none⟩) 4 4] (wB.alloc (.cells #[.slice ao xs.length cap, .slice (some ⟨wr.heap.size, 0, none⟩) 1 1, .slice (some ⟨wr.heap.size + 1, 0, none⟩) nz nz, .slice (some ⟨w.heap.size, 0, none⟩) 8 8] 22)) fun e w' => ∃ v, e = .returned v ∧ Own w' w.heap.size v (padN xs) ∧ Below w.heap.size w w') := by
        have hb := bB.alloc (show wr.heap.size ≤ wB.heap.size by omega) (.cells #[.slice ao xs.length cap, .slice (some ⟨wr.heap.size, 0, none⟩) 1 1, .slice (some ⟨wr.heap.size + 1, 0, none⟩) nz nz, .slice (some ⟨w.heap.size, 0, none⟩) 8 8] 22)
        refine hide ((pad_join _ wB.heap.size wr.heap.size (wr.heap.size + 1) w.heap.size ao cap xs hl nz HNz.out (heap_alloc_new _ _) (HRd8.out.below hb (Nat.le_refl _)) ?_ ?_ (HA8.out.below hb hg8)).mono ?_)
        · rw [Below.heap_alloc _ _ _ (by omega), HrB.out.2.block wr.heap.size (show wr.heap.size < (wr.alloc (.cells #[.int .u8 128] 5)).heap.size by simp) (by simp)]
          exact heap_alloc_new wr _
        · exact (Own.rdA HrB.out.1).below ((Below.refl _ _).alloc (Nat.le_refl _) _) (Nat.le_refl _)
        · rintro e w' ⟨v, rfl, ho, hb'⟩
          exact ⟨v, rfl, ho.mono (by simp; have := HB8.out.size; omega), HB8.out.trans ((hb.mono HB8.out.size).trans (hb'.mono (by simp; have := HB8.out.size; omega)))⟩
      have HJB : Hid (Calls Try.prog 33 #[.slice (some ⟨wA.heap.size + 1, 0, none⟩) 4 4] ((wA.alloc (.cells #[.int .u8 128] 5)).alloc (.cells #[.slice ao xs.length cap, .slice (some ⟨wA.heap.size, 0, none⟩) 1 1, .slice (some ⟨wr.heap.size, 0, none⟩) nz nz, .slice (some ⟨w.heap.size, 0, none⟩) 8 8] 22)) fun e w' => ∃ v, e = .returned v ∧ Own w' w.heap.size v (padN xs) ∧ Below w.heap.size w w') := by
        have hb := (bA.alloc (show wr.heap.size ≤ wA.heap.size by omega) (.cells #[.int .u8 128] 5)).alloc (by simp; omega) (.cells #[.slice ao xs.length cap, .slice (some ⟨wA.heap.size, 0, none⟩) 1 1, .slice (some ⟨wr.heap.size, 0, none⟩) nz nz, .slice (some ⟨w.heap.size, 0, none⟩) 8 8] 22)
        refine hide ((pad_join _ (wA.heap.size + 1) wA.heap.size wr.heap.size w.heap.size ao cap xs hl nz HNz.out (by have h := heap_alloc_new (wA.alloc (.cells #[.int .u8 128] 5)) (.cells #[.slice ao xs.length cap, .slice (some ⟨wA.heap.size, 0, none⟩) 1 1, .slice (some ⟨wr.heap.size, 0, none⟩) nz nz, .slice (some ⟨w.heap.size, 0, none⟩) 8 8] 22); simpa using h) (HRd8.out.below hb (Nat.le_refl _)) ?_ ?_ (HA8.out.below hb hg8)).mono ?_)
        · rw [Below.heap_alloc _ _ _ (by simp)]
          exact heap_alloc_new wA _
        · exact (Own.rdA HrA.out.1).below (((Below.refl _ _).alloc (Nat.le_refl _) _).alloc (by simp) _) (Nat.le_refl _)
        · rintro e w' ⟨v, rfl, ho, hb'⟩
          exact ⟨v, rfl, ho.mono (by simp; have := HB8.out.size; omega), HB8.out.trans ((hb.mono HB8.out.size).trans (hb'.mono (by simp; have := HB8.out.size; omega)))⟩
      clear HrA HrB bA bB bB0 HA8 HB8 HRd8
      go_wp2
      go_region_law (first | (go_simp; go_at_call 33; with_reducible (refine HJA.out.mono ?_); rintro e w9 ⟨v9, rfl, HO9, HB9⟩) | (go_simp; go_at_call 33; with_reducible (refine HJB.out.mono ?_); rintro e w9 ⟨v9, rfl, HO9, HB9⟩))
      all_goals
        have HF := hide (And.intro HO9 HB9)
        clear HO9 HB9
        go_wp2
        go_ret
        exact ⟨v9, rfl, HF.out.1, HF.out.2⟩
end Go.Proofs.Ytkkildgdeagpeah.pad
