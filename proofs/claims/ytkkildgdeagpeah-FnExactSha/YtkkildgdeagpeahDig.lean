/- The digest of a text, as the program reckons it. -/
import Derived.Test.YtkkildgdeagpeahBlock
import Derived.Test.YtkkildgdeagpeahJoin
import Derived.Deep.MidRow
import Derived.Deep.RegionLaw
import Derived.Deep.RegionHeldLaw
namespace Go.Proofs.Ytkkildgdeagpeah.dig
open Go.ChangeShapes Go.WideShapes Go.ChangeAt Go.RowKit
open Go.Proofs.Ytkkildgdeagpeah.bytes Go.Proofs.Ytkkildgdeagpeah.pile Go.Proofs.Ytkkildgdeagpeah.join Go.Proofs.Ytkkildgdeagpeah.rot Go.Proofs.Ytkkildgdeagpeah.root Go.Proofs.Ytkkildgdeagpeah.arr Go.Proofs.Ytkkildgdeagpeah.primes Go.Proofs.Ytkkildgdeagpeah.rule Go.Proofs.Ytkkildgdeagpeah.word Go.Proofs.Ytkkildgdeagpeah.round Go.Proofs.Ytkkildgdeagpeah.block
set_option linter.unusedVariables false

/-- The eight numbers when k blocks have been mixed in. -/
def foldB (st : List Nat) (ps : List Int) : Nat → List Nat
  | 0 => st
  | k + 1 => blkN (foldB st ps k) ((ps.drop (64 * k)).take 64 |>.map Int.toNat) (ruleL.drop 8)
/-- Their bytes: the first j of them. -/
def byts (st : List Nat) : Nat → List Nat
  | 0 => List.replicate 32 0
  | j + 1 => (byts st j).set j (st.getD (j / 4) 0 / 2 ^ (24 - 8 * (j % 4)) % 256)
theorem foldB_length {st : List Nat} (h : st.length = 8) (ps : List Int) (k : Nat) : (foldB st ps k).length = 8 := by
  induction k with
  | zero => exact h
  | succ k ih => rw [foldB, blkN, sm_length, ih]
theorem foldB_lt {st : List Nat} (h : ∀ x ∈ st, x < 4294967296) (ps : List Int) (k : Nat) : ∀ x ∈ foldB st ps k, x < 4294967296 := by
  induction k with
  | zero => exact h
  | succ k ih => rw [foldB, blkN]; exact sm_lt ih 8
theorem byts_length (st : List Nat) (j : Nat) : (byts st j).length = 32 := by
  induction j with
  | zero => rfl
  | succ j ih => rw [byts, List.length_set, ih]
theorem rule_lt : ∀ x ∈ ruleL, x < 4294967296 := by decide +kernel
theorem rule_len : ruleL.length = 72 := by decide +kernel
theorem arr_range {w : World} {g t : Nat} {k : IntKind} {xs : List Nat} (h : Arr w g t k xs) (o : Nat) (ys : List Nat) (hy : ∀ j, j < ys.length → o + j < xs.length ∧ xs.getD (o + j) 0 = ys.getD j 0) : w.rangeAt g o (vals k ys) := by
  intro j v hv
  have hj : j < ys.length := by
    have := (List.getElem?_eq_some_iff.1 hv).1
    rwa [vals_length] at this
  obtain ⟨h1, h2⟩ := hy j hj
  rw [h.cell h1, h2]
  rw [vals_get hj] at hv
  exact hv
theorem rule_a : ∀ j, j < 8 → 0 + j < ruleL.length ∧ ruleL.getD (0 + j) 0 = (ruleL.take 8).getD j 0 := by decide +kernel
theorem rule_b : ∀ j, j < 64 → 8 + j < ruleL.length ∧ ruleL.getD (8 + j) 0 = (ruleL.drop 8).getD j 0 := by decide +kernel
theorem len_a : (ruleL.take 8).length = 8 := by decide +kernel
theorem len_b : (ruleL.drop 8).length = 64 := by decide +kernel
theorem blk_cells {wr : World} {pb poff : Nat} {ps : List Int} (hx : ∀ x ∈ ps, 0 ≤ x ∧ x ≤ 255) (hc : ∀ i, i < ps.length → wr.cell? ⟨pb, poff + i, none⟩ = some (.int .u8 (ps.getD i 0))) (k : Nat) (hk : 64 * k + 64 ≤ ps.length) :
    (((ps.drop (64 * k)).take 64).map Int.toNat).length = 64 ∧ (∀ x ∈ ((ps.drop (64 * k)).take 64).map Int.toNat, x < 256) ∧ ∀ i, i < 64 → wr.cell? ⟨pb, poff + 64 * k + i, none⟩ = some (.int .u8 ((((ps.drop (64 * k)).take 64).map Int.toNat).getD i 0 : Nat)) := by
  refine ⟨by simp; omega, fun x hx' => ?_, fun i hi => ?_⟩
  · rw [List.mem_map] at hx'
    obtain ⟨y, hy, rfl⟩ := hx'
    have := hx y (List.mem_of_mem_drop (List.mem_of_mem_take hy))
    omega
  · have h := hc (64 * k + i) (by omega)
    rw [Nat.add_assoc, h]
    have hlt : 64 * k + i < ps.length := by omega
    have e1 : ps.getD (64 * k + i) 0 = ps[64 * k + i] := by rw [List.getD_eq_getElem?_getD, List.getElem?_eq_getElem hlt]; rfl
    have e2 : (((ps.drop (64 * k)).take 64).map Int.toNat).getD i 0 = (ps[64 * k + i]).toNat := by
      rw [List.getD_eq_getElem?_getD, List.getElem?_map, List.getElem?_take, if_pos hi, List.getElem?_drop, List.getElem?_eq_getElem hlt]
      rfl
    rw [e1, e2]
    have := hx _ (List.getElem_mem hlt)
    congr 2
    omega
theorem ks_lt : ∀ x ∈ ruleL.drop 8, x < 4294967296 := by decide +kernel
theorem st_lt : ∀ x ∈ ruleL.take 8, x < 4294967296 := by decide +kernel
theorem size51 : (Try.prog.info? 51).map (·.size) = some 32 := by kernel_rfl

set_option maxRecDepth 20000 in
set_option maxHeartbeats 8000000 in
theorem digest_any (w : World) (ao : Option Addr) (cap : Nat) (xs ps : List Int) (K : Nat) (hK : ps.length = 64 * K) (hK1 : 1 ≤ K) (hK2 : K ≤ 2000)
    (HPad : ∀ W, RdA W (.slice ao xs.length cap) xs → Calls Try.prog 52 #[.slice ao xs.length cap] W fun e w' => ∃ v, e = .returned v ∧ Own w' W.heap.size v ps ∧ Below W.heap.size W w') (h : RdA w (.slice ao xs.length cap) xs) :
    Calls Try.prog 28 #[.agg (vals .u32 ruleL).toArray, .slice ao xs.length cap] w fun e w' => e = .returned (.agg (vals .u8 (byts (foldB (ruleL.take 8) ps K) 32)).toArray) ∧ Below w.heap.size w w' := by
  obtain ⟨W2, hW2⟩ : ∃ W2, W2 = ((w.alloc (.cells (vals .u32 ruleL).toArray 57)).alloc (.cells #[.int .u8 0, .int .u8 0, .int .u8 0, .int .u8 0, .int .u8 0, .int .u8 0, .int .u8 0, .int .u8 0, .int .u8 0, .int .u8 0, .int .u8 0, .int .u8 0, .int .u8 0, .int .u8 0, .int .u8 0, .int .u8 0, .int .u8 0, .int .u8 0, .int .u8 0, .int .u8 0, .int .u8 0, .int .u8 0, .int .u8 0, .int .u8 0, .int .u8 0, .int .u8 0, .int .u8 0, .int .u8 0, .int .u8 0, .int .u8 0, .int .u8 0, .int .u8 0] 51)).alloc (.cells #[.int .u32 0, .int .u32 0, .int .u32 0, .int .u32 0, .int .u32 0, .int .u32 0, .int .u32 0, .int .u32 0] 54) := ⟨_, rfl⟩
  have HS0 : Hid (Arr W2 w.heap.size 57 .u32 ruleL ∧ Arr W2 (w.heap.size + 1) 51 .u8 (List.replicate 32 0) ∧ Arr W2 (w.heap.size + 2) 54 .u32 (List.replicate 8 0) ∧ Below w.heap.size w W2 ∧ W2.heap.size = w.heap.size + 3) := by
    refine hide ⟨?_, ?_, ?_, ?_, ?_⟩
    · rw [hW2]; exact ((Arr.new w 57 .u32 ruleL _ rfl).alloc _).alloc _
    · rw [hW2]
      have h := (Arr.new (w.alloc (.cells (vals .u32 ruleL).toArray 57)) 51 .u8 (List.replicate 32 0) #[.int .u8 0, .int .u8 0, .int .u8 0, .int .u8 0, .int .u8 0, .int .u8 0, .int .u8 0, .int .u8 0, .int .u8 0, .int .u8 0, .int .u8 0, .int .u8 0, .int .u8 0, .int .u8 0, .int .u8 0, .int .u8 0, .int .u8 0, .int .u8 0, .int .u8 0, .int .u8 0, .int .u8 0, .int .u8 0, .int .u8 0, .int .u8 0, .int .u8 0, .int .u8 0, .int .u8 0, .int .u8 0, .int .u8 0, .int .u8 0, .int .u8 0, .int .u8 0] rfl).alloc (.cells #[.int .u32 0, .int .u32 0, .int .u32 0, .int .u32 0, .int .u32 0, .int .u32 0, .int .u32 0, .int .u32 0] 54)
      simpa using h
    · rw [hW2]
      have h := Arr.new ((w.alloc (.cells (vals .u32 ruleL).toArray 57)).alloc (.cells #[.int .u8 0, .int .u8 0, .int .u8 0, .int .u8 0, .int .u8 0, .int .u8 0, .int .u8 0, .int .u8 0, .int .u8 0, .int .u8 0, .int .u8 0, .int .u8 0, .int .u8 0, .int .u8 0, .int .u8 0, .int .u8 0, .int .u8 0, .int .u8 0, .int .u8 0, .int .u8 0, .int .u8 0, .int .u8 0, .int .u8 0, .int .u8 0, .int .u8 0, .int .u8 0, .int .u8 0, .int .u8 0, .int .u8 0, .int .u8 0, .int .u8 0, .int .u8 0] 51)) 54 .u32 (List.replicate 8 0) #[.int .u32 0, .int .u32 0, .int .u32 0, .int .u32 0, .int .u32 0, .int .u32 0, .int .u32 0, .int .u32 0] rfl
      simpa using h
    · rw [hW2]; exact (((Below.refl _ _).alloc (Nat.le_refl _) _).alloc (by simp) _).alloc (by simp; omega) _
    · rw [hW2]; simp
  have HRd := hide h
  clear h
  go_enter Try.func28, Try.ntmps28
  have HR0 : Hid (∀ W, Arr W w.heap.size 57 .u32 ruleL → W.rangeAt w.heap.size 0 (vals .u32 (ruleL.take 8))) := hide (fun W hA => arr_range hA 0 _ (fun j hj => rule_a j (by rw [len_a] at hj; exact hj)))
  have HR1 : Hid (∀ W, Arr W w.heap.size 57 .u32 ruleL → W.rangeAt w.heap.size 8 (vals .u32 (ruleL.drop 8))) := hide (fun W hA => arr_range hA 8 _ (fun j hj => rule_b j (by rw [len_b] at hj; exact hj)))
  have HA57 : Hid (∀ o, Arr ((w.alloc (.cells (vals .u32 ruleL).toArray 57)).alloc o) w.heap.size 57 .u32 ruleL) := hide (fun o => (Arr.new w 57 .u32 ruleL _ rfl).alloc o)
  go_wp2_with (first | (refine wpList_load_mid rfl _ _ rfl w.heap.size 0 rfl (vals .u32 (ruleL.take 8)) _ (HR0.out _ (HA57.out _)) Try.underlying54 rfl (size54.trans (by rw [vals_length, len_a])) ?_) | (rw [← hW2]; refine wpList_store_row rfl _ _ _ rfl (w.heap.size + 2) _ rfl rfl 54 _ HS0.out.2.2.1 (size54.trans (by rw [vsize, len_a])) (by rw [vsize, vsize, len_a]; rfl) (vals_all _ _) ?_))
  rw [← hW2]
  clear hW2
  obtain ⟨W3, hW3⟩ : ∃ W3, W3 = W2.setRow (w.heap.size + 2) (vals .u32 (ruleL.take 8)).toArray := ⟨_, rfl⟩
  have HS3 : Hid (Arr W3 w.heap.size 57 .u32 ruleL ∧ Arr W3 (w.heap.size + 1) 51 .u8 (List.replicate 32 0) ∧ Arr W3 (w.heap.size + 2) 54 .u32 (ruleL.take 8) ∧ Below w.heap.size w W3 ∧ W3.heap.size = w.heap.size + 3) := by
    rw [hW3]
    exact hide ⟨HS0.out.1.setRowNe (by omega) _, HS0.out.2.1.setRowNe (by omega) _, HS0.out.2.2.1.setRow _, below_setRow HS0.out.2.2.2.1 (by omega) _, by rw [size_setRow]; exact HS0.out.2.2.2.2⟩
  rw [← hW3]
  clear hW3 HS0 HA57 HR0
  have hsz3 := HS3.out.2.2.2.2
  refine (HPad W3 (HRd.out.below HS3.out.2.2.2.1 (Nat.le_refl _))).mono ?_
  rintro e w4 ⟨v4, rfl, HO4, B4⟩
  obtain ⟨po, pc, e4, hp1, hp2, hp3, hp4⟩ := HO4.rd
  subst e4
  obtain ⟨pb, poff, rfl, hpc⟩ := hp4 (by omega)
  have hplt : pb < w4.heap.size := by
    have h := hpc 0 (by omega)
    rcases Nat.lt_or_ge pb w4.heap.size with h1 | h1
    · exact h1
    · simp [World.cell?, Array.getElem?_eq_none h1] at h
  have hpge : w.heap.size + 3 ≤ pb := by
    obtain ⟨_, _, ⟨h1, _⟩ | ⟨g', cap', cur, h1, h2, _⟩⟩ := HO4
    · simp at h1
    · simp only [Value.slice.injEq, Option.some.injEq, Addr.mk.injEq] at h1
      omega
  unfold maxLen at hp2
  rw [hK] at hp1 ⊢
  have HS4 : Hid (Arr w4 w.heap.size 57 .u32 ruleL ∧ Arr w4 (w.heap.size + 1) 51 .u8 (List.replicate 32 0) ∧ Arr w4 (w.heap.size + 2) 54 .u32 (foldB (ruleL.take 8) ps 0) ∧ Below w.heap.size w w4 ∧ (∀ i, i < ps.length → w4.cell? ⟨pb, poff + i, none⟩ = some (.int .u8 (ps.getD i 0))) ∧ pb < w4.heap.size) :=
    hide ⟨HS3.out.1.below B4 (by omega), HS3.out.2.1.below B4 (by omega), HS3.out.2.2.1.below B4 (by omega), HS3.out.2.2.2.1.trans (B4.mono (by omega)), hpc, hplt⟩
  clear HS3 B4 HRd HPad HO4 hpc hsz3 hplt
  go_wp2
  go_loopw [6] (fun r wr => ∃ (k : Nat) (ro : Option Addr) (rc : Nat), k ≤ K ∧ r = .slice ro (64 * (K - k)) rc ∧ (k < K → ro = some ⟨pb, poff + 64 * k, none⟩ ∧ rc = pc - 64 * k) ∧ Hid (Arr wr w.heap.size 57 .u32 ruleL ∧ Arr wr (w.heap.size + 1) 51 .u8 (List.replicate 32 0) ∧ Arr wr (w.heap.size + 2) 54 .u32 (foldB (ruleL.take 8) ps k) ∧ Below w.heap.size w wr ∧ (∀ i, i < ps.length → wr.cell? ⟨pb, poff + i, none⟩ = some (.int .u8 (ps.getD i 0))) ∧ pb < wr.heap.size)) (fun r _ => match r with | .slice _ n _ => n | _ => 0)
  case atStart => exact ⟨0, _, _, Nat.zero_le _, rfl, fun _ => ⟨rfl, rfl⟩, HS4⟩
  case round =>
    obtain ⟨k, ro, rc, hkK, rfl, hro, HR⟩ := hrel
    clear HS4
    by_cases hk : k < K
    · obtain ⟨rfl, rfl⟩ := hro hk
      obtain ⟨d, hd⟩ : ∃ d, K - k = d + 1 := ⟨K - k - 1, by omega⟩
      rw [hd]
      obtain ⟨c', hc'⟩ : ∃ c', c' = pc - 64 * k := ⟨_, rfl⟩
      rw [← hc']
      have hcd : 64 * (d + 1) ≤ c' := by omega
      have hcm : c' ≤ 9223372036854775807 := by omega
      have h64c : (64 : Int) ≤ (c' : Int) := by omega
      have h64d : (64 : Int) ≤ 64 * ((d : Int) + 1) := by omega
      have HC' := hide hc'
      have Hd := hide hd
      clear hc' hd
      have hu55 := Try.underlying55
      have hi55 : (Try.prog.info? 55).map (·.size) = some (vals .u32 (ruleL.drop 8)).length := size55.trans (by rw [vals_length, len_b])
      have hS0 : wr.drew.rangeAt w.heap.size 8 (vals .u32 (ruleL.drop 8)) := HR1.out wr.drew HR.out.1
      obtain ⟨hb1, hb2, hb3⟩ := blk_cells (wr := wr) hp3 HR.out.2.2.2.2.1 k (by omega)
      have HBk := hide (block_any wr.drew (w.heap.size + 2) pb (poff + 64 * k) c' (foldB (ruleL.take 8) ps k) (((ps.drop (64 * k)).take 64).map Int.toNat) (ruleL.drop 8) (foldB_length len_a ps k) (foldB_lt st_lt ps k) hb1 hb2 (by omega) (by unfold maxLen; omega) len_b ks_lt HR.out.2.2.1 HR.out.2.2.2.2.2 hb3)
      have HF : Hid (foldB (ruleL.take 8) ps (k + 1) = blkN (foldB (ruleL.take 8) ps k) (((ps.drop (64 * k)).take 64).map Int.toNat) (ruleL.drop 8)) := hide rfl
      rw [← HF.out] at HBk
      clear hb1 hb2 hb3
      have HGo : Hid (∀ w', wr.drew.grownBy w' (some (w.heap.size + 2)) → Arr w' (w.heap.size + 2) 54 .u32 (foldB (ruleL.take 8) ps (k + 1)) → (Arr w' w.heap.size 57 .u32 ruleL ∧ Arr w' (w.heap.size + 1) 51 .u8 (List.replicate 32 0) ∧ Arr w' (w.heap.size + 2) 54 .u32 (foldB (ruleL.take 8) ps (k + 1)) ∧ Below w.heap.size w w' ∧ (∀ i, i < ps.length → w'.cell? ⟨pb, poff + i, none⟩ = some (.int .u8 (ps.getD i 0))) ∧ pb < w'.heap.size)) := hide (fun w' hg hA => by
        have kb : ∀ b, b < wr.heap.size → b ≠ w.heap.size + 2 → w'.heap[b]? = wr.heap[b]? := fun b hb hne => hg.block b hb (fun e => hne (by simpa using e))
        refine ⟨(kb _ HR.out.1.lt (by omega)).trans HR.out.1, (kb _ HR.out.2.1.lt (by omega)).trans HR.out.2.1, hA, ?_, fun i hi => ?_, Nat.lt_of_lt_of_le HR.out.2.2.2.2.2 hg.size⟩
        · exact ⟨hg.os.trans HR.out.2.2.2.1.os, hg.tape.trans HR.out.2.2.2.1.tape, hg.output.trans HR.out.2.2.2.1.output, Nat.le_trans HR.out.2.2.2.1.size hg.size, fun b hb => (kb b (Nat.lt_of_lt_of_le hb HR.out.2.2.2.1.size) (by omega)).trans (HR.out.2.2.2.1.block b hb)⟩
        · rw [← HR.out.2.2.2.2.1 i hi]
          exact World.cell?_of_block (w := wr) (kb pb HR.out.2.2.2.2.2 (by omega)))
      go_wp2
      go_region_held_law (fun W => W.rangeAt w.heap.size 8 (vals .u32 (ruleL.drop 8))) (first | assumption | exact hS0)
        (first | (go_at_call 53; refine HBk.out.mono ?_; rintro e w5 ⟨rfl, hA5, hg5⟩; have HN5 := hide (HGo.out w5 hg5 hA5); have hS5 := HR1.out w5 HN5.out.1; clear hA5 hg5))
      clear hS5 hS0 HBk HF HGo HR hi55 hu55
      go_wp2
      go_roundw
      case rel => exact ⟨k + 1, _, _, by omega, by rw [show K - (k + 1) = d by have := Hd.out; omega]; congr 1, fun hk1 => ⟨by rw [if_neg (by have := Hd.out; have := HC'.out; omega)]; congr 2, by have := HC'.out; omega⟩, HN5⟩
      case measure => simp; omega
    · obtain rfl : k = K := by omega
      have hst := foldB_length len_a ps k
      have lst := foldB_lt st_lt ps k
      obtain ⟨st, hst0⟩ : ∃ st, st = foldB (ruleL.take 8) ps k := ⟨_, rfl⟩
      rw [← hst0] at hst lst HR
      have HSt := hide hst0
      clear hst0
      obtain ⟨W7, hW7⟩ : ∃ W7, W7 = wr.alloc (.cells #[.int .u8 0, .int .u8 0, .int .u8 0, .int .u8 0, .int .u8 0, .int .u8 0, .int .u8 0, .int .u8 0, .int .u8 0, .int .u8 0, .int .u8 0, .int .u8 0, .int .u8 0, .int .u8 0, .int .u8 0, .int .u8 0, .int .u8 0, .int .u8 0, .int .u8 0, .int .u8 0, .int .u8 0, .int .u8 0, .int .u8 0, .int .u8 0, .int .u8 0, .int .u8 0, .int .u8 0, .int .u8 0, .int .u8 0, .int .u8 0, .int .u8 0, .int .u8 0] 51) := ⟨_, rfl⟩
      have hw2 := HR.out.2.2.1.lt
      have HS7 : Hid (Arr W7 wr.heap.size 51 .u8 (byts st 0) ∧ Arr W7 (w.heap.size + 2) 54 .u32 st ∧ Arr W7 (w.heap.size + 1) 51 .u8 (List.replicate 32 0) ∧ Below w.heap.size w W7) := by
        rw [hW7]
        exact hide ⟨Arr.new wr 51 .u8 (List.replicate 32 0) #[.int .u8 0, .int .u8 0, .int .u8 0, .int .u8 0, .int .u8 0, .int .u8 0, .int .u8 0, .int .u8 0, .int .u8 0, .int .u8 0, .int .u8 0, .int .u8 0, .int .u8 0, .int .u8 0, .int .u8 0, .int .u8 0, .int .u8 0, .int .u8 0, .int .u8 0, .int .u8 0, .int .u8 0, .int .u8 0, .int .u8 0, .int .u8 0, .int .u8 0, .int .u8 0, .int .u8 0, .int .u8 0, .int .u8 0, .int .u8 0, .int .u8 0, .int .u8 0] rfl, HR.out.2.2.1.alloc _, HR.out.2.1.alloc _, HR.out.2.2.2.1.alloc HR.out.2.2.2.1.size _⟩
      obtain ⟨G, hG⟩ : ∃ G, G = wr.heap.size := ⟨_, rfl⟩
      have hGlt : w.heap.size + 2 < G := by omega
      rw [show k - k = 0 by omega]
      clear HR hro HR1
      go_wp2
      rw [← hW7]
      clear hW7
      rw [← hG] at HS7 ⊢
      clear hG
      go_loopw [23] (fun i wx => ∃ j : Nat, j ≤ 32 ∧ i = .int .i64 j ∧ Hid (Arr wx G 51 .u8 (byts st j) ∧ Arr wx (w.heap.size + 2) 54 .u32 st ∧ Arr wx (w.heap.size + 1) 51 .u8 (List.replicate 32 0) ∧ Below w.heap.size w wx)) (fun i _ => 32 - (intOf i).toNat)
      case atStart => exact ⟨0, by omega, rfl, HS7⟩
      case round =>
        obtain ⟨j, hj, rfl, HX⟩ := hrel
        clear HS7
        by_cases h32 : j < 32
        · obtain ⟨q, r, hjq, hr4⟩ : ∃ q r, j = 4 * q + r ∧ r < 4 := ⟨j / 4, j % 4, by omega, by omega⟩
          have hq8 : q < 8 := by omega
          have HV0 : Hid (byts st (j + 1) = (byts st j).set j (st.getD q 0 / 2 ^ (24 - 8 * r) % 256)) := hide (by rw [byts, show j / 4 = q by omega, show j % 4 = r by omega])
          have hq : (j : Int) / 4 = (q : Int) := by omega
          have cs := (show World.cell? _ ⟨w.heap.size + 1 + 1, q, none⟩ = some (.int .u32 (st.getD q 0 : Nat)) from HX.out.2.1.cell (i := q) (by omega))
          have ca := HX.out.1.cell (i := j) (by rw [byts_length]; exact h32)
          have fa := HX.out.1.frozen j
          have lS := getD_lt (by decide) lst q
          generalize st.getD q 0 = S at HV0 cs lS
          generalize (byts st j).getD j 0 = A at ca
          have Hjq := hide hjq
          rcases (show r = 0 ∨ r = 1 ∨ r = 2 ∨ r = 3 by omega) with rfl | rfl | rfl | rfl
          · have HV : Hid (byts st (j + 1) = (byts st j).set j (S / 16777216 % 256)) := hide (by rw [HV0.out, show (2 : Nat) ^ (24 - 8 * 0) = 16777216 by decide])
            have hr : (j : Int) % 4 = 0 := by omega
            clear hjq HV0
            go_wp2
            go_roundw
            case rel => exact ⟨j + 1, by omega, by go_num, hide ⟨by rw [HV.out]; exact HX.out.1.set j _ _ (by first | (congr 1; done) | (congr 1; omega)), HX.out.2.1.setNe (by omega) _ _, HX.out.2.2.1.setNe (by omega) _ _, HX.out.2.2.2.setCell (show w.heap.size ≤ G by omega) _⟩⟩
            case measure => simp [intOf]; omega
          · have HV : Hid (byts st (j + 1) = (byts st j).set j (S / 65536 % 256)) := hide (by rw [HV0.out, show (2 : Nat) ^ (24 - 8 * 1) = 65536 by decide])
            have hr : (j : Int) % 4 = 1 := by omega
            clear hjq HV0
            go_wp2
            go_roundw
            case rel => exact ⟨j + 1, by omega, by go_num, hide ⟨by rw [HV.out]; exact HX.out.1.set j _ _ (by first | (congr 1; done) | (congr 1; omega)), HX.out.2.1.setNe (by omega) _ _, HX.out.2.2.1.setNe (by omega) _ _, HX.out.2.2.2.setCell (show w.heap.size ≤ G by omega) _⟩⟩
            case measure => simp [intOf]; omega
          · have HV : Hid (byts st (j + 1) = (byts st j).set j (S / 256 % 256)) := hide (by rw [HV0.out, show (2 : Nat) ^ (24 - 8 * 2) = 256 by decide])
            have hr : (j : Int) % 4 = 2 := by omega
            clear hjq HV0
            go_wp2
            go_roundw
            case rel => exact ⟨j + 1, by omega, by go_num, hide ⟨by rw [HV.out]; exact HX.out.1.set j _ _ (by first | (congr 1; done) | (congr 1; omega)), HX.out.2.1.setNe (by omega) _ _, HX.out.2.2.1.setNe (by omega) _ _, HX.out.2.2.2.setCell (show w.heap.size ≤ G by omega) _⟩⟩
            case measure => simp [intOf]; omega
          · have HV : Hid (byts st (j + 1) = (byts st j).set j (S / 1 % 256)) := hide (by rw [HV0.out, show (2 : Nat) ^ (24 - 8 * 3) = 1 by decide])
            have hr : (j : Int) % 4 = 3 := by omega
            clear hjq HV0
            go_wp2
            go_roundw
            case rel => exact ⟨j + 1, by omega, by go_num, hide ⟨by rw [HV.out]; exact HX.out.1.set j _ _ (by first | (congr 1; done) | (congr 1; omega)), HX.out.2.1.setNe (by omega) _ _, HX.out.2.2.1.setNe (by omega) _ _, HX.out.2.2.2.setCell (show w.heap.size ≤ G by omega) _⟩⟩
            case measure => simp [intOf]; omega
        · obtain rfl : j = 32 := by omega
          have HA0 := hide HX.out.2.2.1
          have HA1 := hide HX.out.1
          have HB := hide HX.out.2.2.2
          clear HX
          go_wp2_with (first | (refine wpList_load_row rfl _ _ rfl G rfl 51 _ (0, 0) _ HA1.out Try.underlying51 rfl (by rw [vsize, byts_length]; exact size51) ?_) | (refine wpList_store_row rfl _ _ _ rfl (w.heap.size + 1) _ rfl rfl 51 _ HA0.out (by rw [vsize, byts_length]; exact size51) (by rw [vsize, vsize, byts_length]; rfl) (vals_all _ _) ?_))
          have HX := hide (HA0.out.setRow (byts st 32))
          have HY := hide (below_setRow HB.out (show w.heap.size ≤ w.heap.size + 1 by omega) (vals .u8 (byts st 32)).toArray)
          exact bodyPost_ret (results_cell_row rfl _ _ (w.heap.size + 1) 51 _ (0, 0) _ rfl HX.out Try.underlying51 rfl (by rw [vsize, byts_length]; exact size51)) rfl ⟨by rw [← HSt.out], HY.out⟩
end Go.Proofs.Ytkkildgdeagpeah.dig
