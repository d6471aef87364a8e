/- Contract of the function that goes over one frame. -/
import Derived.Test.YthdkphpjpinphafReader
import Derived.Deep.RegionLaw
import Derived.Deep.AppendLies
namespace Go.Proofs.Ythdkphpjpinphaf.one
open Go.ChangeShapes Go.WideShapes Go.ChangeAt Go.RowKit
open Go.Proofs.Ythdkphpjpinphaf.bytes Go.Proofs.Ythdkphpjpinphaf.pile Go.Proofs.Ythdkphpjpinphaf.get Go.Proofs.Ythdkphpjpinphaf.dec Go.Proofs.Ythdkphpjpinphaf.take
open Go.Proofs.Ythdkphpjpinphaf.put Go.Proofs.Ythdkphpjpinphaf.crcs Go.Proofs.Ythdkphpjpinphaf.join Go.Proofs.Ythdkphpjpinphaf.frames Go.Proofs.Ythdkphpjpinphaf.reader
set_option linter.unusedVariables false

/-- What stands at the beginning of bytes: -1 and a payload and how many bytes its frame has; else a code, 0 where it is not whole yet. -/
def frameAt (l : List Int) : Int × List Int × Nat :=
  if (getR 9 0 0 l).2.2 = 1 then (0, [], 0)
  else if (getR 9 0 0 l).2.2 = 2 then (3, [], 0)
  else if 4096 < (getR 9 0 0 l).1 then (5, [], 0)
  else if l.length < (getR 9 0 0 l).2.1 + ((getR 9 0 0 l).1.toNat + 4) then (0, [], 0)
  else if four (crcN ((l.drop (getR 9 0 0 l).2.1).take (getR 9 0 0 l).1.toNat)) = (l.drop ((getR 9 0 0 l).2.1 + (getR 9 0 0 l).1.toNat)).take 4 then
    (-1, (l.drop (getR 9 0 0 l).2.1).take (getR 9 0 0 l).1.toNat, (getR 9 0 0 l).2.1 + ((getR 9 0 0 l).1.toNat + 4))
  else (8, [], 0)

/-- Where a number stands it is from 0 on, and its bytes are among those that are there. -/
theorem getR_ok : ∀ (f k : Nat) (n : Int) (l : List Int), 0 ≤ n → (getR f k n l).2.2 = 0 → 0 ≤ (getR f k n l).1 ∧ k < (getR f k n l).2.1 ∧ (getR f k n l).2.1 ≤ k + l.length
  | 0, k, n, l, _, h => by simp [getR] at h
  | f + 1, k, n, [], _, h => by simp [getR] at h
  | f + 1, k, n, c :: r, hn, h => by
    have hm : 0 ≤ c % 128 * 128 ^ k := Int.mul_nonneg (by omega) (Int.pow_nonneg (by decide))
    by_cases h128 : 128 ≤ c
    · rw [getR_more h128] at h ⊢
      have := getR_ok f (k + 1) _ r (by omega) h
      simp only [List.length_cons]
      omega
    · by_cases hz : 0 < k ∧ c = 0
      · rw [getR_zero hz.2 hz.1] at h; simp at h
      · rw [getR_last (by omega) hz]
        simp only [List.length_cons]
        refine ⟨by omega, by omega, by omega⟩
theorem getR_st : ∀ (f k : Nat) (n : Int) (l : List Int), (getR f k n l).2.2 = 0 ∨ (getR f k n l).2.2 = 1 ∨ (getR f k n l).2.2 = 2
  | 0, k, n, l => by simp [getR]
  | f + 1, k, n, [] => by simp [getR]
  | f + 1, k, n, c :: r => by
    by_cases h128 : 128 ≤ c
    · rw [getR_more h128]; exact getR_st f (k + 1) _ r
    · by_cases hz : 0 < k ∧ c = 0
      · rw [getR_zero hz.2 hz.1]; simp
      · rw [getR_last (by omega) hz]; simp

theorem four_of {s : List Int} (hs : ∀ x ∈ s, 0 ≤ x ∧ x ≤ 255) (hl : s.length = 4) : ∃ c0 c1 c2 c3, s = [c0, c1, c2, c3] ∧ ∀ n : Nat, n < 4294967296 → (four n = s ↔ c0 + c1 * 256 + c2 * 65536 + c3 * 16777216 = (n : Int)) := by
  match s, hl with
  | [c0, c1, c2, c3], _ =>
    refine ⟨c0, c1, c2, c3, rfl, fun n hn => ?_⟩
    have b0 := hs c0 (by simp)
    have b1 := hs c1 (by simp)
    have b2 := hs c2 (by simp)
    have b3 := hs c3 (by simp)
    simp only [four, List.cons.injEq, and_true]
    omega

theorem info22 : (Try.prog.info? 22).map (fun i => (i.zero, i.size, i.bytes)) = some (some (.slice none 0 0), 1, 24) := by kernel_rfl

/-- What frame leaves where it takes none. -/
def Same (w w' : World) (base d : Nat) (ao : Option Addr) (cap : Nat) (xs : List Int) (pv : Value) (us : List Value) (xss : List (List Int)) : Prop :=
  (∃ a, RS w' base d ao cap xs a pv us xss) ∧ Below base w w'

theorem le_cap {w : World} {ao : Option Addr} {n cap : Nat} {xs : List Int} (h : Rd w (.slice ao n cap) xs) : n = xs.length ∧ n ≤ cap ∧ cap ≤ maxLen := by
  obtain ⟨ao', cap', e, h1, h2, _⟩ := h
  simp only [Value.slice.injEq] at e
  obtain ⟨rfl, rfl, rfl⟩ := e
  exact ⟨rfl, h1, h2⟩
theorem rd_bd {w : World} {v : Value} {xs : List Int} (h : Rd w v xs) : ∀ x ∈ xs, 0 ≤ x ∧ x ≤ 255 := by
  obtain ⟨ao', cap', e, h1, h2, h3, _⟩ := h
  exact h3

set_option maxHeartbeats 1000000 in
theorem frame_none (w : World) (base d : Nat) (ao : Option Addr) (cap : Nat) (xs : List Int) (at_ : Nat) (pv : Value) (us : List Value) (xss : List (List Int)) (h : RS w base d ao cap xs at_ pv us xss)
    (hn : (frameAt (xs.drop at_)).1 ≠ -1) :
    Calls Try.prog 64 #[.pointer (some ⟨d, 0, none⟩)] w fun e w' => e = .returned (.tuple #[.bool false, .int .i64 (frameAt (xs.drop at_)).1]) ∧ Same w w' base d ao cap xs pv us xss := by
  have hdl : d < w.heap.size := h.lt
  have hgn : gotN xs at_ = getR 9 0 0 (xs.drop at_) := rfl
  have HN := number_any w d ao cap at_ xs h.le h.len h.data.1 h.c0 h.c1 (h.fz 1)
  rw [hgn] at HN
  have HNum : Hid (∀ wx, wx = w → Calls Try.prog 73 #[.pointer (some ⟨d, 0, none⟩)] wx fun e w' => e = .returned (.tuple #[.int .i64 (getR 9 0 0 (xs.drop at_)).1, .int .i64 (getR 9 0 0 (xs.drop at_)).2.2]) ∧
      (((getR 9 0 0 (xs.drop at_)).2.2 = 0 → ∃ m, w' = (w.drewN m).setCell ⟨d, 1, none⟩ (.int .i64 (at_ + (getR 9 0 0 (xs.drop at_)).2.1))) ∧ ((getR 9 0 0 (xs.drop at_)).2.2 ≠ 0 → ∃ m, w' = w.drewN m))) := fun wx e => by subst e; exact HN
  clear HN hgn
  have HRS : Hid (RS w base d ao cap xs at_ pv us xss) := h
  have hle := h.le
  have hlen := h.len
  have hst := getR_st 9 0 0 (xs.drop at_)
  have hok := getR_ok 9 0 0 (xs.drop at_) (by omega)
  have hdl' : (xs.drop at_).length = xs.length - at_ := by simp
  rw [hdl'] at hok
  by_cases h1 : (getR 9 0 0 (xs.drop at_)).2.2 = 1
  · have hf : frameAt (xs.drop at_) = (0, [], 0) := by rw [frameAt, if_pos h1]
    rw [hf]
    clear hok hst hf hn h
    generalize getR 9 0 0 (xs.drop at_) = r at HNum h1
    obtain ⟨n, cnt, st⟩ := r
    simp only at h1
    subst h1
    go_enter Try.func64, Try.ntmps64
    go_wp2_with fail
    refine (HNum.out _ rfl).mono ?_
    rintro e w1 ⟨rfl, _, hw⟩
    obtain ⟨m, rfl⟩ := hw (by decide)
    go_wp2
    go_ret2
    exact ⟨rfl, ⟨_, HRS.out.below (below_same w m)⟩, (below_same w m).mono (by have := HRS.out.low; omega)⟩
  · by_cases h2 : (getR 9 0 0 (xs.drop at_)).2.2 = 2
    · have hf : frameAt (xs.drop at_) = (3, [], 0) := by rw [frameAt, if_neg h1, if_pos h2]
      rw [hf]
      clear hok hst hf hn h h1
      generalize getR 9 0 0 (xs.drop at_) = r at HNum h2
      obtain ⟨n, cnt, st⟩ := r
      simp only at h2
      subst h2
      go_enter Try.func64, Try.ntmps64
      go_wp2_with fail
      refine (HNum.out _ rfl).mono ?_
      rintro e w1 ⟨rfl, _, hw⟩
      obtain ⟨m, rfl⟩ := hw (by decide)
      go_wp2
      go_ret2
      exact ⟨rfl, ⟨_, HRS.out.below (below_same w m)⟩, (below_same w m).mono (by have := HRS.out.low; omega)⟩
    · have h0 : (getR 9 0 0 (xs.drop at_)).2.2 = 0 := by omega
      have hok' := hok h0
      have HF : Hid ((frameAt (xs.drop at_)) = if 4096 < (getR 9 0 0 (xs.drop at_)).1 then (5, [], 0)
          else if (xs.drop at_).length < (getR 9 0 0 (xs.drop at_)).2.1 + ((getR 9 0 0 (xs.drop at_)).1.toNat + 4) then (0, [], 0)
          else if four (crcN (((xs.drop at_).drop (getR 9 0 0 (xs.drop at_)).2.1).take (getR 9 0 0 (xs.drop at_)).1.toNat)) = ((xs.drop at_).drop ((getR 9 0 0 (xs.drop at_)).2.1 + (getR 9 0 0 (xs.drop at_)).1.toNat)).take 4 then
            (-1, ((xs.drop at_).drop (getR 9 0 0 (xs.drop at_)).2.1).take (getR 9 0 0 (xs.drop at_)).1.toNat, (getR 9 0 0 (xs.drop at_)).2.1 + ((getR 9 0 0 (xs.drop at_)).1.toNat + 4))
          else (8, [], 0)) := by unfold Hid; rw [frameAt, if_neg h1, if_neg h2]
      have HN' : Hid ((frameAt (xs.drop at_)).1 ≠ -1) := hn
      clear hok hst hn h h1 h2
      rw [hdl'] at HF
      simp only [List.drop_drop] at HF
      generalize frameAt (xs.drop at_) = fa at HF HN' ⊢
      generalize getR 9 0 0 (xs.drop at_) = r at HNum h0 hok' HF
      obtain ⟨n, cnt, st⟩ := r
      simp only at h0 hok' HF HNum
      subst h0
      obtain ⟨N, rfl⟩ := Int.eq_ofNat_of_zero_le hok'.1
      rw [Int.toNat_natCast] at HF
      obtain ⟨_, hc1, hc2⟩ := hok'
      clear hdl'
      by_cases hbig : (4096 : Int) < N
      · have hfa : fa = (5, [], 0) := by rw [HF.out, if_pos hbig]
        subst hfa
        clear HF HN'
        go_enter Try.func64, Try.ntmps64
        go_wp2_with fail
        refine (HNum.out _ rfl).mono ?_
        rintro e w1 ⟨rfl, hw, _⟩
        obtain ⟨m, hw1⟩ := hw (by simp)
        have R1 : RS w1 base d ao cap xs (at_ + cnt) pv us xss := by
          rw [hw1]
          exact (HRS.out.below (below_same w m)).setAt (at_ + cnt) (by omega)
        have B1 : Below base w w1 := by
          rw [hw1]
          exact ((below_same w m).mono (by have := HRS.out.low; omega)).setCell HRS.out.low _
        clear hw hw1 HNum
        go_wp2
        go_ret2
        exact ⟨rfl, ⟨_, R1⟩, B1⟩
      · have HF2 : Hid (fa = if xs.length - at_ < cnt + (N + 4) then (0, [], 0)
          else if four (crcN ((xs.drop (at_ + cnt)).take N)) = (xs.drop (at_ + (cnt + N))).take 4 then
            (-1, (xs.drop (at_ + cnt)).take N, cnt + (N + 4)) else (8, [], 0)) := by
          unfold Hid; rw [HF.out, if_neg hbig]
        clear HF
        by_cases hshort : xs.length - at_ < cnt + (N + 4)
        · have hfa : fa = (0, [], 0) := by rw [HF2.out, if_pos hshort]
          subst hfa
          clear HF2 HN'
          go_enter Try.func64, Try.ntmps64
          go_wp2_with fail
          refine (HNum.out _ rfl).mono ?_
          rintro e w1 ⟨rfl, hw, _⟩
          obtain ⟨m, hw1⟩ := hw (by simp)
          have R1 : RS w1 base d ao cap xs (at_ + cnt) pv us xss := by
            rw [hw1]
            exact (HRS.out.below (below_same w m)).setAt (at_ + cnt) (by omega)
          have B1 : Below base w w1 := by
            rw [hw1]
            exact ((below_same w m).mono (by have := HRS.out.low; omega)).setCell HRS.out.low _
          clear hw hw1 HNum
          go_wp2_with fail
          refine (left_any _ d ao xs.length cap ((at_ + cnt : Nat) : Int) (by omega) (by omega) (by unfold maxLen; omega) R1.c0 R1.c1).mono ?_
          rintro e w2 ⟨rfl, m2, rfl⟩
          have hs2 : ((xs.length : Int) - ((at_ + cnt : Nat) : Int)) < (N : Int) + 4 := by omega
          go_wp2
          go_ret2
          exact ⟨rfl, ⟨_, R1.below (below_same w1 m2)⟩, below_drewN B1 m2⟩
        · have hge : at_ + cnt + (N + 4) ≤ xs.length := by omega
          have HF3 : Hid (fa = if four (crcN ((xs.drop (at_ + cnt)).take N)) = (xs.drop (at_ + (cnt + N))).take 4 then
            (-1, (xs.drop (at_ + cnt)).take N, cnt + (N + 4)) else (8, [], 0)) := by
            unfold Hid; rw [HF2.out, if_neg hshort]
          clear HF2 hshort
          have hfour : ¬ four (crcN ((xs.drop (at_ + cnt)).take N)) = (xs.drop (at_ + (cnt + N))).take 4 := fun e => by
            apply HN'.out
            rw [HF3.out, if_pos e]
          have hfa : fa = (8, [], 0) := by rw [HF3.out, if_neg hfour]
          subst hfa
          clear HF3 HN'
          have HFour : Hid (¬ four (crcN ((xs.drop (at_ + cnt)).take N)) = (xs.drop (at_ + (cnt + N))).take 4) := hfour
          clear hfour
          go_enter Try.func64, Try.ntmps64
          go_wp2_with fail
          refine (HNum.out _ rfl).mono ?_
          rintro e w1 ⟨rfl, hw, _⟩
          obtain ⟨m, hw1⟩ := hw (by simp)
          have R1 : RS w1 base d ao cap xs (at_ + cnt) pv us xss := by
            rw [hw1]
            exact (HRS.out.below (below_same w m)).setAt (at_ + cnt) (by omega)
          have B1 : Below base w w1 := by
            rw [hw1]
            exact ((below_same w m).mono (by have := HRS.out.low; omega)).setCell HRS.out.low _
          clear hw hw1 HNum
          go_wp2_with fail
          refine (left_any _ d ao xs.length cap ((at_ + cnt : Nat) : Int) (by omega) (by omega) (by unfold maxLen; omega) R1.c0 R1.c1).mono ?_
          rintro e w2 ⟨rfl, m2, rfl⟩
          have hs2 : ¬ ((xs.length : Int) - ((at_ + cnt : Nat) : Int)) < (N : Int) + 4 := by omega
          have R2 := R1.below (below_same w1 m2)
          have B2 : Below base w (w1.drewN m2) := below_drewN B1 m2
          obtain ⟨_, hcap1, hcap2⟩ := le_cap R2.data.1
          clear R1 B1
          go_wp2_with fail
          refine (take_any _ d ao xs.length cap (at_ + cnt) N (by omega) hcap1 hcap2 hlen R2.c0 R2.c1 (R2.fz 1)).mono ?_
          rintro e w3 ⟨rfl, m3, hw3⟩
          have R3 : RS w3 base d ao cap xs (at_ + cnt + N) pv us xss := by
            rw [hw3]
            exact (R2.below (below_same _ m3)).setAt (at_ + cnt + N) (by omega)
          have B3 : Below base w w3 := by
            rw [hw3]
            exact (below_drewN B2 m3).setCell R2.low _
          clear hw3 R2 B2
          go_wp2_with fail
          refine (take_any _ d ao xs.length cap (at_ + cnt + N) 4 (by omega) hcap1 hcap2 hlen R3.c0 R3.c1 (R3.fz 1)).mono ?_
          rintro e w4 ⟨rfl, m4, hw4⟩
          have R4 : RS w4 base d ao cap xs (at_ + cnt + N + 4) pv us xss := by
            rw [hw4]
            exact (R3.below (below_same _ m4)).setAt (at_ + cnt + N + 4) (by omega)
          have B4 : Below base w w4 := by
            rw [hw4]
            exact (below_drewN B3 m4).setCell R3.low _
          clear hw4 R3 B3
          have hsum := cut_rd (at_ := at_ + cnt + N) (n := 4) R4.data (by omega)
          obtain ⟨c0, c1, c2, c3, hs4, hq⟩ := four_of (rd_bd hsum.1) (by simp; omega)
          rw [hs4] at hsum
          have HQ : Hid (∀ n : Nat, n < 4294967296 → (four n = (xs.drop (at_ + (cnt + N))).take 4 ↔ c0 + c1 * 256 + c2 * 65536 + c3 * 16777216 = (n : Int))) := by
            intro n hn
            rw [← Nat.add_assoc]
            exact hq n hn
          clear hq hs4
          go_wp2_with fail
          refine (sumOf_any _ _ c0 c1 c2 c3 hsum.1).mono ?_
          rintro e w5 ⟨rfl, m5, rfl⟩
          have R5 := R4.below (below_same _ m5)
          have B5 : Below base w (w4.drewN m5) := below_drewN B4 m5
          clear R4 B4 hsum
          have hpay := cut_rd (at_ := at_ + cnt) (n := N) R5.data (by omega)
          have HC : Hid ((crcN ((xs.drop (at_ + cnt)).take N)) = (crcN ((xs.drop (at_ + cnt)).take N)) ∧ crcN ((xs.drop (at_ + cnt)).take N) < 4294967296) := ⟨rfl, crcN_lt (rd_bd hpay.1)⟩
          go_wp2_with fail
          refine (implCrc_any _ _ _ (by simp; omega) hpay.1).mono ?_
          rintro e w6 ⟨rfl, rfl⟩
          generalize crcN ((xs.drop (at_ + cnt)).take N) = C at HC HFour ⊢
          have hne : ((c0 + c1 * 256 + c2 * 65536 + c3 * 16777216 : Int) != (C : Int)) = true := by
            rw [bne_iff_ne]
            intro e
            exact HFour.out ((HQ.out C HC.out.2).2 e)
          go_wp2
          go_ret2
          exact ⟨rfl, ⟨_, R5⟩, B5⟩

theorem join_one (wx : World) (B : Nat) (o : Option Addr) (n c : Nat) (ys : List Int) (hB : wx.heap[B]? = some (.cells #[.slice o n c] 22 (0, 0))) (hr : RdA wx (.slice o n c) ys) (hl : ys.length ≤ 65536) :
    Calls Try.prog 44 #[.slice (some ⟨B, 0, none⟩) 1 1] wx fun e w' => ∃ v, e = .returned v ∧ Own w' wx.heap.size v ys ∧ Below wx.heap.size wx w' := by
  have h := join_own wx (.slice (some ⟨B, 0, none⟩) 1 1) [.slice o n c] [ys] ⟨_, _, rfl, Nat.le_refl _, by simp [maxLen], fun _ => ⟨B, 0, rfl, fun i hi => by
      have : i = 0 := by simp at hi; omega
      subst this
      simp [World.cell?, hB]⟩⟩ ⟨rfl, fun i hi => by
      have : i = 0 := by simp at hi; omega
      subst this
      exact hr⟩ (by simp; omega)
  simpa using h

theorem cutV_form (ao : Option Addr) (cap a n : Nat) : ∃ o c, cutV ao cap a n = .slice o n c := by
  unfold cutV
  split
  · exact ⟨_, _, rfl⟩
  · exact ⟨_, _, rfl⟩

theorem row_ne {w : World} {base : Nat} {v : Value} {xs : List Int} {pv : Value} {n : Nat} {us : List Value} {pb : Nat} (h : Own w base v xs) (hp : w.ownsRow pb 22 1 pv n us) : v.ownBlock = none ∨ v.ownBlock ≠ pv.ownBlock := by
  cases hv : v.ownBlock with
  | none => exact .inl rfl
  | some k =>
    refine .inr fun e => ?_
    obtain ⟨c1, h1⟩ := own_typed h.2 hv
    obtain ⟨c2, h2⟩ := own_typed hp e.symm
    rw [h1] at h2
    simp at h2

theorem rd_grown {w w' : World} {row : Option Nat} {ao : Option Addr} {n cap : Nat} {xs : List Int} (h : RdA w (.slice ao n cap) xs) (hg : w.grownBy w' row) (hne : 0 < xs.length → ∀ x, ao = some x → row ≠ some x.block) : RdA w' (.slice ao n cap) xs := by
  obtain ⟨⟨ao', cap', e, h1, h2, h3, h4⟩, hnil⟩ := h
  simp only [Value.slice.injEq] at e
  obtain ⟨rfl, rfl, rfl⟩ := e
  refine ⟨⟨ao, cap, rfl, h1, h2, h3, fun hp => ?_⟩, hnil⟩
  obtain ⟨b, off, rfl, hc⟩ := h4 hp
  refine ⟨b, off, rfl, fun i hi => ?_⟩
  have hlt := cell_lt (hc i hi)
  rw [World.cell?_of_block (hg.block b hlt (fun e => hne hp _ rfl e.symm))]
  exact hc i hi

/-- One payload more. -/
theorem pushed {w7 w9 : World} {base d : Nat} {ao : Option Addr} {cap : Nat} {xs : List Int} {at_ : Nat} {pv : Value} {us : List Value} {xss : List (List Int)} {v : Value} {P : List Int} {K g cap9 : Nat} {o : Obj}
    (R : RS w7 base d ao cap xs at_ pv us xss) (HO : Own w7 K v P) (hK : base ≤ K) (hus : ∀ i, i < us.length → ∀ k, (us.getD i (.slice none 0 0)).ownBlock = some k → k < K)
    (hown : w9.ownsRow base 22 1 (.slice (some ⟨g, 0, none⟩) (us.length + 1) cap9) (us.length + 1) (us ++ [v])) (hgrow : (w7.alloc o).grownBy w9 pv.ownBlock) (hat : pv.ownBlock = some g ∨ g = w7.heap.size + 1) :
    RS (w9.setCell ⟨d, 2, none⟩ (.slice (some ⟨g, 0, none⟩) (us.length + 1) cap9)) base d ao cap xs at_ (.slice (some ⟨g, 0, none⟩) (us.length + 1) cap9) (us ++ [v]) (xss ++ [P]) ∧
      Below base w7 (w9.setCell ⟨d, 2, none⟩ (.slice (some ⟨g, 0, none⟩) (us.length + 1) cap9)) := by
  have hg : w7.grownBy w9 pv.ownBlock := grown_trans (World.grownBy_alloc w7 o pv.ownBlock) hgrow
  have hdp : pv.ownBlock ≠ some d := own_other R.pay R.blk (by decide)
  have hblk : w9.heap[d]? = some (.cells #[.slice ao xs.length cap, .int .i64 at_, pv] 67 (0, 0)) := (hg.block d R.lt (fun e => hdp e.symm)).trans R.blk
  have hpile : Pile w9 base us xss := ⟨R.each.1, fun i hi => own_kept (R.each.2.1 i hi) hg (row_ne (R.each.2.1 i hi) R.pay), R.each.2.2⟩
  have hv : Own w9 base v P := (own_kept HO hg (row_ne HO R.pay)).mono hK
  have hpile' : Pile w9 base (us ++ [v]) (xss ++ [P]) := pile_snoc hpile hv (fun i hi k hk hvk => by
    have h1 := hus i hi k hk
    have h2 := (HO.lt k hvk).1
    omega)
  have hdata : RdA w9 (.slice ao xs.length cap) xs := rd_grown R.data hg (fun hp x hx => (R.far hp x hx).2)
  have hfar : 0 < xs.length → ∀ x, ao = some x → x.block ≠ d ∧ (Value.slice (some ⟨g, 0, none⟩) (us.length + 1) cap9).ownBlock ≠ some x.block := fun hp x hx => by
    refine ⟨(R.far hp x hx).1, fun e => ?_⟩
    simp only [Value.ownBlock, Option.some.injEq] at e
    rcases hat with h | h
    · exact (R.far hp x hx).2 (by rw [h, e])
    · obtain ⟨⟨ao', cap', e', h1, h2, h3, h4⟩, _⟩ := R.data
      simp only [Value.slice.injEq, true_and] at e'
      obtain ⟨rfl, rfl⟩ := e'
      obtain ⟨b, off, rfl, hc⟩ := h4 hp
      simp only [Option.some.injEq] at hx
      subst hx
      have := cell_lt (hc 0 hp)
      simp only at this e
      omega
  refine ⟨⟨?_, rd_setCell hdata (fun hp x hx => (R.far hp x hx).1) _, hfar, ?_, ?_, R.le, R.len, R.low⟩, ?_⟩
  · have := heap_setCell_same w9 d 2 _ 67 (.slice (some ⟨g, 0, none⟩) (us.length + 1) cap9) hblk
    simpa using this
  · rw [List.length_append]
    exact ownsRow_setCell_other hown (own_other hown hblk (by decide)) _
  · exact ⟨hpile'.1, fun i hi => own_setCell (hpile'.2.1 i hi) (own_other (hpile'.2.1 i hi).2 hblk (by decide)) _, hpile'.2.2⟩
  · refine ((Below.refl base w7).grown hg ?_ (fun k hk => ?_)).setCell R.low _
    · have := R.lt; have := R.low; omega
    · exact (World.ownsRow.lt R.pay k hk).1

set_option maxHeartbeats 1000000 in
theorem frame_some (w : World) (base d : Nat) (ao : Option Addr) (cap : Nat) (xs : List Int) (at_ : Nat) (pv : Value) (us : List Value) (xss : List (List Int)) (h : RS w base d ao cap xs at_ pv us xss)
    (hub : us.length ≤ 4294967296) (hn : (frameAt (xs.drop at_)).1 = -1) :
    Calls Try.prog 64 #[.pointer (some ⟨d, 0, none⟩)] w fun e w' => e = .returned (.tuple #[.bool true, .int .i64 0]) ∧
      ∃ pv' v, RS w' base d ao cap xs (at_ + (frameAt (xs.drop at_)).2.2) pv' (us ++ [v]) (xss ++ [(frameAt (xs.drop at_)).2.1]) ∧ Below base w w' := by
  have hdl : d < w.heap.size := h.lt
  have hgn : gotN xs at_ = getR 9 0 0 (xs.drop at_) := rfl
  have HN := number_any w d ao cap at_ xs h.le h.len h.data.1 h.c0 h.c1 (h.fz 1)
  rw [hgn] at HN
  have HNum : Hid (∀ wx, wx = w → Calls Try.prog 73 #[.pointer (some ⟨d, 0, none⟩)] wx fun e w' => e = .returned (.tuple #[.int .i64 (getR 9 0 0 (xs.drop at_)).1, .int .i64 (getR 9 0 0 (xs.drop at_)).2.2]) ∧
      (((getR 9 0 0 (xs.drop at_)).2.2 = 0 → ∃ m, w' = (w.drewN m).setCell ⟨d, 1, none⟩ (.int .i64 (at_ + (getR 9 0 0 (xs.drop at_)).2.1))) ∧ ((getR 9 0 0 (xs.drop at_)).2.2 ≠ 0 → ∃ m, w' = w.drewN m))) := fun wx e => by subst e; exact HN
  clear HN hgn
  have HRS : Hid (RS w base d ao cap xs at_ pv us xss) := h
  have hle := h.le
  have hlen := h.len
  have hst := getR_st 9 0 0 (xs.drop at_)
  have hok := getR_ok 9 0 0 (xs.drop at_) (by omega)
  have hdl' : (xs.drop at_).length = xs.length - at_ := by simp
  rw [hdl'] at hok
  have h1 : ¬ (getR 9 0 0 (xs.drop at_)).2.2 = 1 := fun e => by rw [frameAt, if_pos e] at hn; simp at hn
  have h2 : ¬ (getR 9 0 0 (xs.drop at_)).2.2 = 2 := fun e => by rw [frameAt, if_neg h1, if_pos e] at hn; simp at hn
  have h0 : (getR 9 0 0 (xs.drop at_)).2.2 = 0 := by omega
  have hok' := hok h0
  have HF : Hid ((frameAt (xs.drop at_)) = if 4096 < (getR 9 0 0 (xs.drop at_)).1 then (5, [], 0)
      else if (xs.drop at_).length < (getR 9 0 0 (xs.drop at_)).2.1 + ((getR 9 0 0 (xs.drop at_)).1.toNat + 4) then (0, [], 0)
      else if four (crcN (((xs.drop at_).drop (getR 9 0 0 (xs.drop at_)).2.1).take (getR 9 0 0 (xs.drop at_)).1.toNat)) = ((xs.drop at_).drop ((getR 9 0 0 (xs.drop at_)).2.1 + (getR 9 0 0 (xs.drop at_)).1.toNat)).take 4 then
        (-1, ((xs.drop at_).drop (getR 9 0 0 (xs.drop at_)).2.1).take (getR 9 0 0 (xs.drop at_)).1.toNat, (getR 9 0 0 (xs.drop at_)).2.1 + ((getR 9 0 0 (xs.drop at_)).1.toNat + 4))
      else (8, [], 0)) := by unfold Hid; rw [frameAt, if_neg h1, if_neg h2]
  clear hok hst h h1 h2
  rw [hdl'] at HF
  simp only [List.drop_drop] at HF
  generalize frameAt (xs.drop at_) = fa at HF hn ⊢
  generalize getR 9 0 0 (xs.drop at_) = r at HNum h0 hok' HF
  obtain ⟨n, cnt, st⟩ := r
  simp only at h0 hok' HF HNum
  subst h0
  obtain ⟨N, rfl⟩ := Int.eq_ofNat_of_zero_le hok'.1
  rw [Int.toNat_natCast] at HF
  obtain ⟨_, hc1, hc2⟩ := hok'
  clear hdl'
  have hbig : ¬ (4096 : Int) < N := fun e => by rw [HF.out, if_pos e] at hn; simp at hn
  have hshort : ¬ xs.length - at_ < cnt + (N + 4) := fun e => by rw [HF.out, if_neg hbig, if_pos e] at hn; simp at hn
  have hfour : four (crcN ((xs.drop (at_ + cnt)).take N)) = (xs.drop (at_ + (cnt + N))).take 4 := Decidable.byContradiction fun e => by
    rw [HF.out, if_neg hbig, if_neg hshort, if_neg e] at hn; simp at hn
  have hfa : fa = (-1, (xs.drop (at_ + cnt)).take N, cnt + (N + 4)) := by rw [HF.out, if_neg hbig, if_neg hshort, if_pos hfour]
  subst hfa
  clear HF hn
  have hge : at_ + cnt + (N + 4) ≤ xs.length := by omega
  have HFour : Hid (four (crcN ((xs.drop (at_ + cnt)).take N)) = (xs.drop (at_ + (cnt + N))).take 4) := hfour
  clear hfour hshort
  go_enter Try.func64, Try.ntmps64
  go_wp2_with fail
  refine (HNum.out _ rfl).mono ?_
  rintro e w1 ⟨rfl, hw, _⟩
  obtain ⟨m, hw1⟩ := hw (by simp)
  have R1 : RS w1 base d ao cap xs (at_ + cnt) pv us xss := by
    rw [hw1]
    exact (HRS.out.below (below_same w m)).setAt (at_ + cnt) (by omega)
  have B1 : Below base w w1 := by
    rw [hw1]
    exact ((below_same w m).mono (by have := HRS.out.low; omega)).setCell HRS.out.low _
  clear hw hw1 HNum
  go_wp2_with fail
  refine (left_any _ d ao xs.length cap ((at_ + cnt : Nat) : Int) (by omega) (by omega) (by unfold maxLen; omega) R1.c0 R1.c1).mono ?_
  rintro e w2 ⟨rfl, m2, rfl⟩
  have hs2 : ¬ ((xs.length : Int) - ((at_ + cnt : Nat) : Int)) < (N : Int) + 4 := by omega
  have R2 := R1.below (below_same w1 m2)
  have B2 : Below base w (w1.drewN m2) := below_drewN B1 m2
  obtain ⟨_, hcap1, hcap2⟩ := le_cap R2.data.1
  clear R1 B1
  go_wp2_with fail
  refine (take_any _ d ao xs.length cap (at_ + cnt) N (by omega) hcap1 hcap2 hlen R2.c0 R2.c1 (R2.fz 1)).mono ?_
  rintro e w3 ⟨rfl, m3, hw3⟩
  have R3 : RS w3 base d ao cap xs (at_ + cnt + N) pv us xss := by
    rw [hw3]
    exact (R2.below (below_same _ m3)).setAt (at_ + cnt + N) (by omega)
  have B3 : Below base w w3 := by
    rw [hw3]
    exact (below_drewN B2 m3).setCell R2.low _
  clear hw3 R2 B2
  go_wp2_with fail
  refine (take_any _ d ao xs.length cap (at_ + cnt + N) 4 (by omega) hcap1 hcap2 hlen R3.c0 R3.c1 (R3.fz 1)).mono ?_
  rintro e w4 ⟨rfl, m4, hw4⟩
  have R4 : RS w4 base d ao cap xs (at_ + cnt + N + 4) pv us xss := by
    rw [hw4]
    exact (R3.below (below_same _ m4)).setAt (at_ + cnt + N + 4) (by omega)
  have B4 : Below base w w4 := by
    rw [hw4]
    exact (below_drewN B3 m4).setCell R3.low _
  clear hw4 R3 B3
  have hsum := cut_rd (at_ := at_ + cnt + N) (n := 4) R4.data (by omega)
  obtain ⟨c0, c1, c2, c3, hs4, hq⟩ := four_of (rd_bd hsum.1) (by simp; omega)
  rw [hs4] at hsum
  have HQ : Hid (∀ n : Nat, n < 4294967296 → (four n = (xs.drop (at_ + (cnt + N))).take 4 ↔ c0 + c1 * 256 + c2 * 65536 + c3 * 16777216 = (n : Int))) := by
    intro n hn
    rw [← Nat.add_assoc]
    exact hq n hn
  clear hq hs4
  go_wp2_with fail
  refine (sumOf_any _ _ c0 c1 c2 c3 hsum.1).mono ?_
  rintro e w5 ⟨rfl, m5, rfl⟩
  have R5 := R4.below (below_same _ m5)
  have B5 : Below base w (w4.drewN m5) := below_drewN B4 m5
  clear R4 B4 hsum
  have hpay := cut_rd (at_ := at_ + cnt) (n := N) R5.data (by omega)
  have HC : Hid ((crcN ((xs.drop (at_ + cnt)).take N)) = (crcN ((xs.drop (at_ + cnt)).take N)) ∧ crcN ((xs.drop (at_ + cnt)).take N) < 4294967296) := ⟨rfl, crcN_lt (rd_bd hpay.1)⟩
  go_wp2_with fail
  refine (implCrc_any _ _ _ (by simp; omega) hpay.1).mono ?_
  rintro e w6 ⟨rfl, rfl⟩
  generalize crcN ((xs.drop (at_ + cnt)).take N) = C at HC HFour ⊢
  have hne : ((c0 + c1 * 256 + c2 * 65536 + c3 * 16777216 : Int) != (C : Int)) = false := by
    rw [bne_eq_false_iff_eq]
    exact (HQ.out C HC.out.2).1 HFour.out
  obtain ⟨o6, c6, hcut⟩ := cutV_form ao cap (at_ + cnt) N
  rw [hcut] at hpay ⊢
  have hPl : ((xs.drop (at_ + cnt)).take N).length ≤ 65536 := by simp; omega
  have HPl : Hid (((xs.drop (at_ + cnt)).take N).length ≤ 65536) := hPl
  clear hcut HC HQ HFour hPl
  generalize w4.drewN m5 = w6 at R5 B5 hpay ⊢
  generalize hP : (xs.drop (at_ + cnt)).take N = P at hpay HPl ⊢
  have HPe : Hid ((xs.drop (at_ + cnt)).take N = P) := hP
  clear hP
  have hcd := R5.c2
  have hdl6 := R5.lt
  have HR6 : Hid (RS w6 base d ao cap xs (at_ + cnt + N + 4) pv us xss) := R5
  have HPay : Hid (RdA w6 (.slice o6 N c6) P) := hpay
  have hlow := R5.low
  clear R5 hpay
  go_wp2
  obtain ⟨i0, hi, hz0, hz1, hz2⟩ := info_parts info22
  have HI : Hid (Try.prog.info? 22 = some i0 ∧ i0.zero = some (.slice none 0 0) ∧ i0.size = 1 ∧ i0.bytes = 24) := ⟨hi, hz0, hz1, hz2⟩
  clear hi hz0 hz1 hz2
  have HJ : Hid (Calls Try.prog 44 #[.slice (some ⟨w6.heap.size, 0, none⟩) 1 1] (w6.alloc (.cells #[.slice o6 N c6] 22)).drew fun e w' => ∃ o7 c7, e = .returned (.slice o7 P.length c7) ∧ Hid (Own w' (w6.heap.size + 1) (.slice o7 P.length c7) P) ∧ Hid (Below w6.heap.size w6 w') ∧ w'.cell? ⟨d, 2, none⟩ = some pv ∧ w'.frozen? ⟨d, 2, none⟩ = false ∧ d < w'.heap.size ∧ base ≤ w'.heap.size) := by
    have hba : Below w6.heap.size w6 (w6.alloc (.cells #[.slice o6 N c6] 22)).drew := ((Below.refl _ _).alloc (Nat.le_refl _) _).drew
    have hsz : (w6.alloc (.cells #[.slice o6 N c6] 22)).drew.heap.size = w6.heap.size + 1 := by simp
    refine (join_one _ w6.heap.size o6 N c6 P (by exact heap_alloc_new w6 _) (by exact HPay.out.below hba (Nat.le_refl _)) HPl.out).mono ?_
    rintro e w' ⟨v, rfl, HO, hb⟩
    rw [hsz] at HO hb
    have hb6 : Below w6.heap.size w6 w' := hba.trans (hb.mono (by omega))
    obtain ⟨o7, c7, e7, _⟩ := HO.rd
    subst e7
    have hs := hb6.size
    exact ⟨o7, c7, rfl, hide HO, hide hb6, (hb6.cell hdl6).trans hcd, (hb6.frozen hdl6).trans (HR6.out.fz 2), by omega, by omega⟩
  have HDP : Hid (pv.ownBlock ≠ some d) := own_other HR6.out.pay HR6.out.blk (by decide)
  have HUS : Hid (∀ i, i < us.length → ∀ k, (us.getD i (.slice none 0 0)).ownBlock = some k → k < w6.heap.size + 1) := fun i hi k hk => by
    have := ((HR6.out.each.2.1 i hi).lt k hk).2
    omega
  go_region_law (first | (go_simp; go_at_call 44; refine HJ.out.mono ?_; rintro e w7 ⟨o7, c7, rfl, HO7, HB7, hc7, hf7, hd7, hl7⟩) | (refine step_append_lies _ rfl _ _ 30 rfl base 22 i0 (.slice none 0 0) 1 24 Try.underlying30 HI.out.1 HI.out.2.1 HI.out.2.2.1 HI.out.2.2.2 rfl (by decide) pv us.length us rfl ((HR6.out.below HB7.out).pay.alloc _) ⟨w7.heap.size, 0, none⟩ 1 1 [.slice o7 P.length c7] rfl rfl (cell_one_new _ _ _) (by intro u hu; simp at hu; subst hu; rfl) (by decide) (by unfold maxLen; omega) (by omega) (by simp; omega) (w7.heap.size + 1) (by simp) ?_; intro g cap9 w9 hown hgrow hat hlt; have hb9 : w9.heap[d]? = w7.heap[d]? := (hgrow.block d (by simp; omega) (fun e => HDP.out e.symm)).trans (Below.heap_alloc w7 _ d hd7); have hc9 : w9.cell? ⟨d, 2, none⟩ = some pv := (World.cell?_of_block hb9).trans hc7; have hf9 : w9.frozen? ⟨d, 2, none⟩ = false := (World.frozen?_of_block hb9).trans hf7; clear hb9))
  all_goals
    have HFin : Hid (RS (w9.setCell ⟨d, 2, none⟩ (.slice (some ⟨g, 0, none⟩) (us.length + 1) cap9)) base d ao cap xs (at_ + cnt + N + 4) (.slice (some ⟨g, 0, none⟩) (us.length + 1) cap9) (us ++ [.slice o7 P.length c7]) (xss ++ [P]) ∧ Below base w (w9.setCell ⟨d, 2, none⟩ (.slice (some ⟨g, 0, none⟩) (us.length + 1) cap9))) := by
      have hp := pushed (HR6.out.below HB7.out) HO7.out (by omega) HUS.out hown hgrow hat
      exact hide ⟨hp.1, (B5.trans (HB7.out.mono (by omega))).trans hp.2⟩
    clear hown hgrow hat hc9 hf9 HO7 HB7 HUS HDP HJ
    go_wp2
    go_ret2
    have hfin := HFin.out.1
    rw [show at_ + cnt + N + 4 = at_ + (cnt + (N + 4)) by omega, ← HPe.out] at hfin
    exact ⟨rfl, _, _, hfin, HFin.out.2⟩
end Go.Proofs.Ythdkphpjpinphaf.one
