/- Contract of the function that goes over one frame. -/
import Derived.Test.YtipcdioolafkpaaReader
import Derived.Deep.RegionLaw
import Derived.Deep.AppendLies
namespace Go.Proofs.Ytipcdioolafkpaa.one
open Go.ChangeShapes Go.WideShapes Go.ChangeAt Go.RowKit
open Go.Proofs.Ytipcdioolafkpaa.bytes Go.Proofs.Ytipcdioolafkpaa.pile Go.Proofs.Ytipcdioolafkpaa.get Go.Proofs.Ytipcdioolafkpaa.dec Go.Proofs.Ytipcdioolafkpaa.take
open Go.Proofs.Ytipcdioolafkpaa.put Go.Proofs.Ytipcdioolafkpaa.crcs Go.Proofs.Ytipcdioolafkpaa.join Go.Proofs.Ytipcdioolafkpaa.frames Go.Proofs.Ytipcdioolafkpaa.reader
set_option linter.unusedVariables false

/-- What stands at the beginning of bytes: -1 and a payload and how many bytes its frame has; else a code, 0 where it is not whole yet. -/
def frameAt (l : List Int) : Int × List Int × Nat :=
  if (getR 9 0 0 l).2.2 = 1 then (0, [], 0)
  else if (getR 9 0 0 l).2.2 = 2 then (3, [], 0)
  else if 4096 < (getR 9 0 0 l).1 then (5, [], 0)
  else if l.length < (getR 9 0 0 l).2.1 + ((getR 9 0 0 l).1.toNat + 4) then (0, [], 0)
  else if four (crcN ((l.drop (getR 9 0 0 l).2.1).take (getR 9 0 0 l).1.toNat)) = (l.drop ((getR 9 0 0 l).2.1 + (getR 9 0 0 l).1.toNat)).take 4 then
    (-1, (l.drop (getR 9 0 0 l).2.1).take (getR 9 0 0 l).1.toNat, (getR 9 0 0 l).2.1 + ((getR 9 0 0 l).1.toNat + 4))
  else (8, [], 0)

/-- Where a number stands it is from 0 on, and its bytes are among those that are there. -/
theorem getR_ok : ∀ (f k : Nat) (n : Int) (l : List Int), 0 ≤ n → (getR f k n l).2.2 = 0 → 0 ≤ (getR f k n l).1 ∧ k < (getR f k n l).2.1 ∧ (getR f k n l).2.1 ≤ k + l.length
  | 0, k, n, l, _, h => by simp [getR] at h
  | f + 1, k, n, [], _, h => by simp [getR] at h
  | f + 1, k, n, c :: r, hn, h => by
    have hm : 0 ≤ c % 128 * 128 ^ k := Int.mul_nonneg (by omega) (Int.pow_nonneg (by decide))
    by_cases h128 : 128 ≤ c
    · rw [getR_more h128] at h ⊢
      have := getR_ok f (k + 1) _ r (by omega) h
      simp only [List.length_cons]
      omega
    · by_cases hz : 0 < k ∧ c = 0
      · rw [getR_zero hz.2 hz.1] at h; simp at h
      · rw [getR_last (by omega) hz]
        simp only [List.length_cons]
        refine ⟨by omega, by omega, by omega⟩
theorem getR_st : ∀ (f k : Nat) (n : Int) (l : List Int), (getR f k n l).2.2 = 0 ∨ (getR f k n l).2.2 = 1 ∨ (getR f k n l).2.2 = 2
  | 0, k, n, l => by simp [getR]
  | f + 1, k, n, [] => by simp [getR]
  | f + 1, k, n, c :: r => by
    by_cases h128 : 128 ≤ c
    · rw [getR_more h128]; exact getR_st f (k + 1) _ r
    · by_cases hz : 0 < k ∧ c = 0
      · rw [getR_zero hz.2 hz.1]; simp
      · rw [getR_last (by omega) hz]; simp

theorem four_of {s : List Int} (hs : ∀ x ∈ s, 0 ≤ x ∧ x ≤ 255) (hl : s.length = 4) : ∃ c0 c1 c2 c3, s = [c0, c1, c2, c3] ∧ ∀ n : Nat, n < 4294967296 → (four n = s ↔ c0 + c1 * 256 + c2 * 65536 + c3 * 16777216 = (n : Int)) := by
  match s, hl with
  | [c0, c1, c2, c3], _ =>
    refine ⟨c0, c1, c2, c3, rfl, fun n hn => ?_⟩
    have b0 := hs c0 (by simp)
    have b1 := hs c1 (by simp)
    have b2 := hs c2 (by simp)
    have b3 := hs c3 (by simp)
    simp only [four, List.cons.injEq, and_true]
    omega

theorem info22 : (Try.prog.info? 22).map (fun i => (i.zero, i.size, i.bytes)) = some (some (.slice none 0 0), 1, 24) := by kernel_rfl

/-- What goes along the bytes xs by the decoder at block d: I w a says that it stands at place a in world w. -/
structure Goes (I : World → Nat → Prop) (d : Nat) (ao : Option Addr) (cap : Nat) (xs : List Int) : Prop where
  c0 : ∀ {w a}, I w a → w.cell? ⟨d, 0, none⟩ = some (.slice ao xs.length cap)
  c1 : ∀ {w a}, I w a → w.cell? ⟨d, 1, none⟩ = some (.int .i64 (a : Nat))
  fz : ∀ {w a}, I w a → w.frozen? ⟨d, 1, none⟩ = false
  data : ∀ {w a}, I w a → RdA w (.slice ao xs.length cap) xs
  le : ∀ {w a}, I w a → a ≤ xs.length
  len : xs.length ≤ 65536
  drew : ∀ {w a}, I w a → ∀ n, I (w.drewN n) a
  put : ∀ {w a}, I w a → ∀ n, n ≤ xs.length → I (w.setCell ⟨d, 1, none⟩ (.int .i64 (n : Nat))) n

theorem le_cap {w : World} {ao : Option Addr} {n cap : Nat} {xs : List Int} (h : Rd w (.slice ao n cap) xs) : n = xs.length ∧ n ≤ cap ∧ cap ≤ maxLen := by
  obtain ⟨ao', cap', e, h1, h2, _⟩ := h
  simp only [Value.slice.injEq] at e
  obtain ⟨rfl, rfl, rfl⟩ := e
  exact ⟨rfl, h1, h2⟩
theorem rd_bd {w : World} {v : Value} {xs : List Int} (h : Rd w v xs) : ∀ x ∈ xs, 0 ≤ x ∧ x ≤ 255 := by
  obtain ⟨ao', cap', e, h1, h2, h3, _⟩ := h
  exact h3

set_option maxHeartbeats 1000000 in
theorem frame_none {I : World → Nat → Prop} {d : Nat} {ao : Option Addr} {cap : Nat} {xs : List Int} (G : Goes I d ao cap xs) (w : World) (at_ : Nat) (h : I w at_)
    (hn : (frameAt (xs.drop at_)).1 ≠ -1) :
    Calls Try.prog 61 #[.pointer (some ⟨d, 0, none⟩)] w fun e w' => e = .returned (.tuple #[.slice none 0 0, .bool false, .int .i64 (frameAt (xs.drop at_)).1]) ∧ ∃ a, I w' a := by
  have hgn : gotN xs at_ = getR 9 0 0 (xs.drop at_) := rfl
  have HN := number_any w d ao cap at_ xs (G.le h) G.len (G.data h).1 (G.c0 h) (G.c1 h) (G.fz h)
  rw [hgn] at HN
  have HNum : Hid (∀ wx, wx = w → Calls Try.prog 35 #[.pointer (some ⟨d, 0, none⟩)] wx fun e w' => e = .returned (.tuple #[.int .i64 (getR 9 0 0 (xs.drop at_)).1, .int .i64 (getR 9 0 0 (xs.drop at_)).2.2]) ∧
      (((getR 9 0 0 (xs.drop at_)).2.2 = 0 → ∃ m, w' = (w.drewN m).setCell ⟨d, 1, none⟩ (.int .i64 (at_ + (getR 9 0 0 (xs.drop at_)).2.1))) ∧ ((getR 9 0 0 (xs.drop at_)).2.2 ≠ 0 → ∃ m, w' = w.drewN m))) := fun wx e => by subst e; exact HN
  clear HN hgn
  have HRS : Hid (I w at_) := h
  have hle := G.le h
  have hlen := G.len
  have hst := getR_st 9 0 0 (xs.drop at_)
  have hok := getR_ok 9 0 0 (xs.drop at_) (by omega)
  have hdl' : (xs.drop at_).length = xs.length - at_ := by simp
  rw [hdl'] at hok
  by_cases h1 : (getR 9 0 0 (xs.drop at_)).2.2 = 1
  · have hf : frameAt (xs.drop at_) = (0, [], 0) := by rw [frameAt, if_pos h1]
    rw [hf]
    clear hok hst hf hn h
    generalize getR 9 0 0 (xs.drop at_) = r at HNum h1
    obtain ⟨n, cnt, st⟩ := r
    simp only at h1
    subst h1
    go_enter Try.func61, Try.ntmps61
    go_wp2_with fail
    refine (HNum.out _ rfl).mono ?_
    rintro e w1 ⟨rfl, _, hw⟩
    obtain ⟨m, rfl⟩ := hw (by decide)
    go_wp2
    go_ret3
    exact ⟨rfl, _, G.drew HRS.out m⟩
  · by_cases h2 : (getR 9 0 0 (xs.drop at_)).2.2 = 2
    · have hf : frameAt (xs.drop at_) = (3, [], 0) := by rw [frameAt, if_neg h1, if_pos h2]
      rw [hf]
      clear hok hst hf hn h h1
      generalize getR 9 0 0 (xs.drop at_) = r at HNum h2
      obtain ⟨n, cnt, st⟩ := r
      simp only at h2
      subst h2
      go_enter Try.func61, Try.ntmps61
      go_wp2_with fail
      refine (HNum.out _ rfl).mono ?_
      rintro e w1 ⟨rfl, _, hw⟩
      obtain ⟨m, rfl⟩ := hw (by decide)
      go_wp2
      go_ret3
      exact ⟨rfl, _, G.drew HRS.out m⟩
    · have h0 : (getR 9 0 0 (xs.drop at_)).2.2 = 0 := by omega
      have hok' := hok h0
      have HF : Hid ((frameAt (xs.drop at_)) = if 4096 < (getR 9 0 0 (xs.drop at_)).1 then (5, [], 0)
          else if (xs.drop at_).length < (getR 9 0 0 (xs.drop at_)).2.1 + ((getR 9 0 0 (xs.drop at_)).1.toNat + 4) then (0, [], 0)
          else if four (crcN (((xs.drop at_).drop (getR 9 0 0 (xs.drop at_)).2.1).take (getR 9 0 0 (xs.drop at_)).1.toNat)) = ((xs.drop at_).drop ((getR 9 0 0 (xs.drop at_)).2.1 + (getR 9 0 0 (xs.drop at_)).1.toNat)).take 4 then
            (-1, ((xs.drop at_).drop (getR 9 0 0 (xs.drop at_)).2.1).take (getR 9 0 0 (xs.drop at_)).1.toNat, (getR 9 0 0 (xs.drop at_)).2.1 + ((getR 9 0 0 (xs.drop at_)).1.toNat + 4))
          else (8, [], 0)) := by unfold Hid; rw [frameAt, if_neg h1, if_neg h2]
      have HN' : Hid ((frameAt (xs.drop at_)).1 ≠ -1) := hn
      clear hok hst hn h h1 h2
      rw [hdl'] at HF
      simp only [List.drop_drop] at HF
      generalize frameAt (xs.drop at_) = fa at HF HN' ⊢
      generalize getR 9 0 0 (xs.drop at_) = r at HNum h0 hok' HF
      obtain ⟨n, cnt, st⟩ := r
      simp only at h0 hok' HF HNum
      subst h0
      obtain ⟨N, rfl⟩ := Int.eq_ofNat_of_zero_le hok'.1
      rw [Int.toNat_natCast] at HF
      obtain ⟨_, hc1, hc2⟩ := hok'
      clear hdl'
      by_cases hbig : (4096 : Int) < N
      · have hfa : fa = (5, [], 0) := by rw [HF.out, if_pos hbig]
        subst hfa
        clear HF HN'
        go_enter Try.func61, Try.ntmps61
        go_wp2_with fail
        refine (HNum.out _ rfl).mono ?_
        rintro e w1 ⟨rfl, hw, _⟩
        obtain ⟨m, hw1⟩ := hw (by simp)
        have R1 : I w1 (at_ + cnt) := by
          rw [hw1]
          exact G.put (G.drew HRS.out m) (at_ + cnt) (by omega)
        clear hw hw1 HNum
        go_wp2
        go_ret3
        exact ⟨rfl, _, R1⟩
      · have HF2 : Hid (fa = if xs.length - at_ < cnt + (N + 4) then (0, [], 0)
          else if four (crcN ((xs.drop (at_ + cnt)).take N)) = (xs.drop (at_ + (cnt + N))).take 4 then
            (-1, (xs.drop (at_ + cnt)).take N, cnt + (N + 4)) else (8, [], 0)) := by
          unfold Hid; rw [HF.out, if_neg hbig]
        clear HF
        by_cases hshort : xs.length - at_ < cnt + (N + 4)
        · have hfa : fa = (0, [], 0) := by rw [HF2.out, if_pos hshort]
          subst hfa
          clear HF2 HN'
          go_enter Try.func61, Try.ntmps61
          go_wp2_with fail
          refine (HNum.out _ rfl).mono ?_
          rintro e w1 ⟨rfl, hw, _⟩
          obtain ⟨m, hw1⟩ := hw (by simp)
          have R1 : I w1 (at_ + cnt) := by
            rw [hw1]
            exact G.put (G.drew HRS.out m) (at_ + cnt) (by omega)
          clear hw hw1 HNum
          go_wp2_with fail
          refine (left_any _ d ao xs.length cap ((at_ + cnt : Nat) : Int) (by omega) (by omega) (by unfold maxLen; omega) (G.c0 R1) (G.c1 R1)).mono ?_
          rintro e w2 ⟨rfl, m2, rfl⟩
          have hs2 : ((xs.length : Int) - ((at_ + cnt : Nat) : Int)) < (N : Int) + 4 := by omega
          go_wp2
          go_ret3
          exact ⟨rfl, _, G.drew R1 m2⟩
        · have hge : at_ + cnt + (N + 4) ≤ xs.length := by omega
          have HF3 : Hid (fa = if four (crcN ((xs.drop (at_ + cnt)).take N)) = (xs.drop (at_ + (cnt + N))).take 4 then
            (-1, (xs.drop (at_ + cnt)).take N, cnt + (N + 4)) else (8, [], 0)) := by
            unfold Hid; rw [HF2.out, if_neg hshort]
          clear HF2 hshort
          have hfour : ¬ four (crcN ((xs.drop (at_ + cnt)).take N)) = (xs.drop (at_ + (cnt + N))).take 4 := fun e => by
            apply HN'.out
            rw [HF3.out, if_pos e]
          have hfa : fa = (8, [], 0) := by rw [HF3.out, if_neg hfour]
          subst hfa
          clear HF3 HN'
          have HFour : Hid (¬ four (crcN ((xs.drop (at_ + cnt)).take N)) = (xs.drop (at_ + (cnt + N))).take 4) := hfour
          clear hfour
          go_enter Try.func61, Try.ntmps61
          go_wp2_with fail
          refine (HNum.out _ rfl).mono ?_
          rintro e w1 ⟨rfl, hw, _⟩
          obtain ⟨m, hw1⟩ := hw (by simp)
          have R1 : I w1 (at_ + cnt) := by
            rw [hw1]
            exact G.put (G.drew HRS.out m) (at_ + cnt) (by omega)
          clear hw hw1 HNum
          go_wp2_with fail
          refine (left_any _ d ao xs.length cap ((at_ + cnt : Nat) : Int) (by omega) (by omega) (by unfold maxLen; omega) (G.c0 R1) (G.c1 R1)).mono ?_
          rintro e w2 ⟨rfl, m2, rfl⟩
          have hs2 : ¬ ((xs.length : Int) - ((at_ + cnt : Nat) : Int)) < (N : Int) + 4 := by omega
          have R2 := G.drew R1 m2
          obtain ⟨_, hcap1, hcap2⟩ := le_cap (G.data R2).1
          clear R1
          go_wp2_with fail
          refine (take_any _ d ao xs.length cap (at_ + cnt) N (by omega) hcap1 hcap2 hlen (G.c0 R2) (G.c1 R2) (G.fz R2)).mono ?_
          rintro e w3 ⟨rfl, m3, hw3⟩
          have R3 : I w3 (at_ + cnt + N) := by
            rw [hw3]
            exact G.put (G.drew R2 m3) (at_ + cnt + N) (by omega)
          clear hw3 R2
          go_wp2_with fail
          refine (take_any _ d ao xs.length cap (at_ + cnt + N) 4 (by omega) hcap1 hcap2 hlen (G.c0 R3) (G.c1 R3) (G.fz R3)).mono ?_
          rintro e w4 ⟨rfl, m4, hw4⟩
          have R4 : I w4 (at_ + cnt + N + 4) := by
            rw [hw4]
            exact G.put (G.drew R3 m4) (at_ + cnt + N + 4) (by omega)
          clear hw4 R3
          have hsum := cut_rd (at_ := at_ + cnt + N) (n := 4) (G.data R4) (by omega)
          obtain ⟨c0, c1, c2, c3, hs4, hq⟩ := four_of (rd_bd hsum.1) (by simp; omega)
          rw [hs4] at hsum
          have HQ : Hid (∀ n : Nat, n < 4294967296 → (four n = (xs.drop (at_ + (cnt + N))).take 4 ↔ c0 + c1 * 256 + c2 * 65536 + c3 * 16777216 = (n : Int))) := by
            intro n hn
            rw [← Nat.add_assoc]
            exact hq n hn
          clear hq hs4
          go_wp2_with fail
          refine (sumOf_any _ _ c0 c1 c2 c3 hsum.1).mono ?_
          rintro e w5 ⟨rfl, m5, rfl⟩
          have R5 := G.drew R4 m5
          clear R4 hsum
          have hpay := cut_rd (at_ := at_ + cnt) (n := N) (G.data R5) (by omega)
          have HC : Hid ((crcN ((xs.drop (at_ + cnt)).take N)) = (crcN ((xs.drop (at_ + cnt)).take N)) ∧ crcN ((xs.drop (at_ + cnt)).take N) < 4294967296) := ⟨rfl, crcN_lt (rd_bd hpay.1)⟩
          go_wp2_with fail
          refine (implCrc_any _ _ _ (by simp; omega) hpay.1).mono ?_
          rintro e w6 ⟨rfl, rfl⟩
          generalize crcN ((xs.drop (at_ + cnt)).take N) = C at HC HFour ⊢
          have hne : ((c0 + c1 * 256 + c2 * 65536 + c3 * 16777216 : Int) != (C : Int)) = true := by
            rw [bne_iff_ne]
            intro e
            exact HFour.out ((HQ.out C HC.out.2).2 e)
          go_wp2
          go_ret3
          exact ⟨rfl, _, R5⟩

theorem cutV_form (ao : Option Addr) (cap a n : Nat) : ∃ o c, cutV ao cap a n = .slice o n c := by
  unfold cutV
  split
  · exact ⟨_, _, rfl⟩
  · exact ⟨_, _, rfl⟩

set_option maxHeartbeats 1000000 in
theorem frame_some {I : World → Nat → Prop} {d : Nat} {ao : Option Addr} {cap : Nat} {xs : List Int} (G : Goes I d ao cap xs) (w : World) (at_ : Nat) (h : I w at_)
    (hn : (frameAt (xs.drop at_)).1 = -1) :
    Calls Try.prog 61 #[.pointer (some ⟨d, 0, none⟩)] w fun e w' => ∃ o c, e = .returned (.tuple #[.slice o (frameAt (xs.drop at_)).2.1.length c, .bool true, .int .i64 0]) ∧
      RdA w' (.slice o (frameAt (xs.drop at_)).2.1.length c) (frameAt (xs.drop at_)).2.1 ∧ I w' (at_ + (frameAt (xs.drop at_)).2.2) := by
  have hgn : gotN xs at_ = getR 9 0 0 (xs.drop at_) := rfl
  have HN := number_any w d ao cap at_ xs (G.le h) G.len (G.data h).1 (G.c0 h) (G.c1 h) (G.fz h)
  rw [hgn] at HN
  have HNum : Hid (∀ wx, wx = w → Calls Try.prog 35 #[.pointer (some ⟨d, 0, none⟩)] wx fun e w' => e = .returned (.tuple #[.int .i64 (getR 9 0 0 (xs.drop at_)).1, .int .i64 (getR 9 0 0 (xs.drop at_)).2.2]) ∧
      (((getR 9 0 0 (xs.drop at_)).2.2 = 0 → ∃ m, w' = (w.drewN m).setCell ⟨d, 1, none⟩ (.int .i64 (at_ + (getR 9 0 0 (xs.drop at_)).2.1))) ∧ ((getR 9 0 0 (xs.drop at_)).2.2 ≠ 0 → ∃ m, w' = w.drewN m))) := fun wx e => by subst e; exact HN
  clear HN hgn
  have HRS : Hid (I w at_) := h
  have hle := G.le h
  have hlen := G.len
  have hst := getR_st 9 0 0 (xs.drop at_)
  have hok := getR_ok 9 0 0 (xs.drop at_) (by omega)
  have hdl' : (xs.drop at_).length = xs.length - at_ := by simp
  rw [hdl'] at hok
  have h1 : ¬ (getR 9 0 0 (xs.drop at_)).2.2 = 1 := fun e => by rw [frameAt, if_pos e] at hn; simp at hn
  have h2 : ¬ (getR 9 0 0 (xs.drop at_)).2.2 = 2 := fun e => by rw [frameAt, if_neg h1, if_pos e] at hn; simp at hn
  have h0 : (getR 9 0 0 (xs.drop at_)).2.2 = 0 := by omega
  have hok' := hok h0
  have HF : Hid ((frameAt (xs.drop at_)) = if 4096 < (getR 9 0 0 (xs.drop at_)).1 then (5, [], 0)
      else if (xs.drop at_).length < (getR 9 0 0 (xs.drop at_)).2.1 + ((getR 9 0 0 (xs.drop at_)).1.toNat + 4) then (0, [], 0)
      else if four (crcN (((xs.drop at_).drop (getR 9 0 0 (xs.drop at_)).2.1).take (getR 9 0 0 (xs.drop at_)).1.toNat)) = ((xs.drop at_).drop ((getR 9 0 0 (xs.drop at_)).2.1 + (getR 9 0 0 (xs.drop at_)).1.toNat)).take 4 then
        (-1, ((xs.drop at_).drop (getR 9 0 0 (xs.drop at_)).2.1).take (getR 9 0 0 (xs.drop at_)).1.toNat, (getR 9 0 0 (xs.drop at_)).2.1 + ((getR 9 0 0 (xs.drop at_)).1.toNat + 4))
      else (8, [], 0)) := by unfold Hid; rw [frameAt, if_neg h1, if_neg h2]
  clear hok hst h h1 h2
  rw [hdl'] at HF
  simp only [List.drop_drop] at HF
  generalize frameAt (xs.drop at_) = fa at HF hn ⊢
  generalize getR 9 0 0 (xs.drop at_) = r at HNum h0 hok' HF
  obtain ⟨n, cnt, st⟩ := r
  simp only at h0 hok' HF HNum
  subst h0
  obtain ⟨N, rfl⟩ := Int.eq_ofNat_of_zero_le hok'.1
  rw [Int.toNat_natCast] at HF
  obtain ⟨_, hc1, hc2⟩ := hok'
  clear hdl'
  have hbig : ¬ (4096 : Int) < N := fun e => by rw [HF.out, if_pos e] at hn; simp at hn
  have hshort : ¬ xs.length - at_ < cnt + (N + 4) := fun e => by rw [HF.out, if_neg hbig, if_pos e] at hn; simp at hn
  have hfour : four (crcN ((xs.drop (at_ + cnt)).take N)) = (xs.drop (at_ + (cnt + N))).take 4 := Decidable.byContradiction fun e => by
    rw [HF.out, if_neg hbig, if_neg hshort, if_neg e] at hn; simp at hn
  have hfa : fa = (-1, (xs.drop (at_ + cnt)).take N, cnt + (N + 4)) := by rw [HF.out, if_neg hbig, if_neg hshort, if_pos hfour]
  subst hfa
  clear HF hn
  have hge : at_ + cnt + (N + 4) ≤ xs.length := by omega
  have HFour : Hid (four (crcN ((xs.drop (at_ + cnt)).take N)) = (xs.drop (at_ + (cnt + N))).take 4) := hfour
  clear hfour hshort
  go_enter Try.func61, Try.ntmps61
  go_wp2_with fail
  refine (HNum.out _ rfl).mono ?_
  rintro e w1 ⟨rfl, hw, _⟩
  obtain ⟨m, hw1⟩ := hw (by simp)
  have R1 : I w1 (at_ + cnt) := by
    rw [hw1]
    exact G.put (G.drew HRS.out m) (at_ + cnt) (by omega)
  clear hw hw1 HNum
  go_wp2_with fail
  refine (left_any _ d ao xs.length cap ((at_ + cnt : Nat) : Int) (by omega) (by omega) (by unfold maxLen; omega) (G.c0 R1) (G.c1 R1)).mono ?_
  rintro e w2 ⟨rfl, m2, rfl⟩
  have hs2 : ¬ ((xs.length : Int) - ((at_ + cnt : Nat) : Int)) < (N : Int) + 4 := by omega
  have R2 := G.drew R1 m2
  obtain ⟨_, hcap1, hcap2⟩ := le_cap (G.data R2).1
  clear R1
  go_wp2_with fail
  refine (take_any _ d ao xs.length cap (at_ + cnt) N (by omega) hcap1 hcap2 hlen (G.c0 R2) (G.c1 R2) (G.fz R2)).mono ?_
  rintro e w3 ⟨rfl, m3, hw3⟩
  have R3 : I w3 (at_ + cnt + N) := by
    rw [hw3]
    exact G.put (G.drew R2 m3) (at_ + cnt + N) (by omega)
  clear hw3 R2
  go_wp2_with fail
  refine (take_any _ d ao xs.length cap (at_ + cnt + N) 4 (by omega) hcap1 hcap2 hlen (G.c0 R3) (G.c1 R3) (G.fz R3)).mono ?_
  rintro e w4 ⟨rfl, m4, hw4⟩
  have R4 : I w4 (at_ + cnt + N + 4) := by
    rw [hw4]
    exact G.put (G.drew R3 m4) (at_ + cnt + N + 4) (by omega)
  clear hw4 R3
  have hsum := cut_rd (at_ := at_ + cnt + N) (n := 4) (G.data R4) (by omega)
  obtain ⟨c0, c1, c2, c3, hs4, hq⟩ := four_of (rd_bd hsum.1) (by simp; omega)
  rw [hs4] at hsum
  have HQ : Hid (∀ n : Nat, n < 4294967296 → (four n = (xs.drop (at_ + (cnt + N))).take 4 ↔ c0 + c1 * 256 + c2 * 65536 + c3 * 16777216 = (n : Int))) := by
    intro n hn
    rw [← Nat.add_assoc]
    exact hq n hn
  clear hq hs4
  go_wp2_with fail
  refine (sumOf_any _ _ c0 c1 c2 c3 hsum.1).mono ?_
  rintro e w5 ⟨rfl, m5, rfl⟩
  have R5 := G.drew R4 m5
  clear R4 hsum
  have hpay := cut_rd (at_ := at_ + cnt) (n := N) (G.data R5) (by omega)
  have HC : Hid ((crcN ((xs.drop (at_ + cnt)).take N)) = (crcN ((xs.drop (at_ + cnt)).take N)) ∧ crcN ((xs.drop (at_ + cnt)).take N) < 4294967296) := ⟨rfl, crcN_lt (rd_bd hpay.1)⟩
  go_wp2_with fail
  refine (implCrc_any _ _ _ (by simp; omega) hpay.1).mono ?_
  rintro e w6 ⟨rfl, rfl⟩
  generalize crcN ((xs.drop (at_ + cnt)).take N) = C at HC HFour ⊢
  have hne : ((c0 + c1 * 256 + c2 * 65536 + c3 * 16777216 : Int) != (C : Int)) = false := by
    rw [bne_eq_false_iff_eq]
    exact (HQ.out C HC.out.2).1 HFour.out
  obtain ⟨o6, c6, hcut⟩ := cutV_form ao cap (at_ + cnt) N
  rw [hcut] at hpay ⊢
  have hlN : ((xs.drop (at_ + cnt)).take N).length = N := by simp; omega
  have HFin : Hid (I (w4.drewN m5) (at_ + cnt + N + 4) ∧ RdA (w4.drewN m5) (.slice o6 N c6) ((xs.drop (at_ + cnt)).take N) ∧ ((xs.drop (at_ + cnt)).take N).length = N) := ⟨R5, hpay, hlN⟩
  clear hcut HC HQ HFour hpay R5 hlN
  go_wp2
  go_ret3
  have hfin := HFin.out
  rw [show at_ + cnt + N + 4 = at_ + (cnt + (N + 4)) by omega] at hfin
  exact ⟨o6, c6, by rw [hfin.2.2]; rfl, by rw [hfin.2.2]; exact hfin.2.1, hfin.1⟩

end Go.Proofs.Ytipcdioolafkpaa.one
