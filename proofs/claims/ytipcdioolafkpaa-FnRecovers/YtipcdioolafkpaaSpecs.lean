/- Contracts of the model's functions that go over frames. -/
import Derived.Test.YtipcdioolafkpaaMany
import Derived.Test.YtipcdioolafkpaaLists
namespace Go.Proofs.Ytipcdioolafkpaa.specs
open Go.ChangeShapes Go.WideShapes Go.ChangeAt Go.RowKit
open Go.Proofs.Ytipcdioolafkpaa.bytes Go.Proofs.Ytipcdioolafkpaa.pile Go.Proofs.Ytipcdioolafkpaa.get Go.Proofs.Ytipcdioolafkpaa.dec Go.Proofs.Ytipcdioolafkpaa.take
open Go.Proofs.Ytipcdioolafkpaa.put Go.Proofs.Ytipcdioolafkpaa.crcs Go.Proofs.Ytipcdioolafkpaa.join Go.Proofs.Ytipcdioolafkpaa.frames Go.Proofs.Ytipcdioolafkpaa.reader Go.Proofs.Ytipcdioolafkpaa.one Go.Proofs.Ytipcdioolafkpaa.many Go.Proofs.Ytipcdioolafkpaa.lists
set_option linter.unusedVariables false

theorem empty_own (w : World) : Own (w.alloc (.cells #[] 5)) w.heap.size (.slice (some ⟨w.heap.size, 0, none⟩) 0 0) [] := ⟨by simp, World.ownsRow_lit _ #[] 0 (Nat.le_refl _) (by simp [maxLen]) (by simp)⟩

theorem ret_mid {v c : Value} {a b : Int} (h : a = b) : Ending.returned (.tuple #[v, .int .i64 a, c]) = .returned (.tuple #[v, .int .i64 b, c]) := by rw [h]

/-- The code that the model gives where no whole frame stands. -/
def nextC (c : Int) : Int := if c = 0 then 1 else c

set_option maxHeartbeats 1000000 in
theorem next_early (w : World) (ao : Option Addr) (cap at_ : Nat) (xs : List Int) (hb : RdA w (.slice ao xs.length cap) xs) (hat : at_ ≤ xs.length) (hl : xs.length ≤ 65536)
    (hn : (getR 9 0 0 (xs.drop at_)).2.2 ≠ 0 ∨ 4096 < (getR 9 0 0 (xs.drop at_)).1 ∨ (xs.drop at_).length < (getR 9 0 0 (xs.drop at_)).2.1 + ((getR 9 0 0 (xs.drop at_)).1.toNat + 4)) :
    Calls Try.prog 77 #[.slice ao xs.length cap, .int .i64 at_] w fun e w' => ∃ v, e = .returned (.tuple #[v, .int .i64 0, .int .i64 (nextC (frameAt (xs.drop at_)).1)]) ∧ (frameAt (xs.drop at_)).1 ≠ -1 ∧ Own w' w.heap.size v [] ∧ Below w.heap.size w w' := by
  have HG := l01Get_any w _ xs at_ hat hb.1 hl
  have hgn : gotN xs at_ = getR 9 0 0 (xs.drop at_) := rfl
  rw [hgn] at HG
  have HGet : Hid (Calls Try.prog 85 #[.slice ao xs.length cap, .int .i64 at_] w fun e w' => e = .returned (.tuple #[.int .i64 (getR 9 0 0 (xs.drop at_)).1, .int .i64 (behind at_ (getR 9 0 0 (xs.drop at_))), .int .i64 (getR 9 0 0 (xs.drop at_)).2.2]) ∧ w' = w) := HG
  clear HG hgn
  obtain ⟨_, hcap, hcap2⟩ := le_cap hb.1
  unfold maxLen at hcap2
  have hst := getR_st 9 0 0 (xs.drop at_)
  have hok := getR_ok 9 0 0 (xs.drop at_) (by omega)
  have hdl : (xs.drop at_).length = xs.length - at_ := by simp
  rw [hdl] at hok hn
  have hfr : (frameAt (xs.drop at_)).1 = if (getR 9 0 0 (xs.drop at_)).2.2 = 1 then 0 else if (getR 9 0 0 (xs.drop at_)).2.2 = 2 then 3 else if 4096 < (getR 9 0 0 (xs.drop at_)).1 then 5 else 0 := by
    unfold frameAt
    rw [hdl]
    by_cases h1 : (getR 9 0 0 (xs.drop at_)).2.2 = 1
    · rw [if_pos h1, if_pos h1]
    · rw [if_neg h1, if_neg h1]
      by_cases h2 : (getR 9 0 0 (xs.drop at_)).2.2 = 2
      · rw [if_pos h2, if_pos h2]
      · rw [if_neg h2, if_neg h2]
        by_cases h3 : 4096 < (getR 9 0 0 (xs.drop at_)).1
        · rw [if_pos h3, if_pos h3]
        · rw [if_neg h3, if_neg h3, if_pos (by omega)]
  rw [hfr]
  clear hfr hdl hb
  generalize getR 9 0 0 (xs.drop at_) = r at HGet hst hok hn ⊢
  obtain ⟨n, cnt, st⟩ := r
  simp only at HGet hst hok hn ⊢
  by_cases h1 : st = 1
  · subst h1
    go_enter Try.func77, Try.ntmps77
    go_wp2_with fail
    refine HGet.out.mono ?_
    rintro e w1 ⟨rfl, rfl⟩
    go_wp2
    go_ret3
    first | exact ⟨_, rfl, by simp, empty_own _, (Below.refl _ _).alloc (Nat.le_refl _) _⟩ | exact ⟨_, rfl, empty_own _, (Below.refl _ _).alloc (Nat.le_refl _) _⟩
  · by_cases h2 : st = 2
    · subst h2
      go_enter Try.func77, Try.ntmps77
      go_wp2_with fail
      refine HGet.out.mono ?_
      rintro e w1 ⟨rfl, rfl⟩
      go_wp2
      go_ret3
      first | exact ⟨_, rfl, by simp, empty_own _, (Below.refl _ _).alloc (Nat.le_refl _) _⟩ | exact ⟨_, rfl, empty_own _, (Below.refl _ _).alloc (Nat.le_refl _) _⟩
    · have h0 : st = 0 := by omega
      subst h0
      have hok' := hok rfl
      obtain ⟨N, rfl⟩ := Int.eq_ofNat_of_zero_le hok'.1
      rw [Int.toNat_natCast] at hn
      by_cases hbig : (4096 : Int) < N
      · rw [if_neg (by decide), if_neg (by decide), if_pos hbig]
        go_enter Try.func77, Try.ntmps77
        go_wp2_with fail
        refine HGet.out.mono ?_
        rintro e w1 ⟨rfl, rfl⟩
        go_wp2
        go_ret3
        first | exact ⟨_, rfl, by simp, empty_own _, (Below.refl _ _).alloc (Nat.le_refl _) _⟩ | exact ⟨_, rfl, empty_own _, (Below.refl _ _).alloc (Nat.le_refl _) _⟩
      · rw [if_neg (by decide), if_neg (by decide), if_neg hbig]
        have hsh : xs.length < at_ + cnt + N + 4 := by omega
        have hbe : behind at_ ((N : Int), cnt, (0 : Int)) = (at_ : Int) + cnt := by simp [behind]
        rw [hbe] at HGet
        clear hn hok hst hbe
        have hsi : (xs.length : Int) < (at_ : Int) + cnt + N + 4 := by omega
        go_enter Try.func77, Try.ntmps77
        go_wp2_with fail
        refine HGet.out.mono ?_
        rintro e w1 ⟨rfl, rfl⟩
        go_wp2
        go_ret3
        first | exact ⟨_, rfl, by simp, empty_own _, (Below.refl _ _).alloc (Nat.le_refl _) _⟩ | exact ⟨_, rfl, empty_own _, (Below.refl _ _).alloc (Nat.le_refl _) _⟩

set_option maxHeartbeats 1000000 in
theorem next_late (w : World) (ao : Option Addr) (cap at_ : Nat) (xs : List Int) (hb : RdA w (.slice ao xs.length cap) xs) (hat : at_ ≤ xs.length) (hl : xs.length ≤ 65536)
    (h0 : (getR 9 0 0 (xs.drop at_)).2.2 = 0) (hn : ¬ 4096 < (getR 9 0 0 (xs.drop at_)).1) (hs : ¬ (xs.drop at_).length < (getR 9 0 0 (xs.drop at_)).2.1 + ((getR 9 0 0 (xs.drop at_)).1.toNat + 4)) :
    Calls Try.prog 77 #[.slice ao xs.length cap, .int .i64 at_] w fun e w' => ∃ v, if (frameAt (xs.drop at_)).1 = -1 then e = .returned (.tuple #[v, .int .i64 (at_ + (frameAt (xs.drop at_)).2.2 : Nat), .int .i64 0]) ∧ Own w' w.heap.size v (frameAt (xs.drop at_)).2.1 ∧ Below w.heap.size w w'
      else e = .returned (.tuple #[v, .int .i64 0, .int .i64 (nextC (frameAt (xs.drop at_)).1)]) ∧ Own w' w.heap.size v [] ∧ Below w.heap.size w w' := by
  have HG := l01Get_any w _ xs at_ hat hb.1 hl
  have hgn : gotN xs at_ = getR 9 0 0 (xs.drop at_) := rfl
  rw [hgn] at HG
  have HGet : Hid (Calls Try.prog 85 #[.slice ao xs.length cap, .int .i64 at_] w fun e w' => e = .returned (.tuple #[.int .i64 (getR 9 0 0 (xs.drop at_)).1, .int .i64 (behind at_ (getR 9 0 0 (xs.drop at_))), .int .i64 (getR 9 0 0 (xs.drop at_)).2.2]) ∧ w' = w) := HG
  clear HG hgn
  obtain ⟨_, hcap, hcap2⟩ := le_cap hb.1
  unfold maxLen at hcap2
  have HB : Hid (RdA w (.slice ao xs.length cap) xs) := hb
  have hok' := getR_ok 9 0 0 (xs.drop at_) (by omega) h0
  have hdl : (xs.drop at_).length = xs.length - at_ := by simp
  have HF : Hid (frameAt (xs.drop at_) = if four (crcN (((xs.drop at_).drop (getR 9 0 0 (xs.drop at_)).2.1).take (getR 9 0 0 (xs.drop at_)).1.toNat)) = ((xs.drop at_).drop ((getR 9 0 0 (xs.drop at_)).2.1 + (getR 9 0 0 (xs.drop at_)).1.toNat)).take 4 then
        (-1, ((xs.drop at_).drop (getR 9 0 0 (xs.drop at_)).2.1).take (getR 9 0 0 (xs.drop at_)).1.toNat, (getR 9 0 0 (xs.drop at_)).2.1 + ((getR 9 0 0 (xs.drop at_)).1.toNat + 4))
      else (8, [], 0)) := by unfold Hid; rw [frameAt, if_neg (by omega), if_neg (by omega), if_neg hn, if_neg hs]
  simp only [List.drop_drop] at HF
  rw [hdl] at hok' hs
  clear hdl hb
  generalize frameAt (xs.drop at_) = fa at HF ⊢
  generalize getR 9 0 0 (xs.drop at_) = r at HGet h0 hok' hn hs HF
  obtain ⟨n, cnt, st⟩ := r
  simp only at HGet h0 hok' hn hs HF
  subst h0
  obtain ⟨N, rfl⟩ := Int.eq_ofNat_of_zero_le hok'.1
  rw [Int.toNat_natCast] at hs HF
  have hbe : behind at_ ((N : Int), cnt, (0 : Int)) = ((at_ + cnt : Nat) : Int) := by simp [behind]
  rw [hbe] at HGet
  obtain ⟨_, hc1, hc2⟩ := hok'
  obtain ⟨fr, hfr⟩ : ∃ fr, fr = at_ + cnt := ⟨_, rfl⟩
  rw [← hfr] at HGet
  rw [show at_ + (cnt + N) = fr + N by omega, ← hfr] at HF
  have hge : fr + N + 4 ≤ xs.length := by omega
  have HFr : Hid (fr = at_ + cnt) := hfr
  clear hbe hfr hs hc1 hc2
  have hgi : ¬ (xs.length : Int) < (fr : Int) + N + 4 := by omega
  have hnc : ¬ cap = fr := by omega
  have hnn : fr + N - fr = N := by omega
  have ba : Below w.heap.size w (w.alloc (.cells #[] 5)) := (Below.refl _ _).alloc (Nat.le_refl _) _
  have HE : Hid (Own (w.alloc (.cells #[] 5)) w.heap.size (.slice (some ⟨w.heap.size, 0, none⟩) 0 0) []) := empty_own w
  go_enter Try.func77, Try.ntmps77
  go_wp2_with fail
  refine HGet.out.mono ?_
  rintro e w1 ⟨rfl, rfl⟩
  have hcut := cut_rd (at_ := fr) (n := N) HB.out (by omega)
  have hcv : cutV ao cap fr N = .slice (ao.map fun x => x.add fr) N (cap - fr) := by unfold cutV; rw [if_neg hnc]
  rw [hcv] at hcut
  have HCut : Hid (∀ o, RdA (w1.alloc o) (.slice (ao.map fun x => x.add fr) (fr + N - fr) (cap - fr)) ((xs.drop fr).take N)) := fun o => by
    rw [hnn]
    exact hcut.below ((Below.refl _ _).alloc (Nat.le_refl _) _) (Nat.le_refl _)
  have HPl : Hid (((xs.drop fr).take N).length = N) := by simp [Hid]; omega
  have HL : Hid (([] : List Int).length + ((xs.drop fr).take N).length ≤ 140737488355328) := by unfold Hid; rw [HPl.out]; simp; omega
  clear hcut hcv hnn
  go_wp2_with (at_builtin; refine wpList_append_rd _ rfl _ _ 22 rfl Try.underlying22 info5 w1.heap.size _ [] rfl HE.out _ ((xs.drop fr).take N) rfl (HCut.out _) HL.out (by simp) ?_; intro v2 w2 hown2 hgrow2)
  rw [List.nil_append] at hown2
  have b2 : Below w1.heap.size w1 w2 := ba.grown hgrow2 (by simp) (fun k hk => (HE.out.lt k hk).1)
  have s2 := b2.size
  refine (l01Crc_any _ _ ((xs.drop fr).take N) hown2.rd).mono ?_
  rintro e w3 ⟨rfl, rfl⟩
  have HX : Hid (∀ x ∈ (xs.drop fr).take N, 0 ≤ x ∧ x ≤ 255) := hown2.1
  have HC : Hid (crcN ((xs.drop fr).take N) < 4294967296) := crcN_lt HX.out
  have HO2 : Hid (Own w3 w1.heap.size v2 ((xs.drop fr).take N)) := hown2
  clear hown2 hgrow2 HE HCut ba HX
  obtain ⟨P, hP⟩ : ∃ P, P = (xs.drop fr).take N := ⟨_, rfl⟩
  have HPe : Hid (P = (xs.drop fr).take N) := hP
  rw [← hP] at HC HO2 HF HPl ⊢
  clear hP HL
  generalize crcN P = C at HC HF ⊢
  go_wp2_with fail
  refine (l01Four_own C _ HC.out).mono ?_
  rintro e w4 ⟨v4, rfl, HO4, hb4⟩
  have B4 : Below w1.heap.size w1 w4 := b2.trans (hb4.mono s2)
  have HO24 : Hid (Own w4 w1.heap.size v2 P) := HO2.out.below hb4 (Nat.le_refl _)
  have hB4 := HB.out.below B4 (Nat.le_refl _)
  obtain ⟨ao', cap', e', _, _, hxb, h4⟩ := hB4.1
  simp only [Value.slice.injEq, true_and] at e'
  obtain ⟨rfl, rfl⟩ := e'
  obtain ⟨ab, aoff, rfl, hca⟩ := h4 (by omega)
  obtain ⟨o4, c4, e4, hl4, hm4, _, h44⟩ := HO4.rd
  subst e4
  obtain ⟨sb, soff, rfl, hcs⟩ := h44 (by simp [four])
  have HCa : Hid (∀ i, i < xs.length → w4.cell? ⟨ab, aoff + i, none⟩ = some (.int .u8 (xs.getD i 0))) := hca
  have HCs : Hid (∀ i, i < (four C).length → w4.cell? ⟨sb, soff + i, none⟩ = some (.int .u8 ((four C).getD i 0))) := hcs
  have HB4 : Hid (Below w1.heap.size w1 w4) := B4
  clear hca hcs h4 h44 hB4 HO4 hb4 B4 b2 HO2 hm4 hl4 hxb
  have hf4 : (four C).length = 4 := rfl
  rw [hf4]
  clear hf4
  go_wp2
  go_loopw [12] (fun i wr => ∃ j m : Nat, j ≤ 4 ∧ i = .int .i64 j ∧ wr = w4.drewN m ∧ Hid (∀ t, t < j → xs.getD (fr + N + t) 0 = (four C).getD t 0)) (fun i _ => 4 - (intOf i).toNat)
  case atStart => exact ⟨0, 0, by omega, rfl, rfl, hide (fun t ht => by omega)⟩
  case round =>
    obtain ⟨j, m, hj, rfl, rfl, HR⟩ := hrel
    by_cases hj4 : j < 4
    · have hc1 := HCa.out (fr + N + j) (by omega)
      have hc2 := HCs.out j hj4
      by_cases heq : xs.getD (fr + N + j) 0 = (four C).getD j 0
      · have HR' : Hid (∀ t, t < j + 1 → xs.getD (fr + N + t) 0 = (four C).getD t 0) := fun t ht => by
          by_cases e : t = j
          · subst e; exact heq
          · exact HR.out t (by omega)
        rw [heq] at hc1
        clear heq HR
        generalize (four C).getD j 0 = y at hc1 hc2
        go_wp2
        go_quiet (fail)
        go_wp2
        go_roundw
        case rel => exact ⟨j + 1, _, by omega, by go_num, rfl, HR'⟩
        case measure => simp [intOf]; omega
      · have hbn : (xs.getD (fr + N + j) 0 != (four C).getD j 0) = true := by rw [bne_iff_ne]; exact heq
        have hfa : fa = (8, [], 0) := by
          rw [HF.out, if_neg]
          intro e
          apply heq
          rw [e, List.getD_eq_getElem?_getD, List.getD_eq_getElem?_getD, List.getElem?_take, if_pos hj4, List.getElem?_drop]
        subst hfa
        clear heq HR HF
        generalize xs.getD (fr + N + j) 0 = y1 at hc1 hbn
        generalize (four C).getD j 0 = y2 at hc2 hbn
        go_wp2
        go_quiet (fail)
        go_wp2
        go_ret3
        refine ⟨.slice (some ⟨w4.heap.size, 0, none⟩) 0 0, ?_⟩
        exact ⟨rfl, (empty_own _).mono HB4.out.size, (below_drewN HB4.out _).alloc (by have := HB4.out.size; simp; omega) _⟩
    · have hfa : fa = (-1, P, cnt + (N + 4)) := by
        rw [HF.out, if_pos]
        apply List.ext_getElem?
        intro t
        by_cases ht : t < 4
        · have := HR.out t (by omega)
          rw [List.getD_eq_getElem?_getD, List.getD_eq_getElem?_getD] at this
          rw [List.getElem?_take, if_pos ht, List.getElem?_drop, List.getElem?_eq_getElem (show fr + N + t < xs.length by omega)]
          rw [List.getElem?_eq_getElem (show t < (four C).length from ht)] at this ⊢
          rw [List.getElem?_eq_getElem (show fr + N + t < xs.length by omega)] at this
          simp only [Option.getD_some] at this
          rw [this]
        · rw [List.getElem?_eq_none (by simp [four]; omega), List.getElem?_eq_none (by simp; omega)]
      subst hfa
      clear HF
      go_wp2
      go_ret3
      refine ⟨v2, ?_⟩
      refine ⟨?_, by exact HO24.out, below_drewN HB4.out _⟩
      exact ret_mid (by have := HFr.out; omega)

/-- What the model's next frame is, whole or not. -/
theorem next_any (w : World) (ao : Option Addr) (cap at_ : Nat) (xs : List Int) (hb : RdA w (.slice ao xs.length cap) xs) (hat : at_ ≤ xs.length) (hl : xs.length ≤ 65536) :
    Calls Try.prog 77 #[.slice ao xs.length cap, .int .i64 at_] w fun e w' => ∃ v, if (frameAt (xs.drop at_)).1 = -1 then e = .returned (.tuple #[v, .int .i64 (at_ + (frameAt (xs.drop at_)).2.2 : Nat), .int .i64 0]) ∧ Own w' w.heap.size v (frameAt (xs.drop at_)).2.1 ∧ Below w.heap.size w w'
      else e = .returned (.tuple #[v, .int .i64 0, .int .i64 (nextC (frameAt (xs.drop at_)).1)]) ∧ Own w' w.heap.size v [] ∧ Below w.heap.size w w' := by
  by_cases hn : (getR 9 0 0 (xs.drop at_)).2.2 ≠ 0 ∨ 4096 < (getR 9 0 0 (xs.drop at_)).1 ∨ (xs.drop at_).length < (getR 9 0 0 (xs.drop at_)).2.1 + ((getR 9 0 0 (xs.drop at_)).1.toNat + 4)
  · refine (next_early w ao cap at_ xs hb hat hl hn).mono ?_
    rintro e w' ⟨v, h1, h2, h3, h4⟩
    exact ⟨v, by rw [if_neg h2]; exact ⟨h1, h3, h4⟩⟩
  · simp only [not_or, Decidable.not_not] at hn
    exact next_late w ao cap at_ xs hb hat hl hn.1 hn.2.1 hn.2.2

theorem frameAt_code (l : List Int) (h : (frameAt l).1 ≠ -1) : (frameAt l).1 = 0 ∨ (frameAt l).1 = 3 ∨ (frameAt l).1 = 5 ∨ (frameAt l).1 = 8 := by
  unfold frameAt at h ⊢
  split
  · simp
  · split
    · simp
    · split
      · simp
      · split
        · simp
        · split
          · rename_i h1 h2 h3 h4 h5
            rw [if_neg h1, if_neg h2, if_neg h3, if_neg h4, if_pos h5] at h
            simp at h
          · simp
theorem frameAt_nil : frameAt [] = (0, [], 0) := by unfold frameAt; rw [if_pos (by rfl)]

theorem row_mono {w : World} {base base' : Nat} {v : Value} {n : Nat} {us : List Value} (h : w.ownsRow base 22 1 v n us) (hb : base' ≤ base) : w.ownsRow base' 22 1 v n us := by
  obtain ⟨h1, h2 | ⟨g, c, cur, hv, hbg, r⟩⟩ := h
  · exact ⟨h1, .inl h2⟩
  · exact ⟨h1, .inr ⟨g, c, cur, hv, by omega, r⟩⟩
theorem pile_push {wr w1 w2 : World} {base : Nat} {us : List Value} {ps : List (List Int)} {v pv : Value} {p : List Int} {n : Nat} {rs : List Value} {o : Obj} (hp : Pile wr base us ps) (hb1 : Below wr.heap.size wr w1) (HO : Own w1 wr.heap.size v p)
    (hbase : base ≤ wr.heap.size) (hrow : w1.ownsRow base 22 1 pv n rs) (hg : (w1.alloc o).grownBy w2 pv.ownBlock) : Pile w2 base (us ++ [v]) (ps ++ [p]) := by
  have hg1 : w1.grownBy w2 pv.ownBlock := grown_trans (World.grownBy_alloc w1 o pv.ownBlock) hg
  have hp1 := hp.below hb1 (Nat.le_refl _)
  have hp2 : Pile w2 base us ps := ⟨hp1.1, fun i hi => own_kept (hp1.2.1 i hi) hg1 (row_ne (hp1.2.1 i hi) hrow), hp1.2.2⟩
  refine pile_snoc hp2 ((own_kept HO hg1 (row_ne HO hrow)).mono hbase) (fun i hi k hk hvk => ?_)
  have h1 := ((hp.2.1 i hi).lt k hk).2
  have h2 := (HO.lt k hvk).1
  omega

end Go.Proofs.Ytipcdioolafkpaa.specs
