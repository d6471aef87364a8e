/- The draws as functions of the code: a number below another, bytes. -/
import Derived.Test.YtipcdioolafkpaaByteFn
namespace Go.Proofs.Ytipcdioolafkpaa.drawsfn
open Go.ChangeShapes Go.WideShapes Go.ChangeAt Go.RowKit
open Go.Proofs.Ytipcdioolafkpaa.bytes Go.Proofs.Ytipcdioolafkpaa.put Go.Proofs.Ytipcdioolafkpaa.pile Go.Proofs.Ytipcdioolafkpaa.join Go.Proofs.Ytipcdioolafkpaa.frames Go.Proofs.Ytipcdioolafkpaa.reader Go.Proofs.Ytipcdioolafkpaa.one Go.Proofs.Ytipcdioolafkpaa.many Go.Proofs.Ytipcdioolafkpaa.draws Go.Proofs.Ytipcdioolafkpaa.payloads Go.Proofs.Ytipcdioolafkpaa.bytefn
set_option linter.unusedVariables false
/-- What next answers, the place and the seed behind it. -/
def nextR (n : Int) (xs : List Int) (a : Nat) (sd : Int) : Int × Nat × Int := if n ≤ 1 then (0, a, sd) else ((byteR xs a sd).1 % n, a + 1, (byteR xs a sd).2)
theorem nextR_bd {n : Int} (hn : 1 < n) (xs : List Int) (a : Nat) (sd : Int) : 0 ≤ (nextR n xs a sd).1 ∧ (nextR n xs a sd).1 < n ∧ (nextR n xs a sd).2.1 = a + 1 := by
  unfold nextR
  rw [if_neg (by omega)]
  exact ⟨Int.emod_nonneg _ (by omega), Int.emod_lt_of_pos _ (by omega), rfl⟩

set_option maxHeartbeats 1000000 in
theorem next_fn (w : World) (d : Nat) (ao : Option Addr) (cap : Nat) (xs : List Int) (at_ : Nat) (sd : Int) (n : Int) (hn : n ≤ 256) (h1 : 1 < n) (h : SS w d ao cap xs at_ sd) (hat : at_ ≤ 1000000000000) :
    Calls Try.prog 37 #[.pointer (some ⟨d, 0, none⟩), .int .i64 n] w fun e w' => e = .returned (.int .i64 (nextR n xs at_ sd).1) ∧ SS w' d ao cap xs (nextR n xs at_ sd).2.1 (nextR n xs at_ sd).2.2 ∧ w.grownBy w' (some d) := by
  have HS : Hid (SS w d ao cap xs at_ sd) := h
  have hb := byteR_bd (rd_bd h.data.1) at_ sd
  have HR : Hid (nextR n xs at_ sd = ((byteR xs at_ sd).1 % n, at_ + 1, (byteR xs at_ sd).2)) := by unfold Hid nextR; rw [if_neg (by omega)]
  have HB := hide (byte_fn w d ao cap xs at_ sd h hat)
  clear h
  rw [HR.out]
  clear HR
  generalize byteR xs at_ sd = r at HB hb ⊢
  have h1' : ¬ n ≤ 1 := by omega
  have h0' : ¬ n = 0 := by omega
  go_enter Try.func37, Try.ntmps37
  go_wp2_with fail
  refine HB.out.mono ?_
  rintro e w1 ⟨rfl, S1, K1⟩
  have HF : Hid (SS w1 d ao cap xs (at_ + 1) r.2 ∧ w.grownBy w1 (some d)) := ⟨S1, K1⟩
  clear S1 K1 HB
  go_wp2
  go_ret
  exact ⟨rfl, HF.out⟩

def sizeN (xs : List Int) : Nat := min (1 + xs.length / 12) 16
set_option maxHeartbeats 1000000 in
theorem size_fn (w : World) (d : Nat) (ao : Option Addr) (cap : Nat) (xs : List Int) (at_ : Nat) (sd : Int) (h : SS w d ao cap xs at_ sd) :
    Calls Try.prog 38 #[.pointer (some ⟨d, 0, none⟩), .int .i64 16] w fun e w' => e = .returned (.int .i64 (sizeN xs)) ∧ ∃ m, w' = w.drewN m := by
  have c0 := h.c0
  obtain ⟨_, ha1, ha2⟩ := le_cap h.data.1
  unfold maxLen at ha2
  clear h
  have hsz : sizeN xs = min (1 + xs.length / 12) 16 := rfl
  generalize sizeN xs = S at hsz ⊢
  have HSz : Hid (S = min (1 + xs.length / 12) 16) := hsz
  clear hsz
  go_enter Try.func38, Try.ntmps38
  go_wp2
  all_goals
    go_ret
    have := HSz.out
    exact ⟨ret_int (by omega), 0, rfl⟩

/-- So many bytes, the place and the seed behind them. -/
def bytesL (xs : List Int) : Nat → Nat → Int → List Int × Nat × Int
  | 0, a, sd => ([], a, sd)
  | k + 1, a, sd => ((nextR 256 xs a sd).1 :: (bytesL xs k (nextR 256 xs a sd).2.1 (nextR 256 xs a sd).2.2).1, (bytesL xs k (nextR 256 xs a sd).2.1 (nextR 256 xs a sd).2.2).2)
theorem bytesL_at (xs : List Int) : ∀ (k a : Nat) (sd : Int), (bytesL xs k a sd).2.1 = a + k ∧ (bytesL xs k a sd).1.length = k
  | 0, a, sd => ⟨rfl, rfl⟩
  | k + 1, a, sd => by
    have h := bytesL_at xs k (nextR 256 xs a sd).2.1 (nextR 256 xs a sd).2.2
    have h2 := (nextR_bd (n := 256) (by decide) xs a sd).2.2
    unfold bytesL
    simp only [List.length_cons]
    omega
/-- What bytes(8) answers. -/
def bytesR (xs : List Int) (a : Nat) (sd : Int) : List Int × Nat × Int := bytesL xs (nextR 9 xs a sd).1.toNat (nextR 9 xs a sd).2.1 (nextR 9 xs a sd).2.2
theorem bytesR_at (xs : List Int) (a : Nat) (sd : Int) : (bytesR xs a sd).2.1 ≤ a + 9 ∧ (bytesR xs a sd).1.length ≤ 8 := by
  have h1 := nextR_bd (n := 9) (by decide) xs a sd
  have h2 := bytesL_at xs (nextR 9 xs a sd).1.toNat (nextR 9 xs a sd).2.1 (nextR 9 xs a sd).2.2
  unfold bytesR
  omega

set_option maxHeartbeats 2000000 in
theorem bytes_fn (w : World) (d : Nat) (ao : Option Addr) (cap : Nat) (xs : List Int) (at_ : Nat) (sd : Int) (h : SS w d ao cap xs at_ sd) (hat : at_ ≤ 100000000000) :
    Calls Try.prog 39 #[.pointer (some ⟨d, 0, none⟩), .int .i64 8] w fun e w' => ∃ v, e = .returned v ∧ Own w' w.heap.size v (bytesR xs at_ sd).1 ∧ SS w' d ao cap xs (bytesR xs at_ sd).2.1 (bytesR xs at_ sd).2.2 ∧ w.grownBy w' (some d) := by
  obtain ⟨i0, hi, hz0, hz1, hz2⟩ := info_parts info5
  have HI : Hid (Try.prog.info? 5 = some i0 ∧ i0.zero = some (.int .u8 0) ∧ i0.size = 1 ∧ i0.bytes = 1) := ⟨hi, hz0, hz1, hz2⟩
  clear hi hz0 hz1 hz2
  have HX : Hid (0 < xs.length → ∀ x, ao = some x → x.block < w.heap.size) := rd_lt h.data
  have hd := h.lt
  have hba : Below w.heap.size w (w.alloc (.cells #[] 5)) := (Below.refl _ _).alloc (Nat.le_refl _) _
  have HB := hide (next_fn _ d ao cap xs at_ sd 9 (by omega) (by omega) (h.below hba) (by omega))
  have hbd := nextR_bd (n := 9) (by decide) xs at_ sd
  have HR : Hid (bytesR xs at_ sd = bytesL xs (nextR 9 xs at_ sd).1.toNat (nextR 9 xs at_ sd).2.1 (nextR 9 xs at_ sd).2.2) := rfl
  clear h
  generalize bytesR xs at_ sd = Tot at HR ⊢
  generalize nextR 9 xs at_ sd = r at HB hbd HR
  obtain ⟨r, a1, sd1⟩ := r
  simp only at HB hbd HR
  obtain ⟨R, rfl⟩ := Int.eq_ofNat_of_zero_le hbd.1
  rw [Int.toNat_natCast] at HR
  have ha1 : a1 = at_ + 1 := hbd.2.2
  have hR : R < 9 := by omega
  clear hbd
  go_enter Try.func39, Try.ntmps39
  go_wp2_with fail
  refine HB.out.mono ?_
  rintro e w1 ⟨rfl, S1, K1⟩
  have H0 : Hid (Own w1 w.heap.size (.slice (some ⟨w.heap.size, 0, none⟩) 0 0) [] ∧ SS w1 d ao cap xs a1 sd1 ∧ w.grownBy w1 (some d)) := by
    have hO : Own (w.alloc (.cells #[] 5)) w.heap.size (.slice (some ⟨w.heap.size, 0, none⟩) 0 0) [] := ⟨by simp, World.ownsRow_lit _ #[] 0 (Nat.le_refl _) (by simp [maxLen]) (by simp)⟩
    exact hide ⟨own_kept hO K1 (.inr (by simp [Value.ownBlock]; omega)), S1, grown_trans (alloc_grown _ _ _) K1⟩
  clear S1 K1 HB hba
  go_wp2
  go_loopw [5, 6] (fun v i wr => ∃ (k : Nat) (ys : List Int) (a : Nat) (sd' : Int), i = .int .i64 k ∧ k + ys.length ≤ 8 ∧ a + k ≤ at_ + 9 ∧ Hid (Own wr w.heap.size v ys ∧ SS wr d ao cap xs a sd' ∧ w.grownBy wr (some d) ∧ Tot = (ys ++ (bytesL xs k a sd').1, (bytesL xs k a sd').2))) (fun _ i _ => (intOf i).toNat)
  case atStart => exact ⟨R, [], a1, sd1, rfl, by simp; omega, by omega, hide ⟨H0.out.1, H0.out.2.1, H0.out.2.2, by rw [HR.out]; rfl⟩⟩
  case round =>
    obtain ⟨k, ys, a, sd', rfl, hk, ha, HRr⟩ := hrel
    by_cases hk0 : (0 : Int) < k
    · obtain ⟨k', rfl⟩ : ∃ k', k = k' + 1 := ⟨k - 1, by omega⟩
      have HN := hide (next_fn wr d ao cap xs a sd' 256 (by omega) (by omega) HRr.out.2.1 (by omega))
      have hb := nextR_bd (n := 256) (by decide) xs a sd'
      have HL : Hid (Tot = (ys ++ ((nextR 256 xs a sd').1 :: (bytesL xs k' (nextR 256 xs a sd').2.1 (nextR 256 xs a sd').2.2).1), (bytesL xs k' (nextR 256 xs a sd').2.1 (nextR 256 xs a sd').2.2).2)) := HRr.out.2.2.2
      generalize nextR 256 xs a sd' = q at HN hb HL
      obtain ⟨r, a2, sd2⟩ := q
      simp only at HN hb HL
      have hr2 : 0 ≤ r ∧ r ≤ 255 := by omega
      have ha2 : a2 = a + 1 := hb.2.2
      clear hb
      go_wp2_with fail
      refine HN.out.mono ?_
      rintro e w2 ⟨rfl, S2, K2⟩
      have hlow := HRr.out.1.lt
      have O2 : Own w2 w.heap.size u5 ys := own_kept HRr.out.1 K2 (by
        cases hv : u5.ownBlock with
        | none => exact .inl rfl
        | some k => exact .inr (by have := (hlow k hv).1; simp; omega))
      have hsz := HRr.out.2.2.1.size
      have hsz2 := K2.size
      have hsw : w.heap.size ≤ w2.heap.size := by omega
      have hrm : r % 256 = r := by omega
      have HR2 : Hid (Own w2 w.heap.size u5 ys ∧ SS w2 d ao cap xs a2 sd2 ∧ w.grownBy w2 (some d)) := ⟨O2, S2, grown_trans HRr.out.2.2.1 K2⟩
      clear O2 S2 K2 HRr HN hlow
      go_wp2_with (at_builtin; refine wpList_append_own _ rfl _ _ 22 rfl w.heap.size 5 i0 (.int .u8 0) 1 1 Try.underlying22 HI.out.1 HI.out.2.1 HI.out.2.2.1 HI.out.2.2.2 rfl (by decide) _ _ _ rfl (HR2.out.1.2.alloc _) ⟨w2.heap.size, 0, none⟩ 1 1 [.int .u8 r] rfl rfl (cell_one_new _ _ _) ?c2 ?c3 ?c4 ?c5 ?_)
      case c2 => intro u hu; simp at hu; subst hu; rfl
      case c3 => unfold maxLen; omega
      case c4 => omega
      case c5 => first | omega | (simp; omega)
      intro v' w3 hown' hgrow _
      have HS : Hid (Own w3 w.heap.size v' (ys ++ [r]) ∧ SS w3 d ao cap xs a2 sd2 ∧ w.grownBy w3 (some d) ∧ Tot = ((ys ++ [r]) ++ (bytesL xs k' a2 sd2).1, (bytesL xs k' a2 sd2).2)) := by
        have hlow := HR2.out.1.lt
        have hg : w2.grownBy w3 u5.ownBlock := grown_trans (World.grownBy_alloc w2 _ _) hgrow
        refine hide ⟨own_snoc (w := w2) HR2.out.1.1 hr2 hown', SS.grown HR2.out.2.1 hg (fun e => ?_) (fun hp x hx e => ?_), ?_, by rw [HL.out]; simp⟩
        · have := (hlow _ e).1; omega
        · have := (hlow _ e).1; have := HX.out hp x hx; omega
        · have h1 := HR2.out.2.2
          refine ⟨hg.os.trans h1.os, hg.tape.trans h1.tape, hg.output.trans h1.output, Nat.le_trans h1.size hg.size, fun i hi hni => (hg.block i (by omega) (fun e => ?_)).trans (h1.block i hi hni)⟩
          have := (hlow i e.symm).1
          omega
      clear hown' hgrow HR2 HI
      go_wp2
      go_roundw
      case rel => exact ⟨k', ys ++ [r], a2, sd2, by go_num, by simp; omega, by omega, HS⟩
      case measure => simp [intOf]
    · have hk1 : k = 0 := by omega
      subst hk1
      have hfin := HRr.out
      simp only [bytesL, List.append_nil] at hfin
      have HF := hide hfin
      clear HRr hfin
      go_wp2
      go_ret
      rw [HF.out.2.2.2]
      exact ⟨_, rfl, HF.out.1, HF.out.2.1, HF.out.2.2.1⟩

set_option maxHeartbeats 400000 in
theorem source_fn (w : World) (ao : Option Addr) (cap : Nat) (xs : List Int) (h : RdA w (.slice ao xs.length cap) xs) :
    Calls Try.prog 36 #[.slice ao xs.length cap] w fun e w' => e = .returned (.pointer (some ⟨w.heap.size, 0, none⟩)) ∧ w.heap.size < w'.heap.size ∧ Below w.heap.size w w' ∧ SS w' w.heap.size ao cap xs 0 ((xs.length : Int) % 1000) := by
  have HR : Hid (RdA w (.slice ao xs.length cap) xs) := h
  obtain ⟨_, h1, h2⟩ := le_cap h.1
  unfold maxLen at h2
  clear h
  go_enter Try.func36, Try.ntmps36
  go_wp2
  go_ret
  have hb : ∀ s : Int, Below w.heap.size w (w.alloc (.cells #[.slice ao xs.length cap, .int .i64 0, .int .i64 s] 96)) := fun s => (Below.refl _ _).alloc (Nat.le_refl _) _
  refine ⟨rfl, by simp, hb _, heap_alloc_new w _, HR.out.below (hb _) (Nat.le_refl _), fun hp x hx => ?_, ?_, ?_⟩
  · have := rd_lt HR.out hp x hx
    omega
  · omega
  · omega
end Go.Proofs.Ytipcdioolafkpaa.drawsfn
