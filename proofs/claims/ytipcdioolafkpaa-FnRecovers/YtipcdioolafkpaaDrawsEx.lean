/- The draws, said so that it is told which block they write. -/
import Derived.Test.YtipcdioolafkpaaDrawsFn
namespace Go.Proofs.Ytipcdioolafkpaa.drawsex
open Go.ChangeShapes Go.WideShapes Go.ChangeAt Go.RowKit
open Go.Proofs.Ytipcdioolafkpaa.bytes Go.Proofs.Ytipcdioolafkpaa.put Go.Proofs.Ytipcdioolafkpaa.pile Go.Proofs.Ytipcdioolafkpaa.join Go.Proofs.Ytipcdioolafkpaa.frames Go.Proofs.Ytipcdioolafkpaa.reader Go.Proofs.Ytipcdioolafkpaa.one Go.Proofs.Ytipcdioolafkpaa.many Go.Proofs.Ytipcdioolafkpaa.draws Go.Proofs.Ytipcdioolafkpaa.payloads Go.Proofs.Ytipcdioolafkpaa.bytefn
open Go.Proofs.Ytipcdioolafkpaa.drawsfn
set_option linter.unusedVariables false

/-- A number is drawn. -/
def NextG (n : Int) (w : World) (d : Nat) (ao : Option Addr) (cap : Nat) (xs : List Int) (at_ : Nat) (r : Int) (w' : World) : Prop :=
  (0 ≤ r ∧ (r < n ∨ (n ≤ 1 ∧ r = 0))) ∧ ∃ (a : Nat) (sd' : Int), a ≤ at_ + 1 ∧ SS w' d ao cap xs a sd' ∧ w.grownBy w' (some d)
set_option maxHeartbeats 1000000 in
theorem next_gr (w : World) (d : Nat) (ao : Option Addr) (cap : Nat) (xs : List Int) (at_ : Nat) (sd : Int) (n : Int) (hn : n ≤ 256) (h : SS w d ao cap xs at_ sd) (hat : at_ ≤ 1000000000000) :
    Calls Try.prog 37 #[.pointer (some ⟨d, 0, none⟩), .int .i64 n] w fun e w' => ∃ r : Int, e = .returned (.int .i64 r) ∧ NextG n w d ao cap xs at_ r w' := by
  by_cases h1 : n ≤ 1
  · have HS : Hid (SS w d ao cap xs at_ sd) := h
    clear h
    go_enter Try.func37, Try.ntmps37
    go_wp2
    go_ret
    exact ⟨0, rfl, ⟨by omega, .inr ⟨h1, rfl⟩⟩, at_, sd, by omega, HS.out, World.grownBy.refl _ _⟩
  · refine (next_fn w d ao cap xs at_ sd n hn (by omega) h hat).mono ?_
    rintro e w' ⟨rfl, hs, hg⟩
    have hb := nextR_bd (n := n) (by omega) xs at_ sd
    exact ⟨_, rfl, ⟨hb.1, .inl hb.2.1⟩, _, _, by omega, hs, hg⟩

/-- Bytes are drawn. -/
def BytesG (n : Nat) (w : World) (d : Nat) (ao : Option Addr) (cap : Nat) (xs : List Int) (at_ : Nat) (v : Value) (w' : World) : Prop :=
  ∃ (ys : List Int) (a : Nat) (sd' : Int), Own w' w.heap.size v ys ∧ ys.length ≤ n ∧ a ≤ at_ + n + 1 ∧ SS w' d ao cap xs a sd' ∧ w.grownBy w' (some d)
set_option maxHeartbeats 2000000 in
theorem bytes_gr (w : World) (d : Nat) (ao : Option Addr) (cap : Nat) (xs : List Int) (at_ : Nat) (sd : Int) (n : Nat) (hn : n ≤ 200) (h : SS w d ao cap xs at_ sd) (hat : at_ ≤ 100000000000) :
    Calls Try.prog 39 #[.pointer (some ⟨d, 0, none⟩), .int .i64 n] w fun e w' => ∃ v, e = .returned v ∧ BytesG n w d ao cap xs at_ v w' := by
  obtain ⟨i0, hi, hz0, hz1, hz2⟩ := info_parts info5
  have HI : Hid (Try.prog.info? 5 = some i0 ∧ i0.zero = some (.int .u8 0) ∧ i0.size = 1 ∧ i0.bytes = 1) := ⟨hi, hz0, hz1, hz2⟩
  clear hi hz0 hz1 hz2
  have HX : Hid (0 < xs.length → ∀ x, ao = some x → x.block < w.heap.size) := rd_lt h.data
  have hd := h.lt
  have hba : Below w.heap.size w (w.alloc (.cells #[] 5)) := (Below.refl _ _).alloc (Nat.le_refl _) _
  have HB := hide (next_gr _ d ao cap xs at_ sd ((n : Int) + 1) (by omega) (h.below hba) (by omega))
  clear h
  go_enter Try.func39, Try.ntmps39
  go_wp2_with fail
  refine HB.out.mono ?_
  rintro e w1 ⟨r, rfl, ⟨r0, r1⟩, a1, sd1, ha1, S1, K1⟩
  obtain ⟨R, rfl⟩ := Int.eq_ofNat_of_zero_le r0
  have hR : R ≤ n := by omega
  have H0 : Hid (Own w1 w.heap.size (.slice (some ⟨w.heap.size, 0, none⟩) 0 0) [] ∧ SS w1 d ao cap xs a1 sd1 ∧ w.grownBy w1 (some d)) := by
    have hO : Own (w.alloc (.cells #[] 5)) w.heap.size (.slice (some ⟨w.heap.size, 0, none⟩) 0 0) [] := ⟨by simp, World.ownsRow_lit _ #[] 0 (Nat.le_refl _) (by simp [maxLen]) (by simp)⟩
    exact hide ⟨own_kept hO K1 (.inr (by simp [Value.ownBlock]; omega)), S1, grown_trans (alloc_grown _ _ _) K1⟩
  clear S1 K1 HB hba r0 r1
  go_wp2
  go_loopw [5, 6] (fun v i wr => ∃ (k : Nat) (ys : List Int) (a : Nat) (sd' : Int), i = .int .i64 k ∧ k + ys.length ≤ n ∧ a + k ≤ at_ + n + 1 ∧ Hid (Own wr w.heap.size v ys ∧ SS wr d ao cap xs a sd' ∧ w.grownBy wr (some d))) (fun _ i _ => (intOf i).toNat)
  case atStart => exact ⟨R, [], a1, sd1, rfl, by simp; omega, by omega, hide ⟨H0.out.1, H0.out.2.1, H0.out.2.2⟩⟩
  case round =>
    obtain ⟨k, ys, a, sd', rfl, hk, ha, HRr⟩ := hrel
    by_cases hk0 : (0 : Int) < k
    · obtain ⟨k', rfl⟩ : ∃ k', k = k' + 1 := ⟨k - 1, by omega⟩
      have HN := hide (next_gr wr d ao cap xs a sd' 256 (by omega) HRr.out.2.1 (by omega))
      go_wp2_with fail
      refine HN.out.mono ?_
      rintro e w2 ⟨r, rfl, ⟨r0, r1⟩, a2, sd2, ha2, S2, K2⟩
      have hr2 : 0 ≤ r ∧ r ≤ 255 := by omega
      have hlow := HRr.out.1.lt
      have O2 : Own w2 w.heap.size u5 ys := own_kept HRr.out.1 K2 (by
        cases hv : u5.ownBlock with
        | none => exact .inl rfl
        | some k => exact .inr (by have := (hlow k hv).1; simp; omega))
      have hsz := HRr.out.2.2.size
      have hsz2 := K2.size
      have hsw : w.heap.size ≤ w2.heap.size := by omega
      have hrm : r % 256 = r := by omega
      have HR2 : Hid (Own w2 w.heap.size u5 ys ∧ SS w2 d ao cap xs a2 sd2 ∧ w.grownBy w2 (some d)) := ⟨O2, S2, grown_trans HRr.out.2.2 K2⟩
      clear O2 S2 K2 HRr HN hlow r0 r1
      go_wp2_with (at_builtin; refine wpList_append_own _ rfl _ _ 22 rfl w.heap.size 5 i0 (.int .u8 0) 1 1 Try.underlying22 HI.out.1 HI.out.2.1 HI.out.2.2.1 HI.out.2.2.2 rfl (by decide) _ _ _ rfl (HR2.out.1.2.alloc _) ⟨w2.heap.size, 0, none⟩ 1 1 [.int .u8 r] rfl rfl (cell_one_new _ _ _) ?c2 ?c3 ?c4 ?c5 ?_)
      case c2 => intro u hu; simp at hu; subst hu; rfl
      case c3 => unfold maxLen; omega
      case c4 => omega
      case c5 => first | omega | (simp; omega)
      intro v' w3 hown' hgrow _
      have HS : Hid (Own w3 w.heap.size v' (ys ++ [r]) ∧ SS w3 d ao cap xs a2 sd2 ∧ w.grownBy w3 (some d)) := by
        have hlow := HR2.out.1.lt
        have hg : w2.grownBy w3 u5.ownBlock := grown_trans (World.grownBy_alloc w2 _ _) hgrow
        refine hide ⟨own_snoc (w := w2) HR2.out.1.1 hr2 hown', SS.grown HR2.out.2.1 hg (fun e => ?_) (fun hp x hx e => ?_), ?_⟩
        · have := (hlow _ e).1; omega
        · have := (hlow _ e).1; have := HX.out hp x hx; omega
        · have h1 := HR2.out.2.2
          refine ⟨hg.os.trans h1.os, hg.tape.trans h1.tape, hg.output.trans h1.output, Nat.le_trans h1.size hg.size, fun i hi hni => (hg.block i (by omega) (fun e => ?_)).trans (h1.block i hi hni)⟩
          have := (hlow i e.symm).1
          omega
      clear hown' hgrow HR2 HI
      go_wp2
      go_roundw
      case rel => exact ⟨k', ys ++ [r], a2, sd2, by go_num, by simp; omega, by omega, HS⟩
      case measure => simp [intOf]
    · have hk1 : k = 0 := by omega
      subst hk1
      go_wp2
      go_ret
      exact ⟨_, rfl, ys, a, sd', HRr.out.1, by omega, by omega, HRr.out.2.1, HRr.out.2.2⟩
set_option maxHeartbeats 1000000 in
theorem size_gr (w : World) (d : Nat) (ao : Option Addr) (cap : Nat) (xs : List Int) (at_ : Nat) (sd : Int) (h : SS w d ao cap xs at_ sd) (n : Int) (hn : 1 ≤ n ∧ n ≤ 100) :
    Calls Try.prog 38 #[.pointer (some ⟨d, 0, none⟩), .int .i64 n] w fun e w' => ∃ r : Int, e = .returned (.int .i64 r) ∧ 1 ≤ r ∧ r ≤ n ∧ ∃ m, w' = w.drewN m := by
  have c0 := h.c0
  obtain ⟨_, ha1, ha2⟩ := le_cap h.data.1
  unfold maxLen at ha2
  clear h
  go_enter Try.func38, Try.ntmps38
  go_wp2
  all_goals
    go_ret
    exact ⟨_, rfl, by omega, by omega, 0, rfl⟩
set_option maxHeartbeats 1000000 in
theorem chance_gr (w : World) (d : Nat) (ao : Option Addr) (cap : Nat) (xs : List Int) (at_ : Nat) (sd : Int) (n : Int) (hn : 1 ≤ n ∧ n ≤ 256) (h : SS w d ao cap xs at_ sd) (hat : at_ ≤ 1000000000000) :
    Calls Try.prog 76 #[.pointer (some ⟨d, 0, none⟩), .int .i64 n] w fun e w' => ∃ b : Bool, e = .returned (.bool b) ∧ ∃ (a : Nat) (sd' : Int), a ≤ at_ + 1 ∧ SS w' d ao cap xs a sd' ∧ w.grownBy w' (some d) := by
  have HN := hide (next_gr w d ao cap xs at_ sd n hn.2 h hat)
  clear h
  go_enter Try.func76, Try.ntmps76
  go_wp2_with fail
  refine HN.out.mono ?_
  rintro e w1 ⟨r, rfl, ⟨r0, r1⟩, hF⟩
  have HF := hide hF
  clear hF HN
  go_wp2
  go_ret
  exact ⟨_, rfl, HF.out⟩
end Go.Proofs.Ytipcdioolafkpaa.drawsex
