/- The program's recovery: the loop over the frames, and the answer. -/
import Derived.Test.YtipcdioolafkpaaGoesAlong
import Derived.Deep.LoopGhost
namespace Go.Proofs.Ytipcdioolafkpaa.recovers
open Go.ChangeShapes Go.WideShapes Go.ChangeAt Go.RowKit
open Go.Proofs.Ytipcdioolafkpaa.bytes Go.Proofs.Ytipcdioolafkpaa.pile Go.Proofs.Ytipcdioolafkpaa.put Go.Proofs.Ytipcdioolafkpaa.crcs Go.Proofs.Ytipcdioolafkpaa.join Go.Proofs.Ytipcdioolafkpaa.frames Go.Proofs.Ytipcdioolafkpaa.get Go.Proofs.Ytipcdioolafkpaa.dec Go.Proofs.Ytipcdioolafkpaa.take Go.Proofs.Ytipcdioolafkpaa.one Go.Proofs.Ytipcdioolafkpaa.votes Go.Proofs.Ytipcdioolafkpaa.pays Go.Proofs.Ytipcdioolafkpaa.rechelp Go.Proofs.Ytipcdioolafkpaa.recrows Go.Proofs.Ytipcdioolafkpaa.recov Go.Proofs.Ytipcdioolafkpaa.fits Go.Proofs.Ytipcdioolafkpaa.logput Go.Proofs.Ytipcdioolafkpaa.fite Go.Proofs.Ytipcdioolafkpaa.readrec Go.Proofs.Ytipcdioolafkpaa.readrecord Go.Proofs.Ytipcdioolafkpaa.goesalong
set_option linter.unusedVariables false

theorem recL_none {xs : List Int} {f : Nat} {s : St} {a : Nat} (h : (frameAt (xs.drop a)).1 ≠ -1) : recL xs (f + 1) s a = (s, a) := by rw [recL, if_neg h]
theorem recL_stop {xs : List Int} {f : Nat} {s : St} {a : Nat} (h : (frameAt (xs.drop a)).1 = -1) (ht : takeS s (frameAt (xs.drop a)).2.1 = none) : recL xs (f + 1) s a = (s, a) := by rw [recL, if_pos h, ht]
theorem recL_some {xs : List Int} {f : Nat} {s s' : St} {a : Nat} (h : (frameAt (xs.drop a)).1 = -1) (ht : takeS s (frameAt (xs.drop a)).2.1 = some s') : recL xs (f + 1) s a = recL xs f s' (a + (frameAt (xs.drop a)).2.2) := by rw [recL, if_pos h, ht]
/-- What the loop holds. -/
def LoopS (w0 wr : World) (B rb : Nat) (ao : Option Addr) (cap : Nat) (xs : List Int) (R : St × Nat) (s : St) (a f : Nat) : Prop := RG w0 wr B rb ao cap xs s a a ∧ baseIn s ∧ recL xs (f + 1) s a = R ∧ xs.length - a < f + 1

set_option maxHeartbeats 4000000 in
theorem run_any (w0 w : World) (B rb : Nat) (ao : Option Addr) (cap : Nat) (xs : List Int) (s0 : St) (h : RG w0 w B rb ao cap xs s0 0 0) (hs : baseIn s0) (R : St × Nat) (hR : recL xs (xs.length + 1) s0 0 = R) :
    Calls Try.prog 53 #[.pointer (some ⟨rb, 0, none⟩)] w fun e w' => e = .returned (.tuple #[]) ∧ ∃ a', RG w0 w' B rb ao cap xs R.1 R.2 a' := by
  have HL : Hid (LoopS w0 w B rb ao cap xs R s0 0 xs.length) := ⟨h, hs, hR, by omega⟩
  have hlen := h.len
  clear h hs hR
  go_enter Try.func53, Try.ntmps53
  go_wp2
  go_loopg [2] xs.length (fun g s wr => ∃ (a : Nat) (s : St) (f : Nat), g = xs.length - a ∧ a ≤ xs.length ∧ Hid (LoopS w0 wr B rb ao cap xs R s a f))
  case atStart => exact ⟨0, s0, xs.length, rfl, Nat.zero_le _, HL⟩
  case round =>
    obtain ⟨a, s, f, rfl, hle, HR⟩ := hrel
    clear HL
    by_cases hw : (frameAt (xs.drop a)).1 = -1
    · have HW : Hid ((frameAt (xs.drop a)).1 = -1) := hw
      obtain ⟨hm1, hm2, hm3⟩ := frameAt_more _ hw
      rw [List.length_drop] at hm2
      clear hw
      have HC : Hid (Calls Try.prog 61 #[.pointer (some ⟨rb, 0, none⟩)] wr fun e w' => ∃ o c, e = .returned (.tuple #[.slice o (frameAt (xs.drop a)).2.1.length c, .bool true, .int .i64 0]) ∧ RdA w' (.slice o (frameAt (xs.drop a)).2.1.length c) (frameAt (xs.drop a)).2.1 ∧ RG w0 w' B rb ao cap xs s a (a + (frameAt (xs.drop a)).2.2)) :=
        frame_some (goes hlen) wr a HR.out.1 HW.out
      have HT : Hid ((takeS s (frameAt (xs.drop a)).2.1 = none → (s, a) = R) ∧ ∀ s', takeS s (frameAt (xs.drop a)).2.1 = some s' → recL xs f s' (a + (frameAt (xs.drop a)).2.2) = R) := ⟨fun ht => by rw [← HR.out.2.2.1, recL_stop HW.out ht], fun s' ht => by rw [← HR.out.2.2.1, recL_some HW.out ht]⟩
      clear HW
      generalize (frameAt (xs.drop a)).2.2 = sz at HC HT hm1 hm2
      generalize (frameAt (xs.drop a)).2.1 = P at HC HT hm3
      go_wp2_with fail
      refine HC.out.mono ?_
      rintro e w6 ⟨o6, c6, rfl, hpay, R6⟩
      have HF := hide (read_fit R6 HR.out.2.1 o6 c6 P hpay (by omega))
      clear hpay R6 HC
      go_wp2_with fail
      refine HF.out.mono ?_
      rintro e w7 ⟨G7, h7⟩
      have HG7 := hide G7
      clear G7 HF
      rcases h7 with ⟨r, rfl, hn⟩ | ⟨r, rfl, hf⟩
      · have HE : Hid ((s, a) = R) := HT.out.1 hn
        clear hn HT
        go_wp2
        (first | go_end0 | ((try simp only [Exit.inBlock, Exit.then]); refine bodyPost_ret (results_none rfl _ _ _) rfl ?_))
        obtain rfl := HE.out
        exact ⟨rfl, _, HG7.out⟩
      · have HF := hide hf
        clear hf
        cases ht : takeS s P with
        | none =>
          have HE : Hid ((s, a) = R) := HT.out.1 ht
          rw [ht] at HF
          clear ht HT
          go_wp2_with fail
          refine HF.out.mono ?_
          rintro e w8 ⟨rfl, hrv, hb8⟩
          have HG8 := hide (HG7.out.step hrv hb8 HG7.out.le)
          clear hrv hb8 HF
          go_wp2
          (first | go_end0 | ((try simp only [Exit.inBlock, Exit.then]); refine bodyPost_ret (results_none rfl _ _ _) rfl ?_))
          obtain rfl := HE.out
          exact ⟨rfl, _, HG8.out⟩
        | some s' =>
          have HE : Hid (recL xs f s' (a + sz) = R ∧ baseIn s') := ⟨HT.out.2 s' ht, take_base HR.out.2.1 ht⟩
          rw [ht] at HF
          clear ht HT
          go_wp2_with fail
          refine HF.out.mono ?_
          rintro e w8 ⟨rfl, hrv, hb8⟩
          have hG8 : RG w0 w8 B rb ao cap xs s' a (a + sz) := HG7.out.step hrv hb8 HG7.out.le
          have HG9 := hide (hG8.good (a + sz))
          have c1 : w8.cell? ⟨rb, 1, none⟩ = some (.int .i64 ((a + sz : Nat) : Int)) := (goes (w0 := w0) (B := B) (s := s') (good := a) hlen).c1 hG8
          obtain ⟨_, _, hv8⟩ := hG8.rv
          have f7 := frozen_of hv8.blk 7
          have c7 : w8.cell? ⟨rb, 7, none⟩ = some (.int .i64 (a : Nat)) := cell_of hv8.blk rfl
          clear hrv hb8 HF hG8 hv8
          go_wp2
          go_roundg (xs.length - (a + sz))
          case measure => omega
          case rel =>
            have hff : f ≠ 0 := by have := HR.out.2.2.2; omega
            obtain ⟨f', rfl⟩ := Nat.exists_eq_succ_of_ne_zero hff
            exact ⟨a + sz, s', f', rfl, by omega, hide ⟨HG9.out, HE.out.2, HE.out.1, by have := HR.out.2.2.2; omega⟩⟩
    · have HE : Hid ((s, a) = R) := by rw [← HR.out.2.2.1, recL_none hw]; exact hide rfl
      have HC : Hid (Calls Try.prog 61 #[.pointer (some ⟨rb, 0, none⟩)] wr fun e w' => e = .returned (.tuple #[.slice none 0 0, .bool false, .int .i64 (frameAt (xs.drop a)).1]) ∧ ∃ a', RG w0 w' B rb ao cap xs s a a') :=
        frame_none (goes hlen) wr a HR.out.1 hw
      clear hw
      generalize (frameAt (xs.drop a)).1 = cc at HC
      go_wp2_with fail
      refine HC.out.mono ?_
      rintro e w6 ⟨rfl, a6, R6⟩
      have HG := hide R6
      clear R6 HC
      go_wp2
      (first | go_end0 | ((try simp only [Exit.inBlock, Exit.then]); refine bodyPost_ret (results_none rfl _ _ _) rfl ?_))
      obtain rfl := HE.out
      exact ⟨rfl, _, HG.out⟩
end Go.Proofs.Ytipcdioolafkpaa.recovers
