/- The reader of a script: what it sees, takes, goes over. -/
import Derived.Test.YtdhachmelgdknaaGreatDoorRdr
namespace Go.Proofs.YtdhachmelgdknaaGreatDoor.rdr
open Go.ChangeShapes Go.WideShapes Go.ChangeAt Go.RowKit
open Go.Proofs.YtdhachmelgdknaaGreatDoor.bas
set_option linter.unusedVariables false
theorem sees_at (T S : ByteArray) (p : Nat) (h : p < T.size) : seesP T S p = decide (0 ≤ Lib.indexByte S.data.toList (((T[p]'h).toNat : Int).toNat.toUInt8)) := by
  have e : T.data.toList[p]? = some (T[p]'h) := by
    rw [List.getElem?_eq_getElem (by exact h)]
    rfl
  unfold seesP
  rw [e]
  show isIn S (T[p]'h) = _
  unfold isIn
  have e2 : ((T[p]'h).toNat : Int).toNat.toUInt8 = T[p]'h := by simp
  rw [e2]
theorem sees_end (T S : ByteArray) (p : Nat) (h : T.size ≤ p) : seesP T S p = false := by
  unfold seesP
  rw [List.getElem?_eq_none (by exact h)]
set_option maxHeartbeats 1600000 in
theorem sees_any (w : World) (d : Nat) (q : Q) (S : ByteArray) (h : RB w d q) (hp : q.pl ≤ q.T.size) (hT : q.T.size ≤ 100000) :
    Calls Tryz.prog 83 #[.pointer (some ⟨d, 0, none⟩), .string S] w fun e w' => e = .returned (.bool (seesP q.T S q.pl)) ∧ ∃ n, w' = w.drewN n := by
  have c0 := h.c0
  have c2 := h.c2
  have HE : Hid (∀ n, Calls Tryz.prog 85 #[.pointer (some ⟨d, 0, none⟩)] (w.drewN n) fun e w' => e = .returned (.bool (decide (q.pl = q.T.size))) ∧ ∃ m, w' = (w.drewN n).drewN m) := fun n => ended_any (w.drewN n) d q h hp hT
  obtain ⟨T, eT⟩ : ∃ T, q.T = T := ⟨_, rfl⟩
  obtain ⟨p, ep⟩ : ∃ p, q.pl = p := ⟨_, rfl⟩
  rw [eT] at c0 HE hp hT
  rw [ep] at c2 HE hp
  rw [eT, ep]
  clear h eT ep
  by_cases hlt : p < T.size
  · rw [decide_eq_false (show ¬ p = T.size by omega)] at HE
    rw [sees_at T S p hlt]
    obtain ⟨c, hc⟩ : ∃ c, (T[p]'hlt).toNat = c := ⟨_, rfl⟩
    rw [hc]
    have HI : Hid (∀ W, Calls Tryz.prog 88 #[.string S, .int .u8 (c : Nat)] W fun e w' => e = .returned (.int .i64 (Lib.indexByte S.data.toList ((c : Int).toNat.toUInt8))) ∧ w' = W) := fun W => Tryz.strings_IndexByte S c W
    obtain ⟨ix, hix⟩ : ∃ ix, Lib.indexByte S.data.toList ((c : Int).toNat.toUInt8) = ix := ⟨_, rfl⟩
    rw [hix] at HI ⊢
    clear hix
    go_enter Tryz.func83, Tryz.ntmps83
    go_wp2
    go_quiet (first | (go_at_call 85; refine Calls.quiet_of (HE.out _)) | (go_at_call 88; refine Calls.quiet_of_same (HI.out _)))
    go_wp2
    go_ret
    refine ⟨?_, _, rfl⟩
    first | rfl | (simp)
  · have hpe : p = T.size := by omega
    rw [decide_eq_true hpe] at HE
    rw [sees_end T S p (by omega)]
    clear hlt
    go_enter Tryz.func83, Tryz.ntmps83
    go_wp2
    go_quiet (first | (go_at_call 85; refine Calls.quiet_of (HE.out _)))
    go_wp2
    go_ret
    exact ⟨rfl, _, rfl⟩
/-- Behind a call that moves the reader to a place. -/
def AtE (w : World) (d : Nat) (q : Q) (k : Nat) (v : Value) (e : Ending) (w' : World) : Prop := e = .returned v ∧ RB w' d { q with pl := k } ∧ w.grownBy w' (some d)
set_option maxHeartbeats 800000 in
theorem takes_any (w : World) (d : Nat) (q : Q) (S : ByteArray) (h : RB w d q) (hp : q.pl ≤ q.T.size) (hT : q.T.size ≤ 100000) :
    Calls Tryz.prog 87 #[.pointer (some ⟨d, 0, none⟩), .string S] w fun e w' => AtE w d q (if seesP q.T S q.pl then q.pl + 1 else q.pl) (.bool (seesP q.T S q.pl)) e w' := by
  have HS := hide (sees_any w d q S h hp hT)
  cases hb : seesP q.T S q.pl with
  | false =>
    rw [hb] at HS
    have HF : Hid (∀ n, AtE w d q (if false = true then q.pl + 1 else q.pl) (.bool false) (.returned (.bool false)) (w.drewN n)) := fun n => ⟨rfl, h, grown_drew (grown_refl w d) n⟩
    clear h hp hT hb
    go_enter Tryz.func87, Tryz.ntmps87
    go_wp2_with fail
    refine HS.out.mono ?_
    rintro e w' ⟨rfl, n, rfl⟩
    clear HS
    go_wp2
    go_ret
    exact HF.out n
  | true =>
    rw [hb] at HS
    have c2 := h.c2
    have f2 := h.fz 2
    have HF : Hid (∀ n, AtE w d q (if true = true then q.pl + 1 else q.pl) (.bool true) (.returned (.bool true)) ((w.drewN n).setCell ⟨d, 2, none⟩ (.int .i64 ((q.pl : Int) + 1)))) := fun n => ⟨rfl, by
      have := RB.set2 (w := w.drewN n) h (q.pl + 1)
      rw [show (((q.pl + 1 : Nat) : Nat) : Int) = (q.pl : Int) + 1 by omega] at this
      exact this, grown_set (grown_drew (grown_refl w d) n) _ _⟩
    obtain ⟨p, ep⟩ : ∃ p, q.pl = p := ⟨_, rfl⟩
    rw [ep] at c2 HF hp ⊢
    clear h hb ep
    go_enter Tryz.func87, Tryz.ntmps87
    go_wp2_with fail
    refine HS.out.mono ?_
    rintro e w' ⟨rfl, n, rfl⟩
    clear HS
    have c2' : (w.drewN n).cell? ⟨d, 2, none⟩ = some (.int .i64 (p : Nat)) := c2
    have f2' : (w.drewN n).frozen? ⟨d, 2, none⟩ = false := f2
    go_wp2
    go_ret
    exact HF.out n
end Go.Proofs.YtdhachmelgdknaaGreatDoor.rdr
