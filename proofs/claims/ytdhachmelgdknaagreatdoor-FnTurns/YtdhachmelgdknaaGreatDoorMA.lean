/- The reader goes to a command, and behind one. -/
import Derived.Test.YtdhachmelgdknaaGreatDoorBas
import Derived.Deep.LoopGhost
/- The reader of a script: where it stands, what it sees and goes over. -/
namespace Go.Proofs.YtdhachmelgdknaaGreatDoor.rdr
open Go.ChangeShapes Go.WideShapes Go.ChangeAt Go.RowKit
open Go.Proofs.YtdhachmelgdknaaGreatDoor.bas
set_option linter.unusedVariables false
/-- A reader of a script. -/
structure Q where
  T : ByteArray
  ere : Bool
  pl : Nat
  bg : Int
  nm : Int
  tk : Value
  ls : Value
  op : Value
  lb : Value
  jp : Value
def Q.cells (q : Q) : Array Value := #[.string q.T, .bool q.ere, .int .i64 (q.pl : Nat), .int .i64 q.bg, .int .i64 q.nm, q.tk, q.ls, q.op, q.lb, q.jp]
/-- The reader at block d. -/
def RB (w : World) (d : Nat) (q : Q) : Prop := w.heap[d]? = some (.cells q.cells 74 (0, 0))
theorem RB.lt {w : World} {d : Nat} {q : Q} (h : RB w d q) : d < w.heap.size := (Array.getElem?_eq_some_iff.1 h).1
theorem RB.c0 {w : World} {d : Nat} {q : Q} (h : RB w d q) : w.cell? ⟨d, 0, none⟩ = some (.string q.T) := cell_of h rfl
theorem RB.c2 {w : World} {d : Nat} {q : Q} (h : RB w d q) : w.cell? ⟨d, 2, none⟩ = some (.int .i64 (q.pl : Nat)) := cell_of h rfl
theorem RB.fz {w : World} {d : Nat} {q : Q} (h : RB w d q) (i : Nat) : w.frozen? ⟨d, i, none⟩ = false := frozen_of h i
theorem RB.keep {w w' : World} {d : Nat} {q : Q} (h : RB w d q) (hk : w'.heap[d]? = w.heap[d]?) : RB w' d q := hk.trans h
theorem RB.below {w w' : World} {d : Nat} {q : Q} (h : RB w d q) (hb : Below w.heap.size w w') : RB w' d q := h.keep (hb.block d h.lt)
theorem RB.set2 {w : World} {d : Nat} {q : Q} (h : RB w d q) (k : Nat) : RB (w.setCell ⟨d, 2, none⟩ (.int .i64 (k : Nat))) d { q with pl := k } := by
  have := heap_setCell_same w d 2 _ 74 (.int .i64 (k : Nat)) h
  simpa [RB, Q.cells] using this
/-- Whether a byte is one of some. -/
def isIn (S : ByteArray) (c : UInt8) : Bool := decide (0 ≤ Lib.indexByte S.data.toList c)
/-- Whether one of some bytes stands at a place. -/
def seesP (T S : ByteArray) (p : Nat) : Bool := match T.data.toList[p]? with
  | some c => isIn S c
  | none => false
set_option maxHeartbeats 800000 in
theorem ended_any (w : World) (d : Nat) (q : Q) (h : RB w d q) (hp : q.pl ≤ q.T.size) (hT : q.T.size ≤ 100000) :
    Calls Tryz.prog 85 #[.pointer (some ⟨d, 0, none⟩)] w fun e w' => e = .returned (.bool (decide (q.pl = q.T.size))) ∧ ∃ n, w' = w.drewN n := by
  have c0 := h.c0
  have c2 := h.c2
  have hb : ((q.pl : Int) == (q.T.size : Int)) = decide (q.pl = q.T.size) := by
    by_cases e : q.pl = q.T.size
    · rw [decide_eq_true e, beq_iff_eq]; omega
    · rw [decide_eq_false e, beq_eq_false_iff_ne]; omega
  obtain ⟨b, eb⟩ : ∃ b, decide (q.pl = q.T.size) = b := ⟨_, rfl⟩
  rw [eb] at hb ⊢
  clear h eb
  go_enter Tryz.func85, Tryz.ntmps85
  go_wp2
  go_quiet (fail)
  go_wp2
  go_ret
  exact ⟨rfl, _, rfl⟩
end Go.Proofs.YtdhachmelgdknaaGreatDoor.rdr
/- The reader of a script: what it sees, takes, goes over. -/
namespace Go.Proofs.YtdhachmelgdknaaGreatDoor.rdr
open Go.ChangeShapes Go.WideShapes Go.ChangeAt Go.RowKit
open Go.Proofs.YtdhachmelgdknaaGreatDoor.bas
set_option linter.unusedVariables false
theorem sees_at (T S : ByteArray) (p : Nat) (h : p < T.size) : seesP T S p = decide (0 ≤ Lib.indexByte S.data.toList (((T[p]'h).toNat : Int).toNat.toUInt8)) := by
  have e : T.data.toList[p]? = some (T[p]'h) := by
    rw [List.getElem?_eq_getElem (by exact h)]
    rfl
  unfold seesP
  rw [e]
  show isIn S (T[p]'h) = _
  unfold isIn
  have e2 : ((T[p]'h).toNat : Int).toNat.toUInt8 = T[p]'h := by simp
  rw [e2]
theorem sees_end (T S : ByteArray) (p : Nat) (h : T.size ≤ p) : seesP T S p = false := by
  unfold seesP
  rw [List.getElem?_eq_none (by exact h)]
set_option maxHeartbeats 1600000 in
theorem sees_any (w : World) (d : Nat) (q : Q) (S : ByteArray) (h : RB w d q) (hp : q.pl ≤ q.T.size) (hT : q.T.size ≤ 100000) :
    Calls Tryz.prog 83 #[.pointer (some ⟨d, 0, none⟩), .string S] w fun e w' => e = .returned (.bool (seesP q.T S q.pl)) ∧ ∃ n, w' = w.drewN n := by
  have c0 := h.c0
  have c2 := h.c2
  have HE : Hid (∀ n, Calls Tryz.prog 85 #[.pointer (some ⟨d, 0, none⟩)] (w.drewN n) fun e w' => e = .returned (.bool (decide (q.pl = q.T.size))) ∧ ∃ m, w' = (w.drewN n).drewN m) := fun n => ended_any (w.drewN n) d q h hp hT
  obtain ⟨T, eT⟩ : ∃ T, q.T = T := ⟨_, rfl⟩
  obtain ⟨p, ep⟩ : ∃ p, q.pl = p := ⟨_, rfl⟩
  rw [eT] at c0 HE hp hT
  rw [ep] at c2 HE hp
  rw [eT, ep]
  clear h eT ep
  by_cases hlt : p < T.size
  · rw [decide_eq_false (show ¬ p = T.size by omega)] at HE
    rw [sees_at T S p hlt]
    obtain ⟨c, hc⟩ : ∃ c, (T[p]'hlt).toNat = c := ⟨_, rfl⟩
    rw [hc]
    have HI : Hid (∀ W, Calls Tryz.prog 88 #[.string S, .int .u8 (c : Nat)] W fun e w' => e = .returned (.int .i64 (Lib.indexByte S.data.toList ((c : Int).toNat.toUInt8))) ∧ w' = W) := fun W => Tryz.strings_IndexByte S c W
    obtain ⟨ix, hix⟩ : ∃ ix, Lib.indexByte S.data.toList ((c : Int).toNat.toUInt8) = ix := ⟨_, rfl⟩
    rw [hix] at HI ⊢
    clear hix
    go_enter Tryz.func83, Tryz.ntmps83
    go_wp2
    go_quiet (first | (go_at_call 85; refine Calls.quiet_of (HE.out _)) | (go_at_call 88; refine Calls.quiet_of_same (HI.out _)))
    go_wp2
    go_ret
    refine ⟨?_, _, rfl⟩
    first | rfl | (simp)
  · have hpe : p = T.size := by omega
    rw [decide_eq_true hpe] at HE
    rw [sees_end T S p (by omega)]
    clear hlt
    go_enter Tryz.func83, Tryz.ntmps83
    go_wp2
    go_quiet (first | (go_at_call 85; refine Calls.quiet_of (HE.out _)))
    go_wp2
    go_ret
    exact ⟨rfl, _, rfl⟩
/-- Behind a call that moves the reader to a place. -/
def AtE (w : World) (d : Nat) (q : Q) (k : Nat) (v : Value) (e : Ending) (w' : World) : Prop := e = .returned v ∧ RB w' d { q with pl := k } ∧ w.grownBy w' (some d)
set_option maxHeartbeats 800000 in
theorem takes_any (w : World) (d : Nat) (q : Q) (S : ByteArray) (h : RB w d q) (hp : q.pl ≤ q.T.size) (hT : q.T.size ≤ 100000) :
    Calls Tryz.prog 87 #[.pointer (some ⟨d, 0, none⟩), .string S] w fun e w' => AtE w d q (if seesP q.T S q.pl then q.pl + 1 else q.pl) (.bool (seesP q.T S q.pl)) e w' := by
  have HS := hide (sees_any w d q S h hp hT)
  cases hb : seesP q.T S q.pl with
  | false =>
    rw [hb] at HS
    have HF : Hid (∀ n, AtE w d q (if false = true then q.pl + 1 else q.pl) (.bool false) (.returned (.bool false)) (w.drewN n)) := fun n => ⟨rfl, h, grown_drew (grown_refl w d) n⟩
    clear h hp hT hb
    go_enter Tryz.func87, Tryz.ntmps87
    go_wp2_with fail
    refine HS.out.mono ?_
    rintro e w' ⟨rfl, n, rfl⟩
    clear HS
    go_wp2
    go_ret
    exact HF.out n
  | true =>
    rw [hb] at HS
    have c2 := h.c2
    have f2 := h.fz 2
    have HF : Hid (∀ n, AtE w d q (if true = true then q.pl + 1 else q.pl) (.bool true) (.returned (.bool true)) ((w.drewN n).setCell ⟨d, 2, none⟩ (.int .i64 ((q.pl : Int) + 1)))) := fun n => ⟨rfl, by
      have := RB.set2 (w := w.drewN n) h (q.pl + 1)
      rw [show (((q.pl + 1 : Nat) : Nat) : Int) = (q.pl : Int) + 1 by omega] at this
      exact this, grown_set (grown_drew (grown_refl w d) n) _ _⟩
    obtain ⟨p, ep⟩ : ∃ p, q.pl = p := ⟨_, rfl⟩
    rw [ep] at c2 HF hp ⊢
    clear h hb ep
    go_enter Tryz.func87, Tryz.ntmps87
    go_wp2_with fail
    refine HS.out.mono ?_
    rintro e w' ⟨rfl, n, rfl⟩
    clear HS
    have c2' : (w.drewN n).cell? ⟨d, 2, none⟩ = some (.int .i64 (p : Nat)) := c2
    have f2' : (w.drewN n).frozen? ⟨d, 2, none⟩ = false := f2
    go_wp2
    go_ret
    exact HF.out n
end Go.Proofs.YtdhachmelgdknaaGreatDoor.rdr
/- The reader of a script goes over bytes. -/
namespace Go.Proofs.YtdhachmelgdknaaGreatDoor.rdr
open Go.ChangeShapes Go.WideShapes Go.ChangeAt Go.RowKit
open Go.Proofs.YtdhachmelgdknaaGreatDoor.bas
set_option linter.unusedVariables false
/-- How many bytes from a place on are such. -/
def run (p : UInt8 → Bool) (T : ByteArray) (k : Nat) : Nat := ((T.data.toList.drop k).takeWhile p).length
theorem tw (p : UInt8 → Bool) : ∀ (l : List UInt8) (i : Nat), i ≤ (l.takeWhile p).length → (match l[i]? with | some c => p c | none => false) = decide (i < (l.takeWhile p).length)
  | [], i, h => by simp at h; subst h; rfl
  | a :: r, i, h => by
    cases hp : p a with
    | false =>
      rw [List.takeWhile_cons, hp] at h ⊢
      simp only [Bool.false_eq_true, if_false, List.length_nil, Nat.le_zero_eq] at h
      subst h
      simp [hp]
    | true =>
      rw [List.takeWhile_cons, hp] at h ⊢
      cases i with
      | zero => simp [hp]
      | succ i =>
        have := tw p r i (by simpa using h)
        simpa using this
theorem run_le (p : UInt8 → Bool) (T : ByteArray) (k : Nat) (h : k ≤ T.size) : k + run p T k ≤ T.size := by
  unfold run
  have h1 : ((T.data.toList.drop k).takeWhile p).length ≤ (T.data.toList.drop k).length := (List.takeWhile_sublist p).length_le
  rw [List.length_drop] at h1
  have h2 : T.data.toList.length = T.size := rfl
  omega
theorem run_in (S T : ByteArray) (k i : Nat) (h : i ≤ run (isIn S) T k) : seesP T S (k + i) = decide (i < run (isIn S) T k) := by
  have := tw (isIn S) (T.data.toList.drop k) i h
  rw [List.getElem?_drop] at this
  exact this
theorem run_out (S T : ByteArray) (k i : Nat) (h : i ≤ run (fun c => !isIn S c) T k) (hk : k ≤ T.size) : (!decide (k + i = T.size) && !seesP T S (k + i)) = decide (i < run (fun c => !isIn S c) T k) := by
  have := tw (fun c => !isIn S c) (T.data.toList.drop k) i h
  rw [List.getElem?_drop] at this
  refine Eq.trans ?_ this
  have hr := run_le (fun c => !isIn S c) T k hk
  unfold seesP
  by_cases hlt : k + i < T.size
  · rw [List.getElem?_eq_getElem (by exact hlt), decide_eq_false (by omega)]
    simp
  · rw [List.getElem?_eq_none (by show T.size ≤ _; omega), decide_eq_true (by omega)]
    rfl
set_option maxHeartbeats 1600000 in
theorem over_any0 (w : World) (d : Nat) (T : ByteArray) (ere : Bool) (p : Nat) (bg nm : Int) (tk ls op lb jp : Value) (S : ByteArray) (h : RB w d ⟨T, ere, p, bg, nm, tk, ls, op, lb, jp⟩) (hp : p ≤ T.size) (hT : T.size ≤ 100000) :
    Calls Tryz.prog 82 #[.pointer (some ⟨d, 0, none⟩), .string S] w fun e w' => AtE w d ⟨T, ere, p, bg, nm, tk, ls, op, lb, jp⟩ (p + run (isIn S) T p) (.string (T.extract p (p + run (isIn S) T p))) e w' := by
  have hrl := run_le (isIn S) T p hp
  have c2 := h.c2
  dsimp only at c2
  obtain ⟨M, eM⟩ : ∃ M, run (isIn S) T p = M := ⟨_, rfl⟩
  have HSee : Hid (∀ i, i ≤ M → seesP T S (p + i) = decide (i < M)) := fun i hi => by
    rw [← eM] at hi ⊢
    exact run_in S T p i hi
  rw [eM] at hrl ⊢
  have HQ : Hid (∀ (wr : World) (i : Nat), RB wr d ⟨T, ere, p + i, bg, nm, tk, ls, op, lb, jp⟩ → i ≤ M → Hid (Calls Tryz.prog 83 #[.pointer (some ⟨d, 0, none⟩), .string S] wr fun e w' => e = .returned (.bool (seesP T S (p + i))) ∧ ∃ n, w' = wr.drewN n)) := fun wr i hb hi => sees_any wr d ⟨T, ere, p + i, bg, nm, tk, ls, op, lb, jp⟩ S hb (by show p + i ≤ T.size; omega) hT
  have HT : Hid (∀ (wr : World) (i : Nat), RB wr d ⟨T, ere, p + i, bg, nm, tk, ls, op, lb, jp⟩ → wr.cell? ⟨d, 2, none⟩ = some (.int .i64 ((p : Int) + (i : Int))) ∧ wr.cell? ⟨d, 0, none⟩ = some (.string T) ∧ wr.frozen? ⟨d, 2, none⟩ = false) := fun wr i hb => ⟨by have := hb.c2; rw [this]; rfl, hb.c0, hb.fz 2⟩
  have HStep : Hid (∀ (wr : World) (i n : Nat), RB wr d ⟨T, ere, p + i, bg, nm, tk, ls, op, lb, jp⟩ → w.grownBy wr (some d) → RB ((wr.drewN n).setCell ⟨d, 2, none⟩ (.int .i64 ((p : Int) + (i : Int) + 1))) d ⟨T, ere, p + (i + 1), bg, nm, tk, ls, op, lb, jp⟩ ∧ w.grownBy ((wr.drewN n).setCell ⟨d, 2, none⟩ (.int .i64 ((p : Int) + (i : Int) + 1))) (some d)) := fun wr i n hb hg => ⟨by
    have := RB.set2 (w := wr.drewN n) hb (p + (i + 1))
    rw [show (((p + (i + 1) : Nat) : Nat) : Int) = (p : Int) + (i : Int) + 1 by omega] at this
    exact this, grown_set (grown_drew hg n) _ _⟩
  have HF : Hid (∀ (wr : World) (n : Nat), RB wr d ⟨T, ere, p + M, bg, nm, tk, ls, op, lb, jp⟩ → w.grownBy wr (some d) → AtE w d ⟨T, ere, p, bg, nm, tk, ls, op, lb, jp⟩ (p + M) (.string (T.extract p (p + M))) (.returned (.string (T.extract p (p + M)))) (wr.drewN n)) := fun wr n hb hg => ⟨rfl, hb, grown_drew hg n⟩
  have HB0 : Hid (RB w d ⟨T, ere, p + 0, bg, nm, tk, ls, op, lb, jp⟩ ∧ w.grownBy w (some d)) := ⟨h, grown_refl w d⟩
  clear h eM
  go_enter Tryz.func82, Tryz.ntmps82
  go_wp2
  go_loopg [10] M (fun gk s wr => ∃ i : Nat, gk = M - i ∧ i ≤ M ∧ Hid (RB wr d ⟨T, ere, p + i, bg, nm, tk, ls, op, lb, jp⟩ ∧ w.grownBy wr (some d)))
  case atStart => exact ⟨0, by omega, by omega, HB0⟩
  case round =>
    obtain ⟨i, hgk, hi, HI⟩ := hrel
    clear HB0 c2
    obtain ⟨x2, x0, xf⟩ := HT.out wr i HI.out.1
    have hsee := HSee.out i hi
    have HC := HQ.out wr i HI.out.1 hi
    by_cases hlt : i < M
    · rw [decide_eq_true hlt] at hsee
      rw [hsee] at HC
      go_wp2_with fail
      refine HC.out.mono ?_
      rintro e w1 ⟨rfl, n, rfl⟩
      clear HC hsee
      have HST := hide (HStep.out wr i n HI.out.1 HI.out.2)
      clear HI HQ HSee HT HStep HF x0
      have y2 : (wr.drewN n).cell? ⟨d, 2, none⟩ = some (.int .i64 ((p : Int) + (i : Int))) := x2
      have yf : (wr.drewN n).frozen? ⟨d, 2, none⟩ = false := xf
      go_wp2
      go_roundg (M - (i + 1))
      case rel => exact ⟨i + 1, rfl, by omega, HST⟩
      case measure => omega
    · rw [decide_eq_false hlt] at hsee
      have hiM : i = M := by omega
      subst hiM
      rw [hsee] at HC
      go_wp2_with fail
      refine HC.out.mono ?_
      rintro e w1 ⟨rfl, n, rfl⟩
      clear HC hsee
      have HX := hide (fun m => HF.out wr m HI.out.1 HI.out.2)
      clear HI HQ HSee HT HStep HF hlt
      have y2 : (wr.drewN n).cell? ⟨d, 2, none⟩ = some (.int .i64 ((p : Int) + (i : Int))) := x2
      have y0 : (wr.drewN n).cell? ⟨d, 0, none⟩ = some (.string T) := x0
      have yle : (p : Int) + (i : Int) ≤ (T.size : Int) := by omega
      go_wp2
      go_quiet (fail)
      go_wp2
      go_ret
      first | exact HX.out _ | (rw [World.drewN_drewN]; exact HX.out _)
theorem over_any (w : World) (d : Nat) (q : Q) (S : ByteArray) (h : RB w d q) (hp : q.pl ≤ q.T.size) (hT : q.T.size ≤ 100000) :
    Calls Tryz.prog 82 #[.pointer (some ⟨d, 0, none⟩), .string S] w fun e w' => AtE w d q (q.pl + run (isIn S) q.T q.pl) (.string (q.T.extract q.pl (q.pl + run (isIn S) q.T q.pl))) e w' := over_any0 w d _ _ _ _ _ _ _ _ _ _ S h hp hT
set_option maxHeartbeats 1600000 in
theorem upTo_any0 (w : World) (d : Nat) (T : ByteArray) (ere : Bool) (p : Nat) (bg nm : Int) (tk ls op lb jp : Value) (S : ByteArray) (h : RB w d ⟨T, ere, p, bg, nm, tk, ls, op, lb, jp⟩) (hp : p ≤ T.size) (hT : T.size ≤ 100000) :
    Calls Tryz.prog 84 #[.pointer (some ⟨d, 0, none⟩), .string S] w fun e w' => AtE w d ⟨T, ere, p, bg, nm, tk, ls, op, lb, jp⟩ (p + run (fun c => !isIn S c) T p) (.string (T.extract p (p + run (fun c => !isIn S c) T p))) e w' := by
  have hrl := run_le (fun c => !isIn S c) T p hp
  have c2 := h.c2
  dsimp only at c2
  obtain ⟨M, eM⟩ : ∃ M, run (fun c => !isIn S c) T p = M := ⟨_, rfl⟩
  have HSee : Hid (∀ i, i ≤ M → (!decide (p + i = T.size) && !seesP T S (p + i)) = decide (i < M)) := fun i hi => by
    rw [← eM] at hi ⊢
    exact run_out S T p i hi hp
  rw [eM] at hrl ⊢
  have HQ : Hid (∀ (wr : World) (i : Nat), RB wr d ⟨T, ere, p + i, bg, nm, tk, ls, op, lb, jp⟩ → i ≤ M → (Hid (Calls Tryz.prog 85 #[.pointer (some ⟨d, 0, none⟩)] wr fun e w' => e = .returned (.bool (decide (p + i = T.size))) ∧ ∃ n, w' = wr.drewN n) ∧ Hid (∀ m, Calls Tryz.prog 83 #[.pointer (some ⟨d, 0, none⟩), .string S] (wr.drewN m) fun e w' => e = .returned (.bool (seesP T S (p + i))) ∧ ∃ n, w' = (wr.drewN m).drewN n))) := fun wr i hb hi => ⟨ended_any wr d ⟨T, ere, p + i, bg, nm, tk, ls, op, lb, jp⟩ hb (by show p + i ≤ T.size; omega) hT, fun m => sees_any (wr.drewN m) d ⟨T, ere, p + i, bg, nm, tk, ls, op, lb, jp⟩ S hb (by show p + i ≤ T.size; omega) hT⟩
  have HT : Hid (∀ (wr : World) (i : Nat), RB wr d ⟨T, ere, p + i, bg, nm, tk, ls, op, lb, jp⟩ → wr.cell? ⟨d, 2, none⟩ = some (.int .i64 ((p : Int) + (i : Int))) ∧ wr.cell? ⟨d, 0, none⟩ = some (.string T) ∧ wr.frozen? ⟨d, 2, none⟩ = false) := fun wr i hb => ⟨by have := hb.c2; rw [this]; rfl, hb.c0, hb.fz 2⟩
  have HStep : Hid (∀ (wr : World) (i n : Nat), RB wr d ⟨T, ere, p + i, bg, nm, tk, ls, op, lb, jp⟩ → w.grownBy wr (some d) → RB ((wr.drewN n).setCell ⟨d, 2, none⟩ (.int .i64 ((p : Int) + (i : Int) + 1))) d ⟨T, ere, p + (i + 1), bg, nm, tk, ls, op, lb, jp⟩ ∧ w.grownBy ((wr.drewN n).setCell ⟨d, 2, none⟩ (.int .i64 ((p : Int) + (i : Int) + 1))) (some d)) := fun wr i n hb hg => ⟨by
    have := RB.set2 (w := wr.drewN n) hb (p + (i + 1))
    rw [show (((p + (i + 1) : Nat) : Nat) : Int) = (p : Int) + (i : Int) + 1 by omega] at this
    exact this, grown_set (grown_drew hg n) _ _⟩
  have HF : Hid (∀ (wr : World) (n : Nat), RB wr d ⟨T, ere, p + M, bg, nm, tk, ls, op, lb, jp⟩ → w.grownBy wr (some d) → AtE w d ⟨T, ere, p, bg, nm, tk, ls, op, lb, jp⟩ (p + M) (.string (T.extract p (p + M))) (.returned (.string (T.extract p (p + M)))) (wr.drewN n)) := fun wr n hb hg => ⟨rfl, hb, grown_drew hg n⟩
  have HB0 : Hid (RB w d ⟨T, ere, p + 0, bg, nm, tk, ls, op, lb, jp⟩ ∧ w.grownBy w (some d)) := ⟨h, grown_refl w d⟩
  clear h eM
  go_enter Tryz.func84, Tryz.ntmps84
  go_wp2
  go_loopg [10] M (fun gk s wr => ∃ i : Nat, gk = M - i ∧ i ≤ M ∧ Hid (RB wr d ⟨T, ere, p + i, bg, nm, tk, ls, op, lb, jp⟩ ∧ w.grownBy wr (some d)))
  case atStart => exact ⟨0, by omega, by omega, HB0⟩
  case round =>
    obtain ⟨i, hgk, hi, HI⟩ := hrel
    clear HB0 c2
    obtain ⟨x2, x0, xf⟩ := HT.out wr i HI.out.1
    have hsee := HSee.out i hi
    have HC := HQ.out wr i HI.out.1 hi
    by_cases hlt : i < M
    · rw [decide_eq_true hlt] at hsee
      obtain ⟨HE, HS⟩ := HC
      obtain ⟨b1, hb1⟩ : ∃ b1, decide (p + i = T.size) = b1 := ⟨_, rfl⟩
      obtain ⟨b2, hb2⟩ : ∃ b2, seesP T S (p + i) = b2 := ⟨_, rfl⟩
      rw [hb1] at HE hsee
      rw [hb2] at HS hsee
      clear hb1 hb2
      obtain ⟨rfl, rfl⟩ : b1 = false ∧ b2 = false := by revert hsee; cases b1 <;> cases b2 <;> simp
      go_wp2_with fail
      refine HE.out.mono ?_
      rintro e w1 ⟨rfl, n1, rfl⟩
      go_wp2_with fail
      refine (HS.out n1).mono ?_
      rintro e w1 ⟨rfl, n2, rfl⟩
      rw [World.drewN_drewN]
      obtain ⟨n, hn⟩ : ∃ n, n1 + n2 = n := ⟨_, rfl⟩
      rw [hn]
      clear hn HE HS hsee
      have HST := hide (HStep.out wr i n HI.out.1 HI.out.2)
      clear HI HQ HSee HT HStep HF x0
      have y2 : (wr.drewN n).cell? ⟨d, 2, none⟩ = some (.int .i64 ((p : Int) + (i : Int))) := x2
      have yf : (wr.drewN n).frozen? ⟨d, 2, none⟩ = false := xf
      go_wp2
      go_roundg (M - (i + 1))
      case rel => exact ⟨i + 1, rfl, by omega, HST⟩
      case measure => omega
    · rw [decide_eq_false hlt] at hsee
      have hiM : i = M := by omega
      subst hiM
      obtain ⟨HE, HS⟩ := HC
      obtain ⟨b1, hb1⟩ : ∃ b1, decide (p + i = T.size) = b1 := ⟨_, rfl⟩
      obtain ⟨b2, hb2⟩ : ∃ b2, seesP T S (p + i) = b2 := ⟨_, rfl⟩
      rw [hb1] at HE hsee
      rw [hb2] at HS hsee
      clear hb1 hb2
      cases b1 with
      | true =>
        have HX := hide (fun m => HF.out wr m HI.out.1 HI.out.2)
        clear HI HQ HSee HT HStep HF hlt HS hsee
        go_wp2_with fail
        refine HE.out.mono ?_
        rintro e w1 ⟨rfl, n, rfl⟩
        clear HE
        have y2 : (wr.drewN n).cell? ⟨d, 2, none⟩ = some (.int .i64 ((p : Int) + (i : Int))) := x2
        have y0 : (wr.drewN n).cell? ⟨d, 0, none⟩ = some (.string T) := x0
        have yle : (p : Int) + (i : Int) ≤ (T.size : Int) := by omega
        go_wp2
        go_quiet (fail)
        go_wp2
        go_ret
        first | exact HX.out _ | (rw [World.drewN_drewN]; exact HX.out _)
      | false =>
      obtain rfl : b2 = true := by revert hsee; cases b2 <;> simp
      go_wp2_with fail
      refine HE.out.mono ?_
      rintro e w1 ⟨rfl, n1, rfl⟩
      go_wp2_with fail
      refine (HS.out n1).mono ?_
      rintro e w1 ⟨rfl, n2, rfl⟩
      rw [World.drewN_drewN]
      obtain ⟨n, hn⟩ : ∃ n, n1 + n2 = n := ⟨_, rfl⟩
      rw [hn]
      clear hn HE HS hsee
      have HX := hide (fun m => HF.out wr m HI.out.1 HI.out.2)
      clear HI HQ HSee HT HStep HF hlt
      have y2 : (wr.drewN n).cell? ⟨d, 2, none⟩ = some (.int .i64 ((p : Int) + (i : Int))) := x2
      have y0 : (wr.drewN n).cell? ⟨d, 0, none⟩ = some (.string T) := x0
      have yle : (p : Int) + (i : Int) ≤ (T.size : Int) := by omega
      go_wp2
      go_quiet (fail)
      go_wp2
      go_ret
      first | exact HX.out _ | (rw [World.drewN_drewN]; exact HX.out _)
theorem upTo_any (w : World) (d : Nat) (q : Q) (S : ByteArray) (h : RB w d q) (hp : q.pl ≤ q.T.size) (hT : q.T.size ≤ 100000) :
    Calls Tryz.prog 84 #[.pointer (some ⟨d, 0, none⟩), .string S] w fun e w' => AtE w d q (q.pl + run (fun c => !isIn S c) q.T q.pl) (.string (q.T.extract q.pl (q.pl + run (fun c => !isIn S c) q.T q.pl))) e w' := upTo_any0 w d _ _ _ _ _ _ _ _ _ _ S h hp hT
end Go.Proofs.YtdhachmelgdknaaGreatDoor.rdr
namespace Go.Proofs.YtdhachmelgdknaaGreatDoor.rdr
open Go.ChangeShapes Go.WideShapes Go.ChangeAt Go.RowKit
open Go.Proofs.YtdhachmelgdknaaGreatDoor.bas
set_option linter.unusedVariables false
abbrev sA : ByteArray := ⟨#[32, 9, 10, 59]⟩
abbrev sH : ByteArray := ⟨#[35]⟩
abbrev sL : ByteArray := ⟨#[10]⟩
abbrev sB : ByteArray := ⟨#[32, 9]⟩
abbrev sE : ByteArray := ⟨#[59, 10, 125]⟩
def ov (S T : ByteArray) (p : Nat) : Nat := p + run (isIn S) T p
def up (S T : ByteArray) (p : Nat) : Nat := p + run (fun c => !isIn S c) T p
theorem ov_le (S T : ByteArray) (p : Nat) (h : p ≤ T.size) : ov S T p ≤ T.size := run_le _ T p h
theorem up_le (S T : ByteArray) (p : Nat) (h : p ≤ T.size) : up S T p ≤ T.size := run_le _ T p h
/-- Over remarks. -/
def tcGo (T : ByteArray) : Nat → Nat → Option Nat
  | 0, p => if seesP T sH p then none else some p
  | f + 1, p => if seesP T sH p then tcGo T f (ov sA T (up sL T p)) else some p
theorem tc_stop {T : ByteArray} {f p R : Nat} (h : tcGo T f p = some R) (hs : seesP T sH p = false) : p = R := by
  cases f <;> (rw [tcGo, hs] at h; simpa using h)
theorem tc_more {T : ByteArray} {f p R : Nat} (h : tcGo T f p = some R) (hs : seesP T sH p = true) : ∃ g, f = g + 1 ∧ tcGo T g (ov sA T (up sL T p)) = some R := by
  cases f with
  | zero => rw [tcGo, hs] at h; simp at h
  | succ g => rw [tcGo, hs] at h; exact ⟨g, rfl, by simpa using h⟩
/-- The reader at a place, all else as it was. -/
structure Mv (w : World) (d : Nat) (q : Q) (k : Nat) (wr : World) : Prop where
  rb : RB wr d { q with pl := k }
  gr : w.grownBy wr (some d)
theorem Mv.refl {w : World} {d : Nat} {q : Q} (h : RB w d q) : Mv w d q q.pl w := ⟨h, grown_refl w d⟩
theorem mv_over {w : World} {d : Nat} {q : Q} {k : Nat} {wr : World} (S : ByteArray) (hm : Mv w d q k wr) (hk : k ≤ q.T.size) (hT : q.T.size ≤ 100000) : Calls Tryz.prog 82 #[.pointer (some ⟨d, 0, none⟩), .string S] wr fun e w' => e = .returned (.string (q.T.extract k (ov S q.T k))) ∧ Mv w d q (ov S q.T k) w' := by
  refine (over_any wr d { q with pl := k } S hm.rb hk hT).mono ?_
  rintro e w' ⟨rfl, h2, g2⟩
  exact ⟨rfl, h2, grown_tr hm.gr g2⟩
theorem mv_upTo {w : World} {d : Nat} {q : Q} {k : Nat} {wr : World} (S : ByteArray) (hm : Mv w d q k wr) (hk : k ≤ q.T.size) (hT : q.T.size ≤ 100000) : Calls Tryz.prog 84 #[.pointer (some ⟨d, 0, none⟩), .string S] wr fun e w' => e = .returned (.string (q.T.extract k (up S q.T k))) ∧ Mv w d q (up S q.T k) w' := by
  refine (upTo_any wr d { q with pl := k } S hm.rb hk hT).mono ?_
  rintro e w' ⟨rfl, h2, g2⟩
  exact ⟨rfl, h2, grown_tr hm.gr g2⟩
theorem mv_sees {w : World} {d : Nat} {q : Q} {k : Nat} {wr : World} (S : ByteArray) (hm : Mv w d q k wr) (hk : k ≤ q.T.size) (hT : q.T.size ≤ 100000) : Calls Tryz.prog 83 #[.pointer (some ⟨d, 0, none⟩), .string S] wr fun e w' => e = .returned (.bool (seesP q.T S k)) ∧ Mv w d q k w' := by
  refine (sees_any wr d { q with pl := k } S hm.rb hk hT).mono ?_
  rintro e w' ⟨rfl, n, rfl⟩
  exact ⟨rfl, hm.rb, grown_drew hm.gr n⟩
theorem mv_ended {w : World} {d : Nat} {q : Q} {k : Nat} {wr : World} (hm : Mv w d q k wr) (hk : k ≤ q.T.size) (hT : q.T.size ≤ 100000) : Calls Tryz.prog 85 #[.pointer (some ⟨d, 0, none⟩)] wr fun e w' => e = .returned (.bool (decide (k = q.T.size))) ∧ Mv w d q k w' := by
  refine (ended_any wr d { q with pl := k } hm.rb hk hT).mono ?_
  rintro e w' ⟨rfl, n, rfl⟩
  exact ⟨rfl, hm.rb, grown_drew hm.gr n⟩
theorem mv_takes {w : World} {d : Nat} {q : Q} {k : Nat} {wr : World} (S : ByteArray) (hm : Mv w d q k wr) (hk : k ≤ q.T.size) (hT : q.T.size ≤ 100000) : Calls Tryz.prog 87 #[.pointer (some ⟨d, 0, none⟩), .string S] wr fun e w' => e = .returned (.bool (seesP q.T S k)) ∧ Mv w d q (if seesP q.T S k then k + 1 else k) w' := by
  refine (takes_any wr d { q with pl := k } S hm.rb hk hT).mono ?_
  rintro e w' ⟨rfl, h2, g2⟩
  exact ⟨rfl, h2, grown_tr hm.gr g2⟩
theorem sees_lt {T S : ByteArray} {k : Nat} (h : seesP T S k = true) : k < T.size := by
  rcases Nat.lt_or_ge k T.size with h1 | h1
  · exact h1
  · rw [sees_end T S k h1] at h; cases h
set_option maxHeartbeats 1600000 in
theorem toCommand_any {w : World} {d : Nat} {q : Q} {k : Nat} {w0 : World} (hm : Mv w d q k w0) (hk : k ≤ q.T.size) (hT : q.T.size ≤ 100000) (f R : Nat) (hf : tcGo q.T f (ov sA q.T k) = some R) :
    Calls Tryz.prog 48 #[.pointer (some ⟨d, 0, none⟩)] w0 fun e w' => e = .returned (.bool (!decide (R = q.T.size))) ∧ Mv w d q R w' := by
  have H0 := hide (mv_over sA hm hk hT)
  have hp1 := ov_le sA q.T k hk
  have HG : Hid (tcGo q.T f (ov sA q.T k) = some R) := hf
  clear hm hf hk
  go_enter Tryz.func48, Tryz.ntmps48
  go_wp2_with fail
  refine H0.out.mono ?_
  rintro e w1 ⟨rfl, hm1⟩
  obtain ⟨k1, ek1⟩ : ∃ k1, ov sA q.T k = k1 := ⟨_, rfl⟩
  rw [ek1] at hm1 HG hp1 ⊢
  have HM1 := hide hm1
  clear H0 hm1 ek1
  go_wp2
  go_loopg [5] f (fun gk s wr => ∃ k : Nat, k ≤ q.T.size ∧ Hid (tcGo q.T gk k = some R ∧ Mv w d q k wr))
  case atStart => exact ⟨k1, hp1, HG.out, HM1.out⟩
  case round =>
    obtain ⟨k, hk, HI⟩ := hrel
    clear HG HM1
    have HS := hide (mv_sees sH HI.out.2 hk hT)
    cases hs : seesP q.T sH k with
    | true =>
      rw [hs] at HS
      obtain ⟨g, rfl, hg⟩ := tc_more HI.out.1 hs
      have HG := hide hg
      clear hg hs HI
      have hu := up_le sL q.T k hk
      have ho := ov_le sA q.T _ hu
      go_wp2_with fail
      refine HS.out.mono ?_
      rintro e w2 ⟨rfl, hm2⟩
      have HU := hide (mv_upTo sL hm2 hk hT)
      clear HS hm2
      go_wp2_with fail
      refine HU.out.mono ?_
      rintro e w3 ⟨rfl, hm3⟩
      have HO := hide (mv_over sA hm3 hu hT)
      clear HU hm3
      obtain ⟨k2, ek2⟩ : ∃ k2, up sL q.T k = k2 := ⟨_, rfl⟩
      rw [ek2] at HG hu ho HO ⊢
      go_wp2_with fail
      refine HO.out.mono ?_
      rintro e w4 ⟨rfl, hm4⟩
      obtain ⟨k3, ek3⟩ : ∃ k3, ov sA q.T k2 = k3 := ⟨_, rfl⟩
      rw [ek3] at HG ho hm4 ⊢
      have HM4 := hide hm4
      clear HO hm4 ek2 ek3
      go_wp2
      go_roundg g
      case rel => exact ⟨k3, ho, HG.out, HM4.out⟩
      case measure => omega
    | false =>
      rw [hs] at HS
      have hR := tc_stop HI.out.1 hs
      subst hR
      clear HI
      go_wp2_with fail
      refine HS.out.mono ?_
      rintro e w2 ⟨rfl, hm2⟩
      have HE := hide (mv_ended hm2 hk hT)
      clear HS hm2 hs
      go_wp2_with fail
      refine HE.out.mono ?_
      rintro e w3 ⟨rfl, hm3⟩
      have HM := hide hm3
      clear HE hm3
      obtain ⟨b, eb⟩ : ∃ b, decide (k = q.T.size) = b := ⟨_, rfl⟩
      rw [eb]
      go_wp2
      go_ret
      refine ⟨?_, HM.out⟩
      rw [eb]
      rfl
set_option maxHeartbeats 800000 in
/-- Nothing else stands behind a command. -/
theorem behind_any {w : World} {d : Nat} {q : Q} {k : Nat} {w0 : World} (hm : Mv w d q k w0) (hk : k ≤ q.T.size) (hT : q.T.size ≤ 100000) (hok : ov sB q.T k = q.T.size ∨ seesP q.T sE (ov sB q.T k) = true) :
    Calls Tryz.prog 110 #[.pointer (some ⟨d, 0, none⟩)] w0 fun e w' => e = .returned (.tuple #[]) ∧ Mv w d q (ov sB q.T k) w' := by
  have H0 := hide (mv_over sB hm hk hT)
  have hp1 := ov_le sB q.T k hk
  obtain ⟨k1, ek1⟩ : ∃ k1, ov sB q.T k = k1 := ⟨_, rfl⟩
  rw [ek1] at hp1 H0 hok ⊢
  clear hm ek1
  have HOK := hide hok
  clear hok
  go_enter Tryz.func110, Tryz.ntmps110
  go_wp2_with fail
  refine H0.out.mono ?_
  rintro e w1 ⟨rfl, hm1⟩
  have HE := hide (mv_ended hm1 hp1 hT)
  clear H0 hm1
  by_cases he : k1 = q.T.size
  · rw [decide_eq_true he] at HE
    clear HOK
    go_wp2_with fail
    refine HE.out.mono ?_
    rintro e w2 ⟨rfl, hm2⟩
    have HM := hide hm2
    clear HE hm2
    go_wp2
    go_end0
    exact ⟨rfl, HM.out⟩
  · rw [decide_eq_false he] at HE
    go_wp2_with fail
    refine HE.out.mono ?_
    rintro e w2 ⟨rfl, hm2⟩
    have HS := mv_sees sE hm2 hp1 hT
    rw [HOK.out.resolve_left he] at HS
    have HS := hide HS
    clear HE hm2 HOK
    go_wp2_with fail
    refine HS.out.mono ?_
    rintro e w3 ⟨rfl, hm3⟩
    have HM := hide hm3
    clear HS hm3
    go_wp2
    go_end0
    exact ⟨rfl, HM.out⟩
end Go.Proofs.YtdhachmelgdknaaGreatDoor.rdr
