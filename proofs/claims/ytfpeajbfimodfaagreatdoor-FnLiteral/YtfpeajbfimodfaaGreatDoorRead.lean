/- The reader of a pattern, at texts of letters. -/
import Derived.Test.YtfpeajbfimodfaaGreatDoorLetters
import Derived.Laws.BytesArg
import Derived.Lib.Bytes
namespace Go.Proofs.YtfpeajbfimodfaaGreatDoor.read
open Go.ChangeShapes Go.WideShapes Go.ChangeAt Go.RowKit
open Go.Proofs.YtfpeajbfimodfaaGreatDoor.bytes Go.Proofs.YtfpeajbfimodfaaGreatDoor.pile Go.Proofs.YtfpeajbfimodfaaGreatDoor.src Go.Proofs.YtfpeajbfimodfaaGreatDoor.letters
set_option linter.unusedVariables false

set_option maxHeartbeats 1000000 in
theorem prefix72 (w : World) (S P : ByteArray) (h1 : S.size ≤ 1000) (h2 : P.size ≤ 1000) (h : P.size ≤ S.size → ((S.extract 0 P.size).toList == P.toList) = false) :
    Calls Tryz.prog 72 #[.string S, .string P] w fun e w' => e = .returned (.bool false) ∧ w' = w := by
  by_cases hs : P.size ≤ S.size
  · have hI : (P.size : Int) ≤ S.size := by omega
    have hb := h hs
    go_enter Tryz.func72, Tryz.ntmps72
    go_wp2
    go_ret
    exact ⟨rfl, rfl⟩
  · have hI : ¬ (P.size : Int) ≤ S.size := by omega
    go_enter Tryz.func72, Tryz.ntmps72
    go_wp2
    go_ret
    exact ⟨rfl, rfl⟩
set_option maxHeartbeats 1000000 in
theorem prefix46 (w : World) (S P : ByteArray) (h1 : S.size ≤ 1000) (h2 : P.size ≤ 1000) (h : P.size ≤ S.size → ((S.extract 0 P.size).toList == P.toList) = false) :
    Calls Tryz.prog 46 #[.string S, .string P] w fun e w' => e = .returned (.bool false) ∧ w' = w := by
  have H := hide (prefix72 w S P h1 h2 h)
  clear h
  go_enter Tryz.func46, Tryz.ntmps46
  go_wp2_with fail
  refine H.out.mono ?_
  rintro e w' ⟨rfl, rfl⟩
  go_wp2
  go_ret
  exact ⟨rfl, rfl⟩
theorem ext_nums (xs : List Int) (i j : Nat) : (strOfNums xs).extract i j = strOfNums ((xs.take j).drop i) := by
  unfold strOfNums
  apply ByteArray.ext
  rw [ByteArray.data_extract]
  simp [List.map_drop, List.map_take, List.drop_take]
/-- A byte that no letter is. -/
def NoLetter (c : Int) : Prop := 0 ≤ c ∧ c ≤ 255 ∧ ∀ y, Letter y → UInt8.ofNat y.toNat ≠ UInt8.ofNat c.toNat
theorem no_prefix (ys : List Int) (hy : ∀ y ∈ ys, Letter y) (c : Int) (cs : List Int) (hc : NoLetter c) :
    (strOfNums (c :: cs)).size ≤ (strOfNums ys).size → (((strOfNums ys).extract 0 (strOfNums (c :: cs)).size).toList == (strOfNums (c :: cs)).toList) = false := by
  intro h
  rw [strOfNums_size, strOfNums_size] at h
  rw [strOfNums_size, ext_nums, Lib.strOfNums_toList, Lib.strOfNums_toList]
  cases ys with
  | nil => simp at h
  | cons y ys =>
    have h1 := hc.2.2 y (hy y (by simp))
    simp [Lib.bytesOf, h1]

/-- The reader in memory. -/
structure PR (w : World) (d : Nat) (ys : List Int) (ere : Bool) (lead : List Int) (at_ : Nat) : Prop where
  blk : w.heap[d]? = some (.cells #[.string (strOfNums ys), .bool ere, .string (strOfNums lead), .int .i64 at_, .int .i64 0] 63 (0, 0))
theorem PR.c0 {w : World} {d : Nat} {ys : List Int} {ere : Bool} {lead : List Int} {at_ : Nat} (h : PR w d ys ere lead at_) : w.cell? ⟨d, 0, none⟩ = some (.string (strOfNums ys)) := by simp [World.cell?, h.blk]
theorem PR.c1 {w : World} {d : Nat} {ys : List Int} {ere : Bool} {lead : List Int} {at_ : Nat} (h : PR w d ys ere lead at_) : w.cell? ⟨d, 1, none⟩ = some (.bool ere) := by simp [World.cell?, h.blk]
theorem PR.c2 {w : World} {d : Nat} {ys : List Int} {ere : Bool} {lead : List Int} {at_ : Nat} (h : PR w d ys ere lead at_) : w.cell? ⟨d, 2, none⟩ = some (.string (strOfNums lead)) := by simp [World.cell?, h.blk]
theorem PR.c3 {w : World} {d : Nat} {ys : List Int} {ere : Bool} {lead : List Int} {at_ : Nat} (h : PR w d ys ere lead at_) : w.cell? ⟨d, 3, none⟩ = some (.int .i64 at_) := by simp [World.cell?, h.blk]
theorem PR.fz {w : World} {d : Nat} {ys : List Int} {ere : Bool} {lead : List Int} {at_ : Nat} (h : PR w d ys ere lead at_) (i : Nat) : w.frozen? ⟨d, i, none⟩ = false := by simp [World.frozen?, h.blk]

set_option maxHeartbeats 1000000 in
theorem sees_no (w : World) (d : Nat) (ys : List Int) (ere : Bool) (lead : List Int) (at_ : Nat) (h : PR w d ys ere lead at_) (hl : ys.length ≤ 8) (hat : at_ ≤ ys.length) (hy : ∀ y ∈ ys, Letter y) (c : Int) (cs : List Int) (hc : NoLetter c) (hcs : cs.length ≤ 8) :
    Calls Tryz.prog 30 #[.pointer (some ⟨d, 0, none⟩), .string (strOfNums (c :: cs))] w fun e w' => e = .returned (.bool false) ∧ ∃ m, w' = w.drewN m := by
  have c0 := h.c0
  have c3 := h.c3
  have hs : (strOfNums ys).size = ys.length := strOfNums_size _
  have HP : Hid (∀ W, Calls Tryz.prog 46 #[.string ((strOfNums ys).extract at_ ys.length), .string (strOfNums (c :: cs))] W fun e w' => e = .returned (.bool false) ∧ w' = W) := by
    refine hide (fun W => ?_)
    rw [ext_nums, List.take_length]
    refine prefix46 W _ _ (by rw [strOfNums_size, List.length_drop]; omega) (by rw [strOfNums_size]; simp; omega) (no_prefix _ (fun y h => hy y (List.mem_of_mem_drop h)) c cs hc)
  obtain ⟨P, hP⟩ : ∃ P, P = strOfNums (c :: cs) := ⟨_, rfl⟩
  obtain ⟨S, hS⟩ : ∃ S, S = strOfNums ys := ⟨_, rfl⟩
  rw [← hP] at HP ⊢
  rw [← hS] at HP c0 hs
  have hatI : (at_ : Int) ≤ (S.size : Int) := by omega
  clear hP hS h hy hc
  go_enter Tryz.func30, Tryz.ntmps30
  go_wp2
  go_quiet (first | (go_at_call 46; refine Calls.quiet_of_same (HP.out _)))
  go_wp2
  go_ret
  exact ⟨rfl, _, rfl⟩
set_option maxHeartbeats 1000000 in
theorem takes_no (w : World) (d : Nat) (ys : List Int) (ere : Bool) (lead : List Int) (at_ : Nat) (h : PR w d ys ere lead at_) (hl : ys.length ≤ 8) (hat : at_ ≤ ys.length) (hy : ∀ y ∈ ys, Letter y) (c : Int) (cs : List Int) (hc : NoLetter c) (hcs : cs.length ≤ 8) :
    Calls Tryz.prog 34 #[.pointer (some ⟨d, 0, none⟩), .string (strOfNums (c :: cs))] w fun e w' => e = .returned (.bool false) ∧ ∃ m, w' = w.drewN m := by
  have H := hide (sees_no w d ys ere lead at_ h hl hat hy c cs hc hcs)
  obtain ⟨P, hP⟩ : ∃ P, P = strOfNums (c :: cs) := ⟨_, rfl⟩
  rw [← hP] at H ⊢
  clear hP h hy hc
  go_enter Tryz.func34, Tryz.ntmps34
  go_wp2_with fail
  refine H.out.mono ?_
  rintro e w' ⟨rfl, m, rfl⟩
  clear H
  go_wp2
  go_ret
  exact ⟨rfl, _, rfl⟩
set_option maxHeartbeats 1000000 in
theorem ended_any (w : World) (d : Nat) (ys : List Int) (ere : Bool) (lead : List Int) (at_ : Nat) (h : PR w d ys ere lead at_) (hl : ys.length ≤ 8) :
    Calls Tryz.prog 29 #[.pointer (some ⟨d, 0, none⟩)] w fun e w' => e = .returned (.bool (decide (at_ = ys.length))) ∧ ∃ m, w' = w.drewN m := by
  have c0 := h.c0
  have c3 := h.c3
  have hs : (strOfNums ys).size = ys.length := strOfNums_size _
  generalize strOfNums ys = S at c0 hs
  clear h
  go_enter Tryz.func29, Tryz.ntmps29
  go_wp2
  go_quiet (fail)
  go_wp2
  go_ret
  refine ⟨?_, _, rfl⟩
  by_cases he : at_ = ys.length
  · simp [he]
  · have : ¬ (at_ : Int) = (S.size : Int) := by omega
    simp [he]
    omega
end Go.Proofs.YtfpeajbfimodfaaGreatDoor.read
