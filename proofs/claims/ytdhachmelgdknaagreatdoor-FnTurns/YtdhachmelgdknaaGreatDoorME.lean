/- The specification's run of the script that turns lines round: the walk. -/
import Derived.Test.YtdhachmelgdknaaGreatDoorMD
import Derived.Test.YtdhachmelgdknaaGreatDoorRsw
/- The specification's run of the script that turns lines round: a cycle. -/
namespace Go.Proofs.YtdhachmelgdknaaGreatDoor.srn
open Go.ChangeShapes Go.WideShapes Go.ChangeAt Go.RowKit
open Go.Proofs.YtdhachmelgdknaaGreatDoor.bas Go.Proofs.YtdhachmelgdknaaGreatDoor.rdr Go.Proofs.YtdhachmelgdknaaGreatDoor.chk Go.Proofs.YtdhachmelgdknaaGreatDoor.run
set_option linter.unusedVariables false
/-- Where a cycle stands: at a command, or behind all. -/
def Sg (base d : Nat) (W : World) (r : R) (ls : List ByteArray) (i : Nat) (a : ByteArray) (k : Nat) (wr : World) : Prop := if k < 3 then Sm base d W r ls i a k wr else Se base d W r ls i wr
theorem Se.cells {base d : Nat} {W : World} {r : R} {ls : List ByteArray} {i : Nat} {wr : World} (hw : Sw base d W r ls) (h : Se base d W r ls i wr) : ∃ g lc, wr.cell? ⟨d, 0, none⟩ = some (.slice (some ⟨g, 0, none⟩) 3 lc) := by
  obtain ⟨r', hR, e1, _⟩ := h.ex
  obtain ⟨g, lc, og, hls, _⟩ := hw.list
  exact ⟨g, lc, by rw [hR.sr.c0, e1, hls]⟩
set_option maxRecDepth 20000 in
set_option maxHeartbeats 6400000 in
theorem cycle_any {base d : Nat} {W : World} {r : R} {ls : List ByteArray} (hw : Sw base d W r ls) {i : Nat} {a : ByteArray} {w : World} (ha : ls[i]? = some a) (h : Sm base d W r ls i a 0 w) :
    Calls Tryz.prog 29 #[.pointer (some ⟨d, 0, none⟩)] w fun e w' => e = .returned (.tuple #[]) ∧ Se base d W r ls i w' := by
  have HW := hide hw
  have HA := hide ha
  have H0 : Hid (Sg base d W r ls i a 0 w) := h
  clear hw ha h
  go_enter Tryz.func29, Tryz.ntmps29
  go_wp2
  go_loopw [2] (fun v wr => ∃ k : Nat, k ≤ 3 ∧ v = .int .i64 k ∧ Hid (Sg base d W r ls i a k wr)) (fun v _ => 3 - (intOf v).toNat)
  case atStart => exact ⟨0, by omega, rfl, H0⟩
  case round =>
    obtain ⟨k, hk, rfl, HG⟩ := hrel
    clear H0
    by_cases hk3 : k = 3
    · subst hk3
      have HE : Hid (Se base d W r ls i wr) := HG.out
      obtain ⟨g, lc, x0⟩ := HE.out.cells HW.out
      clear HG
      go_wp2
      go_end0
      exact ⟨rfl, HE.out⟩
    have hkk : k = 0 ∨ k = 1 ∨ k = 2 := by omega
    rcases hkk with rfl | rfl | rfl
    · have hM : Sm base d W r ls i a 0 wr := HG.out
      obtain ⟨g, lc, st, hst, hF⟩ := sm0 HW.out HA.out hM
      clear HG hM hk hk3
      by_cases h0 : i = 0
      · rw [decide_eq_true h0] at hF
        obtain ⟨⟨x0, x11, x10, xf⟩, W1, hW1, y10, HC⟩ := hF
        have hW1' := hW1.out
        have hst2 : decide (2000 < (st : Int) + 1) = false := by simp; omega
        go_wp2_with fail
        (try rw [hW1'])
        refine HC.out.mono ?_
        rintro e w2 ⟨rfl, ⟨z11, z0⟩, HR, hst3, W3, hW3, ⟨z14, z15⟩, HX, HK, HD⟩
        have hW3' := hW3.out
        rw [hW3'] at hst3
        clear HC hW1 hW1' x0 x11 x10 xf y10 hst2
        have HK2 := hide (HK.out (by first | trivial | rfl))
        have n123 : ((⟨#[71]⟩ : ByteArray).toList == [123]) = false := one_ne (by decide)
        obtain ⟨nm, hnm⟩ : ∃ nm : ByteArray, nm = ⟨#[71]⟩ := ⟨_, rfl⟩
        rw [← hnm] at z15 n123
        go_wp2_with (refine wpList_load_at rfl _ _ rfl g (0 * 26) rfl _ _ HR.out Tryz.underlying60 rfl (size60 _ _ _ _) ?_)
        go_roundw
        case rel => exact ⟨0 + 1, by omega, by go_num, HK2⟩
        case measure => simp [intOf]
      · rw [decide_eq_false h0] at hF
        obtain ⟨⟨x0, x11, x10, xf⟩, W1, hW1, y10, HC⟩ := hF
        have hW1' := hW1.out
        have hst2 : decide (2000 < (st : Int) + 1) = false := by simp; omega
        go_wp2_with fail
        (try rw [hW1'])
        refine HC.out.mono ?_
        rintro e w2 ⟨rfl, ⟨z11, z0⟩, HR, hst3, W3, hW3, ⟨z14, z15⟩, HX, HK, HD⟩
        have hW3' := hW3.out
        rw [hW3'] at hst3
        clear HC hW1 hW1' x0 x11 x10 xf y10 hst2
        have HD2 := hide (HD.out (by decide))
        go_wp2_with (first
          | (refine wpList_load_at rfl _ _ rfl g (0 * 26) rfl _ _ HR.out Tryz.underlying60 rfl (size60 _ _ _ _) ?_)
          | (refine wpList_load_row rfl _ _ rfl w2.heap.size rfl 60 _ (0, 0) _ HX.out Tryz.underlying60 rfl (size60 _ _ _ _) ?_)
          | (go_at_call 45; refine HD2.out.mono ?_; rintro e w5 ⟨rfl, h5⟩; have H5 := hide h5; clear h5))
        go_roundw
        case rel => exact ⟨0 + 1, by omega, by go_num, H5⟩
        case measure => simp [intOf]
    · have hM : Sm base d W r ls i a 1 wr := HG.out
      obtain ⟨g, lc, st, hst, hF⟩ := sm1 HW.out HA.out hM
      clear HG hM hk hk3
      obtain ⟨⟨x0, x11, x10, xf⟩, W1, hW1, y10, HC⟩ := hF
      have hW1' := hW1.out
      have hst2 : decide (2000 < (st : Int) + 1) = false := by simp; omega
      go_wp2_with fail
      (try rw [hW1'])
      refine HC.out.mono ?_
      rintro e w2 ⟨rfl, ⟨z11, z0⟩, HR, hst3, W3, hW3, ⟨z14, z15⟩, HX, HK, HD⟩
      have hW3' := hW3.out
      rw [hW3'] at hst3
      clear HC hW1 hW1' x0 x11 x10 xf y10 hst2
      have HD2 := hide (HD.out (by decide))
      go_wp2_with (first
        | (refine wpList_load_at rfl _ _ rfl g (1 * 26) rfl _ _ HR.out Tryz.underlying60 rfl (size60 _ _ _ _) ?_)
        | (refine wpList_load_row rfl _ _ rfl w2.heap.size rfl 60 _ (0, 0) _ HX.out Tryz.underlying60 rfl (size60 _ _ _ _) ?_)
        | (go_at_call 45; refine HD2.out.mono ?_; rintro e w5 ⟨rfl, h5⟩; have H5 := hide h5; clear h5))
      go_roundw
      case rel => exact ⟨1 + 1, by omega, by go_num, H5⟩
      case measure => simp [intOf]
    · have hM : Sm base d W r ls i a 2 wr := HG.out
      obtain ⟨g, lc, st, hst, hF⟩ := sm2 HW.out HA.out hM
      clear HG hM hk hk3
      by_cases h0 : i + 1 = ls.length
      · rw [decide_eq_true h0] at hF
        obtain ⟨⟨x0, x11, x10, xf⟩, W1, hW1, y10, HC⟩ := hF
        have hW1' := hW1.out
        have hst2 : decide (2000 < (st : Int) + 1) = false := by simp; omega
        go_wp2_with fail
        (try rw [hW1'])
        refine HC.out.mono ?_
        rintro e w2 ⟨rfl, ⟨z11, z0⟩, HR, hst3, W3, hW3, ⟨z14, z15⟩, HX, HK, HD⟩
        have hW3' := hW3.out
        rw [hW3'] at hst3
        clear HC hW1 hW1' x0 x11 x10 xf y10 hst2
        have HK2 := hide (HK.out (by first | trivial | rfl))
        have n123 : ((⟨#[100]⟩ : ByteArray).toList == [123]) = false := one_ne (by decide)
        obtain ⟨nm, hnm⟩ : ∃ nm : ByteArray, nm = ⟨#[100]⟩ := ⟨_, rfl⟩
        rw [← hnm] at z15 n123
        go_wp2_with (refine wpList_load_at rfl _ _ rfl g (2 * 26) rfl _ _ HR.out Tryz.underlying60 rfl (size60 _ _ _ _) ?_)
        go_roundw
        case rel => exact ⟨2 + 1, by omega, by go_num, HK2⟩
        case measure => simp [intOf]
      · rw [decide_eq_false h0] at hF
        obtain ⟨⟨x0, x11, x10, xf⟩, W1, hW1, y10, HC⟩ := hF
        have hW1' := hW1.out
        have hst2 : decide (2000 < (st : Int) + 1) = false := by simp; omega
        go_wp2_with fail
        (try rw [hW1'])
        refine HC.out.mono ?_
        rintro e w2 ⟨rfl, ⟨z11, z0⟩, HR, hst3, W3, hW3, ⟨z14, z15⟩, HX, HK, HD⟩
        have hW3' := hW3.out
        rw [hW3'] at hst3
        clear HC hW1 hW1' x0 x11 x10 xf y10 hst2
        have HD2 := hide (HD.out (by decide))
        go_wp2_with (first
          | (refine wpList_load_at rfl _ _ rfl g (2 * 26) rfl _ _ HR.out Tryz.underlying60 rfl (size60 _ _ _ _) ?_)
          | (refine wpList_load_row rfl _ _ rfl w2.heap.size rfl 60 _ (0, 0) _ HX.out Tryz.underlying60 rfl (size60 _ _ _ _) ?_)
          | (go_at_call 45; refine HD2.out.mono ?_; rintro e w5 ⟨rfl, h5⟩; have H5 := hide h5; clear h5))
        refine bodyPost_ret (results_none rfl _ _ _) rfl ?_
        exact ⟨rfl, H5.out⟩
end Go.Proofs.YtdhachmelgdknaaGreatDoor.srn
/- The specification's lines of a text. -/
namespace Go.Proofs.YtdhachmelgdknaaGreatDoor.srn
open Go.ChangeShapes Go.WideShapes Go.ChangeAt Go.RowKit
open Go.Proofs.YtdhachmelgdknaaGreatDoor.bas Go.Proofs.YtdhachmelgdknaaGreatDoor.rdr Go.Proofs.YtdhachmelgdknaaGreatDoor.chk Go.Proofs.YtdhachmelgdknaaGreatDoor.run
set_option linter.unusedVariables false
/-- Where line k begins. -/
def pos (ls : List ByteArray) (k : Nat) : Nat := (joinL (ls.take k)).size
theorem part {ls : List ByteArray} {k : Nat} {l : ByteArray} (h : ls[k]? = some l) : joinL ls = joinL (ls.take k) ++ (l ++ nl ++ joinL (ls.drop (k + 1))) := by
  have hlt := (List.getElem?_eq_some_iff.1 h).1
  have e : ls = ls.take k ++ (l :: ls.drop (k + 1)) := by
    conv => lhs; rw [← List.take_append_drop k ls]
    rw [List.drop_eq_getElem_cons hlt]
    congr 2
    exact (List.getElem?_eq_some_iff.1 h).2
  conv => lhs; rw [e]
  rw [join_app]
  rfl
theorem pos_next {ls : List ByteArray} {k : Nat} {l : ByteArray} (h : ls[k]? = some l) : pos ls (k + 1) = pos ls k + l.size + 1 := by
  unfold pos
  rw [List.take_add_one, h, szApp]
  show _ + (joinL [l]).size = _
  rw [szJ]
  show _ + (l.size + 1 + 0) = _
  omega
theorem pos_all (ls : List ByteArray) : pos ls ls.length = (joinL ls).size := by unfold pos; rw [List.take_length]
theorem pos_le (ls : List ByteArray) (k : Nat) : pos ls k ≤ (joinL ls).size := szTake ls k
theorem byte_in {ls : List ByteArray} {k : Nat} {l : ByteArray} (h : ls[k]? = some l) (j : Nat) (hj : j < l.size) : (joinL ls).data.toList[pos ls k + j]? = l.data.toList[j]? := by
  rw [part h, ap_list, ap_list, ap_list]
  have e : (joinL (ls.take k)).data.toList.length = pos ls k := rfl
  rw [List.getElem?_append_right (by omega), e, Nat.add_sub_cancel_left, List.append_assoc, List.getElem?_append_left (by exact hj)]
theorem byte_nl {ls : List ByteArray} {k : Nat} {l : ByteArray} (h : ls[k]? = some l) : (joinL ls).data.toList[pos ls k + l.size]? = some 10 := by
  rw [part h, ap_list, ap_list, ap_list]
  have e : (joinL (ls.take k)).data.toList.length = pos ls k := rfl
  rw [List.getElem?_append_right (by omega), e, Nat.add_sub_cancel_left, List.append_assoc, List.getElem?_append_right (by show l.data.toList.length ≤ _; rw [sz_list]; exact Nat.le_refl _)]
  rw [sz_list, Nat.sub_self]
  rfl
theorem line_ex {ls : List ByteArray} {k : Nat} {l : ByteArray} (h : ls[k]? = some l) : (joinL ls).extract (pos ls k) (pos ls k + l.size) = l := by
  apply of_list
  rw [ex_list, Nat.add_sub_cancel_left, part h, ap_list, ap_list, ap_list]
  have e : (joinL (ls.take k)).data.toList.length = pos ls k := rfl
  rw [← e, List.drop_left, List.append_assoc, ← sz_list l, List.take_left]
/-- A cut on the way: behind k lines, no line end since. -/
structure Cu (ls : List ByteArray) (k i : Nat) : Prop where
  kle : k ≤ ls.length
  lo : pos ls k ≤ i
  hi : i ≤ (joinL ls).size
  no : ∀ p, pos ls k ≤ p → p < i → (joinL ls).data.toList[p]? ≠ some 10
theorem Cu.step {ls : List ByteArray} {k i : Nat} (h : Cu ls k i) (hlt : i < (joinL ls).size) (hc : (joinL ls).data.toList[i]? ≠ some 10) : Cu ls k (i + 1) :=
  ⟨h.kle, by have := h.lo; omega, hlt, fun p h1 h2 => by
    by_cases e : p = i
    · rw [e]; exact hc
    · exact h.no p h1 (by omega)⟩
theorem Cu.line {ls : List ByteArray} (hno : ∀ l ∈ ls, NoNl l) {k i : Nat} (h : Cu ls k i) (hlt : i < (joinL ls).size) (hc : (joinL ls).data.toList[i]? = some 10) : ∃ l, ls[k]? = some l ∧ i = pos ls k + l.size ∧ Cu ls (k + 1) (i + 1) := by
  have hk : k < ls.length := by
    rcases Nat.lt_or_ge k ls.length with h1 | h1
    · exact h1
    · have : k = ls.length := Nat.le_antisymm h.kle h1
      have h2 := h.lo
      rw [this, pos_all] at h2
      omega
  obtain ⟨l, hl⟩ : ∃ l, ls[k]? = some l := ⟨_, List.getElem?_eq_getElem hk⟩
  have e : i = pos ls k + l.size := by
    rcases Nat.lt_trichotomy i (pos ls k + l.size) with h1 | h1 | h1
    · have h2 := h.lo
      obtain ⟨j, hj⟩ : ∃ j, i = pos ls k + j := ⟨i - pos ls k, by omega⟩
      rw [hj, byte_in hl j (by omega)] at hc
      exact absurd rfl (hno l (List.mem_of_getElem? hl) 10 (List.mem_of_getElem? hc))
    · exact h1
    · exact absurd (byte_nl hl) (h.no _ (by omega) h1)
  refine ⟨l, hl, e, by omega, ?_, hlt, fun p h1 h2 => ?_⟩
  · rw [pos_next hl]; omega
  · rw [pos_next hl] at h1; omega
theorem Cu.end {ls : List ByteArray} {k : Nat} (h : Cu ls k (joinL ls).size) : k = ls.length := by
  rcases Nat.lt_or_ge k ls.length with h1 | h1
  · obtain ⟨l, hl⟩ : ∃ l, ls[k]? = some l := ⟨_, List.getElem?_eq_getElem h1⟩
    have h2 := byte_nl hl
    have h3 : pos ls k + l.size < (joinL ls).size := (List.getElem?_eq_some_iff.1 h2).1
    exact absurd h2 (h.no _ (by omega) h3)
  · exact Nat.le_antisymm h.kle h1
theorem info9 : (Tryz.prog.info? 9).map (fun i => (i.zero, i.size, i.bytes)) = some (some (.string ⟨#[]⟩), 1, 16) := by kernel_rfl
/-- The row of lines so far. -/
def Rw (base : Nat) (w : World) (v : Value) (xs : List ByteArray) : Prop := w.ownsRow base 9 1 v xs.length (xs.map Value.string)
theorem Rw.form {base : Nat} {w : World} {v : Value} {xs : List ByteArray} (h : Rw base w v xs) : ∃ o c, v = .slice o xs.length c := by
  obtain ⟨h1, ⟨e, hx⟩ | ⟨g, cap, cur, e, _⟩⟩ := h
  · exact ⟨none, 0, by rw [e, hx]⟩
  · exact ⟨_, _, e⟩
set_option maxRecDepth 20000 in
set_option maxHeartbeats 6400000 in
theorem cut_any (w : World) (ls : List ByteArray) (hno : ∀ l ∈ ls, NoNl l) (hsz : (joinL ls).size ≤ 100000) (hlen : ls.length ≤ 1000) :
    Calls Tryz.prog 42 #[.string (joinL ls), .int .u8 10] w fun e w' => ∃ v, e = .returned v ∧ Rw w.heap.size w' v (ls ++ [bas.mt]) ∧ Below w.heap.size w w' := by
  obtain ⟨i0, hi, hz0, hz1, hz2⟩ := info_parts info9
  have HI : Hid (Tryz.prog.info? 9 = some i0 ∧ i0.zero = some (.string ⟨#[]⟩) ∧ i0.size = 1 ∧ i0.bytes = 16) := ⟨hi, hz0, hz1, hz2⟩
  clear hi hz0 hz1 hz2
  obtain ⟨W0, hW0⟩ : ∃ W0, w.alloc (.cells #[] 9) = W0 := ⟨_, rfl⟩
  have b0 : Below w.heap.size w W0 := by rw [← hW0]; exact more (Below.refl _ _) _
  have x0 : W0.heap[w.heap.size]? = some (.cells #[] 9 (0, 0)) := by rw [← hW0]; exact heap_alloc_new w _
  have H0 : Hid (Cu ls 0 0 ∧ Rw w.heap.size W0 (.slice (some ⟨w.heap.size, 0, none⟩) 0 0) (ls.take 0) ∧ Below w.heap.size w W0) := ⟨⟨Nat.zero_le _, Nat.le_refl _, Nat.zero_le _, fun p _ h => absurd h (by omega)⟩, ⟨rfl, .inr ⟨w.heap.size, 0, #[], rfl, Nat.le_refl _, x0, Nat.le_refl _, by decide, rfl, rfl⟩⟩, b0⟩
  obtain ⟨T, hT⟩ : ∃ T, joinL ls = T := ⟨_, rfl⟩
  have HTT := hide hT
  rw [hT] at hsz
  -- a string laid behind the row
  have HAp : Hid (∀ wr v (xs : List ByteArray) (s : ByteArray), xs.length ≤ 1000 → Rw w.heap.size wr v xs → Below w.heap.size w wr → ∀ g cap w', w'.ownsRow w.heap.size 9 1 (.slice (some ⟨g, 0, none⟩) (xs.length + 1) cap) (xs.length + 1) (xs.map Value.string ++ [.string s]) → (wr.alloc (.cells #[.string s] 9)).grownBy w' v.ownBlock → Hid (Rw w.heap.size w' (.slice (some ⟨g, 0, none⟩) (xs.length + 1) cap) (xs ++ [s]) ∧ Below w.heap.size w w')) := by
    intro wr v xs s hx hr hb g cap w' O G
    refine ⟨by unfold Rw; rw [List.length_append, List.map_append]; exact O, ?_⟩
    have ba := more hb (.cells #[.string s] 9)
    refine ⟨G.os.trans ba.os, G.tape.trans ba.tape, G.output.trans ba.output, Nat.le_trans ba.size G.size, fun j hj => (G.block j (Nat.lt_of_lt_of_le hj ba.size) ?_).trans (ba.block j hj)⟩
    intro e
    have := (World.ownsRow.lt hr j e.symm).1
    omega
  rw [hT]
  clear b0 x0 hT
  go_enter Tryz.func42, Tryz.ntmps42
  go_wp2
  (try rw [hW0])
  clear hW0
  go_loopw [5, 6, 7] (fun v5 v6 v7 wr => ∃ k i : Nat, v6 = .int .i64 (pos ls k : Nat) ∧ v7 = .int .i64 (i : Nat) ∧ Hid (Cu ls k i ∧ Rw w.heap.size wr v5 (ls.take k) ∧ Below w.heap.size w wr)) (fun _ _ v7 _ => T.size - (intOf v7).toNat)
  case atStart => exact ⟨0, 0, rfl, rfl, H0⟩
  case round =>
    obtain ⟨k, i, rfl, rfl, HG⟩ := hrel
    clear H0
    obtain ⟨hC, hR, hB⟩ := HG.out
    obtain ⟨o, c, rfl⟩ := hR.form
    have hkl := hC.kle
    have hlo := hC.lo
    have hhi := hC.hi
    rw [HTT.out] at hhi
    have hlk : (ls.take k).length = k := by rw [List.length_take]; omega
    by_cases hlt : i < T.size
    · have hiI : (i : Int) < (T.size : Int) := by omega
      have hget : (joinL ls).data.toList[i]? = some (T[i]'hlt) := by
        rw [HTT.out, List.getElem?_eq_getElem (by exact hlt)]
        rfl
      by_cases h10 : (T[i]'hlt).toNat = 10
      · have hb : ((((T[i]'hlt).toNat : Nat) : Int) == 10) = true := by rw [h10]; rfl
        have hc10 : (joinL ls).data.toList[i]? = some 10 := by
          rw [hget]
          congr 1
          exact UInt8.toNat_inj.1 (by rw [h10]; rfl)
        obtain ⟨l, hl, he, hC2⟩ := hC.line hno (by rw [HTT.out]; exact hlt) hc10
        have hex : T.extract (pos ls k) i = l := by rw [he, ← HTT.out]; exact line_ex hl
        have hpn : pos ls (k + 1) = i + 1 := by rw [pos_next hl, he]
        have htk : ls.take (k + 1) = ls.take k ++ [l] := by rw [List.take_add_one, hl]; rfl
        have HX := hide (And.intro hC2 (And.intro hpn htk))
        obtain ⟨f, hf⟩ : ∃ f, pos ls k = f := ⟨_, rfl⟩
        rw [hf] at hlo hex
        have hfi : (f : Int) ≤ (i : Int) := by omega
        have hfN : f ≤ i := hlo
        have hiN : i ≤ T.size := hhi
        have HRR := hide hR
        have HBB := hide hB
        have hbz := hB.size
        have hin : i < 100000 := by omega
        obtain ⟨nk, hnk⟩ : ∃ nk, (ls.take k).length = nk := ⟨_, rfl⟩
        have hnk1 : nk ≤ 1000 := by omega
        have HRa : Hid ((wr.alloc (.cells #[.string l] 9)).ownsRow w.heap.size 9 1 (.slice o nk c) nk ((ls.take k).map Value.string)) := by
          have := hR.alloc (.cells #[.string l] 9)
          rw [hnk] at this
          exact this
        have HF : Hid (∀ g cap w', w'.ownsRow w.heap.size 9 1 (.slice (some ⟨g, 0, none⟩) (nk + 1) cap) (nk + 1) ((ls.take k).map Value.string ++ [.string l]) → (wr.alloc (.cells #[.string l] 9)).grownBy w' (Value.slice o nk c).ownBlock → Hid (Rw w.heap.size w' (.slice (some ⟨g, 0, none⟩) (nk + 1) cap) (ls.take k ++ [l]) ∧ Below w.heap.size w w')) := by
          have := HAp.out wr _ (ls.take k) l (by omega) hR hB
          rw [hnk] at this
          exact this
        rw [hnk]
        clear HG hC hR hB hget hc10 hl he hC2 hpn htk HAp hlk hno h10 hkl hlo hhi hnk HRR HBB
        go_wp2_with (at_builtin; refine wpList_append_lies (wr.alloc (.cells #[.string l] 9)) rfl _ _ 40 rfl w.heap.size 9 i0 (.string ⟨#[]⟩) 1 16 Tryz.underlying40 HI.out.1 HI.out.2.1 HI.out.2.2.1 HI.out.2.2.2 rfl (by decide) (.slice o nk c) nk _ rfl HRa.out ⟨wr.heap.size, 0, none⟩ 1 1 [.string l] rfl rfl (World.news_of_block (heap_alloc_new wr _)) (by simp [Value.oneCell']) (by decide) (by unfold maxLen; omega) (by omega) (by rw [World.size_alloc]; omega) (wr.heap.size + 1) (World.size_alloc ..) ?_; intro g2 cap2 w9 O9 G9 L9 _; have HZ := HF.out g2 cap2 w9 O9 G9; clear O9 G9 L9)
        obtain ⟨hC2, hpn, htk⟩ := HX.out
        refine ⟨⟨k + 1, i + 1, ?_, by go_num, hC2, ?_, HZ.out.2⟩, by simp [intOf]; omega⟩
        · rw [hpn]; go_num
        · rw [htk]; exact HZ.out.1
      · have hb : ((((T[i]'hlt).toNat : Nat) : Int) == 10) = false := by rw [beq_eq_false_iff_ne]; omega
        have hcn : (joinL ls).data.toList[i]? ≠ some 10 := by
          rw [hget]
          intro e
          have := Option.some.inj e
          rw [this] at h10
          exact h10 rfl
        have HX := hide (And.intro (hC.step (by rw [HTT.out]; exact hlt) hcn) (And.intro hR hB))
        have hin : i < 100000 := by omega
        clear HG hC hR hB hget hcn HAp hlk hno h10 hkl hlo hhi
        go_wp2
        go_roundw
        case rel => exact ⟨k, i + 1, rfl, by go_num, HX⟩
        case measure => simp [intOf]; omega
    · have hie : i = T.size := by omega
      subst hie
      have hke : k = ls.length := by
        have : Cu ls k (joinL ls).size := by rw [HTT.out]; exact hC
        exact this.end
      have hf : pos ls k = T.size := by rw [hke, pos_all, HTT.out]
      have hext : T.extract T.size T.size = bas.mt := by
        apply of_list
        rw [ex_list, Nat.sub_self, List.take_zero]; rfl
      rw [hke, List.take_length] at hR
      obtain ⟨nk, hnk⟩ : ∃ nk, ls.length = nk := ⟨_, rfl⟩
      have hnk1 : nk ≤ 1000 := by omega
      have hR2 := hR
      rw [hf, hke, List.take_length, hnk]
      have HRa : Hid ((wr.alloc (.cells #[.string bas.mt] 9)).ownsRow w.heap.size 9 1 (.slice o nk c) nk (ls.map Value.string)) := by
        have := hR.alloc (.cells #[.string bas.mt] 9)
        rw [hnk] at this
        exact this
      have HF : Hid (∀ g cap w', w'.ownsRow w.heap.size 9 1 (.slice (some ⟨g, 0, none⟩) (nk + 1) cap) (nk + 1) (ls.map Value.string ++ [.string bas.mt]) → (wr.alloc (.cells #[.string bas.mt] 9)).grownBy w' (Value.slice o nk c).ownBlock → Hid (Rw w.heap.size w' (.slice (some ⟨g, 0, none⟩) (nk + 1) cap) (ls ++ [bas.mt]) ∧ Below w.heap.size w w')) := by
        have := HAp.out wr _ ls bas.mt (by omega) hR hB
        rw [hnk] at this
        exact this
      have hbz := hB.size
      clear HG hC hR hR2 hB HAp hlk hno hkl hlo hhi hnk hf hke hlt
      go_wp2_with (at_builtin; refine wpList_append_lies (wr.alloc (.cells #[.string bas.mt] 9)) rfl _ _ 40 rfl w.heap.size 9 i0 (.string ⟨#[]⟩) 1 16 Tryz.underlying40 HI.out.1 HI.out.2.1 HI.out.2.2.1 HI.out.2.2.2 rfl (by decide) (.slice o nk c) nk _ rfl HRa.out ⟨wr.heap.size, 0, none⟩ 1 1 [.string bas.mt] rfl rfl (World.news_of_block (heap_alloc_new wr _)) (by simp [Value.oneCell']) (by decide) (by unfold maxLen; omega) (by omega) (by rw [World.size_alloc]; omega) (wr.heap.size + 1) (World.size_alloc ..) ?_; intro g2 cap2 w9 O9 G9 L9 _; have HZ := HF.out g2 cap2 w9 O9 G9; clear O9 G9 L9)
      go_ret
      exact ⟨_, rfl, HZ.out.1, HZ.out.2⟩
end Go.Proofs.YtdhachmelgdknaaGreatDoor.srn
/- The specification's run of the script that turns lines round: from its beginning to its end. -/
namespace Go.Proofs.YtdhachmelgdknaaGreatDoor.srn
open Go.ChangeShapes Go.WideShapes Go.ChangeAt Go.RowKit
open Go.Proofs.YtdhachmelgdknaaGreatDoor.bas Go.Proofs.YtdhachmelgdknaaGreatDoor.rdr Go.Proofs.YtdhachmelgdknaaGreatDoor.chk Go.Proofs.YtdhachmelgdknaaGreatDoor.run
set_option linter.unusedVariables false
/-- Lines in memory. -/
structure Ll (base : Nat) (w : World) (gl : Nat) (ls : List ByteArray) : Prop where
  blk : ∃ cur, w.heap[gl]? = some (.cells cur 9 (0, 0))
  ln : LN w gl ls
  bg : base ≤ gl
theorem Ll.below {base : Nat} {w w' : World} {gl : Nat} {ls : List ByteArray} (h : Ll base w gl ls) (b : Below w.heap.size w w') : Ll base w' gl ls := by
  obtain ⟨cur, hc⟩ := h.blk
  have hlt := (Array.getElem?_eq_some_iff.1 hc).1
  exact ⟨⟨cur, (b.block gl hlt).trans hc⟩, fun k a ha => cell_at b (h.ln k a ha) (Nat.le_refl _), h.bg⟩
set_option maxHeartbeats 1600000 in
theorem lines_any (w : World) (ls : List ByteArray) (hno : ∀ l ∈ ls, NoNl l) (hsz : (joinL ls).size ≤ 100000) (hlen : ls.length ≤ 1000) :
    Calls Tryz.prog 26 #[.string (joinL ls)] w fun e w' => ∃ gl cap, e = .returned (.slice (some ⟨gl, 0, none⟩) ls.length cap) ∧ Ll w.heap.size w' gl ls ∧ Below w.heap.size w w' := by
  have HC : Hid (Calls Tryz.prog 42 #[.string (joinL ls), .int .u8 10] w fun e w1 => ∃ gl cap, e = .returned (.slice (some ⟨gl, 0, none⟩) (ls.length + 1) cap) ∧ ls.length + 1 ≤ cap ∧ w1.cell? ⟨gl, ls.length, none⟩ = some (.string ⟨#[]⟩) ∧ Hid (Ll w.heap.size w1 gl ls ∧ Below w.heap.size w w1)) := by
    refine (cut_any w ls hno hsz hlen).mono ?_
    rintro e w1 ⟨v, rfl, hR, hB⟩
    have hR' := hR
    have hl : (ls ++ [bas.mt]).length = ls.length + 1 := by simp
    obtain ⟨h1, ⟨e, hx⟩ | ⟨g, cap, cur, e, hb, hg, hle, _⟩⟩ := hR
    · rw [hl] at hx; cases hx
    · subst e
      rw [hl] at hR'
      have hat : ∀ j a, (ls ++ [bas.mt])[j]? = some a → w1.cell? ⟨g, j, none⟩ = some (.string a) := fun j a ha => by
        have hj : j < ls.length + 1 := by have := (List.getElem?_eq_some_iff.1 ha).1; rw [hl] at this; exact this
        unfold Rw at hR'
        rw [hl] at hR'
        rw [hR'.cellAt j (by omega), List.getElem?_map, ha]
        rfl
      refine ⟨g, cap, by rw [hl], by rw [hl] at hle; exact hle, hat ls.length bas.mt (by simp), ⟨⟨cur, hg⟩, fun k a ha => hat k a ?_, hb⟩, hB⟩
      rw [List.getElem?_append_left (List.getElem?_eq_some_iff.1 ha).1]
      exact ha
  have hmt : (⟨#[]⟩ : ByteArray).toList.isEmpty = true := mt_empty
  obtain ⟨T, hT⟩ : ∃ T, joinL ls = T := ⟨_, rfl⟩
  rw [hT] at HC ⊢
  obtain ⟨n, hn⟩ : ∃ n, ls.length = n := ⟨_, rfl⟩
  rw [hn] at HC hlen ⊢
  clear hT hno hsz hn
  go_enter Tryz.func26, Tryz.ntmps26
  go_wp2_with fail
  refine HC.out.mono ?_
  rintro e w1 ⟨gl, cap, rfl, hcap, cl, HF⟩
  clear HC
  have k1 : IntKind.i64.wrap ((n : Int) + 1 - 1) = (n : Int) := by rw [IntKind.wrap_i64]; omega
  have k2 : (n : Int) + 1 - 1 = (n : Int) := by omega
  go_wp2
  go_ret
  exact ⟨gl, cap, rfl, HF.out⟩
/-- Behind i lines. -/
structure Sb (base d : Nat) (W : World) (r : R) (ls : List ByteArray) (i : Nat) (wr : World) : Prop where
  ex : ∃ r', Sn base d wr r' (if i = ls.length then joinL ls.reverse else bas.mt) ∧ r'.list = r.list ∧ r'.lines = r.lines ∧ r'.quiet = false ∧ r'.stop = false ∧ r'.keep = false ∧ r'.at_ = i ∧ r'.steps = 3 * i ∧ r'.hold = rv ls i
  kp : KP base d W wr
theorem Sb.drew {base d : Nat} {W : World} {r : R} {ls : List ByteArray} {i : Nat} {wr : World} (h : Sb base d W r ls i wr) (n : Nat) : Sb base d W r ls i (wr.drewN n) := by
  obtain ⟨r', hR, f⟩ := h.ex
  exact ⟨⟨r', hR.grow hR.sr (grown_drew (grown_refl _ _) n) rfl, f⟩, h.kp.trans (KP.grown (grown_drew (grown_refl _ _) n) hR.bz)⟩
section
variable {base d : Nat} {W : World} {r : R} {ls : List ByteArray}
theorem sline (hw : Sw base d W r ls) {i : Nat} {a : ByteArray} {wr : World} (ha : ls[i]? = some a) (h : Sb base d W r ls i wr) :
    Calls Tryz.prog 27 #[.pointer (some ⟨d, 0, none⟩)] wr fun e w1 => e = .returned (.tuple #[.string a, .bool true]) ∧ Hid (Calls Tryz.prog 28 #[.pointer (some ⟨d, 0, none⟩), .string a] w1 fun e w2 => e = .returned (.tuple #[]) ∧ ∃ b9 b14, w2.cell? ⟨d, 9, none⟩ = some (.bool b9) ∧ w2.frozen? ⟨d, 9, none⟩ = false ∧ ∃ W3, Hid (w2.setCell ⟨d, 9, none⟩ (.bool false) = W3) ∧ W3.cell? ⟨d, 13, none⟩ = some (.bool false) ∧ W3.frozen? ⟨d, 13, none⟩ = false ∧ ∃ W4, Hid (W3.setCell ⟨d, 13, none⟩ (.bool false) = W4) ∧ W4.cell? ⟨d, 14, none⟩ = some (.bool b14) ∧ W4.frozen? ⟨d, 14, none⟩ = false ∧ ∃ W5, Hid (W4.setCell ⟨d, 14, none⟩ (.bool false) = W5) ∧ Hid (Sm base d W r ls i a 0 W5)) := by
  obtain ⟨r', hR, e1, e2, e3, e4, e5, e6, e7, e8⟩ := h.ex
  obtain ⟨gl, lc, ob, hln, hg, hob, hgd, hL⟩ := hw.lines
  have hfew := hw.few
  have hsz := hw.size
  have hilt := (List.getElem?_eq_some_iff.1 ha).1
  rw [if_neg (by omega)] at hR
  refine (more_any hR.sr gl ls.length lc ls (e2.trans hln) hgd (ln_kp h.kp hg hob hgd hL) a (by rw [e6]; exact ha) (by omega) (by omega)).mono ?_
  rintro e w1 ⟨rfl, r1, g1⟩
  refine ⟨rfl, ?_⟩
  have h1 := hR.grow r1 g1 rfl
  refine (put_any r1 a (by have := szMem ls a (List.mem_of_getElem? ha); omega)).mono ?_
  rintro e w2 ⟨rfl, r2, g2⟩
  have h2 := h1.grow r2 g2 rfl
  have r3 := r2.set9 false
  have h3 := h2.grow r3 (grown_set (grown_refl _ _) _ _) rfl
  have r4 := r3.set13 false
  have h4 := h3.grow r4 (grown_set (grown_refl _ _) _ _) rfl
  have r5 := r4.set14 false
  have h5 := h4.grow r5 (grown_set (grown_refl _ _) _ _) rfl
  have c13 := r3.c13
  have hk13 : (w2.setCell ⟨d, 9, none⟩ (.bool false)).cell? ⟨d, 13, none⟩ = some (.bool false) := by rw [c13]; show some (Value.bool r'.keep) = _; rw [e5]
  refine ⟨rfl, _, _, r2.c9, r2.fz 9, _, rfl, hk13, r3.fz 13, _, rfl, r4.c14, r4.fz 14, _, rfl, ⟨_, h5, e1, e2, e3, e4, rfl, rfl, by show r'.at_ + 1 = _; omega, by show r'.steps = _; omega, rfl, e8⟩, ?_⟩
  have kg : wr.grownBy ((((w2.setCell ⟨d, 9, none⟩ (.bool false)).setCell ⟨d, 13, none⟩ (.bool false)).setCell ⟨d, 14, none⟩ (.bool false))) (some d) := grown_set (grown_set (grown_set (grown_tr g1 g2) _ _) _ _) _ _
  exact h.kp.trans (KP.grown kg hR.bz)
theorem sprint (hw : Sw base d W r ls) {i : Nat} {a : ByteArray} {wr : World} (ha : ls[i]? = some a) (h : Se base d W r ls i wr) :
    wr.cell? ⟨d, 11, none⟩ = some (.int .i64 0) ∧ Calls Tryz.prog 30 #[.pointer (some ⟨d, 0, none⟩)] wr fun e w1 => e = .returned (.tuple #[]) ∧ Hid (Calls Tryz.prog 31 #[.pointer (some ⟨d, 0, none⟩)] w1 fun e w2 => e = .returned (.tuple #[]) ∧ Hid (Sb base d W r ls (i + 1) w2)) := by
  obtain ⟨r', hR, e1, e2, e3, e4, e5, e6, e7, e8, e9, e10⟩ := h.ex
  have hsz := hw.size
  have hilt := (List.getElem?_eq_some_iff.1 ha).1
  refine ⟨hR.sr.c11, ?_⟩
  by_cases h0 : i + 1 = ls.length
  · rw [decide_eq_true h0] at e6
    have hz := szRv ls (i + 1)
    refine (print_loud hR e3 e6 (by rw [e9]; have : bas.mt.size = 0 := rfl; omega)).mono ?_
    rintro e w1 ⟨rfl, ⟨v, h1⟩, k1⟩
    refine ⟨rfl, ?_⟩
    have e0 : bas.mt ++ (r'.space ++ nl) = joinL ls.reverse := by
      rw [e9, ← rv_all ha h0]
      apply of_list
      simp [joinL, bas.mt]
    rw [e0] at h1
    have hzz : (joinL ls.reverse).size ≤ 8000 := by rw [szRev]; omega
    refine (flush_any h1 hzz).mono ?_
    rintro e w2 ⟨rfl, ⟨v2, h2⟩, k2⟩
    exact ⟨rfl, ⟨{ r' with out := v2 }, by rw [if_pos h0]; exact h2, e1, e2, e3, e4, e5, e7, e8, e10⟩, (h.kp.trans k1).trans k2⟩
  · rw [decide_eq_false h0] at e6
    refine (print_mute hR e3 e6).mono ?_
    rintro e w1 ⟨rfl, hw1⟩
    subst hw1
    refine ⟨rfl, ?_⟩
    refine (flush_any hR (by have : bas.mt.size = 0 := rfl; omega)).mono ?_
    rintro e w2 ⟨rfl, ⟨v2, h2⟩, k2⟩
    exact ⟨rfl, ⟨{ r' with out := v2 }, by rw [if_neg h0]; exact h2, e1, e2, e3, e4, e5, e7, e8, e10⟩, h.kp.trans k2⟩
end
/-- A run at its beginning. -/
def SNew (W1 : World) (v : Value) (ls : List ByteArray) (d : Nat) (wx : World) : Prop :=
  ∃ gl lc act, SR wx d ⟨v, .slice (some ⟨gl, 0, none⟩) ls.length lc, false, 0, ⟨#[]⟩, ⟨#[]⟩, .slice none 0 0, act, false, 0, false, false, false⟩ ∧ Ll W1.heap.size wx gl ls ∧ gl ≠ d ∧ W1.heap.size ≤ d ∧ Below W1.heap.size W1 wx
theorem snew_of {W1 wx : World} {v : Value} {ls : List ByteArray} {gl lc : Nat} {act : Value} (hl : Ll W1.heap.size wx gl ls) (hb : Below W1.heap.size W1 wx) {d : Nat} (hd : wx.heap.size = d) :
    SNew W1 v ls d (wx.alloc (.cells #[v, .slice (some ⟨gl, 0, none⟩) ls.length lc, .bool false, .int .i64 0, .string ⟨#[]⟩, .string ⟨#[]⟩, .string ⟨#[]⟩, .slice none 0 0, act, .bool false, .int .i64 0, .int .i64 0, .bool false, .bool false, .bool false] 65)) := by
  obtain ⟨cur, hc⟩ := hl.blk
  have hlt := (Array.getElem?_eq_some_iff.1 hc).1
  subst hd
  exact ⟨gl, lc, act, heap_alloc_new wx _, hl.below (more (Below.refl _ _) _), by omega, hb.size, more hb _⟩
theorem gen_then {K : Act → World → Prop} {Q : Exit → Act → World → Prop} {a : Act} {w : World} (p : World → Prop) (h : p w) (k : ∀ wx, p wx → Exit.then K Q Exit.normal a wx) : Exit.then K Q Exit.normal a w := k w h
theorem snew_at {W1 wx : World} {g lc : Nat} {ls : List ByteArray} {d : Nat} (h : SNew W1 (.slice (some ⟨g, 0, none⟩) 3 lc) ls d wx) {og : Obj} (hg : W1.heap[g]? = some og) (ho : isB og = false) (hL : Lst W1 g lc [cmG, cmH, cmD]) (few : ls.length ≤ 100) (size : (joinL ls).size ≤ 900) :
    ∃ r, Sw W1.heap.size d wx r ls ∧ Sb W1.heap.size d wx r ls 0 wx := by
  obtain ⟨gl, lc2, act, hr, hl, hne, hd, hb⟩ := h
  obtain ⟨cur, hc⟩ := hl.blk
  have hlt : g < W1.heap.size := (Array.getElem?_eq_some_iff.1 hg).1
  refine ⟨⟨.slice (some ⟨g, 0, none⟩) 3 lc, .slice (some ⟨gl, 0, none⟩) ls.length lc2, false, 0, ⟨#[]⟩, ⟨#[]⟩, .slice none 0 0, act, false, 0, false, false, false⟩, ⟨⟨gl, lc2, _, rfl, hc, rfl, hne, hl.ln⟩, ⟨g, lc, og, rfl, (hb.block g hlt).trans hg, ho, by omega, hL.below hb⟩, few, size⟩, ⟨⟨_, ⟨hr, ?_, by have := hr.lt; omega⟩, rfl, rfl, rfl, rfl, rfl, rfl, rfl, rfl⟩, KP.refl _ _ _⟩⟩
  have e : (if 0 = ls.length then joinL ls.reverse else bas.mt) = bas.mt := by
    split
    · rename_i h0
      have : ls = [] := List.length_eq_zero_iff.1 h0.symm
      rw [this]; rfl
    · rfl
  rw [e]
  simp [SD, World.ownsRow, Lib.strCells]
  rfl
end Go.Proofs.YtdhachmelgdknaaGreatDoor.srn
namespace Go.Proofs.YtdhachmelgdknaaGreatDoor.srn
open Go.ChangeShapes Go.WideShapes Go.ChangeAt Go.RowKit
open Go.Proofs.YtdhachmelgdknaaGreatDoor.bas Go.Proofs.YtdhachmelgdknaaGreatDoor.rdr Go.Proofs.YtdhachmelgdknaaGreatDoor.chk Go.Proofs.YtdhachmelgdknaaGreatDoor.run
set_option linter.unusedVariables false
set_option maxRecDepth 20000 in
set_option maxHeartbeats 20000000 in
theorem sed_any (w : World) (ls : List ByteArray) (g lc : Nat) (hno : ∀ l ∈ ls, NoNl l) (few : ls.length ≤ 100) (size : (joinL ls).size ≤ 900) {og : Obj} (hg : w.heap[g]? = some og) (ho : isB og = false) (hL : Lst w g lc [cmG, cmH, cmD]) :
    Calls Tryz.prog 15 #[.slice (some ⟨g, 0, none⟩) 3 lc, .string (joinL ls), .bool false] w fun e w' => RunE w (joinL ls.reverse) e w' := by
  have HLi : Hid (∀ wx, Below w.heap.size w wx → Calls Tryz.prog 26 #[.string (joinL ls)] wx fun e w' => ∃ gl cap, e = .returned (.slice (some ⟨gl, 0, none⟩) ls.length cap) ∧ Hid (Ll w.heap.size w' gl ls ∧ Below w.heap.size w w')) := by
    intro wx hb
    refine (lines_any wx ls hno (by omega) (by omega)).mono ?_
    rintro e w' ⟨gl, cap, rfl, hl, hB⟩
    exact ⟨gl, cap, rfl, ⟨hl.blk, hl.ln, Nat.le_trans hb.size hl.bg⟩, hb.trans (hB.mono hb.size)⟩
  have k63 : ∀ W : World, (Instr.makeSlice 63 (.int .i64 3) (.int .i64 3)).run Tryz.prog W = .ok (.slice (some ⟨W.heap.size, 0, none⟩) 3 3) (W.alloc (.cells (madeCells #[.bool false] 3) 4)) := fun W => by
    have := make63 3 (by omega) W
    exact this
  have HRest : Hid (∀ d wx, SNew w (.slice (some ⟨g, 0, none⟩) 3 lc) ls d wx → ∃ r, Sw w.heap.size d wx r ls ∧ Sb w.heap.size d wx r ls 0 wx ∧ Below w.heap.size w wx ∧ w.heap.size ≤ d) := fun d wx h => by
    have h2 := h
    obtain ⟨gl, lc2, act, hr, hl, hne, hd, hb⟩ := h2
    obtain ⟨r, h3, h4⟩ := snew_at h hg ho hL few size
    exact ⟨r, h3, h4, hb, hd⟩
  have HSz := hide (And.intro few size)
  obtain ⟨ST, hST⟩ : ∃ ST, joinL ls.reverse = ST := ⟨_, rfl⟩
  have HST := hide hST
  rw [hST]
  obtain ⟨T, hT⟩ : ∃ T, joinL ls = T := ⟨_, rfl⟩
  rw [hT] at HLi ⊢
  clear hno few size hg ho hL hST hT
  go_enter Tryz.func15, Tryz.ntmps15
  go_wp2_with fail
  go_region_law (first | (go_simp; go_at_call 26; refine (HLi.out _ (by first | exact (Below.refl _ _).drew | exact more (Below.refl _ _).drew _)).mono ?_; rintro e w2 ⟨gl, cap, rfl, HF⟩))
  all_goals first
    | refine gen_then _ (snew_of (v := .slice (some ⟨g, 0, none⟩) 3 lc) HF.out.1 HF.out.2 rfl) ?_
    | refine gen_then _ (snew_of (v := .slice (some ⟨g, 0, none⟩) 3 lc) (HF.out.1.below (more (Below.refl _ _) _)) (more HF.out.2 _) (World.size_alloc ..)) ?_
  all_goals (
    intro wx hN
    obtain ⟨r, hw, hb0, hB, hd⟩ := HRest.out _ wx hN
    first
      | (obtain ⟨d, ed⟩ : ∃ d, w2.heap.size + 1 = d := ⟨_, rfl⟩
         rw [ed] at hw hb0 hd ⊢)
      | (obtain ⟨d, ed⟩ : ∃ d, w2.heap.size = d := ⟨_, rfl⟩
         rw [ed] at hw hb0 hd ⊢)
    have HW := hide hw
    have H0 := hide hb0
    have HB := hide hB
    have HDD := hide hd
    clear hw hb0 hB hd hN HRest HLi k63 HF ed
    go_wp2
    go_simp
    go_loopg [20] ls.length (fun gk s wr => ∃ i : Nat, gk = ls.length - i ∧ i ≤ ls.length ∧ Hid (Sb w.heap.size d wx r ls i wr))
    case atStart => exact ⟨0, by omega, by omega, H0⟩
    case round =>
      obtain ⟨i, hgk, hi, HI⟩ := hrel
      clear H0
      obtain ⟨r', hR, e1, e2, e3, e4, e5, e6, e7, e8⟩ := HI.out.ex
      obtain ⟨gl, lc2, ob, hln, _⟩ := HW.out.lines
      have c11 := hR.sr.c11
      have c12 := hR.sr.c12
      have c13 := hR.sr.c13
      have c3 := hR.sr.c3
      have c1 := hR.sr.c1
      rw [e4] at c12
      rw [e5] at c13
      rw [e6] at c3
      rw [e2, hln] at c1
      clear hR e1 e2 e3 e4 e5 e6 e7 e8 hln
      by_cases hlt : i < ls.length
      · obtain ⟨a, ha⟩ : ∃ a, ls[i]? = some a := ⟨_, List.getElem?_eq_getElem hlt⟩
        have HA := hide ha
        have HLn := hide (fun n => sline HW.out ha (HI.out.drew n))
        have hltI : decide ((i : Int) < (ls.length : Int)) = true := by simp; omega
        have d13 : ∀ n, (wr.drewN n).cell? ⟨d, 13, none⟩ = some (.bool false) := fun n => c13
        clear HI ha
        go_wp2
        go_quiet (fail)
        go_wp2_with fail
        refine (HLn.out _).mono ?_
        rintro e w3 ⟨rfl, HPt⟩
        clear HLn c11 c12 c13 c3 c1 d13 hltI
        go_wp2_with fail
        refine HPt.out.mono ?_
        rintro e w4 ⟨rfl, b9, b14, x9, f9, W3, hW3, x13, f13, W4, hW4, x14, f14, W5, hW5, HSm⟩
        have hW3' := hW3.out
        have hW4' := hW4.out
        have hW5' := hW5.out
        have HCy := hide (cycle_any HW.out HA.out HSm.out)
        clear HPt
        go_wp2_with fail
        (try rw [hW5'])
        refine HCy.out.mono ?_
        rintro e w6 ⟨rfl, hSe⟩
        obtain ⟨y11, hPr⟩ := sprint HW.out HA.out hSe
        have HPr := hide hPr
        clear HCy hSe hPr HSm hW3 hW4 hW5 hW3' hW4' hW5' x9 f9 x13 f13 x14 f14
        go_wp2_with fail
        refine HPr.out.mono ?_
        rintro e w7 ⟨rfl, HFl⟩
        clear HPr
        go_wp2_with fail
        refine HFl.out.mono ?_
        rintro e w8 ⟨rfl, HS8⟩
        clear HFl
        go_wp2
        go_roundg (ls.length - (i + 1))
        case rel => exact ⟨i + 1, rfl, by omega, HS8⟩
        case measure => omega
      · have hie : i = ls.length := by omega
        have hltI : decide ((i : Int) < (ls.length : Int)) = false := by simp; omega
        have hltN : decide (i < ls.length) = false := by simp; omega
        have HIe := hide (fun n => HI.out.drew n)
        have d11 : ∀ n, (wr.drewN n).cell? ⟨d, 11, none⟩ = some (.int .i64 0) := fun n => c11
        clear HI
        go_wp2
        go_quiet (fail)
        have z11 := d11 nq
        obtain ⟨r9, hR9, _⟩ := (HIe.out nq).ex
        have k9 := (HIe.out nq).kp
        rw [if_pos hie] at hR9
        have z7 := hR9.sr.c7
        have hs := sd_str hR9.sd
        rw [HST.out] at hs
        have HB9 : Hid (∀ n, Below w.heap.size w ((wr.drewN nq).drewN n)) := fun n => by
          have hb := HB.out
          have hdd := HDD.out
          exact ⟨k9.os.trans hb.os, k9.tape.trans hb.tape, k9.output.trans hb.output, Nat.le_trans hb.size k9.size, fun k hk => (k9.low k hk (by omega)).trans (hb.block k hk)⟩
        clear hR9 k9 HIe d11 c11 c12 c13 c3 c1
        go_wp2
        go_ret2
        exact ⟨rfl, HB9.out 0⟩)
end Go.Proofs.YtdhachmelgdknaaGreatDoor.srn
